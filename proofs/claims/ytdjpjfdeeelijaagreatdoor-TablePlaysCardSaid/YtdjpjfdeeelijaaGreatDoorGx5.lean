/- hostelref09: Map, whole. -/
import Derived.Test.YtdjpjfdeeelijaaGreatDoorW13
import Derived.StillTailTactics
import Derived.Deep.RegionHeld3
namespace Go.Proofs.YtdjpjfdeeelijaaGreatDoor
open Go.RowKit Go.Sort Go.Shelf Go.WideMaps Go.Maps Go.WideShapes Go.WideElems Go.MapKept Go.ChangeMaps
attribute [local go_sem] Oper.semAt_some
section
variable {rd:Int→Int→List UInt8 × Int}{base q a b G d tb root:Nat}{vS vL vP:Value}{s:CC}{vs:List Value}{Ls:List (List Int)}{L:List ND9}{P:List LF}
/-- What loop 1 keeps. -/
def MoreI (rd:Int→Int→List UInt8 × Int)(base q a b G d root:Nat)(vS:Value)(vs:List Value)(L:List ND9)(ad N:Nat)(s0:CC)(w0:World)(mv:Value)(j:Nat)(wr:World):Prop:=
 ∃ (s1:CC) (M:List ND9) (vS1:Value) (vs1:List Value) (Ls1:List (List Int)) (hx1:List Nat),RSt base q a b G d vS vs w0 s1 vS1 vs1 Ls1 wr∧OwnM9 wr w0.heap.size mv M∧Good rd s1 hx1∧hx1.length+j≤N∧M.length+j≤3∧(∀ x∈M,x.f<1024∧1≤x.lv∧x.lv≤3)∧s1.tn=s0.tn∧
  moresR root L ad 3 s0=((moresR root L ad j s1).1,M++(moresR root L ad j s1).2.1,(moresR root L ad j s1).2.2)
set_option maxRecDepth 100000 in
set_option maxHeartbeats 16000000 in
theorem map9R_any (ad:Nat)(had:ad<18446744073709551616)(la lq:Int)(lb:Bool)(hq0:0≤lq)(w:World)(H:T9 w base tb d root vL vP L P false)(R:RCW w base q a b G d vS s vs Ls)(hx:List Nat)(Gd:okA s ad la lq=true→Good rd (upC s la.toNat) hx)(hxl:hx.length≤4000000)(htn:s.tn≤900000000)(hLm:Lim s)
 (hLl:L.length≤1000000) (hPl:P.length≤1000000) (hfr:∀ x∈L,x.f<1024) (hrt:root<1024) (hbs:base≤w.heap.size):
 Calls Tryz.prog 33 #[.pointer (some ⟨tb,0,none⟩),.int .u64 (ad:Int),.agg #[.int .i64 la,.int .u8 lq,.bool lb]] w (MapP9 base q a b G d tb root vS vL vP vs w false (mapF root s L P ad la lq lb)):=by
 cases hok:okA s ad la lq with
 | false=>
  have e:mapF root s L P ad la lq lb=(s,L,P,1):=by unfold mapF;rw [if_pos hok]
  rw [e]
  exact mapBad_any ad had la lq lb hq0 hok w H R
 | true=>
 obtain ⟨k,r,rfl,rfl,h7,htk,hlo,hpg⟩:=okA_is hok hq0
 rw [Int.toNat_natCast] at Gd
 have G1:=Gd hok
 clear Gd
 obtain ⟨w1,hw1⟩:∃ w1,w1=w.alloc (.cells #[.int .i64 (k:Int),.int .u8 (r:Int),.bool lb] 31):=⟨_,rfl⟩
 have HB1:=hid (show Below w.heap.size w w1 by rw [hw1];exact bal _)
 have HLB:=hid (show Row w1 w.heap.size 31 [.int .i64 (k:Int),.int .u8 (r:Int),.bool lb] by rw [hw1];exact Row.new w _ _)
 have HW1:=hid hw1
 have HG:=hid (gone9_any w1 (H.below HB1.out))
 have HZ:=hid ((TSt.refl H R).still HB1.out)
 obtain ⟨cn,hcn⟩:∃ cn,cn=cntF s.fs (k:Int):=⟨_,rfl⟩
 have HCT:=hid (fun n=>show Calls Tryz.prog 48 #[.pointer (some ⟨q,0,none⟩),.int .i64 (k:Int)] (w1.drewN n) (fun e w'=>e=.returned (.int .i64 cn)∧w1.drewN n=w') by
  have:=rcount_any q a b (cnts s.fs) vs (k:Int) (w1.drewN n) ((HZ.out.rc.rs.rp).below (bdN (Below.refl _ _) n))
  rw [rcnt_map s.fs (k:Int),← hcn] at this
  exact this)
 obtain ⟨c0,c1,c2,c3,c4⟩:=HZ.out.t9.five
 have htl:=HZ.out.t9.row.lt
 obtain ⟨r0,r1,r2⟩:=HZ.out.rc.row.three
 have hrl:=HZ.out.rc.row.lt
 obtain ⟨z0,z1,z2⟩:=HLB.out.three
 have hzl:=HLB.out.lt
 have hcn0:cn≠0:=by
  obtain ⟨ha,h0⟩:=htk
  rw [hcn,cntF_at ha]
  exact h0
 have d1:decide ((140737488355328:Int)≤(ad:Int))=false:=by simp;omega
 have e1:(ad:Int).tmod 4096=0:=by rw [Int.tmod_eq_emod_of_nonneg (Int.natCast_nonneg _)];omega
 have d3:decide ((7:Int)<(r:Int))=false:=by simp;omega
 have d3n:decide (7<r)=false:=by simp;omega
 have d4:(cn==0)=false:=by simpa using hcn0
 have HPL:=hid hPl
 have HLL:=hid hLl
 have HG1:=hid G1
 have HMISC:=hid (show hx.length≤4000000∧s.tn≤900000000∧Lim s∧(∀ x∈L,x.f<1024)∧root<1024∧base≤w.heap.size∧r≤7∧k<1024 from ⟨hxl,htn,hLm,hfr,hrt,hbs,h7,by
  obtain ⟨ha,_⟩:=htk
  have:=R.rs.rp.n2
  unfold cnts at this
  rw [List.length_map] at this
  omega⟩)
 have HR:=hid R
 have HT:=hid H
 clear H R hw1 c1 c2 c3 c4 hcn hcn0 hPl hLl G1 hxl htn hLm hfr hrt hbs h7 htk
 cases hidx:P.findIdx? (fun y=>decide (y.1=ad/4096*4096)) with
 | some j=>
  have e:mapF root s L P ad (k:Int) (r:Int) lb=(s,L,P,7):=by unfold mapF;rw [if_neg (by rw [hok];decide),if_pos (any_idx hidx).1]
  rw [e]
  have HAD:=hid (any_idx hidx)
  rw [show (atR P ad=(j:Int)∧j<P.length)=(atR P ad=(j:Int)∧j<P.length) from rfl] at HAD
  have HAD:=hid (show True∧atR P ad=(j:Int) from ⟨trivial,HAD.out.2.1⟩)
  clear e hidx hok hlo hpg
  have d5:decide ((0:Int)≤(j:Int))=true:=by simp
  have d5n:decide (0≤j)=true:=by simp
  go_enter Tryz.func33,Tryz.ntmps33
  go_wp2_with fail
  rw [← HW1.out]
  refine (HG.out).mono ?_
  rintro e w2 ⟨rfl,rfl⟩
  go_wp2_with fail
  go_quiet ((go_at_call 48;exact Calls.quiet_of_same ((HCT.out _).mono (fun _ _ h=>⟨h.1,h.2.symm⟩))))
  clear z0 z1 z2 hzl c0 htl r0 r1 r2 hrl
  generalize hwq:w1.drewN nq=wq
  have HBQ:=hid (show Below w1.heap.size w1 wq by rw [← hwq];exact bdN (Below.refl _ _) _)
  clear hwq HCT
  have HZ2:=hid (HZ.out.still HBQ.out)
  have HLB2:=hid (HLB.out.below HBQ.out HLB.out.lt)
  have HAT:=hid (atR_any ad had wq HZ2.out.t9 (by have:=HPL.out;omega))
  rw [HAD.out.2] at HAT
  go_wp2_with fail
  refine (HAT.out).mono ?_
  rintro e w3 ⟨rfl,hb3⟩
  have HZ3:=hid (HZ2.out.still hb3)
  have HLB3:=hid (HLB2.out.below hb3 HLB2.out.lt)
  clear hb3
  go_wp2_with fail
  go_ret
  exact ⟨rfl,_,_,_,_,_,HZ3.out⟩
 | none=>
  have HAD:=hid (show True∧atR P ad=-1 from ⟨trivial,(any_no hidx).2⟩)
  have hmf:mapF root s L P ad (k:Int) (r:Int) lb=if (moresR root L ad 3 (upC s k)).2.2=0 then
   (layC ((moresR root L ad 3 (upC s k)).2.1.foldl (fun z x=>layC z ((nodeF root (L++(moresR root L ad 3 (upC s k)).2.1) ad (x.lv+1)).getD 0) (ixOf ad x.lv) (x.f*4096+1)) (moresR root L ad 3 (upC s k)).1) ((nodeF root (L++(moresR root L ad 3 (upC s k)).2.1) ad 1).getD 0) (ixOf ad 0) (wdT (.lf k r lb)),
    L++(moresR root L ad 3 (upC s k)).2.1,insP (ad,k,r,lb) P,0)
   else (dnC ((moresR root L ad 3 (upC s k)).2.1.foldl (fun s x=>dnC s x.f) (moresR root L ad 3 (upC s k)).1) k,L,P,4):=by
   unfold mapF
   rw [if_neg (by rw [hok];decide),if_neg (by rw [(any_no hidx).1];decide),Int.toNat_natCast,Int.toNat_natCast]
  obtain ⟨s0,hs0⟩:∃ s0,s0=upC s k:=⟨_,rfl⟩
  rw [← hs0] at hmf HG1
  have HS0:=hid hs0
  obtain ⟨res,hres⟩:∃ res,res=mapF root s L P ad (k:Int) (r:Int) lb:=⟨_,rfl⟩
  rw [← hres] at hmf
  have HRES:=hid hmf
  rw [← hres]
  clear hmf hidx hok hs0 hres
  go_enter Tryz.func33,Tryz.ntmps33
  go_wp2_with fail
  rw [← HW1.out]
  refine (HG.out).mono ?_
  rintro e w2 ⟨rfl,rfl⟩
  go_wp2_with fail
  go_quiet ((go_at_call 48;exact Calls.quiet_of_same ((HCT.out _).mono (fun _ _ h=>⟨h.1,h.2.symm⟩))))
  clear z0 z1 z2 hzl c0 htl r0 r1 r2 hrl
  generalize hwq:w1.drewN nq=wq
  have HBQ:=hid (show Below w1.heap.size w1 wq by rw [← hwq];exact bdN (Below.refl _ _) _)
  clear hwq HCT
  have HZ2:=hid (HZ.out.still HBQ.out)
  have HLB2:=hid (HLB.out.below HBQ.out HLB.out.lt)
  have HAT:=hid (atR_any ad had wq HZ2.out.t9 (by have:=HPL.out;omega))
  rw [HAD.out.2] at HAT
  go_wp2_with fail
  refine (HAT.out).mono ?_
  rintro e w3 ⟨rfl,hb3⟩
  have HZ3:=hid (HZ2.out.still hb3)
  have HLB3:=hid (HLB2.out.below hb3 HLB2.out.lt)
  clear hb3
  obtain ⟨m1,m2,m3,m4,m5,m6,m7,m8⟩:=HMISC.out
  have HN4:=hid (show IntKind.i64.wrap 4=4 from rfl)
  have HUP:=hid (show Calls Tryz.prog 82 #[.pointer (some ⟨q,0,none⟩),.int .i64 (k:Int)] w3.drew (fun e w'=>e=.returned (.int .i64 (takE s.fs (k:Int)))∧RSt base q a b G d vS vs w3.drew s0 vS vs Ls w') from by
   rw [HS0.out]
   exact rup9_any k w3.drew (HZ3.out.rc.below (bdN (Below.refl _ _) 1)) m3)
  have HZ3b:=hid (show base≤w3.heap.size from Nat.le_trans m6 HZ3.out.ex.size)
  have HLM:=hid (show (∀ x∈L,x.f<1024)∧root<1024∧r≤7∧k<1024∧hx.length≤4000000∧s.tn≤900000000 from ⟨m4,m5,m7,m8,m1,m2⟩)
  clear m1 m2 m3 m4 m5 m6 m7 m8 HMISC
  obtain ⟨c0,c1,c2,c3,c4⟩:=HZ3.out.t9.five
  have htl:=HZ3.out.t9.row.lt
  obtain ⟨r0,r1,r2⟩:=HZ3.out.rc.row.three
  have hrl:=HZ3.out.rc.row.lt
  obtain ⟨z0,z1,z2⟩:=HLB3.out.three
  have hzl:=HLB3.out.lt
  clear c1 c2 c3 c4 r1 r2 z1 z2
  go_wp2_with fail
  go_still_tail 9,(by kernel_rfl)
  show wpList _ _ _ _ _ w3.drew
  go_wp2_with fail
  refine (HUP.out).mono ?_
  rintro e w4 ⟨rfl,hr4⟩
  have HS4:=hid (((RSt.refl HZ3.out.rc).still (bdN (Below.refl _ _) 1)).andThen hr4)
  clear hr4 HUP c0 htl r0 hrl z0 hzl
  generalize takE s.fs (k:Int)=te9
  have HTN:=hid (show s0.tn≤900000000 by rw [HS0.out];exact HLM.out.2.2.2.2.2)
  go_wp2_with fail
  go_loopw [7,8] (fun mv lv wr=>∃ j:Nat,j≤3∧lv=.int .i64 j∧MoreI rd base q a b G d root vS vs L ad (hx.length+3) s0 w3 mv j wr) (fun _ lv _=>(intOf lv).toNat)
  case atStart=>exact ⟨3,Nat.le_refl _,rfl,s0,[],vS,vs,Ls,hx,HS4.out,World.ownsRow_nil _ _ _ _,HG1.out,Nat.le_refl _,by simp,fun x h=>(by cases h),rfl,by simp⟩
  case round=>
   obtain ⟨j,hj,rfl,s1,M,vS1,vs1,Ls1,hx1,hst,hown,hgd,hn,hml,hmf,htn,hmo⟩:=hrel
   obtain ⟨av,cap,rfl,hrk,hnil,hcap⟩:=nd9_rk hown
   have HS:=hid hst
   have HO:=hid hown
   have HGD:=hid hgd
   have HNN:=hid hn
   have HML:=hid hml
   have HMF:=hid hmf
   have HTN1:=hid (show s1.tn≤900000000 by rw [htn];exact HTN.out)
   have HTNE:=hid htn
   have HMO:=hid hmo
   have HRK:=hid hrk
   have HNIL:=hid hnil
   have HT:=hid (HZ3.out.t9.refr HZ3.out.rc HS.out)
   have HBX:=hid (HS.out.box HZ3.out.rc HLB3.out)
   have HLIM:=hid (HGD.out.lim (by have:=HLM.out.2.2.2.2.1;have:=HNN.out;omega) (by have:=HTN1.out;omega))
   have HBS:=hid (show base≤wr.heap.size from Nat.le_trans HZ3b.out HS.out.ex.size)
   clear hst hown hgd hn hml hmf htn hmo hrk hnil
   by_cases hj0:j=0
   ·subst hj0
    have HMN:=hid (show moresR root L ad 3 s0=(s1,M,0) by rw [HMO.out];show (s1,M++[],(0:Int))=_;rw [List.append_nil])
    have d6:decide ((1:Int)≤((0:Nat):Int))=false:=rfl
    obtain ⟨c0,c1,c2,c3,c4⟩:=HT.out.five
    have htl:=HT.out.row.lt
    have HQ1:=hid (show (L.length+M.length)*24≤140737488355328 by have:=HLL.out;have:=HML.out;omega)
    have HQ2:=hid (show L.length+M.length≤maxLen by have:=HLL.out;have:=HML.out;unfold maxLen;omega)
    have hml9:M.length≤3:=by have:=HML.out;omega
    clear c0 c1 c3 c4
    go_wp2_with (at_builtin;go_must (refine wpList_apKo Tryz.underlying153 info_nd9 rfl (by decide) rfl _ _ rfl base vL L.length (L.map nd9C) (M.map nd9C) rfl av M.length cap rfl HT.out.ln HRK.out (nd9C_ones _) (fun h=>HNIL.out h) HQ1.out HQ2.out HBS.out ?_;intro v6 w6 hown hgr hat;have HO6:=hid (ownM_app hown rfl rfl);obtain ⟨a6,c6,rfl⟩:=own_hdR hown;have HE6:=hid (EX.of_grown hgr (fun k e _=>e):EX (fun k=>vL.ownBlock=some k) wr w6);have HAT6:=hid hat;have hr6:=HE6.out.row HT.out.row (fun e=>own_row_neK HT.out.ln HT.out.row (by decide) e.symm);have hl6:=hr6.lt;have hf6:=hr6.frozen 2;have hc6:=hr6.cell 2 (by simp);clear hown hgr hat hr6))
    have HT7:=hid (HT.out.setL HE6.out HO6.out)
    have HZ7:=hid ((HZ3.out.refr HS.out).own HT7.out.2 HT7.out.1 (fun x e=>HAT6.out x e) (fun x e=>.inl e))
    have HO7:=hid (HT7.out.2.own HO.out fun k e e2=>by
     rcases e2 with rfl|e2|e2
     ·exact own_row_neK HO.out HT.out.row (by decide) e.symm
     ·have h1:=(HO.out.lt k e).1
      have h2:=(HZ3.out.t9.ln.lt k e2).2
      omega
     ·obtain ⟨ds,hr⟩:=own_rowK HT.out.pn k e2
      exact own_row_neK HO.out hr (by decide) e.symm)
    have HB7:=hid (HT7.out.2.row HBX.out (by
     rintro (e|e|e)
     ·exact row_tys HBX.out HT.out.row (by decide) e
     ·exact own_row_neK HT.out.ln HBX.out (by decide) e.symm
     ·exact own_row_neK HT.out.pn HBX.out (by decide) e.symm))
    have HFO:=hid HGD.out.lens
    generalize hw7:w6.setCell ⟨tb,2,none⟩ (.slice a6 (L.length+M.length) c6)=w7 at HT7 HZ7 HO7 HB7
    have HB37:=hid (show w3.heap.size≤w7.heap.size from Nat.le_trans HS.out.ex.size HT7.out.2.size)
    clear hl6 hf6 hc6 c2 htl HE6 HAT6 HO6 HT7 HT HBX HO HRK
    go_loopw [14] (fun v wr=>∃ m:Nat,m≤M.length∧v=.int .i64 m∧OwnM9 wr w3.heap.size (.slice av M.length cap) M∧Row wr w.heap.size 31 [.int .i64 (k:Int),.int .u8 (r:Int),.bool lb]∧FsOk ((M.take m).foldl (fun z x=>layC z ((nodeF root (L++M) ad (x.lv+1)).getD 0) (ixOf ad x.lv) (x.f*4096+1)) s1).fs∧w3.heap.size≤wr.heap.size∧∃ vs' Ls',TSt base q a b G d tb root vS vL vP vs w ((M.take m).foldl (fun z x=>layC z ((nodeF root (L++M) ad (x.lv+1)).getD 0) (ixOf ad x.lv) (x.f*4096+1)) s1) vS1 vs' Ls' (L++M) P false (.slice a6 (L.length+M.length) c6) vP wr) (fun v _=>M.length-(intOf v).toNat)
    case atStart=>exact ⟨0,Nat.zero_le _,rfl,HO7.out,HB7.out,HFO.out,HB37.out,vs1,Ls1,HZ7.out⟩
    case round=>
     rename World=>wr
     obtain ⟨m,hm,rfl,hown,hbx,hfo,hsz,vsd,Lsd,hst⟩:=hrel
     have HOd:=hid hown
     have HBd:=hid hbx
     have HFd:=hid hfo
     have HZd:=hid hst
     have HB3r:=hid hsz
     clear hown hbx hfo hst hsz
     by_cases hlt:m<M.length
     ·have d8:decide ((m:Int)<(M.length:Int))=true:=by simp;omega
      have d8n:decide (m<M.length)=true:=by simp;omega
      have i1:(0:Int)≤(m:Int):=by omega
      have i2:(m:Int)<(M.length:Int):=by omega
      obtain ⟨av',cap',e9,hrk,_⟩:=nd9_rk HOd.out
      injection e9 with e9 _ e10
      subst e9
      subst e10
      have HRKd:=hid hrk
      obtain ⟨bb,o,rfl,g0,g1,g2⟩:=nd9_at hrk hlt
      have hbl:=World.block_lt_of_cell? _ _ g2
      have hfd:(M.take (m+1)).foldl (fun z x=>layC z ((nodeF root (L++M) ad (x.lv+1)).getD 0) (ixOf ad x.lv) (x.f*4096+1)) s1=layC ((M.take m).foldl (fun z x=>layC z ((nodeF root (L++M) ad (x.lv+1)).getD 0) (ixOf ad x.lv) (x.f*4096+1)) s1) ((nodeF root (L++M) ad (M[m].lv+1)).getD 0) (ixOf ad M[m].lv) (M[m].f*4096+1):=by rw [List.take_succ_eq_append_getElem hlt,List.foldl_append];rfl
      have HMm:=hid (HMF.out M[m] (List.getElem_mem hlt))
      have HGQ:=hid (fun ww (hb:Below wr.heap.size wr ww)=>by
       have:=(nd9_at (HRKd.out.below' hb) hlt)
       obtain ⟨b',o',e,q0,q1,q2⟩:=this
       cases e
       exact (⟨q0,q2⟩:ww.cell? ⟨bb,o+m*3+0,none⟩=some (.int .i64 (M[m].lv:Int))∧ww.cell? ⟨bb,o+m*3+2,none⟩=some (.int .i64 (M[m].f:Int))))
      clear g1 g2 hrk
      obtain ⟨y,hy⟩:∃ y,y=M[m]:=⟨_,rfl⟩
      rw [← hy] at g0 hfd HMm HGQ
      simp only [Nat.add_zero] at g0 HGQ
      clear hy
      obtain ⟨l1,hl1⟩:∃ l1,l1=y.lv+1:=⟨_,rfl⟩
      have HL1:=hid hl1
      have e7:IntKind.i64.wrap ((y.lv:Int)+1)=(l1:Int):=by have:=HMm.out.2.2;rw [IntWalk.i64_in _ (by omega)];omega
      rw [← hl1] at hfd
      have HND:=hid (node9_any ad l1 (by have:=HMm.out.2.2;omega) wr HZd.out.t9 (by rw [List.length_append];have:=HLL.out;omega))
      have HGL:=hid (nodeF_lt (root:=root) (L:=L++M) (ad:=ad) (lv:=l1) (fun x hx=>by
       rcases List.mem_append.1 hx with hx|hx
       ·exact HLM.out.1 x hx
       ·exact (HMF.out x hx).1) HLM.out.2.1)
      obtain ⟨gn,hgn⟩:∃ gn,gn=(nodeF root (L++M) ad l1).getD 0:=⟨_,rfl⟩
      obtain ⟨gs,hgs⟩:∃ gs,gs=(nodeF root (L++M) ad l1).isSome:=⟨_,rfl⟩
      rw [← hgn,← hgs] at HND
      rw [← hgn] at HGL hfd
      have HFD:=hid hfd
      clear hgn hgs hl1 hfd
      go_wp2_with fail
      refine (HND.out).mono ?_
      rintro e w8 ⟨rfl,hb8⟩
      obtain ⟨g0,g2⟩:=HGQ.out w8 hb8
      have hbl:=World.block_lt_of_cell? _ _ g2
      have HZ8:=hid (HZd.out.still hb8)
      have HO8:=hid (own_below HOd.out hb8)
      have HB8:=hid (HBd.out.below hb8 HBd.out.lt)
      have HS8:=hid (show w3.heap.size≤w8.heap.size from Nat.le_trans HB3r.out hb8.size)
      clear hb8 HND
      obtain ⟨ix,hix⟩:∃ ix,ix=ixOf ad y.lv:=⟨_,rfl⟩
      have HIX:=hid (show ix<512 by rw [hix];exact ixOf_lt ad y.lv)
      have HWD:=hid (fun ww=>show Calls Tryz.prog 86 #[.int .u64 (ad:Int),.int .i64 (l1:Int)] ww (fun e w'=>e=.returned (.int .i64 (ix:Int))∧ww=w') by
       rw [HL1.out,hix]
       exact word9_any ad y.lv (by have:=HMm.out.2.2;omega) ww)
      rw [← hix] at HFD
      clear hix
      have e8:IntKind.u64.wrap (y.f:Int)=(y.f:Int):=IntWalk.u64_in _ (by have:=HMm.out.1;omega)
      obtain ⟨fz,hfz⟩:∃ fz,fz=y.f*4096:=⟨_,rfl⟩
      have e9:IntKind.u64.wrap ((y.f:Int)*4096)=(fz:Int):=by have:=HMm.out.1;rw [IntWalk.u64_in _ (by omega)];omega
      obtain ⟨fw,hfw⟩:∃ fw,fw=y.f*4096+1:=⟨_,rfl⟩
      have e10:bits BinOp.or .u64 (fz:Int) 1=(fw:Int):=by rw [hfz,hfw];exact fr_or y.f (by have:=HMm.out.1;omega)
      rw [← hfw] at HFD
      have HSET:=hid (set9R_any gn ix fw HIX.out (by have:=HGL.out;omega) (by have:=HMm.out.1;omega) w8.drew (HZ8.out.t9.below (bdN (Below.refl _ _) 1)) (HZ8.out.rc.below (bdN (Below.refl _ _) 1)) HFd.out (Nat.le_trans HZ3b.out HS8.out))
      clear hfz hfw
      go_wp2_with fail
      refine wp_region_still_tail 18 (by kernel_rfl) (by kernel_rfl) ?_
      simp only [List.take_succ_cons,List.take_zero,List.drop_succ_cons,List.drop_zero]
      repeat still_step
      still_call ((HWD.out _).mono (fun _ _ h=>⟨h.1,h.2.symm⟩))
      repeat still_step
      refine wpStill_nil ?_
      show wpList _ _ _ _ _ w8.drew
      go_wp2_with fail
      refine (HSET.out).mono ?_
      rintro e w9 ⟨rfl,vs9,Ls9,hr9⟩
      have HO9:=hid (hr9.more (HZ8.out.rc.below (bdN (Below.refl _ _) 1)) (own_below HO8.out (bdN (Below.refl _ _) 1)))
      have HB9:=hid (hr9.box (HZ8.out.rc.below (bdN (Below.refl _ _) 1)) (HB8.out.below (bdN (Below.refl _ _) 1) HB8.out.lt))
      have HZ9:=hid ((HZ8.out.still (bdN (Below.refl _ _) 1)).refr hr9)
      have HS9:=hid (Nat.le_trans HS8.out hr9.ex.size)
      clear hr9 HSET
      go_wp2_with fail
      go_roundw
      case rel=>exact ⟨m+1,by omega,by go_num,HO9.out,HB9.out,by rw [HFD.out];exact ok_lay HFd.out HIX.out,HS9.out,vs9,Ls9,by rw [HFD.out];exact HZ9.out⟩
      case measure=>simp [intOf];omega
     ·have d8:decide ((m:Int)<(M.length:Int))=false:=by simp;omega
      have d8n:decide (m<M.length)=false:=by simp;omega
      obtain rfl:m=M.length:=by omega
      rw [List.take_length] at HFd HZd
      obtain ⟨s8,hs8⟩:∃ s8,s8=M.foldl (fun z x=>layC z ((nodeF root (L++M) ad (x.lv+1)).getD 0) (ixOf ad x.lv) (x.f*4096+1)) s1:=⟨_,rfl⟩
      rw [← hs8] at HFd HZd
      have HS8E:=hid hs8
      clear hs8
      have HND:=hid (node9_any ad 1 (by omega) wr HZd.out.t9 (by rw [List.length_append];have:=HLL.out;omega))
      have HGL:=hid (nodeF_lt (root:=root) (L:=L++M) (ad:=ad) (lv:=1) (fun x hx=>by
       rcases List.mem_append.1 hx with hx|hx
       ·exact HLM.out.1 x hx
       ·exact (HMF.out x hx).1) HLM.out.2.1)
      obtain ⟨gn,hgn⟩:∃ gn,gn=(nodeF root (L++M) ad 1).getD 0:=⟨_,rfl⟩
      obtain ⟨gs,hgs⟩:∃ gs,gs=(nodeF root (L++M) ad 1).isSome:=⟨_,rfl⟩
      rw [← hgn,← hgs] at HND
      rw [← hgn] at HGL
      have HGN:=hid hgn
      clear hgn hgs
      go_wp2_with fail
      refine (HND.out).mono ?_
      rintro e w8 ⟨rfl,hb8⟩
      have HZ8:=hid (HZd.out.still hb8)
      have HB8:=hid (HBd.out.below hb8 HBd.out.lt)
      have HS8:=hid (show w3.heap.size≤w8.heap.size from Nat.le_trans HB3r.out hb8.size)
      clear hb8 HND
      obtain ⟨ix,hix⟩:∃ ix,ix=ixOf ad 0:=⟨_,rfl⟩
      have HIX:=hid (show ix<512∧ix=ixOf ad 0 from ⟨by rw [hix];exact ixOf_lt ad 0,hix⟩)
      have HWD:=hid (fun ww=>show Calls Tryz.prog 86 #[.int .u64 (ad:Int),.int .i64 1] ww (fun e w'=>e=.returned (.int .i64 (ix:Int))∧ww=w') by
       rw [hix]
       exact word9_any ad 0 (by omega) ww)
      clear hix
      obtain ⟨wd,hwd⟩:∃ wd,wd=wdT (.lf k r lb):=⟨_,rfl⟩
      have HWV:=hid (show wd<18446744073709551616∧wd=wdT (.lf k r lb) from ⟨by rw [hwd,wdT_lf];have:=HLM.out.2.2;split <;> omega,hwd⟩)
      have HLF:=hid (fun ww=>show Calls Tryz.prog 87 #[.agg #[.int .i64 (k:Int),.int .u8 (r:Int),.bool lb]] ww (fun e w'=>e=.returned (.int .u64 (wd:Int))∧Below ww.heap.size ww w') by
       rw [hwd]
       exact leaf9_any k r lb (by have:=HLM.out.2.2.2.1;omega) HLM.out.2.2.1 ww)
      clear hwd
      have HSET:=hid (fun ww (hb:Below w8.heap.size w8 ww)=>set9R_any gn ix wd HIX.out.1 (by have:=HGL.out;omega) HWV.out.1 ww (HZ8.out.t9.below hb) (HZ8.out.rc.below hb) HFd.out (Nat.le_trans HZ3b.out (Nat.le_trans HS8.out hb.size)))
      have BX0:∀ ww,EX (R8 a b d vsd vS1) w8 ww→ww.cell? ⟨w.heap.size,0,none⟩=some (.int .i64 (k:Int)):=fun ww hb=>(hb.row HB8.out (HZ8.out.rc.nR HB8.out (by decide) (by decide) (by decide) (by decide) (by decide))).three.1
      have BX1:∀ ww,EX (R8 a b d vsd vS1) w8 ww→ww.cell? ⟨w.heap.size,1,none⟩=some (.int .u8 (r:Int)):=fun ww hb=>(hb.row HB8.out (HZ8.out.rc.nR HB8.out (by decide) (by decide) (by decide) (by decide) (by decide))).three.2.1
      have BX2:∀ ww,EX (R8 a b d vsd vS1) w8 ww→ww.cell? ⟨w.heap.size,2,none⟩=some (.bool lb):=fun ww hb=>(hb.row HB8.out (HZ8.out.rc.nR HB8.out (by decide) (by decide) (by decide) (by decide) (by decide))).three.2.2
      have hB0:Below w8.heap.size w8 w8.drew:=bdN (Below.refl _ _) 1
      have hS0:EX (R8 a b d vsd vS1) w8 w8.drew:=EX.drew (EX.refl _)
      go_wp2_with fail
      go_region_held3 (EX (R8 a b d vsd vS1) w8) (first|assumption|exact EX.drew (EX.refl _)) ((first|(go_at_call 86;refine (HWD.out _).mono ?_;rintro e' w11 ⟨rfl,rfl⟩)|(go_at_call 87;refine (HLF.out _).mono ?_;rintro e' w12 ⟨rfl,hb12⟩;have hB12:Below w8.heap.size w8 w12:=Below.trans (by assumption) (hb12.mono (Below.size (by assumption)));have hS12:EX (R8 a b d vsd vS1) w8 w12:=EX.of_below hB12;clear hb12)|(go_at_call 85;refine (HSET.out _ (by assumption)).mono ?_;rintro e' w13 ⟨rfl,vs13,Ls13,hr13⟩;have hS13:EX (R8 a b d vsd vS1) w8 w13:=EX.trans (EX.of_below (by assumption)) hr13.ex)))
      have HZe:=hid ((HZ8.out.still (by assumption)).refr hr13)
      have HBe:=hid (hr13.box (HZ8.out.rc.below (by assumption)) (HB8.out.below (by assumption) HB8.out.lt))
      have HB3e:=hid (show w3.heap.size≤w13.heap.size from Nat.le_trans HS8.out (Nat.le_trans (Below.size (by assumption)) hr13.ex.size))
      rw [HGN.out,HIX.out.2,HWV.out.2,HS8E.out] at HZe
      clear hr13 hS13 hB0 hS0 BX0 BX1 BX2 HSET HLF HWD
      try clear hB12 hS12
      obtain ⟨aP,cP,rfl,hrkP,_⟩:=put_rk HZe.out.t9.pn
      have HRKP:=hid hrkP
      clear hrkP
      go_wp2_with fail
      go_loopw [19] (fun v wr=>∃ m:Nat,m≤P.length∧v=.int .i64 m∧w13=wr∧∀ i,(hi:i<P.length)→i<m→P[i].1<ad) (fun v _=>P.length-(intOf v).toNat)
      case atStart=>exact ⟨0,Nat.zero_le _,rfl,rfl,fun i _ h=>absurd h (Nat.not_lt_zero i)⟩
      case round=>
       obtain ⟨m,hm,rfl,rfl,hbef⟩:=hrel
       have HBEF:=hid hbef
       have hpl9:P.length≤1000000:=HPL.out
       obtain ⟨c0,c1,c2,c3,c4⟩:=HZe.out.t9.five
       have htl:=HZe.out.t9.row.lt
       clear hbef c0 c1 c2 c4
       by_cases hlt:m<P.length
       ·have d9:decide ((m:Int)<(P.length:Int))=true:=by simp;omega
        have d9n:decide (m<P.length)=true:=by simp;omega
        have i1:(0:Int)≤(m:Int):=by omega
        have i2:(m:Int)<(P.length:Int):=by omega
        obtain ⟨bp,op,eP,q0,_⟩:=put_at HRKP.out hlt
        subst eP
        have hbl:=World.block_lt_of_cell? _ _ q0
        simp only [Nat.add_zero] at q0
        by_cases hc:P[m].1<ad
        ·have HST:=hid (show ∀ i,(hi:i<P.length)→i<m+1→P[i].1<ad from fun i hi h=>by
          by_cases e:i=m
          ·subst e;exact hc
          ·exact HBEF.out i hi (by omega))
         obtain ⟨y,hy⟩:∃ y,y=P[m].1:=⟨_,rfl⟩
         rw [← hy] at q0 hc
         have d10:decide ((y:Int)<(ad:Int))=true:=by simp;omega
         have d10n:decide (y<ad)=true:=by simp;omega
         clear hy hc
         go_wp2_with fail
         go_roundw
         case rel=>exact ⟨m+1,by omega,by go_num,by first|rfl|trivial,HST.out⟩
         case measure=>simp [intOf];omega
        ·have HAF:=hid (show ∀ h:m<P.length,¬ P[m].1<ad from fun _=>hc)
         obtain ⟨y,hy⟩:∃ y,y=P[m].1:=⟨_,rfl⟩
         rw [← hy] at q0 hc
         have d10:decide ((y:Int)<(ad:Int))=false:=by simp;omega
         have d10n:decide (y<ad)=false:=by simp;omega
         clear hy hc
         obtain ⟨av4,cap4,e9,hrk4,hnil4,hcap4⟩:=put_rk HZe.out.t9.pn
         injection e9 with e9 _ e10
         subst e9
         subst e10
         have HA1:=hid (show (w13.alloc (.cells #[] 166)).ownsRow w13.heap.size 166 4 (.slice (some ⟨w13.heap.size,0,none⟩) 0 0) 0 ([]:List (List Value)).flatten from ⟨rfl,.inr ⟨w13.heap.size,0,#[],rfl,Nat.le_refl _,heap_alloc_new w13 _,Nat.le_refl _,Nat.zero_le _,rfl,rfl⟩⟩)
         have HA2:=hid (show Rk (w13.alloc (.cells #[] 166)) 4 (some ⟨bp,op,none⟩) m ((P.take m).map putC) by
          rw [List.map_take]
          exact (hrk4.below' (bal _)).prefix hm)
         have HTKL:=hid (show (P.take m).length=m by rw [List.length_take];omega)
         have HA3:=hid (show (0+m)*24≤140737488355328 by have:=HPL.out;omega)
         have HA4:=hid (show 0+m≤maxLen by have:=HPL.out;unfold maxLen;omega)
         have HA5:=hid (show w13.heap.size≤(w13.alloc (.cells #[] 166)).heap.size by rw [World.size_alloc];omega)
         have HA6:=hid hnil4
         have HA7:=hid hcap4
         have HA8:=hid hrk4
         have hq1:=slTo4 .i64 (some ⟨bp,op,none⟩) P.length cP m (m:Int) rfl (by omega) (w13.alloc (.cells #[] 166))
         have HWR:=hid (show Below w13.heap.size w13 (w13.alloc (.cells #[] 166)) from bal _)
         clear hrk4 hnil4 hcap4
         go_upto_region 35 with (at_builtin;go_must (refine wpList_apK Tryz.underlying84 info_put9 rfl (by decide) rfl _ _ rfl w13.heap.size (.slice (some ⟨w13.heap.size,0,none⟩) 0 0) 0 [] ((P.take m).map putC) rfl (some ⟨bp,op,none⟩) m cP rfl HA1.out HA2.out (putC_ones _) (fun h=>HA6.out h) HA3.out HA4.out HA5.out ?_;intro v14 w14 hown hgr hbw;have HB14:=hid (HWR.out.trans hbw);have HO14:=hid (show OwnQ9 w14 w13.heap.size v14 (P.take m) from own_ext hown (by rw [HTKL.out];omega) (by simp));clear hown hgr hbw))
         clear hq1 HA1 HA2 HA3 HA4 HA5
         have HL14:=hid (HBe.out.below HB14.out HBe.out.lt)
         have HT14:=hid (HZe.out.t9.below HB14.out)
         obtain ⟨z0,z1,z2⟩:=HL14.out.three
         have hzl:=HL14.out.lt
         have HC1:=hid (show (w14.alloc (.cells #[.int .u64 (ad:Int),.int .i64 (k:Int),.int .u8 (r:Int),.bool lb] 166)).ownsRow w13.heap.size 166 4 v14 (P.take m).length ((P.take m).map putC).flatten from own_below HO14.out (bal _))
         have HC2:=hid (show Rk (w14.alloc (.cells #[.int .u64 (ad:Int),.int .i64 (k:Int),.int .u8 (r:Int),.bool lb] 166)) 4 (some ⟨w14.heap.size,0,none⟩) 1 ([((ad,k,r,lb):LF)].map putC) from rk_new w14 166 (putC (ad,k,r,lb)) rfl)
         have HC3:=hid (show ((P.take m).length+1)*24≤140737488355328 by rw [HTKL.out];have:=HPL.out;omega)
         have HC4:=hid (show (P.take m).length+1≤maxLen by rw [HTKL.out];have:=HPL.out;unfold maxLen;omega)
         have HC6:=hid (show Below w13.heap.size w13 (w14.alloc (.cells #[.int .u64 (ad:Int),.int .i64 (k:Int),.int .u8 (r:Int),.bool lb] 166)) from HB14.out.alloc HB14.out.size _)
         have HC5:=hid HC6.out.size
         go_upto_region 36 with (at_builtin;go_must (refine wpList_apK Tryz.underlying84 info_put9 rfl (by decide) rfl _ _ rfl w13.heap.size v14 (P.take m).length ((P.take m).map putC) ([((ad,k,r,lb):LF)].map putC) rfl (some ⟨w14.heap.size,0,none⟩) 1 1 rfl HC1.out HC2.out (putC_ones _) (fun h=>by cases h) HC3.out HC4.out HC5.out ?_;intro v15 w15 hown hgr hbw;have HB15:=hid (HC6.out.trans hbw);have HO15:=hid (ownQ_app hown rfl rfl);clear hown hgr hbw))
         clear z0 z1 z2 hzl HC1 HC2 HC3 HC4 HC5
         have HT15:=hid (HZe.out.t9.below HB15.out)
         obtain ⟨c0,c1,c2,c3,c4⟩:=HT15.out.five
         have htl:=HT15.out.row.lt
         have hfz:=HT15.out.row.frozen 3
         clear c0 c1 c2 c4
         obtain ⟨a9,ha9⟩:∃ a9:Option Addr,a9=if cP=m then some (⟨bp,op,none⟩:Addr) else (some (⟨bp,op,none⟩:Addr)).map (·.add (m*4)):=⟨_,rfl⟩
         have hq2:=slFrom4 .i64 (some ⟨bp,op,none⟩) a9 P.length cP m (m:Int) rfl hm ha9 w15
         have HD1:=hid (show Rk w15 4 a9 (P.length-m) ((P.drop m).map putC) by
          rw [List.map_drop,ha9]
          exact (HA8.out.below' HB15.out).from4 hm HA7.out)
         have HD2:=hid (show a9=none→cP-m=0 from fun h=>by
          rw [ha9] at h
          by_cases hcm:cP=m
          ·omega
          ·rw [if_neg hcm] at h
           cases h)
         obtain ⟨nB,hnB⟩:∃ nB,nB=(P.take m++[((ad,k,r,lb):LF)]).length:=⟨_,rfl⟩
         have HNB:=hid hnB
         have hnB2:nB=m+1:=by rw [hnB,List.length_append,HTKL.out,List.length_singleton]
         have HON:=hid (show w15.ownsRow w13.heap.size 166 4 v15 nB ((P.take m++[((ad,k,r,lb):LF)]).map putC).flatten by rw [hnB];exact HO15.out)
         have HD3:=hid (show (nB+(P.length-m))*24≤140737488355328 by have:=HPL.out;omega)
         have HD4:=hid (show nB+(P.length-m)≤maxLen by have:=HPL.out;unfold maxLen;omega)
         clear hnB hnB2
         have HD5:=hid HB15.out.size
         have HDL:=hid (show P.length-m=(P.drop m).length by rw [List.length_drop])
         clear ha9
         go_wp2_with (at_builtin;go_must (refine wpList_apK Tryz.underlying84 info_put9 rfl (by decide) rfl _ _ rfl w13.heap.size v15 nB ((P.take m++[((ad,k,r,lb):LF)]).map putC) ((P.drop m).map putC) rfl a9 (P.length-m) (cP-m) rfl HON.out HD1.out (putC_ones _) (fun h=>HD2.out h) HD3.out HD4.out HD5.out ?_;intro v16 w16 hown hgr hbw;have HB16:=hid (HB15.out.trans hbw);have HO16:=hid (ownQ_app hown HNB.out HDL.out);obtain ⟨a16,c16,rfl⟩:=own_hdR hown;have hT16:=HZe.out.t9.row.below HB16.out HZe.out.t9.row.lt;have htl16:=hT16.lt;have hfz16:=hT16.frozen 3;have hc16:=hT16.cell 3 (by simp);clear hown hgr hbw hT16))
         go_ret
         rw [HRES.out,HMN.out,if_pos rfl]
         have hins:=insP_at (y:=((ad,k,r,lb):LF)) hm HBEF.out HAF.out
         have ht16:=HZe.out.t9.setP (EX.of_below HB16.out) (own_from (base':=base) HO16.out (Nat.le_trans HZ3b.out HB3e.out))
         rw [List.append_assoc] at ht16
         have hins':P.take m++([((ad,k,r,lb):LF)]++P.drop m)=insP (ad,k,r,lb) P:=hins.symm
         rw [hins'] at ht16
         exact ⟨rfl,vS1,vs13,Ls13,_,_,HZe.out.own ht16.2 ht16.1 (fun x e=>.inl e) (fun x e=>.inr (own_low HO16.out (Nat.le_refl _) x e))⟩
       ·have d9:decide ((m:Int)<(P.length:Int))=false:=by simp;omega
        have d9n:decide (m<P.length)=false:=by simp;omega
        have HAF:=hid (show ∀ h:m<P.length,¬ P[m].1<ad from fun h=>absurd h hlt)
        obtain ⟨av4,cap4,e9,hrk4,hnil4,hcap4⟩:=put_rk HZe.out.t9.pn
        injection e9 with e9 _ e10
        subst e9
        subst e10
        have HA1:=hid (show (w13.alloc (.cells #[] 166)).ownsRow w13.heap.size 166 4 (.slice (some ⟨w13.heap.size,0,none⟩) 0 0) 0 ([]:List (List Value)).flatten from ⟨rfl,.inr ⟨w13.heap.size,0,#[],rfl,Nat.le_refl _,heap_alloc_new w13 _,Nat.le_refl _,Nat.zero_le _,rfl,rfl⟩⟩)
        have HA2:=hid (show Rk (w13.alloc (.cells #[] 166)) 4 aP m ((P.take m).map putC) by
         rw [List.map_take]
         exact (hrk4.below' (bal _)).prefix hm)
        have HTKL:=hid (show (P.take m).length=m by rw [List.length_take];omega)
        have HA3:=hid (show (0+m)*24≤140737488355328 by have:=HPL.out;omega)
        have HA4:=hid (show 0+m≤maxLen by have:=HPL.out;unfold maxLen;omega)
        have HA5:=hid (show w13.heap.size≤(w13.alloc (.cells #[] 166)).heap.size by rw [World.size_alloc];omega)
        have HA6:=hid hnil4
        have HA7:=hid hcap4
        have HA8:=hid hrk4
        have hq1:=slTo4 .i64 aP P.length cP m (m:Int) rfl (by omega) (w13.alloc (.cells #[] 166))
        have HWR:=hid (show Below w13.heap.size w13 (w13.alloc (.cells #[] 166)) from bal _)
        clear hrk4 hnil4 hcap4
        go_upto_region 35 with (at_builtin;go_must (refine wpList_apK Tryz.underlying84 info_put9 rfl (by decide) rfl _ _ rfl w13.heap.size (.slice (some ⟨w13.heap.size,0,none⟩) 0 0) 0 [] ((P.take m).map putC) rfl aP m cP rfl HA1.out HA2.out (putC_ones _) (fun h=>HA6.out h) HA3.out HA4.out HA5.out ?_;intro v14 w14 hown hgr hbw;have HB14:=hid (HWR.out.trans hbw);have HO14:=hid (show OwnQ9 w14 w13.heap.size v14 (P.take m) from own_ext hown (by rw [HTKL.out];omega) (by simp));clear hown hgr hbw))
        clear hq1 HA1 HA2 HA3 HA4 HA5
        have HL14:=hid (HBe.out.below HB14.out HBe.out.lt)
        have HT14:=hid (HZe.out.t9.below HB14.out)
        obtain ⟨z0,z1,z2⟩:=HL14.out.three
        have hzl:=HL14.out.lt
        have HC1:=hid (show (w14.alloc (.cells #[.int .u64 (ad:Int),.int .i64 (k:Int),.int .u8 (r:Int),.bool lb] 166)).ownsRow w13.heap.size 166 4 v14 (P.take m).length ((P.take m).map putC).flatten from own_below HO14.out (bal _))
        have HC2:=hid (show Rk (w14.alloc (.cells #[.int .u64 (ad:Int),.int .i64 (k:Int),.int .u8 (r:Int),.bool lb] 166)) 4 (some ⟨w14.heap.size,0,none⟩) 1 ([((ad,k,r,lb):LF)].map putC) from rk_new w14 166 (putC (ad,k,r,lb)) rfl)
        have HC3:=hid (show ((P.take m).length+1)*24≤140737488355328 by rw [HTKL.out];have:=HPL.out;omega)
        have HC4:=hid (show (P.take m).length+1≤maxLen by rw [HTKL.out];have:=HPL.out;unfold maxLen;omega)
        have HC6:=hid (show Below w13.heap.size w13 (w14.alloc (.cells #[.int .u64 (ad:Int),.int .i64 (k:Int),.int .u8 (r:Int),.bool lb] 166)) from HB14.out.alloc HB14.out.size _)
        have HC5:=hid HC6.out.size
        go_upto_region 36 with (at_builtin;go_must (refine wpList_apK Tryz.underlying84 info_put9 rfl (by decide) rfl _ _ rfl w13.heap.size v14 (P.take m).length ((P.take m).map putC) ([((ad,k,r,lb):LF)].map putC) rfl (some ⟨w14.heap.size,0,none⟩) 1 1 rfl HC1.out HC2.out (putC_ones _) (fun h=>by cases h) HC3.out HC4.out HC5.out ?_;intro v15 w15 hown hgr hbw;have HB15:=hid (HC6.out.trans hbw);have HO15:=hid (ownQ_app hown rfl rfl);clear hown hgr hbw))
        clear z0 z1 z2 hzl HC1 HC2 HC3 HC4 HC5
        have HT15:=hid (HZe.out.t9.below HB15.out)
        obtain ⟨c0,c1,c2,c3,c4⟩:=HT15.out.five
        have htl:=HT15.out.row.lt
        have hfz:=HT15.out.row.frozen 3
        clear c0 c1 c2 c4
        obtain ⟨a9,ha9⟩:∃ a9:Option Addr,a9=if cP=m then aP else aP.map (·.add (m*4)):=⟨_,rfl⟩
        have hq2:=slFrom4 .i64 aP a9 P.length cP m (m:Int) rfl hm ha9 w15
        have HD1:=hid (show Rk w15 4 a9 (P.length-m) ((P.drop m).map putC) by
         rw [List.map_drop,ha9]
         exact (HA8.out.below' HB15.out).from4 hm HA7.out)
        have HD2:=hid (show a9=none→cP-m=0 from fun h=>by
         rw [ha9] at h
         by_cases hcm:cP=m
         ·omega
         ·rw [if_neg hcm] at h
          cases haP:aP with
          | none=>have:=HA6.out haP;omega
          | some x=>rw [haP] at h;cases h)
        obtain ⟨nB,hnB⟩:∃ nB,nB=(P.take m++[((ad,k,r,lb):LF)]).length:=⟨_,rfl⟩
        have HNB:=hid hnB
        have hnB2:nB=m+1:=by rw [hnB,List.length_append,HTKL.out,List.length_singleton]
        have HON:=hid (show w15.ownsRow w13.heap.size 166 4 v15 nB ((P.take m++[((ad,k,r,lb):LF)]).map putC).flatten by rw [hnB];exact HO15.out)
        have HD3:=hid (show (nB+(P.length-m))*24≤140737488355328 by have:=HPL.out;omega)
        have HD4:=hid (show nB+(P.length-m)≤maxLen by have:=HPL.out;unfold maxLen;omega)
        clear hnB hnB2
        have HD5:=hid HB15.out.size
        have HDL:=hid (show P.length-m=(P.drop m).length by rw [List.length_drop])
        clear ha9
        go_wp2_with (at_builtin;go_must (refine wpList_apK Tryz.underlying84 info_put9 rfl (by decide) rfl _ _ rfl w13.heap.size v15 nB ((P.take m++[((ad,k,r,lb):LF)]).map putC) ((P.drop m).map putC) rfl a9 (P.length-m) (cP-m) rfl HON.out HD1.out (putC_ones _) (fun h=>HD2.out h) HD3.out HD4.out HD5.out ?_;intro v16 w16 hown hgr hbw;have HB16:=hid (HB15.out.trans hbw);have HO16:=hid (ownQ_app hown HNB.out HDL.out);obtain ⟨a16,c16,rfl⟩:=own_hdR hown;have hT16:=HZe.out.t9.row.below HB16.out HZe.out.t9.row.lt;have htl16:=hT16.lt;have hfz16:=hT16.frozen 3;have hc16:=hT16.cell 3 (by simp);clear hown hgr hbw hT16))
        go_ret
        rw [HRES.out,HMN.out,if_pos rfl]
        have hins:=insP_at (y:=((ad,k,r,lb):LF)) hm HBEF.out HAF.out
        have ht16:=HZe.out.t9.setP (EX.of_below HB16.out) (own_from (base':=base) HO16.out (Nat.le_trans HZ3b.out HB3e.out))
        rw [List.append_assoc] at ht16
        have hins':P.take m++([((ad,k,r,lb):LF)]++P.drop m)=insP (ad,k,r,lb) P:=hins.symm
        rw [hins'] at ht16
        exact ⟨rfl,vS1,vs13,Ls13,_,_,HZe.out.own ht16.2 ht16.1 (fun x e=>.inl e) (fun x e=>.inr (own_low HO16.out (Nat.le_refl _) x e))⟩
   ·obtain ⟨i,hi⟩:∃ i,j=i+1:=⟨j-1,by omega⟩
    have d6:decide ((1:Int)≤(j:Int))=true:=by simp;omega
    have d6n:decide (1≤j)=true:=by simp;omega
    have HI:=hid hi
    have HJ4:=hid (show j≤4 by omega)
    have e6:IntKind.i64.wrap ((j:Int)-1)=(i:Int):=by rw [IntWalk.i64_in _ (by omega)];omega
    have HND:=hid (node9_any ad j HJ4.out wr HT.out (by have:=HLL.out;omega))
    clear hj0 hi
    cases hnf:nodeF root L ad j with
    | some g=>
     rw [hnf] at HND
     have HMN:=hid (show moresR root L ad j s1=moresR root L ad i s1 by rw [HI.out];exact mores_there (by rw [← HI.out,hnf];rfl))
     clear hnf
     go_wp2_with fail
     refine (HND.out).mono ?_
     rintro e w5 ⟨rfl,hb5⟩
     have HS5:=hid (HS.out.still hb5)
     have HO5:=hid (own_below HO.out hb5)
     clear hb5
     go_wp2_with fail
     go_roundw
     case rel=>exact ⟨i,by have:=HI.out;omega,by go_num,s1,M,vS1,vs1,Ls1,hx1,HS5.out,HO5.out,HGD.out,by have:=HNN.out;have:=HI.out;omega,by have:=HML.out;have:=HI.out;omega,HMF.out,HTNE.out,by rw [HMO.out,HMN.out]⟩
     case measure=>have:=HI.out;simp [intOf];omega
    | none=>
     rw [hnf] at HND
     have HNF:=hid hnf
     clear hnf
     go_wp2_with fail
     refine (HND.out).mono ?_
     rintro e w5 ⟨rfl,hb5⟩
     have HS5:=hid (HS.out.still hb5)
     have HO5:=hid (own_below HO.out hb5)
     have HT5:=hid (HT.out.below hb5)
     have HRK5:=hid (HRK.out.below' hb5)
     have HBX5:=hid (HBX.out.below hb5 HBX.out.lt)
     have HTK:=hid (rctake_any base q a b G d vS1 s1 vs1 Ls1 w5 HS5.out.rc HGD.out (Nat.le_trans HBS.out hb5.size) (by have:=HGD.out.many;have:=HTN1.out;omega) HLIM.out)
     clear hb5
     obtain ⟨c0,c1,c2,c3,c4⟩:=HT5.out.five
     have htl:=HT5.out.row.lt
     rcases takC_case HGD.out with ⟨f,s2,ht,T⟩|⟨ht,_⟩
     ·rw [ht] at HTK
      have HTT:=hid T
      have HMN:=hid (show moresR root L ad j s1=((moresR root L ad i s2).1,⟨j,ad/2 ^ (12+9*j),f⟩::(moresR root L ad i s2).2.1,(moresR root L ad i s2).2.2) by rw [HI.out];exact mores_took (by rw [← HI.out];exact HNF.out) ht)
      clear ht T
      go_wp2_with fail
      refine (HTK.out).mono ?_
      rintro e w6 ⟨rfl,vS2,vs2,Ls2,hr6⟩
      have HO6:=hid (hr6.more HS5.out.rc HO5.out)
      have HS6:=hid (HS5.out.andThen hr6)
      clear hr6 HTK c0 c1 c2 c3 c4 htl
      have HPT:=hid (part9_any ad j HJ4.out w6)
      obtain ⟨pt,hpt⟩:∃ pt,pt=ad/2 ^ (12+9*j):=⟨_,rfl⟩
      rw [← hpt] at HPT HMN
      clear hpt
      go_wp2_with fail
      refine (HPT.out).mono ?_
      rintro e w7 ⟨rfl,rfl⟩
      have HO7:=hid (show (w6.alloc (.cells #[.int .i64 (j:Int),.int .u64 (pt:Int),.int .i64 (f:Int)] 169)).ownsRow w3.heap.size 169 3 (.slice av M.length cap) M.length (M.map nd9C).flatten from own_below HO6.out (bal _))
      have HR7:=hid (show Rk (w6.alloc (.cells #[.int .i64 (j:Int),.int .u64 (pt:Int),.int .i64 (f:Int)] 169)) 3 (some ⟨w6.heap.size,0,none⟩) 1 ([(⟨j,pt,f⟩:ND9)].map nd9C) from rk_new w6 169 (nd9C ⟨j,pt,f⟩) rfl)
      have HS7:=hid (HS6.out.still (bal (.cells #[.int .i64 (j:Int),.int .u64 (pt:Int),.int .i64 (f:Int)] 169)))
      have HQ1:=hid (show (M.length+1)*24≤140737488355328 by have:=HML.out;omega)
      have HQ2:=hid (show M.length+1≤maxLen by have:=HML.out;unfold maxLen;omega)
      have HQ3:=hid (show w3.heap.size≤(w6.alloc (.cells #[.int .i64 (j:Int),.int .u64 (pt:Int),.int .i64 (f:Int)] 169)).heap.size from HS7.out.ex.size)
      go_wp2_with (at_builtin;go_must (refine wpList_apKo Tryz.underlying153 info_nd9 rfl (by decide) rfl _ _ rfl w3.heap.size (.slice av M.length cap) M.length (M.map nd9C) ([(⟨j,pt,f⟩:ND9)].map nd9C) rfl (some ⟨w6.heap.size,0,none⟩) 1 1 rfl HO7.out HR7.out (nd9C_ones _) (fun h=>by cases h) HQ1.out HQ2.out HQ3.out ?_;intro v8 w8 hown hgr hat;have HO8:=hid (ownM_app hown rfl rfl);have HE8:=hid (EX.of_grown hgr (fun k e _=>e):EX (fun k=>(Value.slice av M.length cap).ownBlock=some k) _ w8);clear hown hgr hat))
      have HS8:=hid (HS7.out.off HE8.out (fun k e=>by
       obtain ⟨ds,hr⟩:=own_rowK HO7.out k e
       exact ⟨_,_,hr,by decide,by decide,by decide,by decide,by decide,by decide⟩) (fun k e=>(HO7.out.lt k e).1))
      go_roundw
      case rel=>exact ⟨i,by have:=HI.out;omega,by go_num,s2,M++[⟨j,pt,f⟩],vS2,vs2,Ls2,f::hx1,HS8.out,HO8.out,HTT.out.good HGD.out,by have:=HNN.out;have:=HI.out;rw [List.length_cons];omega,by have:=HML.out;have:=HI.out;rw [List.length_append,List.length_singleton];omega,fun x hx=>by
       rcases List.mem_append.1 hx with hx|hx
       ·exact HMF.out x hx
       ·rw [List.mem_singleton.1 hx]
        refine ⟨?_,by have:=HI.out;show 1≤j;omega,by show j≤3;omega⟩
        have h1:=HTT.out.lt
        have h2:=HS.out.rc.rs.rp.n2
        unfold cnts at h2
        rw [List.length_map] at h2
        show f<1024
        omega,HTT.out.tn.trans HTNE.out,by rw [HMO.out,HMN.out,List.append_assoc];rfl⟩
      case measure=>have:=HI.out;simp [intOf];omega
     ·rw [ht] at HTK
      have HMN:=hid (show moresR root L ad 3 s0=(s1,M,4) by rw [HMO.out,HI.out,mores_none (by rw [← HI.out];exact HNF.out) ht (by decide),List.append_nil])
      clear ht
      go_wp2_with fail
      refine (HTK.out).mono ?_
      rintro e w6 ⟨rfl,vS2,vs2,Ls2,hr6⟩
      have HO6:=hid (hr6.more HS5.out.rc HO5.out)
      have HS6:=hid (HS5.out.andThen hr6)
      clear hr6 HTK c0 c1 c2 c3 c4 htl
      have d7:((4:Int) != 0)=true:=rfl
      go_wp2_with fail
      clear HZ2 HLB2 HZ HLB
      go_loopw [13] (fun v wr=>∃ m:Nat,m≤M.length∧v=.int .i64 m∧OwnM9 wr w3.heap.size (.slice av M.length cap) M∧Lim ((M.take m).foldl (fun z x=>dnC z x.f) s1)∧RSt base q a b G d vS vs w3 ((M.take m).foldl (fun z x=>dnC z x.f) s1) vS2 vs2 Ls2 wr) (fun v _=>M.length-(intOf v).toNat)
      case atStart=>exact ⟨0,Nat.zero_le _,rfl,HO6.out,HLIM.out,HS6.out⟩
      case round=>
       rename World=>wr
       obtain ⟨m,hm,rfl,hown,hlim,hst⟩:=hrel
       have HOd:=hid hown
       have HLd:=hid hlim
       have HSd:=hid hst
       have HTd:=hid (HZ3.out.t9.refr HZ3.out.rc hst)
       obtain ⟨c0,c1,c2,c3,c4⟩:=HTd.out.five
       have htl:=HTd.out.row.lt
       obtain ⟨r0,r1,r2⟩:=hst.rc.row.three
       have hrl:=hst.rc.row.lt
       clear hown hlim hst c1 c2 c3 c4 r1 r2
       have hml9:M.length≤3:=by have:=HML.out;omega
       by_cases hlt:m<M.length
       ·have d8:decide ((m:Int)<(M.length:Int))=true:=by simp;omega
        have d8n:decide (m<M.length)=true:=by simp;omega
        have i1:(0:Int)≤(m:Int):=by omega
        have i2:(m:Int)<(M.length:Int):=by omega
        obtain ⟨av',cap',e9,hrk,_⟩:=nd9_rk HOd.out
        injection e9 with e9 _ e10
        subst e9
        subst e10
        obtain ⟨bb,o,rfl,g0,g1,g2⟩:=nd9_at hrk hlt
        have hbl:=World.block_lt_of_cell? _ _ g2
        have hfd:(M.take (m+1)).foldl (fun z x=>dnC z x.f) s1=dnC ((M.take m).foldl (fun z x=>dnC z x.f) s1) M[m].f:=by rw [List.take_succ_eq_append_getElem hlt,List.foldl_append];rfl
        have HFD:=hid hfd
        have HDN:=hid (rdn9_any M[m].f wr.drew (HSd.out.rc.below (bdN (Below.refl _ _) 1)) HLd.out)
        clear hfd hrk g0 g1
        obtain ⟨y,hy⟩:∃ y,y=M[m].f:=⟨_,rfl⟩
        rw [← hy] at g2 HDN HFD
        clear hy
        go_wp2_with fail
        go_still_tail 12,(by kernel_rfl)
        show wpList _ _ _ _ _ wr.drew
        go_wp2_with fail
        refine (HDN.out).mono ?_
        rintro e w8 ⟨rfl,hr8⟩
        have HO8:=hid (hr8.more (HSd.out.rc.below (bdN (Below.refl _ _) 1)) (own_below HOd.out (bdN (Below.refl _ _) 1)))
        have HS8:=hid ((HSd.out.still (bdN (Below.refl _ _) 1)).andThen hr8)
        clear hr8 HDN
        generalize takE ((M.take m).foldl (fun z x=>dnC z x.f) s1).fs (y:Int)=te8
        go_wp2_with fail
        go_roundw
        case rel=>exact ⟨m+1,by omega,by go_num,HO8.out,by rw [HFD.out];exact HLd.out.down _,by rw [HFD.out];exact HS8.out⟩
        case measure=>simp [intOf];omega
       ·have d8:decide ((m:Int)<(M.length:Int))=false:=by simp;omega
        have d8n:decide (m<M.length)=false:=by simp;omega
        obtain rfl:m=M.length:=by omega
        rw [List.take_length] at HLd HSd
        have HBXd:=hid (HSd.out.box HZ3.out.rc HLB3.out)
        obtain ⟨z0,z1,z2⟩:=HBXd.out.three
        have hzl:=HBXd.out.lt
        have HDN:=hid (rdn9_any k wr.drew (HSd.out.rc.below (bdN (Below.refl _ _) 1)) HLd.out)
        clear z1 z2
        go_wp2_with fail
        go_still_tail 9,(by kernel_rfl)
        show wpList _ _ _ _ _ wr.drew
        go_wp2_with fail
        refine (HDN.out).mono ?_
        rintro e w8 ⟨rfl,hr8⟩
        have HS8:=hid ((HSd.out.still (bdN (Below.refl _ _) 1)).andThen hr8)
        clear hr8 HDN
        generalize takE (M.foldl (fun z x=>dnC z x.f) s1).fs (k:Int)=te8
        go_wp2_with fail
        go_ret
        rw [HRES.out,HMN.out,if_neg (show ¬ ((4:Int)=0) by decide)]
        exact ⟨rfl,_,_,_,_,_,HZ3.out.refr HS8.out⟩
end
end Go.Proofs.YtdjpjfdeeelijaaGreatDoor
