/- hostelref09: Unmap, whole. -/
import Derived.Test.YtdjpjfdeeelijaaGreatDoorW13
namespace Go.Proofs.YtdjpjfdeeelijaaGreatDoor
open Go.RowKit Go.Sort Go.Shelf Go.WideMaps Go.Maps Go.WideShapes Go.WideElems Go.MapKept Go.ChangeMaps
attribute [local go_sem] Oper.semAt_some
section
variable {base q a b G d tb root:Nat}{vS vL vP:Value}{s:CC}{vs:List Value}{Ls:List (List Int)}{L:List ND9}{P:List LF}
set_option maxRecDepth 100000 in
set_option maxHeartbeats 16000000 in
theorem unmap9R_any (ad:Nat)(had:ad<18446744073709551616)(w:World)(H:T9 w base tb d root vL vP L P false)(R:RCW w base q a b G d vS s vs Ls)(hok:FsOk s.fs)(hLm:Lim s)
 (hLl:L.length≤1000000) (hPl:P.length≤1000000) (hfr:∀ x∈L,x.f<1024) (hrt:root<1024) (hbs:base≤w.heap.size):
 Calls Tryz.prog 34 #[.pointer (some ⟨tb,0,none⟩),.int .u64 (ad:Int)] w (MapP9 base q a b G d tb root vS vL vP vs w false (unmF root s L P ad)):=by
 have HG:=hid (gone9_any w H)
 have HZ:=hid (TSt.refl H R)
 obtain ⟨res,hres⟩:∃ res,res=unmF root s L P ad:=⟨_,rfl⟩
 rw [← hres]
 have HPL:=hid hPl
 have HLL:=hid hLl
 have HMI:=hid (show FsOk s.fs∧Lim s∧(∀ x∈L,x.f<1024)∧root<1024∧base≤w.heap.size from ⟨hok,hLm,hfr,hrt,hbs⟩)
 clear H R hok hLm hLl hPl hfr hrt hbs
 by_cases hlo:ad<140737488355328
 rotate_left
 ·have HRES:=hid (show res=(s,L,P,1) by rw [hres];unfold unmF;rw [if_pos hlo])
  have d1:decide ((140737488355328:Int)≤(ad:Int))=true:=by simp;omega
  clear hres hlo
  go_enter Tryz.func34,Tryz.ntmps34
  go_wp2_with fail
  refine (HG.out).mono ?_
  rintro e w2 ⟨rfl,rfl⟩
  go_wp2_with fail
  go_ret
  rw [HRES.out]
  exact ⟨rfl,_,_,_,_,_,HZ.out⟩
 have d1:decide ((140737488355328:Int)≤(ad:Int))=false:=by simp;omega
 cases hidx:P.findIdx? (fun y=>decide (y.1=ad/4096*4096)) with
 | none=>
  have HRES:=hid (show res=(s,L,P,6) by rw [hres];unfold unmF;rw [if_neg (fun h=>h hlo),hidx])
  have HAT:=hid (atR_any ad had w HZ.out.t9 (by have:=HPL.out;omega))
  rw [(any_no hidx).2] at HAT
  clear hres hlo hidx
  go_enter Tryz.func34,Tryz.ntmps34
  go_wp2_with fail
  refine (HG.out).mono ?_
  rintro e w2 ⟨rfl,rfl⟩
  go_wp2_with fail
  refine (HAT.out).mono ?_
  rintro e w3 ⟨rfl,hb3⟩
  have HZ3:=hid (HZ.out.still hb3)
  clear hb3
  go_wp2_with fail
  go_ret
  rw [HRES.out]
  exact ⟨rfl,_,_,_,_,_,HZ3.out⟩
 | some j=>
  obtain ⟨_,hat,hj⟩:=any_idx hidx
  have HAT:=hid (atR_any ad had w HZ.out.t9 (by have:=HPL.out;omega))
  rw [hat] at HAT
  obtain ⟨fl,hfl⟩:∃ fl,fl=P[j].2.1:=⟨_,rfl⟩
  obtain ⟨P',hP'⟩:∃ P',P'=P.eraseIdx j:=⟨_,rfl⟩
  obtain ⟨gn,hgn⟩:∃ gn,gn=(nodeF root L ad 1).getD 0:=⟨_,rfl⟩
  obtain ⟨r0,hr0⟩:∃ r0:CC × List ND9 × Bool,r0=(layC (dnC s fl) gn (ixOf ad 0) 0,L,true):=⟨_,rfl⟩
  have HRES:=hid (show res=((pruF root P' ad 3 r0).1,(pruF root P' ad 3 r0).2.1,P',0) by
   rw [hres]
   unfold unmF
   rw [if_neg (fun h=>h hlo),hidx]
   simp only
   rw [getD_at9 hj,← hfl,← hgn,← hP',← hr0])
  have HPE:=hid hP'
  have HR0:=hid hr0
  have HGN:=hid hgn
  have HJ:=hid hj
  have hj0:decide ((j:Int)<0)=false:=by simp
  have hj0n:decide (j<0)=false:=by simp
  clear hres hlo hidx hat hP' hr0
  go_enter Tryz.func34,Tryz.ntmps34
  go_wp2_with fail
  refine (HG.out).mono ?_
  rintro e w2 ⟨rfl,rfl⟩
  go_wp2_with fail
  refine (HAT.out).mono ?_
  rintro e w3 ⟨rfl,hb3⟩
  have HZ3:=hid (HZ.out.still hb3)
  have HB33:=hid (show base≤w3.heap.size from Nat.le_trans HMI.out.2.2.2.2 hb3.size)
  clear hb3 HAT HG
  obtain ⟨c0,c1,c2,c3,c4⟩:=HZ3.out.t9.five
  have htl:=HZ3.out.t9.row.lt
  obtain ⟨r0c,r1c,r2c⟩:=HZ3.out.rc.row.three
  have hrl:=HZ3.out.rc.row.lt
  obtain ⟨aP,cP,rfl,hrkP,hnilP,hcapP⟩:=put_rk HZ3.out.t9.pn
  obtain ⟨bp,op,rfl,q0,q1,q2,q3⟩:=put_at hrkP hj
  have hbl:=World.block_lt_of_cell? _ _ q1
  rw [← hfl] at q1
  have i1:(0:Int)≤(j:Int):=by omega
  have i2:(j:Int)<(P.length:Int):=by omega
  have HCP:=hid (show P.length≤cP from hcapP)
  have HDN:=hid (rdn9_any fl w3.drew (HZ3.out.rc.below (bdN (Below.refl _ _) 1)) HMI.out.2.1)
  clear c1 c2 c4 r1c r2c q0 q2 q3 hrkP hnilP hcapP hgn hfl
  go_wp2_with fail
  go_still_tail 16,(by kernel_rfl)
  show wpList _ _ _ _ _ w3.drew
  go_wp2_with fail
  refine (HDN.out).mono ?_
  rintro e w4 ⟨rfl,hr4⟩
  have HZ4:=hid ((HZ3.out.still (bdN (Below.refl _ _) 1)).refr hr4)
  have HB44:=hid (show base≤w4.heap.size from Nat.le_trans HB33.out hr4.ex.size)
  clear hr4 HDN c0 c3 htl r0c hrl q1 hbl
  generalize takE s.fs (fl:Int)=te9
  have HOK4:=hid (ok_down (f:=fl) HMI.out.1)
  have HLM4:=hid (HMI.out.2.1.down fl)
  have HND:=hid (node9_any ad 1 (by omega) w4 HZ4.out.t9 (by have:=HLL.out;omega))
  have HGL:=hid (nodeF_lt (root:=root) (L:=L) (ad:=ad) (lv:=1) HMI.out.2.2.1 HMI.out.2.2.2.1)
  rw [← HGN.out] at HND HGL
  obtain ⟨gs,hgs⟩:∃ gs,gs=(nodeF root L ad 1).isSome:=⟨_,rfl⟩
  rw [← hgs] at HND
  clear hgs HGN
  go_wp2_with fail
  refine (HND.out).mono ?_
  rintro e w5 ⟨rfl,hb5⟩
  have HZ5:=hid (HZ4.out.still hb5)
  have HB55:=hid (show base≤w5.heap.size from Nat.le_trans HB44.out hb5.size)
  clear hb5 HND
  obtain ⟨ix,hix⟩:∃ ix,ix=ixOf ad 0:=⟨_,rfl⟩
  have HIX:=hid (show ix<512 by rw [hix];exact ixOf_lt ad 0)
  have HWD:=hid (show Calls Tryz.prog 86 #[.int .u64 (ad:Int),.int .i64 1] w5 (fun e w'=>e=.returned (.int .i64 (ix:Int))∧w5=w') by
   rw [hix]
   exact word9_any ad 0 (by omega) w5)
  rw [← hix] at HR0
  clear hix
  have HSET:=hid (set9R_any gn ix 0 HIX.out (by have:=HGL.out;omega) (by omega) w5 HZ5.out.t9 HZ5.out.rc HOK4.out HB55.out)
  go_wp2_with fail
  refine (HWD.out).mono ?_
  rintro e w5' ⟨rfl,rfl⟩
  go_wp2_with fail
  refine (HSET.out).mono ?_
  rintro e w6 ⟨rfl,vs6,Ls6,hr6⟩
  have HZ6:=hid (HZ5.out.refr hr6)
  have HB66:=hid (show base≤w6.heap.size from Nat.le_trans HB55.out hr6.ex.size)
  have HOK6:=hid (ok_lay (f:=gn) (x:=0) HOK4.out HIX.out)
  have HLM6:=hid (HLM4.out.lay gn ix 0)
  clear hr6 HSET HWD HOK4 HLM4
  obtain ⟨s6,hs6⟩:∃ s6,s6=layC (dnC s fl) gn ix 0:=⟨_,rfl⟩
  rw [← hs6] at HZ6 HR0 HOK6 HLM6
  clear hs6
  obtain ⟨av4,cap4,e9,hrk4,hnil4,hcap4⟩:=put_rk HZ6.out.t9.pn
  injection e9 with e9 _ e10
  subst e9
  subst e10
  have HA1:=hid (show (w6.alloc (.cells #[] 166)).ownsRow w6.heap.size 166 4 (.slice (some ⟨w6.heap.size,0,none⟩) 0 0) 0 ([]:List (List Value)).flatten from ⟨rfl,.inr ⟨w6.heap.size,0,#[],rfl,Nat.le_refl _,heap_alloc_new w6 _,Nat.le_refl _,Nat.zero_le _,rfl,rfl⟩⟩)
  have HA2:=hid (show Rk (w6.alloc (.cells #[] 166)) 4 (some ⟨bp,op,none⟩) j ((P.take j).map putC) by
   rw [List.map_take]
   exact (hrk4.below' (bal _)).prefix (Nat.le_of_lt HJ.out))
  have HTKL:=hid (show (P.take j).length=j by rw [List.length_take];have:=HJ.out;omega)
  have HA3:=hid (show (0+j)*24≤140737488355328 by have:=HPL.out;have:=HJ.out;omega)
  have HA4:=hid (show 0+j≤maxLen by have:=HPL.out;have:=HJ.out;unfold maxLen;omega)
  have HA5:=hid (show w6.heap.size≤(w6.alloc (.cells #[] 166)).heap.size by rw [World.size_alloc];omega)
  have HA8:=hid hrk4
  have hq1:=slTo4 .i64 (some ⟨bp,op,none⟩) P.length cP j (j:Int) rfl (by have:=HJ.out;have:=HCP.out;omega) (w6.alloc (.cells #[] 166))
  have HWR:=hid (show Below w6.heap.size w6 (w6.alloc (.cells #[] 166)) from bal _)
  obtain ⟨c0,c1,c2,c3,c4⟩:=HZ6.out.t9.five
  have htl:=HZ6.out.t9.row.lt
  clear hrk4 hnil4 hcap4 c0 c1 c2 c4 i1 i2
  go_upto_region 12 with (at_builtin;go_must (refine wpList_apK Tryz.underlying84 info_put9 rfl (by decide) rfl _ _ rfl w6.heap.size (.slice (some ⟨w6.heap.size,0,none⟩) 0 0) 0 [] ((P.take j).map putC) rfl (some ⟨bp,op,none⟩) j cP rfl HA1.out HA2.out (putC_ones _) (fun h=>by cases h) HA3.out HA4.out HA5.out ?_;intro v14 w14 hown hgr hbw;have HB14:=hid (HWR.out.trans hbw);have HO14:=hid (show OwnQ9 w14 w6.heap.size v14 (P.take j) from own_ext hown (by rw [HTKL.out];omega) (by simp));clear hown hgr hbw))
  clear hq1 HA1 HA2 HA3 HA4 HA5 c3 htl
  have HT15:=hid (HZ6.out.t9.below HB14.out)
  obtain ⟨c0,c1,c2,c3,c4⟩:=HT15.out.five
  have htl:=HT15.out.row.lt
  clear c0 c1 c2 c4
  obtain ⟨j1,hj1⟩:∃ j1,j1=j+1:=⟨_,rfl⟩
  have hjl:=HJ.out
  have hcp:=HCP.out
  have hpl:=HPL.out
  have e11:IntKind.i64.wrap ((j:Int)+1)=(j1:Int):=by rw [IntWalk.i64_in _ (by omega)];omega
  obtain ⟨a9,ha9⟩:∃ a9:Option Addr,a9=if cP=j1 then some (⟨bp,op,none⟩:Addr) else (some (⟨bp,op,none⟩:Addr)).map (·.add (j1*4)):=⟨_,rfl⟩
  have hq2:=slFrom4 .i64 (some ⟨bp,op,none⟩) a9 P.length cP j1 (j1:Int) rfl (by omega) ha9 w14
  have HD1:=hid (show Rk w14 4 a9 (P.length-j1) ((P.drop j1).map putC) by
   rw [List.map_drop,ha9]
   exact (HA8.out.below' HB14.out).from4 (by omega) HCP.out)
  have HD2:=hid (show a9=none→cP-j1=0 from fun h=>by
   rw [ha9] at h
   by_cases hcm:cP=j1
   ·omega
   ·rw [if_neg hcm] at h
    cases h)
  obtain ⟨nB,hnB⟩:∃ nB,nB=(P.take j).length:=⟨_,rfl⟩
  have HNB:=hid hnB
  have hnB2:nB=j:=by rw [hnB,HTKL.out]
  have HON:=hid (show w14.ownsRow w6.heap.size 166 4 v14 nB ((P.take j).map putC).flatten by rw [hnB];exact HO14.out)
  have HD3:=hid (show (nB+(P.length-j1))*24≤140737488355328 by omega)
  have HD4:=hid (show nB+(P.length-j1)≤maxLen by unfold maxLen;omega)
  have HD5:=hid HB14.out.size
  have HDL:=hid (show P.length-j1=(P.drop j1).length by rw [List.length_drop])
  have HJ1:=hid hj1
  clear ha9 hnB hnB2 hj1 hjl hcp hpl
  go_wp2_with (at_builtin;go_must (refine wpList_apK Tryz.underlying84 info_put9 rfl (by decide) rfl _ _ rfl w6.heap.size v14 nB ((P.take j).map putC) ((P.drop j1).map putC) rfl a9 (P.length-j1) (cP-j1) rfl HON.out HD1.out (putC_ones _) (fun h=>HD2.out h) HD3.out HD4.out HD5.out ?_;intro v16 w16 hown hgr hbw;have HB16:=hid (HB14.out.trans hbw);have HO16:=hid (ownQ_app hown HNB.out HDL.out);obtain ⟨a16,c16,rfl⟩:=own_hdR hown;have hT16:=HZ6.out.t9.row.below HB16.out HZ6.out.t9.row.lt;have htl16:=hT16.lt;have hfz16:=hT16.frozen 3;have hc16:=hT16.cell 3 (by simp);clear hown hgr hbw hT16))
  have HPP:=hid (show P.take j++P.drop j1=P' by rw [HPE.out,List.eraseIdx_eq_take_drop_succ,HJ1.out])
  have ht16:=HZ6.out.t9.setP (EX.of_below HB16.out) (own_from (base':=base) HO16.out HB66.out)
  rw [HPP.out] at ht16
  have HT16:=hid ht16
  clear ht16
  generalize hw7:w16.setCell ⟨tb,3,none⟩ (.slice a16 (nB+(P.length-j1)) c16)=w7 at HT16
  have HZ7:=hid (HZ6.out.own HT16.out.2 HT16.out.1 (fun x e=>.inl e) (fun x e=>.inr (own_low HO16.out (Nat.le_refl _) x e)))
  have HB77:=hid (show base≤w7.heap.size from Nat.le_trans HB66.out HT16.out.2.size)
  have HPL':=hid (show P'.length≤1000000 by rw [HPE.out];exact Nat.le_trans (List.length_eraseIdx_le ..) HPL.out)
  generalize hvP:(Value.slice a16 (nB+(P.length-j1)) c16)=vP' at HZ7
  clear htl16 hfz16 hc16 c3 htl HT16 HT15 HD1 HD2 HD3 HD4 HD5 HON HA8 hq2 HZ6 HZ5 HZ4 HZ3 HZ hw7 hvP
  go_loopw [9] (fun v wr=>∃ lv k:Nat,lv=k+1∧k≤3∧v=.int .i64 lv∧base≤wr.heap.size∧∃ s' L' vS' vs' Ls' vL',pruF root P' ad k r0=(s',L',true)∧TSt base q a b G d tb root vS vL (.slice (some ⟨bp,op,none⟩) P.length cP) vs w s' vS' vs' Ls' L' P' false vL' vP' wr∧FsOk s'.fs∧Lim s'∧(∀ x∈L',x.f<1024)∧L'.length≤1000000) (fun v _=>4-(intOf v).toNat)
  case atStart=>exact ⟨1,0,rfl,by omega,rfl,HB77.out,s6,L,vS,vs6,Ls6,vL,by rw [HR0.out];rfl,HZ7.out,HOK6.out,HLM6.out,HMI.out.2.2.1,HLL.out⟩
  case round=>
   obtain ⟨lv,k,hlv,hk,rfl,hsz,s',L',vS',vs',Ls',vL',hpr,hst,hfo,hli,hfr,hLl⟩:=hrel
   have HSZ:=hid hsz
   have HPR:=hid hpr
   have HS:=hid hst
   have HFO:=hid hfo
   have HLI:=hid hli
   have HFR:=hid hfr
   have HLL':=hid hLl
   have HK:=hid (show lv=k+1∧k≤3 from ⟨hlv,hk⟩)
   clear hsz hpr hst hfo hli hfr hLl
   by_cases hlt:lv≤3
   ·have hlt':lv≤3:=hlt
    have d8:decide ((lv:Int)≤3)=true:=by simp;omega
    have d8n:decide (lv≤3)=true:=by simp;omega
    have HUS:=hid (used9_any ad lv (by omega) wr HS.out.t9 (by have:=HPL'.out;omega))
    cases hu:usedF P' ad lv with
    | true=>
     rw [hu] at HUS
     have HEND:=hid (show res=(s',L',P',0) by
      rw [HRES.out]
      have h1:=pru_used HPR.out (show usedF P' ad (k+1)=true by rw [← hlv];exact hu)
      rw [pru_stop (k:=k+1) (by omega) (by rw [h1]),h1])
     clear hu hlv hk
     go_wp2_with fail
     refine (HUS.out).mono ?_
     rintro e w8 ⟨rfl,hb8⟩
     have HS8:=hid (HS.out.still hb8)
     clear hb8
     go_wp2_with fail
     go_ret
     rw [HEND.out]
     exact ⟨rfl,_,_,_,_,_,HS8.out⟩
    | false=>
     rw [hu] at HUS
     have HGO:=hid (pru_go HPR.out (show usedF P' ad (k+1)=false by rw [← hlv];exact hu))
     obtain ⟨fn,hfn⟩:∃ fn,fn=(nodeF root L' ad lv).getD 0:=⟨_,rfl⟩
     obtain ⟨l1,hl1⟩:∃ l1,l1=lv+1:=⟨_,rfl⟩
     obtain ⟨gn2,hgn2⟩:∃ gn2,gn2=(nodeF root L' ad l1).getD 0:=⟨_,rfl⟩
     obtain ⟨ix2,hix2⟩:∃ ix2,ix2=ixOf ad lv:=⟨_,rfl⟩
     rw [show k+2=l1 by omega,show k+1=lv by omega,← hfn,← hgn2,← hix2] at HGO
     have HIX2:=hid (show ix2<512 by rw [hix2];exact ixOf_lt ad lv)
     have HGL2:=hid (show gn2<1024 by rw [hgn2];exact nodeF_lt HFR.out HMI.out.2.2.2.1)
     have e12:IntKind.i64.wrap ((lv:Int)+1)=(l1:Int):=by rw [IntWalk.i64_in _ (by omega)];omega
     have HN1:=hid (fun ww (T:T9 ww base tb d root vL' vP' L' P' false)=>show Calls Tryz.prog 83 #[.pointer (some ⟨tb,0,none⟩),.int .u64 (ad:Int),.int .i64 (lv:Int)] ww (fun e w'=>e=.returned (.tuple #[.int .i64 (fn:Int),.bool (nodeF root L' ad lv).isSome])∧Below ww.heap.size ww w') by
      rw [hfn]
      exact node9_any ad lv (by omega) ww T (by have:=HLL'.out;omega))
     have HN2:=hid (fun ww (T:T9 ww base tb d root vL' vP' L' P' false)=>show Calls Tryz.prog 83 #[.pointer (some ⟨tb,0,none⟩),.int .u64 (ad:Int),.int .i64 (l1:Int)] ww (fun e w'=>e=.returned (.tuple #[.int .i64 (gn2:Int),.bool (nodeF root L' ad l1).isSome])∧Below ww.heap.size ww w') by
      rw [hgn2]
      exact node9_any ad l1 (by omega) ww T (by have:=HLL'.out;omega))
     generalize (nodeF root L' ad lv).isSome=b1 at HN1
     generalize (nodeF root L' ad l1).isSome=b2 at HN2
     have HW2:=hid (fun ww=>show Calls Tryz.prog 86 #[.int .u64 (ad:Int),.int .i64 (l1:Int)] ww (fun e w'=>e=.returned (.int .i64 (ix2:Int))∧ww=w') by
      rw [hix2,hl1]
      exact word9_any ad lv (by omega) ww)
     have HL1:=hid (show l1=lv+1 from hl1)
     clear hu hlv hk hfn hl1 hgn2 hix2
     go_wp2_with fail
     refine (HUS.out).mono ?_
     rintro e w8 ⟨rfl,hb8⟩
     have HS8:=hid (HS.out.still hb8)
     have HZ88:=hid (Nat.le_trans HSZ.out hb8.size)
     clear hb8 HUS
     go_wp2_with fail
     refine (HN1.out w8 HS8.out.t9).mono ?_
     rintro e w9 ⟨rfl,hb9⟩
     have HS9:=hid (HS8.out.still hb9)
     have HZ99:=hid (Nat.le_trans HZ88.out hb9.size)
     clear hb9
     go_wp2_with fail
     refine (HN2.out w9 HS9.out.t9).mono ?_
     rintro e w10 ⟨rfl,hb10⟩
     have HS10:=hid (HS9.out.still hb10)
     have HZ10:=hid (Nat.le_trans HZ99.out hb10.size)
     clear hb10
     have HSET:=hid (set9R_any gn2 ix2 0 HIX2.out (by have:=HGL2.out;omega) (by omega) w10 HS10.out.t9 HS10.out.rc HFO.out HZ10.out)
     go_wp2_with fail
     refine (HW2.out w10).mono ?_
     rintro e w10' ⟨rfl,rfl⟩
     go_wp2_with fail
     refine (HSET.out).mono ?_
     rintro e w11 ⟨rfl,vs11,Ls11,hr11⟩
     have HS11:=hid (HS10.out.refr hr11)
     have HZ11:=hid (Nat.le_trans HZ10.out hr11.ex.size)
     have HLI2:=hid (HLI.out.lay gn2 ix2 0)
     have HFO2:=hid (ok_down (f:=fn) (ok_lay (f:=gn2) (x:=0) HFO.out HIX2.out))
     clear hr11 HSET
     obtain ⟨c0,c1,c2,c3,c4⟩:=HS11.out.t9.five
     have htl:=HS11.out.t9.row.lt
     obtain ⟨r0c,r1c,r2c⟩:=HS11.out.rc.row.three
     have hrl:=HS11.out.rc.row.lt
     have HDN:=hid (rdn9_any fn w11 HS11.out.rc HLI2.out)
     clear c1 c3 c4 r1c r2c
     go_wp2_with fail
     refine (HDN.out).mono ?_
     rintro e w12 ⟨rfl,hr12⟩
     have HS12:=hid (HS11.out.refr hr12)
     have HZ12:=hid (Nat.le_trans HZ11.out hr12.ex.size)
     clear hr12 HDN c0 c2 htl r0c hrl
     generalize takE (layC s' gn2 ix2 0).fs (fn:Int)=te12
     obtain ⟨aL,cL,rfl,hrkL,hnilL,hcapL⟩:=nd9_rk HS12.out.t9.ln
     have HRKL:=hid hrkL
     clear hrkL hnilL hcapL
     go_wp2_with fail
     go_loopw [14,15] (fun v i wr=>∃ m:Nat,m≤L'.length∧i=.int .i64 m∧OwnM9 wr w12.heap.size v ((L'.take m).filter (fun x=>decide (x.f≠fn)))∧Below w12.heap.size w12 wr) (fun _ i _=>L'.length-(intOf i).toNat)
     case atStart=>exact ⟨0,Nat.zero_le _,rfl,World.ownsRow_nil _ _ _ _,Below.refl _ _⟩
     case round=>
      rename World=>wr
      obtain ⟨m,hm,rfl,hown,hb⟩:=hrel
      have HO:=hid hown
      have HB:=hid hb
      have HTm:=hid (HS12.out.t9.below hb)
      obtain ⟨c0,c1,c2,c3,c4⟩:=HTm.out.five
      have htl:=HTm.out.row.lt
      have hll9:L'.length≤1000000:=HLL'.out
      clear hown hb c0 c1 c3 c4
      by_cases hlt:m<L'.length
      ·have d9:decide ((m:Int)<(L'.length:Int))=true:=by simp;omega
       have d9n:decide (m<L'.length)=true:=by simp;omega
       have i1:(0:Int)≤(m:Int):=by omega
       have i2:(m:Int)<(L'.length:Int):=by omega
       obtain ⟨bb,o,rfl,g0,g1,g2⟩:=nd9_at (HRKL.out.below' HB.out) hlt
       have hbl:=World.block_lt_of_cell? _ _ g2
       simp only [Nat.add_zero] at g0
       have HFI:=hid (filter_snoc9 (fun x:ND9=>decide (x.f≠fn)) hlt)
       have hfl:((L'.take m).filter (fun x=>decide (x.f≠fn))).length≤m:=Nat.le_trans (List.length_filter_le _ _) (by rw [List.length_take];omega)
       have HFL:=hid hfl
       clear hfl
       obtain ⟨F,hF⟩:∃ F,F=(L'.take m).filter (fun x=>decide (x.f≠fn)):=⟨_,rfl⟩
       rw [← hF] at HO HFL HFI
       obtain ⟨y,hy⟩:∃ y,y=L'[m]:=⟨_,rfl⟩
       rw [← hy] at g0 g1 g2 HFI
       clear hF hy
       by_cases hc:y.f=fn
       ·have d10:((y.f:Int) != (fn:Int))=false:=by simp [hc]
        have d10n:(y.f != fn)=false:=by simp [hc]
        have HFE:=hid (show (L'.take (m+1)).filter (fun x=>decide (x.f≠fn))=F by rw [HFI.out,if_neg (by simp [hc])])
        clear hc
        go_wp2_with fail
        go_roundw
        case rel=>exact ⟨m+1,by omega,by go_num,by rw [HFE.out];exact HO.out,HB.out⟩
        case measure=>simp [intOf];omega
       ·have d10:((y.f:Int) != (fn:Int))=true:=by simp;omega
        have d10n:(y.f != fn)=true:=by simp;omega
        have HFE:=hid (show (L'.take (m+1)).filter (fun x=>decide (x.f≠fn))=F++[y] by rw [HFI.out,if_pos (by simp [hc])])
        have HP1:=hid (show (wr.alloc (.cells #[.int .i64 (y.lv:Int),.int .u64 (y.pt:Int),.int .i64 (y.f:Int)] 169)).ownsRow w12.heap.size 169 3 _ F.length (F.map nd9C).flatten from own_below HO.out (bal _))
        have HP2:=hid (show Rk (wr.alloc (.cells #[.int .i64 (y.lv:Int),.int .u64 (y.pt:Int),.int .i64 (y.f:Int)] 169)) 3 (some ⟨wr.heap.size,0,none⟩) 1 ([y].map nd9C) from rk_new wr 169 (nd9C y) rfl)
        have HP3:=hid (show (F.length+1)*24≤140737488355328 by have:=HFL.out;omega)
        have HP4:=hid (show F.length+1≤maxLen by have:=HFL.out;unfold maxLen;omega)
        have HP6:=hid (show Below w12.heap.size w12 (wr.alloc (.cells #[.int .i64 (y.lv:Int),.int .u64 (y.pt:Int),.int .i64 (y.f:Int)] 169)) from HB.out.alloc HB.out.size _)
        have HP5:=hid HP6.out.size
        clear hc
        go_wp2_with (at_builtin;go_must (refine wpList_apK Tryz.underlying153 info_nd9 rfl (by decide) rfl _ _ rfl w12.heap.size _ F.length (F.map nd9C) ([y].map nd9C) rfl (some ⟨wr.heap.size,0,none⟩) 1 1 rfl HP1.out HP2.out (nd9C_ones _) (fun h=>by cases h) HP3.out HP4.out HP5.out ?_;intro v14 w14 hown hgr hbw;have HB14:=hid (HP6.out.trans hbw);have HO14:=hid (ownM_app hown rfl rfl);clear hown hgr hbw))
        go_roundw
        case rel=>exact ⟨m+1,by omega,by go_num,by rw [HFE.out];exact HO14.out,HB14.out⟩
        case measure=>simp [intOf];omega
      ·have d9:decide ((m:Int)<(L'.length:Int))=false:=by simp;omega
       have d9n:decide (m<L'.length)=false:=by simp;omega
       obtain rfl:m=L'.length:=by omega
       rw [List.take_length] at HO
       obtain ⟨a14,c14,rfl⟩:=own_hdR HO.out
       have hfz:=HTm.out.row.frozen 2
       obtain ⟨F,hF⟩:∃ F,F=L'.filter (fun x=>decide (x.f≠fn)):=⟨_,rfl⟩
       rw [← hF] at HO HGO
       have HFF:=hid (show (∀ x∈F,x.f<1024)∧F.length≤1000000 by
        rw [hF]
        exact ⟨fun x hx=>HFR.out x ((List.mem_filter.1 hx).1),Nat.le_trans (List.length_filter_le _ _) HLL'.out⟩)
       rw [← hF]
       have ht:=HS12.out.t9.setL (EX.of_below HB.out) (own_from (base':=base) HO.out HZ12.out)
       have HTT:=hid ht
       have HSF:=hid (HS12.out.own ht.2 ht.1 (fun x e=>.inr (own_low HO.out (Nat.le_refl _) x e)) (fun x e=>.inl e))
       have HZF:=hid (Nat.le_trans HZ12.out ht.2.size)
       have e13:IntKind.i64.wrap ((lv:Int)+1)=(l1:Int):=e12
       clear hF ht
       go_wp2_with fail
       go_roundw
       case rel=>exact ⟨l1,lv,HL1.out,hlt',by go_num,HZF.out,_,F,vS',vs11,Ls11,_,HGO.out,HSF.out,HFO2.out,HLI2.out.down fn,HFF.out.1,HFF.out.2⟩
       case measure=>have:=HL1.out;simp [intOf];omega
   ·have d8:decide ((lv:Int)≤3)=false:=by simp;omega
    have d8n:decide (lv≤3)=false:=by simp;omega
    obtain rfl:k=3:=by omega
    have HEND:=hid (show res=(s',L',P',0) by rw [HRES.out,HPR.out])
    clear hlv hk
    go_wp2_with fail
    go_ret
    rw [HEND.out]
    exact ⟨rfl,_,_,_,_,_,HS.out⟩
end
end Go.Proofs.YtdjpjfdeeelijaaGreatDoor
