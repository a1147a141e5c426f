/- hostelref09: Set, whole. -/
import Derived.Test.YtdjpjfdeeelijaaGreatDoorW13
namespace Go.Proofs.YtdjpjfdeeelijaaGreatDoor
open Go.RowKit Go.Sort Go.Shelf Go.WideMaps Go.Maps Go.WideShapes Go.WideElems Go.MapKept Go.ChangeMaps
attribute [local go_sem] Oper.semAt_some
theorem ok_up {s:CC}{f:Nat}(h:FsOk s.fs):FsOk (upC s f).fs:=by
 show FsOk (upS s.fs (f:Int))
 unfold upS
 split
 ·exact h
 ·rename_i h0
  obtain ⟨k,hk,e1,e2⟩:=cnt_is h0
  refine h.set _ ?_
  have e3:k=f:=by omega
  subst e3
  show ((s.fs.getD (((k:Nat):Int).toNat) default).bs).length=4096
  rw [Int.toNat_natCast,List.getD_eq_getElem?_getD,List.getElem?_eq_getElem hk]
  exact h _ (List.getElem_mem hk)
section
variable {base q a b G d tb root:Nat}{vS vL vP:Value}{s:CC}{vs:List Value}{Ls:List (List Int)}{L:List ND9}{P:List LF}
set_option maxRecDepth 100000 in
set_option maxHeartbeats 16000000 in
theorem setBad_any (ad:Nat)(had:ad<18446744073709551616)(la lq:Int)(lb:Bool)(hq0:0≤lq)(hok:¬ (ad<140737488355328∧rightB s la lq=true))(w:World)(H:T9 w base tb d root vL vP L P false)(R:RCW w base q a b G d vS s vs Ls):
 Calls Tryz.prog 35 #[.pointer (some ⟨tb,0,none⟩),.int .u64 (ad:Int),.agg #[.int .i64 la,.int .u8 lq,.bool lb]] w (MapP9 base q a b G d tb root vS vL vP vs w false (s,L,P,1)):=by
 obtain ⟨w1,hw1⟩:∃ w1,w1=w.alloc (.cells #[.int .i64 la,.int .u8 lq,.bool lb] 31):=⟨_,rfl⟩
 have HB1:=hid (show Below w.heap.size w w1 by rw [hw1];exact bal _)
 have HLB:=hid (show Row w1 w.heap.size 31 [.int .i64 la,.int .u8 lq,.bool lb] by rw [hw1];exact Row.new w _ _)
 have HW1:=hid hw1
 have HG:=hid (gone9_any w1 (H.below HB1.out))
 have HZ:=hid ((TSt.refl H R).still HB1.out)
 have HCT:=hid (fun n=>show Calls Tryz.prog 48 #[.pointer (some ⟨q,0,none⟩),.int .i64 la] (w1.drewN n) (fun e w'=>e=.returned (.int .i64 (cntF s.fs la))∧w1.drewN n=w') by
  have:=rcount_any q a b (cnts s.fs) vs la (w1.drewN n) ((HZ.out.rc.rs.rp).below (bdN (Below.refl _ _) n))
  rw [rcnt_map s.fs la] at this
  exact this)
 obtain ⟨c0,c1,c2,c3,c4⟩:=HZ.out.t9.five
 have htl:=HZ.out.t9.row.lt
 obtain ⟨r0,r1,r2⟩:=HZ.out.rc.row.three
 have hrl:=HZ.out.rc.row.lt
 obtain ⟨z0,z1,z2⟩:=HLB.out.three
 have hzl:=HLB.out.lt
 obtain ⟨cn,hcn⟩:∃ cn,cn=cntF s.fs la:=⟨_,rfl⟩
 rw [← hcn] at HCT
 have hcn0:0≤cn:=by rw [hcn];exact cntF_nn HZ.out.rc.h0 la
 have hT:(¬ ad<140737488355328)∨(ad<140737488355328∧¬ lq≤7)∨(ad<140737488355328∧lq≤7∧cn=0):=by
  unfold rightB at hok
  rw [← hcn] at hok
  simp only [Bool.and_eq_true,decide_eq_true_eq] at hok
  omega
 clear H R hw1 hok c1 c2 c3 c4 hcn hcn0
 rcases hT with hT|⟨t1,hT⟩|⟨t1,t3,hT⟩
 ·have d1:decide ((140737488355328:Int)≤(ad:Int))=true:=by simp;omega
  clear hT
  go_enter Tryz.func35,Tryz.ntmps35
  go_wp2_with fail
  rw [← HW1.out]
  refine (HG.out).mono ?_
  rintro e w2 ⟨rfl,rfl⟩
  go_wp2_with fail
  go_quiet ((go_at_call 48;exact Calls.quiet_of_same ((HCT.out _).mono (fun _ _ h=>⟨h.1,h.2.symm⟩))))
  go_wp2_with fail
  go_ret
  exact ⟨rfl,_,_,_,_,_,HZ.out.still (bdN (Below.refl _ _) _)⟩
 ·have d1:decide ((140737488355328:Int)≤(ad:Int))=false:=by simp;omega
  have d3:decide (7<lq)=true:=by simp;omega
  clear hT t1
  go_enter Tryz.func35,Tryz.ntmps35
  go_wp2_with fail
  rw [← HW1.out]
  refine (HG.out).mono ?_
  rintro e w2 ⟨rfl,rfl⟩
  go_wp2_with fail
  go_quiet ((go_at_call 48;exact Calls.quiet_of_same ((HCT.out _).mono (fun _ _ h=>⟨h.1,h.2.symm⟩))))
  go_wp2_with fail
  go_ret
  exact ⟨rfl,_,_,_,_,_,HZ.out.still (bdN (Below.refl _ _) _)⟩
 ·have d1:decide ((140737488355328:Int)≤(ad:Int))=false:=by simp;omega
  have d3:decide (7<lq)=false:=by simp;omega
  subst hT
  clear t1 t3
  go_enter Tryz.func35,Tryz.ntmps35
  go_wp2_with fail
  rw [← HW1.out]
  refine (HG.out).mono ?_
  rintro e w2 ⟨rfl,rfl⟩
  go_wp2_with fail
  go_quiet ((go_at_call 48;exact Calls.quiet_of_same ((HCT.out _).mono (fun _ _ h=>⟨h.1,h.2.symm⟩))))
  go_wp2_with fail
  go_ret
  exact ⟨rfl,_,_,_,_,_,HZ.out.still (bdN (Below.refl _ _) _)⟩
set_option maxRecDepth 100000 in
set_option maxHeartbeats 16000000 in
theorem set9T_any (ad:Nat)(had:ad<18446744073709551616)(la lq:Int)(lb:Bool)(hq0:0≤lq)(w:World)(H:T9 w base tb d root vL vP L P false)(R:RCW w base q a b G d vS s vs Ls)(hok:FsOk s.fs)(hLm:Lim s)(hLu:rightB s la lq=true→Lim (upC s la.toNat))
 (hLl:L.length≤1000000) (hPl:P.length≤1000000) (hfr:∀ x∈L,x.f<1024) (hrt:root<1024) (hbs:base≤w.heap.size):
 Calls Tryz.prog 35 #[.pointer (some ⟨tb,0,none⟩),.int .u64 (ad:Int),.agg #[.int .i64 la,.int .u8 lq,.bool lb]] w (MapP9 base q a b G d tb root vS vL vP vs w false (setF root s L P ad la lq lb)):=by
 by_cases hT:ad<140737488355328∧rightB s la lq=true
 rotate_left
 ·have e:setF root s L P ad la lq lb=(s,L,P,1):=by unfold setF;rw [if_pos hT]
  rw [e]
  exact setBad_any ad had la lq lb hq0 hT w H R
 have hT':=hT
 obtain ⟨hlo,hri⟩:=hT
 obtain ⟨res,hres⟩:∃ res,res=setF root s L P ad la lq lb:=⟨_,rfl⟩
 rw [← hres]
 unfold setF at hres
 rw [if_neg (fun h=>h hT')] at hres
 have hLv:=hLu hri
 obtain ⟨k,r,rfl,rfl,h7,htk⟩:=rightB_is hri hq0
 rw [Int.toNat_natCast,Int.toNat_natCast] at hres
 rw [Int.toNat_natCast] at hLv
 obtain ⟨w1,hw1⟩:∃ w1,w1=w.alloc (.cells #[.int .i64 (k:Int),.int .u8 (r:Int),.bool lb] 31):=⟨_,rfl⟩
 have HB1:=hid (show Below w.heap.size w w1 by rw [hw1];exact bal _)
 have HLB:=hid (show Row w1 w.heap.size 31 [.int .i64 (k:Int),.int .u8 (r:Int),.bool lb] by rw [hw1];exact Row.new w _ _)
 have HW1:=hid hw1
 have HG:=hid (gone9_any w1 (H.below HB1.out))
 have HZ:=hid ((TSt.refl H R).still HB1.out)
 have HCT:=hid (fun n=>show Calls Tryz.prog 48 #[.pointer (some ⟨q,0,none⟩),.int .i64 (k:Int)] (w1.drewN n) (fun e w'=>e=.returned (.int .i64 (cntF s.fs (k:Int)))∧w1.drewN n=w') by
  have:=rcount_any q a b (cnts s.fs) vs (k:Int) (w1.drewN n) ((HZ.out.rc.rs.rp).below (bdN (Below.refl _ _) n))
  rw [rcnt_map s.fs (k:Int)] at this
  exact this)
 obtain ⟨c0,c1,c2,c3,c4⟩:=HZ.out.t9.five
 have htl:=HZ.out.t9.row.lt
 obtain ⟨r0,r1,r2⟩:=HZ.out.rc.row.three
 have hrl:=HZ.out.rc.row.lt
 obtain ⟨z0,z1,z2⟩:=HLB.out.three
 have hzl:=HLB.out.lt
 obtain ⟨cn,hcn⟩:∃ cn,cn=cntF s.fs (k:Int):=⟨_,rfl⟩
 rw [← hcn] at HCT
 have hcn0:cn≠0:=by
  obtain ⟨ha,h0⟩:=htk
  rw [hcn,cntF_at ha]
  exact h0
 have d1:decide ((140737488355328:Int)≤(ad:Int))=false:=by simp;omega
 have d3:decide ((7:Int)<(r:Int))=false:=by simp;omega
 have d3n:decide (7<r)=false:=by simp;omega
 have d4:(cn==0)=false:=by simpa using hcn0
 have HPL:=hid hPl
 have HLL:=hid hLl
 have HMI:=hid (show FsOk s.fs∧Lim s∧Lim (upC s k)∧(∀ x∈L,x.f<1024)∧root<1024∧base≤w.heap.size∧r≤7∧k<1024 from ⟨hok,hLm,hLv,hfr,hrt,hbs,h7,by
  obtain ⟨ha,_⟩:=htk
  have:=R.rs.rp.n2
  unfold cnts at this
  rw [List.length_map] at this
  omega⟩)
 clear H R hw1 c1 c2 c3 c4 hcn hcn0 hPl hLl hok hLm hLu hLv hfr hrt hbs h7 htk hri hT' hlo
 cases hidx:P.findIdx? (fun y=>decide (y.1=ad/4096*4096)) with
 | none=>
  have HRES:=hid (show res=(s,L,P,6) by rw [hres,hidx])
  have HAD:=hid (any_no hidx).2
  clear hres hidx
  go_enter Tryz.func35,Tryz.ntmps35
  go_wp2_with fail
  rw [← HW1.out]
  refine (HG.out).mono ?_
  rintro e w2 ⟨rfl,rfl⟩
  go_wp2_with fail
  go_quiet ((go_at_call 48;exact Calls.quiet_of_same ((HCT.out _).mono (fun _ _ h=>⟨h.1,h.2.symm⟩))))
  clear z0 z1 z2 hzl c0 htl r0 r1 r2 hrl
  generalize hwq:w1.drewN nq=wq
  have HBQ:=hid (show Below w1.heap.size w1 wq by rw [← hwq];exact bdN (Below.refl _ _) _)
  clear hwq HCT
  have HZ2:=hid (HZ.out.still HBQ.out)
  have HAT:=hid (atR_any ad had wq HZ2.out.t9 (by have:=HPL.out;omega))
  rw [HAD.out] at HAT
  go_wp2_with fail
  refine (HAT.out).mono ?_
  rintro e w3 ⟨rfl,hb3⟩
  have HZ3:=hid (HZ2.out.still hb3)
  clear hb3
  go_wp2_with fail
  go_ret
  rw [HRES.out]
  exact ⟨rfl,_,_,_,_,_,HZ3.out⟩
 | some j=>
  obtain ⟨_,hat,hj⟩:=any_idx hidx
  have HAD:=hid hat
  have hadj:P[j].1=ad/4096*4096:=by
   exact of_decide_eq_true (List.findIdx?_eq_some_iff_getElem.1 hidx).2.1
  obtain ⟨fl,hfl⟩:∃ fl,fl=P[j].2.1:=⟨_,rfl⟩
  obtain ⟨gn,hgn⟩:∃ gn,gn=(nodeF root L ad 1).getD 0:=⟨_,rfl⟩
  have HRES:=hid (show res=(layC (dnC (upC s k) fl) gn (ixOf ad 0) (wdT (.lf k r lb)),L,P.set j (ad/4096*4096,k,r,lb),0) by
   rw [hres,hidx]
   simp only
   rw [getD_at9 hj,hfl,hgn])
  have HGN:=hid hgn
  have HADJ:=hid hadj
  have HJ:=hid hj
  have hj0:decide ((j:Int)<0)=false:=by simp
  have hj0n:decide (j<0)=false:=by simp
  clear hres hidx hat hadj
  go_enter Tryz.func35,Tryz.ntmps35
  go_wp2_with fail
  rw [← HW1.out]
  refine (HG.out).mono ?_
  rintro e w2 ⟨rfl,rfl⟩
  go_wp2_with fail
  go_quiet ((go_at_call 48;exact Calls.quiet_of_same ((HCT.out _).mono (fun _ _ h=>⟨h.1,h.2.symm⟩))))
  clear z0 z1 z2 hzl c0 htl r0 r1 r2 hrl
  generalize hwq:w1.drewN nq=wq
  have HBQ:=hid (show Below w1.heap.size w1 wq by rw [← hwq];exact bdN (Below.refl _ _) _)
  clear hwq HCT
  have HZ2:=hid (HZ.out.still HBQ.out)
  have HLB2:=hid (HLB.out.below HBQ.out HLB.out.lt)
  have HAT:=hid (atR_any ad had wq HZ2.out.t9 (by have:=HPL.out;omega))
  rw [HAD.out] at HAT
  go_wp2_with fail
  refine (HAT.out).mono ?_
  rintro e w3 ⟨rfl,hb3⟩
  have HZ3:=hid (HZ2.out.still hb3)
  have HLB3:=hid (HLB2.out.below hb3 HLB2.out.lt)
  have HB33:=hid (show base≤w3.heap.size from Nat.le_trans HMI.out.2.2.2.2.2.1 HZ3.out.ex.size)
  clear hb3 HAT HG
  obtain ⟨c0,c1,c2,c3,c4⟩:=HZ3.out.t9.five
  have htl:=HZ3.out.t9.row.lt
  obtain ⟨r0,r1,r2⟩:=HZ3.out.rc.row.three
  have hrl:=HZ3.out.rc.row.lt
  obtain ⟨z0,z1,z2⟩:=HLB3.out.three
  have hzl:=HLB3.out.lt
  have HUP:=hid (rup9_any k w3.drew (HZ3.out.rc.below (bdN (Below.refl _ _) 1)) HMI.out.2.1)
  clear c1 c2 c3 c4 r1 r2 z1 z2
  go_wp2_with fail
  go_still_tail 9,(by kernel_rfl)
  show wpList _ _ _ _ _ w3.drew
  go_wp2_with fail
  refine (HUP.out).mono ?_
  rintro e w4 ⟨rfl,hr4⟩
  have HLB4:=hid (hr4.box (HZ3.out.rc.below (bdN (Below.refl _ _) 1)) (HLB3.out.below (bdN (Below.refl _ _) 1) HLB3.out.lt))
  have HZ4:=hid ((HZ3.out.still (bdN (Below.refl _ _) 1)).refr hr4)
  have HB44:=hid (show base≤w4.heap.size from Nat.le_trans HB33.out hr4.ex.size)
  clear hr4 HUP c0 htl r0 hrl z0 hzl
  generalize takE s.fs (k:Int)=te9
  obtain ⟨c0,c1,c2,c3,c4⟩:=HZ4.out.t9.five
  have htl:=HZ4.out.t9.row.lt
  obtain ⟨r0,r1,r2⟩:=HZ4.out.rc.row.three
  have hrl:=HZ4.out.rc.row.lt
  obtain ⟨aP,cP,rfl,hrkP,hnilP,hcapP⟩:=put_rk HZ4.out.t9.pn
  obtain ⟨GP,op,rfl,q0,q1,q2,q3⟩:=put_at hrkP hj
  obtain rfl:op=0:=by
   rcases HZ4.out.t9.pn.2 with ⟨e,_⟩|⟨g,c,u,e,_⟩
   ·cases e
   ·cases e
    rfl
  have hbl:=World.block_lt_of_cell? _ _ q1
  rw [← hfl] at q1
  simp only [Nat.zero_add] at q1
  have i1:(0:Int)≤(j:Int):=by omega
  have i2:(j:Int)<(P.length:Int):=by omega
  have HDN:=hid (rdn9_any fl w4.drew (HZ4.out.rc.below (bdN (Below.refl _ _) 1)) HMI.out.2.2.1)
  clear c1 c2 c4 r1 r2 q0 q2 q3 hrkP hnilP hcapP hgn hfl
  go_wp2_with fail
  go_still_tail 16,(by kernel_rfl)
  show wpList _ _ _ _ _ w4.drew
  go_wp2_with fail
  refine (HDN.out).mono ?_
  rintro e w5 ⟨rfl,hr5⟩
  have HLB5:=hid (hr5.box (HZ4.out.rc.below (bdN (Below.refl _ _) 1)) (HLB4.out.below (bdN (Below.refl _ _) 1) HLB4.out.lt))
  have HZ5:=hid ((HZ4.out.still (bdN (Below.refl _ _) 1)).refr hr5)
  have HB55:=hid (show base≤w5.heap.size from Nat.le_trans HB44.out hr5.ex.size)
  clear hr5 HDN c0 c3 htl r0 hrl q1 hbl
  generalize takE (upC s k).fs (fl:Int)=te5
  have HOK5:=hid (ok_down (f:=fl) (ok_up (f:=k) HMI.out.1))
  obtain ⟨s5,hs5⟩:∃ s5,s5=dnC (upC s k) fl:=⟨_,rfl⟩
  rw [← hs5] at HZ5 HRES HOK5
  clear hs5
  obtain ⟨c0,c1,c2,c3,c4⟩:=HZ5.out.t9.five
  have htl:=HZ5.out.t9.row.lt
  obtain ⟨z0,z1,z2⟩:=HLB5.out.three
  have hzl:=HLB5.out.lt
  obtain ⟨aP',cP',e9,hrkP,_⟩:=put_rk HZ5.out.t9.pn
  injection e9 with e9 _ e10
  subst e9
  subst e10
  obtain ⟨GP',op',e9,q0,q1,q2,q3⟩:=put_at hrkP HJ.out
  injection e9 with e9
  injection e9 with e9 e10
  subst e9
  subst e10
  obtain ⟨ds,hrowP⟩:=own_rowK HZ5.out.t9.pn GP rfl
  have hbl:=hrowP.lt
  have y1:=hrowP.frozen (j*4+1)
  have y2:=hrowP.frozen (j*4+2)
  have y3:=hrowP.frozen (j*4+3)
  simp only [Nat.zero_add] at q1 q2 q3
  clear c0 c1 c2 c4 q0 hrkP hrowP
  go_wp2_with fail
  go_still_tail 8,(by kernel_rfl)
  show wpList _ _ _ _ _ w5.drew
  go_wp2_with fail
  obtain ⟨w6,hw6⟩:∃ w6,w6=((w5.setCell ⟨GP,j*4+1,none⟩ (.int .i64 (k:Int))).setCell ⟨GP,j*4+2,none⟩ (.int .u8 (r:Int))).setCell ⟨GP,j*4+3,none⟩ (.bool lb):=⟨_,rfl⟩
  have hpk:=HZ5.out.t9.poke HJ.out k r lb
  rw [← hw6,HADJ.out] at hpk
  have HPK:=hid hpk
  have HZ6:=hid (HZ5.out.own HPK.out.2 HPK.out.1 (fun x e=>.inl e) (fun x e=>.inl e))
  have HLB6:=hid (HPK.out.2.row HLB5.out (by
   rintro (e|e|e)
   ·exact row_tys HLB5.out HZ5.out.t9.row (by decide) e
   ·exact own_row_neK HZ5.out.t9.ln HLB5.out (by decide) e.symm
   ·exact own_row_neK HZ5.out.t9.pn HLB5.out (by decide) e.symm))
  have HB66:=hid (Nat.le_trans HB55.out HPK.out.2.size)
  generalize hwx:(((w5.setCell ⟨GP,j*4+1,none⟩ (.int .i64 (k:Int))).setCell ⟨GP,j*4+1+1,none⟩ (.int .u8 (r:Int))).setCell ⟨GP,j*4+1+2,none⟩ (.bool lb)).drew=w7
  have HB67:=hid (show Below w6.heap.size w6 w7 by
   rw [← hwx,hw6]
   exact bdN (Below.refl _ _) 1)
  have HZ7:=hid (HZ6.out.still HB67.out)
  have HLB7:=hid (HLB6.out.below HB67.out HLB6.out.lt)
  have HB77:=hid (Nat.le_trans HB66.out HB67.out.size)
  have HTN7:=hid HPK
  clear hpk hwx hw6 z0 z1 z2 hzl q1 q2 q3 y1 y2 y3 hbl c3 htl
  have HND:=hid (node9_any ad 1 (by omega) w7 HZ7.out.t9 (by have:=HLL.out;omega))
  have HGL:=hid (nodeF_lt (root:=root) (L:=L) (ad:=ad) (lv:=1) HMI.out.2.2.2.1 HMI.out.2.2.2.2.1)
  rw [← HGN.out] at HND HGL
  obtain ⟨gs,hgs⟩:∃ gs,gs=(nodeF root L ad 1).isSome:=⟨_,rfl⟩
  rw [← hgs] at HND
  clear hgs HGN
  go_wp2_with fail
  refine (HND.out).mono ?_
  rintro e w8 ⟨rfl,hb8⟩
  have HZ8:=hid (HZ7.out.still hb8)
  have HB8:=hid (HLB7.out.below hb8 HLB7.out.lt)
  have HS8:=hid (Nat.le_trans HB77.out hb8.size)
  clear hb8 HND
  obtain ⟨ix,hix⟩:∃ ix,ix=ixOf ad 0:=⟨_,rfl⟩
  have HIX:=hid (show ix<512∧ix=ixOf ad 0 from ⟨by rw [hix];exact ixOf_lt ad 0,hix⟩)
  have HWD:=hid (fun ww=>show Calls Tryz.prog 86 #[.int .u64 (ad:Int),.int .i64 1] ww (fun e w'=>e=.returned (.int .i64 (ix:Int))∧ww=w') by
   rw [hix]
   exact word9_any ad 0 (by omega) ww)
  clear hix
  obtain ⟨wd,hwd⟩:∃ wd,wd=wdT (.lf k r lb):=⟨_,rfl⟩
  have HWV:=hid (show wd<18446744073709551616∧wd=wdT (.lf k r lb) from ⟨by rw [hwd,wdT_lf];have:=HMI.out.2.2.2.2.2.2;split <;> omega,hwd⟩)
  have HLF:=hid (fun ww=>show Calls Tryz.prog 87 #[.agg #[.int .i64 (k:Int),.int .u8 (r:Int),.bool lb]] ww (fun e w'=>e=.returned (.int .u64 (wd:Int))∧Below ww.heap.size ww w') by
   rw [hwd]
   exact leaf9_any k r lb (by have:=HMI.out.2.2.2.2.2.2.2;omega) HMI.out.2.2.2.2.2.2.1 ww)
  clear hwd
  have HSET:=hid (fun ww (hb:Below w8.heap.size w8 ww)=>set9R_any gn ix wd HIX.out.1 (by have:=HGL.out;omega) HWV.out.1 ww (HZ8.out.t9.below hb) (HZ8.out.rc.below hb) HOK5.out (Nat.le_trans HS8.out hb.size))
  have BX0:∀ ww,EX (R8 a b d vs vS) w8 ww→ww.cell? ⟨w.heap.size,0,none⟩=some (.int .i64 (k:Int)):=fun ww hb=>(hb.row HB8.out (HZ8.out.rc.nR HB8.out (by decide) (by decide) (by decide) (by decide) (by decide))).three.1
  have BX1:∀ ww,EX (R8 a b d vs vS) w8 ww→ww.cell? ⟨w.heap.size,1,none⟩=some (.int .u8 (r:Int)):=fun ww hb=>(hb.row HB8.out (HZ8.out.rc.nR HB8.out (by decide) (by decide) (by decide) (by decide) (by decide))).three.2.1
  have BX2:∀ ww,EX (R8 a b d vs vS) w8 ww→ww.cell? ⟨w.heap.size,2,none⟩=some (.bool lb):=fun ww hb=>(hb.row HB8.out (HZ8.out.rc.nR HB8.out (by decide) (by decide) (by decide) (by decide) (by decide))).three.2.2
  have hB0:Below w8.heap.size w8 w8.drew:=bdN (Below.refl _ _) 1
  have hS0:EX (R8 a b d vs vS) w8 w8.drew:=EX.drew (EX.refl _)
  go_wp2_with fail
  go_region_held3 (EX (R8 a b d vs vS) w8) (first|assumption|exact EX.drew (EX.refl _)) ((first|(go_at_call 86;refine (HWD.out _).mono ?_;rintro e' w11 ⟨rfl,rfl⟩)|(go_at_call 87;refine (HLF.out _).mono ?_;rintro e' w12 ⟨rfl,hb12⟩;have hB12:Below w8.heap.size w8 w12:=Below.trans (by assumption) (hb12.mono (Below.size (by assumption)));have hS12:EX (R8 a b d vs vS) w8 w12:=EX.of_below hB12;clear hb12)|(go_at_call 85;refine (HSET.out _ (by assumption)).mono ?_;rintro e' w13 ⟨rfl,vs13,Ls13,hr13⟩;have hS13:EX (R8 a b d vs vS) w8 w13:=EX.trans (EX.of_below (by assumption)) hr13.ex)))
  have HZe:=hid ((HZ8.out.still (by assumption)).refr hr13)
  rw [HIX.out.2,HWV.out.2] at HZe
  go_wp2_with fail
  go_ret
  rw [HRES.out]
  exact ⟨rfl,_,_,_,_,_,HZe.out⟩
end
end Go.Proofs.YtdjpjfdeeelijaaGreatDoor
