/- hostelref09: what a freed table answers; what Find and the lists come to. -/
import Derived.Test.YtdjpjfdeeelijaaGreatDoorGy4
namespace Go.Proofs.YtdjpjfdeeelijaaGreatDoor
open Go.RowKit Go.Sort Go.Shelf Go.WideMaps Go.Maps Go.WideShapes Go.WideElems Go.MapKept Go.ChangeMaps
attribute [local go_sem] Oper.semAt_some
section
variable {base tb d root:Nat}{vL vP:Value}{L:List ND9}{P:List LF}
set_option maxRecDepth 100000 in
set_option maxHeartbeats 2000000 in
theorem map9G_any (ad:Nat)(la lq:Int)(lb:Bool)(w:World)(H:T9 w base tb d root vL vP L P true):
 Calls Tryz.prog 33 #[.pointer (some ⟨tb,0,none⟩),.int .u64 (ad:Int),.agg #[.int .i64 la,.int .u8 lq,.bool lb]] w fun e w'=>e=.returned (.int .i64 2)∧Below w.heap.size w w':=by
 obtain ⟨w1,hw1⟩:∃ w1,w1=w.alloc (.cells #[.int .i64 la,.int .u8 lq,.bool lb] 31):=⟨_,rfl⟩
 have HB1:=hid (show Below w.heap.size w w1 by rw [hw1];exact bal _)
 have HW1:=hid hw1
 have HG:=hid (gone9_any w1 (H.below HB1.out))
 obtain ⟨c0,c1,c2,c3,c4⟩:=(H.below HB1.out).five
 have htl:=(H.below HB1.out).row.lt
 clear H hw1
 go_enter Tryz.func33,Tryz.ntmps33
 go_wp2_with fail
 rw [← HW1.out]
 refine (HG.out).mono ?_
 rintro e w2 ⟨rfl,rfl⟩
 go_wp2_with fail
 go_ret
 exact ⟨rfl,HB1.out⟩
set_option maxRecDepth 100000 in
set_option maxHeartbeats 2000000 in
theorem set9G_any (ad:Nat)(la lq:Int)(lb:Bool)(w:World)(H:T9 w base tb d root vL vP L P true):
 Calls Tryz.prog 35 #[.pointer (some ⟨tb,0,none⟩),.int .u64 (ad:Int),.agg #[.int .i64 la,.int .u8 lq,.bool lb]] w fun e w'=>e=.returned (.int .i64 2)∧Below w.heap.size w w':=by
 obtain ⟨w1,hw1⟩:∃ w1,w1=w.alloc (.cells #[.int .i64 la,.int .u8 lq,.bool lb] 31):=⟨_,rfl⟩
 have HB1:=hid (show Below w.heap.size w w1 by rw [hw1];exact bal _)
 have HW1:=hid hw1
 have HG:=hid (gone9_any w1 (H.below HB1.out))
 obtain ⟨c0,c1,c2,c3,c4⟩:=(H.below HB1.out).five
 have htl:=(H.below HB1.out).row.lt
 clear H hw1
 go_enter Tryz.func35,Tryz.ntmps35
 go_wp2_with fail
 rw [← HW1.out]
 refine (HG.out).mono ?_
 rintro e w2 ⟨rfl,rfl⟩
 go_wp2_with fail
 go_ret
 exact ⟨rfl,HB1.out⟩
set_option maxRecDepth 100000 in
set_option maxHeartbeats 2000000 in
theorem unmap9G_any (ad:Nat)(w:World)(H:T9 w base tb d root vL vP L P true):
 Calls Tryz.prog 34 #[.pointer (some ⟨tb,0,none⟩),.int .u64 (ad:Int)] w fun e w'=>e=.returned (.int .i64 2)∧Below w.heap.size w w':=by
 have HG:=hid (gone9_any w H)
 clear H
 go_enter Tryz.func34,Tryz.ntmps34
 go_wp2_with fail
 refine (HG.out).mono ?_
 rintro e w2 ⟨rfl,rfl⟩
 go_wp2_with fail
 go_ret
 exact ⟨rfl,Below.refl _ _⟩
set_option maxRecDepth 100000 in
set_option maxHeartbeats 2000000 in
theorem free9G_any (w:World)(H:T9 w base tb d root vL vP L P true):
 Calls Tryz.prog 40 #[.pointer (some ⟨tb,0,none⟩)] w fun e w'=>e=.returned (.tuple #[])∧Below w.heap.size w w':=by
 have HG:=hid (gone9_any w H)
 clear H
 go_enter Tryz.func40,Tryz.ntmps40
 go_wp2_with fail
 refine (HG.out).mono ?_
 rintro e w2 ⟨rfl,rfl⟩
 go_wp2_with fail
 exact bodyPost_ret (v:=.tuple #[]) (results_none rfl _ _ _) rfl ⟨rfl,Below.refl _ _⟩
set_option maxRecDepth 100000 in
set_option maxHeartbeats 4000000 in
theorem find9G_any (ad:Nat)(w:World)(H:T9 w base tb d root vL vP L P true):
 Calls Tryz.prog 36 #[.pointer (some ⟨tb,0,none⟩),.int .u64 (ad:Int)] w fun e w'=>e=.returned (.tuple #[.agg #[.int .i64 0,.int .u8 0,.bool false],.int .i64 2])∧Below w.heap.size w w':=by
 obtain ⟨wb,hwb⟩:∃ wb,wb=w.alloc (.cells #[.int .i64 0,.int .u8 0,.bool false] 31):=⟨_,rfl⟩
 have HBB:=hid (show Below w.heap.size w wb by rw [hwb];exact bal _)
 have HRW:=hid (show Row wb w.heap.size 31 [.int .i64 0,.int .u8 0,.bool false] by rw [hwb];exact Row.new w _ _)
 have HWB:=hid hwb
 have HG:=hid (gone9_any wb (H.below HBB.out))
 have HH:=hid (H.below HBB.out)
 clear hwb
 go_enter Tryz.func36,Tryz.ntmps36
 go_wp2_with fail
 rw [← HWB.out]
 refine (HG.out).mono ?_
 rintro e w1 ⟨rfl,rfl⟩
 obtain ⟨z0,z1,z2⟩:=HRW.out.three
 have hzl:=HRW.out.lt
 have y0:=HRW.out.frozen 0
 have y1:=HRW.out.frozen 1
 have y2:=HRW.out.frozen 2
 go_wp2_with fail
 have hb9:Below w.heap.size w (((wb.setCell ⟨w.heap.size,0,none⟩ (.int .i64 0)).setCell ⟨w.heap.size,1,none⟩ (.int .u8 0)).setCell ⟨w.heap.size,2,none⟩ (.bool false)):=bset (bset (bset HBB.out (Nat.le_refl _) _) (Nat.le_refl _) _) (Nat.le_refl _) _
 exact bodyPost_ret (v:=.tuple #[.agg #[.int .i64 0,.int .u8 0,.bool false],.int .i64 2]) (by simp [results,Tryz.f36,go_sem,z0,z1,z2]) rfl ⟨rfl,hb9⟩
end
theorem look_nd9 {ix:Nat→Nat}{g:Nat}{kk:Nat→Tr}{f:Nat}{K:Nat→Tr}(H:Shp 4 (.nd f K))(hix:∀ j,ix j<512):lookT ix 3 K≠.nd g kk:=by
 have key:∀ (k:Nat) (f:Nat) (K:Nat→Tr),Shp (k+1) (.nd f K)→lookT ix k K≠.nd g kk:=by
  intro k
  induction k with
  | zero=>
   intro f K H e
   have hh:=H (ix 0) (hix 0)
   have e:K (ix 0)=.nd g kk:=e
   rw [e] at hh
   exact hh
  | succ k ih=>
   intro f K H e
   have hh:=H (ix (k+1)) (hix _)
   cases hk:K (ix (k+1)) with
   | no=>rw [lookT_no hk] at e;cases e
   | lf a p b=>rw [hk] at hh;exact hh
   | nd g' k'=>
    rw [hk] at hh
    rw [lookT_nd hk] at e
    exact ih g' k' hh e
 exact key 3 f K H
section
variable {rd:Int→Int→List UInt8 × Int}{root:Nat}{s:CC}{kids:Nat→Tr}{R:List Nat}{L:List ND9}
theorem find_doc (T:TI rd s 3 root kids R)(ad:Nat):leafV (findF false (allL root kids) ad).1=ldV (fndL ad (lookT (ixOf ad) 3 kids))∧(findF false (allL root kids) ad).2=fndE ad (lookT (ixOf ad) 3 kids):=by
 have H:=T.holds.shp
 unfold findF fndL fndE
 rw [if_neg (by decide)]
 by_cases had:ad<140737488355328
 ·rw [if_pos had,if_pos had,if_pos had]
  have had8:ad<281474976710656:=by omega
  have hat:=at_look9 (root:=root) H had8
  cases hl:lookT (ixOf ad) 3 kids with
  | no=>
   rw [hl] at hat
   have hn:(allL root kids).findIdx? (fun y=>decide (y.1=ad/4096*4096))=none:=List.findIdx?_eq_none_iff.2 fun x hx=>by
    have:=List.any_eq_false.1 hat x hx
    simpa using this
   rw [hn]
   exact ⟨rfl,rfl⟩
  | lf a p b=>
   obtain ⟨j,hj,h1,h2⟩:=at_idx (root:=root) H had8 hl
   rw [h1]
   simp only
   rw [getD_at9 hj,h2]
   exact ⟨rfl,rfl⟩
  | nd f kk=>
   rw [hl] at hat
   exfalso
   exact look_nd9 (f:=root) H (fun j=>ixOf_lt ad j) hl
 ·rw [if_neg had,if_neg had,if_neg had]
  exact ⟨rfl,rfl⟩
structure Bnd9 (root:Nat)(L:List ND9)(P:List LF):Prop where
 l:L.length≤1000000
 p:P.length≤1000000
 f:∀ x∈L,x.f<1024
 r:root<1024
 b:(belowF L 3 0).length≤100000
 pt:∀ x∈L,x.pt<1099511627776
theorem bnd9 (T:TI rd s 3 root kids R)(RL:L.Perm (prR kids))(hfl:s.fs.length≤1024):Bnd9 root L (allL root kids):=by
 have h1:=nodup_len s.fs.length _ T.nd fun a ha=>T.good.hold a (List.mem_append_left _ (List.mem_append_left _ ha))
 have h1:(nodesT 4 (.nd root kids)).length≤s.fs.length:=h1
 have h2:=prR_f root kids
 have h3:(prR kids).length+1≤1024:=by
  have:=congrArg List.length h2
  rw [List.length_cons,List.length_map] at this
  omega
 have hfs:∀ f∈nodesT 4 (.nd root kids),f<1024:=fun f hf=>Nat.lt_of_lt_of_le (T.good.hold f (List.mem_append_left _ (List.mem_append_left _ hf))) hfl
 have hll:=RL.length_eq
 refine ⟨by omega,?_,fun x hx=>?_,?_,?_,fun x hx=>?_⟩
 ·have h4:=T.len
  have h5:=leaves_lf 4 0 (.nd root kids)
  have h6:=congrArg List.length h5
  rw [List.length_map] at h6
  unfold hxT at h4
  rw [List.length_append] at h4
  show (leavesT 4 0 (.nd root kids)).length≤_
  have h7:513*s.fs.length≤513*1024:=Nat.mul_le_mul_left _ hfl
  have h8:(lfT (3+1) (.nd root kids)).length=(lfT 4 (.nd root kids)).length:=rfl
  omega
 ·refine hfs _ ?_
  rw [h2]
  exact List.mem_cons_of_mem _ (List.mem_map_of_mem (RL.mem_iff.1 hx))
 ·refine hfs _ ?_
  rw [h2]
  exact List.mem_cons_self ..
 ·have h4:=nodes_doc (root:=root) T.holds.shp RL
  have h5:=congrArg List.length h4
  rw [List.length_cons] at h5
  have h6:(nodL root kids).length=(nodesT 4 (.nd root kids)).length:=rfl
  omega
 ·obtain ⟨i,hi,hx2⟩:=List.mem_flatMap.1 (RL.mem_iff.1 hx)
  have hi:=List.mem_range.1 hi
  obtain ⟨k1,k2,k3⟩:=prT_key hx2
  have h5:512 ^ (3-x.lv)≤512 ^ 2:=Nat.pow_le_pow_right (by omega) (by omega)
  have h6:512 ^ 2=262144:=by rfl
  have h7:0<512 ^ (3-x.lv):=Nat.pow_pos (by omega)
  have h8:=Nat.lt_div_mul_add (a:=x.pt) h7
  rw [k3] at h8
  have h9:i*512 ^ (3-x.lv)≤511*262144:=Nat.mul_le_mul (by omega) (by omega)
  omega
end
end Go.Proofs.YtdjpjfdeeelijaaGreatDoor
