/- hostellaw09: does, of the struct doc, whatever lies behind it. -/
import Derived.Test.YtdjpjfdeeelijaaGreatDoorGy0
import Derived.Deep.RegionHeld3
namespace Go.Proofs.YtdjpjfdeeelijaaGreatDoor
open Go.RowKit Go.Sort Go.Shelf Go.WideMaps Go.Maps Go.WideShapes Go.WideElems Go.MapKept Go.ChangeMaps
attribute [local go_sem] Oper.semAt_some
section
variable {base p c tb ob:Nat}{vh:Value}{hs:List Nat}{S:Nat→Prop}{J:World→World→Prop}
set_option maxRecDepth 100000 in
set_option maxHeartbeats 8000000 in
theorem does0_doc (o:O9)(er:Int)(w:World)(hk:o.kind=0)(hbw:base≤w.heap.size)(hS:∀ k,S k→k<w.heap.size∧k≠ob∧vh.ownBlock≠some k)(H:OX9 76 base ob p c tb vh hs w)(HC:∀ W,OffX 76 base vh w W→Calls Tryz.prog 33 #[.pointer (some ⟨tb,0,none⟩),.int .u64 (o.ad:Int),.agg #[.int .i64 o.f,.int .u8 o.q,.bool o.b]] W fun e w'=>e=.returned (.int .i64 er)∧J W w'∧EX S W w'):
 Calls Tryz.prog 9 #[.pointer (some ⟨ob,0,none⟩),.agg (opC9 o).toArray] w (DoneX 76 base ob p c tb vh S J hs (tdC 0 0 0 false er) w):=by
 obtain ⟨w3,hw3⟩:∃ w3,w3=((w.alloc (.cells (opC9 o).toArray 38)).alloc (.cells (tdC 0 0 0 false 0).toArray 34)).alloc (.cells (tdC 0 0 0 false 0).toArray 34):=⟨_,rfl⟩
 have HB3:=hid (show Below w.heap.size w w3 by rw [hw3];exact bthen (bthen (bal _) (bal _)) (bal _))
 have HRO:=hid (show Row w3 w.heap.size 38 (opC9 o) by rw [hw3];exact ((Row.new w _ _).alloc _).alloc _)
 have HR4:=hid (show Row w3 (w.heap.size+1) 34 (tdC 0 0 0 false 0) by
  rw [hw3]
  have:=Row.new (w.alloc (.cells (opC9 o).toArray 38)) 34 (tdC 0 0 0 false 0)
  rw [World.size_alloc] at this
  exact this.alloc _)
 have HR5:=hid (show Row w3 (w.heap.size+1+1) 34 (tdC 0 0 0 false 0) by
  rw [hw3]
  have:=Row.new ((w.alloc (.cells (opC9 o).toArray 38)).alloc (.cells (tdC 0 0 0 false 0).toArray 34)) 34 (tdC 0 0 0 false 0)
  rw [World.size_alloc,World.size_alloc] at this
  exact this)
 have H3:=hid (H.below HB3.out)
 have HW3:=hid hw3
 have HLW:=hid hbw
 have HSS:=hid hS
 clear hw3 hbw hS
 have HN5:=hid (show ¬ S (w.heap.size+1+1) from fun e=>by have:=(HSS.out _ e).1;omega)
 have HN4:=hid (show ¬ S (w.heap.size+1) from fun e=>by have:=(HSS.out _ e).1;omega)
 have HNO:=hid (show ¬ S w.heap.size from fun e=>by have:=(HSS.out _ e).1;omega)
 have HCO:=hid (fun ww (hs:EX (fun k=>S k∨k=w.heap.size+1+1) w3 ww)=>show Row ww w.heap.size 38 (opC9 o) from hs.row HRO.out (by rintro (e|e);(· exact HNO.out e);(· omega)))
 have HCB:=hid (fun ww (hs:EX (fun k=>S k∨k=w.heap.size+1+1) w3 ww)=>show Row ww ob 76 [.pointer (some ⟨p,0,none⟩),.pointer (some ⟨c,0,none⟩),.pointer (some ⟨tb,0,none⟩),vh] from hs.row H3.out.own (by
  rintro (e|e)
  ·exact (HSS.out _ e).2.1 rfl
  ·exact row_tys H3.out.own HR5.out (by decide) e))
 have HC4:=hid (fun ww (hs:EX (fun k=>S k∨k=w.heap.size+1+1) w3 ww)=>show Row ww (w.heap.size+1) 34 (tdC 0 0 0 false 0) from hs.row HR4.out (by rintro (e|e);(· exact HN4.out e);(· omega)))
 have HM:=hid (HC w3.drew (OffX.of_below (HB3.out.trans (bdN (Below.refl _ _) 1))))
 clear HC
 have QB2:∀ ww,EX (fun k=>S k∨k=w.heap.size+1+1) w3 ww→ww.cell? ⟨ob,2,none⟩=some (.pointer (some ⟨tb,0,none⟩)):=fun ww hs=>(HCB.out ww hs).cell 2 (by simp)
 have QO1:∀ ww,EX (fun k=>S k∨k=w.heap.size+1+1) w3 ww→ww.cell? ⟨w.heap.size,1,none⟩=some (.int .u64 (o.ad:Int)):=fun ww hs=>(HCO.out ww hs).cell 1 (by simp)
 have QO2:∀ ww,EX (fun k=>S k∨k=w.heap.size+1+1) w3 ww→ww.cell? ⟨w.heap.size,2,none⟩=some (.int .i64 o.f):=fun ww hs=>(HCO.out ww hs).cell 2 (by simp)
 have QO3:∀ ww,EX (fun k=>S k∨k=w.heap.size+1+1) w3 ww→ww.cell? ⟨w.heap.size,3,none⟩=some (.int .u8 o.q):=fun ww hs=>(HCO.out ww hs).cell 3 (by simp)
 have QO4:∀ ww,EX (fun k=>S k∨k=w.heap.size+1+1) w3 ww→ww.cell? ⟨w.heap.size,4,none⟩=some (.bool o.b):=fun ww hs=>(HCO.out ww hs).cell 4 (by simp)
 obtain ⟨kd,oad,oof,oq,obb,on⟩:=o
 obtain rfl:kd=0:=hk
 clear H
 have hS0:EX (fun k=>S k∨k=w.heap.size+1+1) w3 w3.drew:=EX.drew (EX.refl _)
 simp only [opC9] at *
 go_enter Tryz.func9,Tryz.ntmps9
 go_wp2_with fail
 rw [← HW3.out]
 go_region_held3 (EX (fun k=>S k∨k=w.heap.size+1+1) w3) (first|exact EX.drew _|exact EX.refl _|assumption|(refine EX.set (by assumption) (.inl (.inr rfl)) _ _)|exact EX.set (EX.set (by assumption) (.inl (.inr rfl)) _ _) (.inl (.inr rfl)) _ _|exact EX.set (EX.set (EX.set (by assumption) (.inl (.inr rfl)) _ _) (.inl (.inr rfl)) _ _) (.inl (.inr rfl)) _ _|exact EX.set (EX.set (EX.set (EX.set (by assumption) (.inl (.inr rfl)) _ _) (.inl (.inr rfl)) _ _) (.inl (.inr rfl)) _ _) (.inl (.inr rfl)) _ _) ((go_at_call 33;refine (HM.out).mono ?_;rintro e' wy ⟨rfl,hty,hey⟩;have HTY:=hid hty;have hey2:EX S w3 wy:=(EX.drew (EX.refl _)).trans hey;have HEY:=hid hey2;have HRY:=hid (hey2.row HR5.out HN5.out);have hx4:=HRY.out.cell 4 (by simp);have hz4:=HRY.out.frozen 4;have hyl:=HRY.out.lt;have hS2:EX (fun k=>S k∨k=w.heap.size+1+1) w3 wy:=hey2.mono fun _ _ e=>.inl e;clear hty hey hey2))
 obtain ⟨wz,hwz⟩:∃ wz,wz=(wy.setCell ⟨w.heap.size+1+1,4,none⟩ (.int .i64 er)):=⟨_,rfl⟩
 have hez:EX (fun k=>k=w.heap.size+1+1) wy wz:=by rw [hwz];exact ((EX.refl (S:=fun k=>k=w.heap.size+1+1) wy).set (g:=w.heap.size+1+1) (.inl rfl) 4 _)
 have HS3:=hid (show EX (fun k=>S k∨k=w.heap.size+1+1) w3 wz from hS2.trans (hez.mono fun _ _ e=>.inr e))
 have HRZ:=hid (show Row wz (w.heap.size+1+1) 34 (tdC 0 0 0 false er) by rw [hwz];exact (HRY.out.set 4 (.int .i64 er)))
 have HEZ:=hid hez
 rw [← hwz]
 clear hez hwz hS2 hS0 hyl hx4 hz4 QB2 QO1 QO2 QO3 QO4
 have hr5:=HRZ.out
 have h50:=hr5.cell 0 (by simp)
 have h51:=hr5.cell 1 (by simp)
 have h52:=hr5.cell 2 (by simp)
 have h53:=hr5.cell 3 (by simp)
 have h54:=hr5.cell 4 (by simp)
 have h5l:=hr5.lt
 have hr4:=HC4.out _ HS3.out
 have h40:=hr4.cell 0 (by simp)
 have h41:=hr4.cell 1 (by simp)
 have h42:=hr4.cell 2 (by simp)
 have h43:=hr4.cell 3 (by simp)
 have h44:=hr4.cell 4 (by simp)
 have f40:=hr4.frozen 0
 have f41:=hr4.frozen 1
 have f42:=hr4.frozen 2
 have f43:=hr4.frozen 3
 have f44:=hr4.frozen 4
 have h4l:=hr4.lt
 have HZ4:=hid hr4
 have HY4:=hid (HEY.out.row HR4.out HN4.out)
 simp only [tdC,List.getElem_cons_zero,List.getElem_cons_succ] at h50 h51 h52 h53 h54 h40 h41 h42 h43 h44
 clear hr5 hr4
 go_wp2_with fail
 refine bodyPost_ret (v:=.agg (tdC 0 0 0 false er).toArray) (by simp [results,Tryz.f9,go_sem,h40,h41,h42,h43,h44]) rfl ?_
 exact doneX_doc HLW.out HSS.out (OffX.of_below (HB3.out.trans (bdN (Below.refl _ _) 1))) HTY.out (OffX.told (by have:=HLW.out;omega) HEZ.out HRY.out) ((EX.of_below HB3.out).trans (HS3.out.mono fun _ _ e=>e) |>.fresh (by omega)) (H3.out.ex HS3.out (fun k e=>by
  rcases e with e|rfl
  ·exact (HSS.out k e).2
  ·exact ⟨fun e=>row_tys H3.out.own HR5.out (by decide) e.symm,fun e=>ob_ne H3.out.hh HR5.out (by decide) _ e rfl⟩)) (fun _ e=>.inl e) HY4.out HZ4.out _ _ _ _ _
set_option maxRecDepth 100000 in
set_option maxHeartbeats 8000000 in
theorem does1_doc (o:O9)(er:Int)(w:World)(hk:o.kind=1)(hbw:base≤w.heap.size)(hS:∀ k,S k→k<w.heap.size∧k≠ob∧vh.ownBlock≠some k)(H:OX9 76 base ob p c tb vh hs w)(HC:∀ W,OffX 76 base vh w W→Calls Tryz.prog 34 #[.pointer (some ⟨tb,0,none⟩),.int .u64 (o.ad:Int)] W fun e w'=>e=.returned (.int .i64 er)∧J W w'∧EX S W w'):
 Calls Tryz.prog 9 #[.pointer (some ⟨ob,0,none⟩),.agg (opC9 o).toArray] w (DoneX 76 base ob p c tb vh S J hs (tdC 0 0 0 false er) w):=by
 obtain ⟨w3,hw3⟩:∃ w3,w3=((w.alloc (.cells (opC9 o).toArray 38)).alloc (.cells (tdC 0 0 0 false 0).toArray 34)).alloc (.cells (tdC 0 0 0 false 0).toArray 34):=⟨_,rfl⟩
 have HB3:=hid (show Below w.heap.size w w3 by rw [hw3];exact bthen (bthen (bal _) (bal _)) (bal _))
 have HRO:=hid (show Row w3 w.heap.size 38 (opC9 o) by rw [hw3];exact ((Row.new w _ _).alloc _).alloc _)
 have HR4:=hid (show Row w3 (w.heap.size+1) 34 (tdC 0 0 0 false 0) by
  rw [hw3]
  have:=Row.new (w.alloc (.cells (opC9 o).toArray 38)) 34 (tdC 0 0 0 false 0)
  rw [World.size_alloc] at this
  exact this.alloc _)
 have HR5:=hid (show Row w3 (w.heap.size+1+1) 34 (tdC 0 0 0 false 0) by
  rw [hw3]
  have:=Row.new ((w.alloc (.cells (opC9 o).toArray 38)).alloc (.cells (tdC 0 0 0 false 0).toArray 34)) 34 (tdC 0 0 0 false 0)
  rw [World.size_alloc,World.size_alloc] at this
  exact this)
 have H3:=hid (H.below HB3.out)
 have HW3:=hid hw3
 have HLW:=hid hbw
 have HSS:=hid hS
 clear hw3 hbw hS
 have HN5:=hid (show ¬ S (w.heap.size+1+1) from fun e=>by have:=(HSS.out _ e).1;omega)
 have HN4:=hid (show ¬ S (w.heap.size+1) from fun e=>by have:=(HSS.out _ e).1;omega)
 have HNO:=hid (show ¬ S w.heap.size from fun e=>by have:=(HSS.out _ e).1;omega)
 have HCO:=hid (fun ww (hs:EX (fun k=>S k∨k=w.heap.size+1+1) w3 ww)=>show Row ww w.heap.size 38 (opC9 o) from hs.row HRO.out (by rintro (e|e);(· exact HNO.out e);(· omega)))
 have HCB:=hid (fun ww (hs:EX (fun k=>S k∨k=w.heap.size+1+1) w3 ww)=>show Row ww ob 76 [.pointer (some ⟨p,0,none⟩),.pointer (some ⟨c,0,none⟩),.pointer (some ⟨tb,0,none⟩),vh] from hs.row H3.out.own (by
  rintro (e|e)
  ·exact (HSS.out _ e).2.1 rfl
  ·exact row_tys H3.out.own HR5.out (by decide) e))
 have HC4:=hid (fun ww (hs:EX (fun k=>S k∨k=w.heap.size+1+1) w3 ww)=>show Row ww (w.heap.size+1) 34 (tdC 0 0 0 false 0) from hs.row HR4.out (by rintro (e|e);(· exact HN4.out e);(· omega)))
 have HM:=hid (HC w3.drew (OffX.of_below (HB3.out.trans (bdN (Below.refl _ _) 1))))
 clear HC
 have QB2:∀ ww,EX (fun k=>S k∨k=w.heap.size+1+1) w3 ww→ww.cell? ⟨ob,2,none⟩=some (.pointer (some ⟨tb,0,none⟩)):=fun ww hs=>(HCB.out ww hs).cell 2 (by simp)
 have QO1:∀ ww,EX (fun k=>S k∨k=w.heap.size+1+1) w3 ww→ww.cell? ⟨w.heap.size,1,none⟩=some (.int .u64 (o.ad:Int)):=fun ww hs=>(HCO.out ww hs).cell 1 (by simp)
 obtain ⟨kd,oad,oof,oq,obb,on⟩:=o
 obtain rfl:kd=1:=hk
 clear H
 have hS0:EX (fun k=>S k∨k=w.heap.size+1+1) w3 w3.drew:=EX.drew (EX.refl _)
 simp only [opC9] at *
 go_enter Tryz.func9,Tryz.ntmps9
 go_wp2_with fail
 rw [← HW3.out]
 go_region_held3 (EX (fun k=>S k∨k=w.heap.size+1+1) w3) (first|exact EX.drew _|exact EX.refl _|assumption|(refine EX.set (by assumption) (.inl (.inr rfl)) _ _)|exact EX.set (EX.set (by assumption) (.inl (.inr rfl)) _ _) (.inl (.inr rfl)) _ _|exact EX.set (EX.set (EX.set (by assumption) (.inl (.inr rfl)) _ _) (.inl (.inr rfl)) _ _) (.inl (.inr rfl)) _ _|exact EX.set (EX.set (EX.set (EX.set (by assumption) (.inl (.inr rfl)) _ _) (.inl (.inr rfl)) _ _) (.inl (.inr rfl)) _ _) (.inl (.inr rfl)) _ _) ((go_at_call 34;refine (HM.out).mono ?_;rintro e' wy ⟨rfl,hty,hey⟩;have HTY:=hid hty;have hey2:EX S w3 wy:=(EX.drew (EX.refl _)).trans hey;have HEY:=hid hey2;have HRY:=hid (hey2.row HR5.out HN5.out);have hx4:=HRY.out.cell 4 (by simp);have hz4:=HRY.out.frozen 4;have hyl:=HRY.out.lt;have hS2:EX (fun k=>S k∨k=w.heap.size+1+1) w3 wy:=hey2.mono fun _ _ e=>.inl e;clear hty hey hey2))
 obtain ⟨wz,hwz⟩:∃ wz,wz=(wy.setCell ⟨w.heap.size+1+1,4,none⟩ (.int .i64 er)):=⟨_,rfl⟩
 have hez:EX (fun k=>k=w.heap.size+1+1) wy wz:=by rw [hwz];exact ((EX.refl (S:=fun k=>k=w.heap.size+1+1) wy).set (g:=w.heap.size+1+1) (.inl rfl) 4 _)
 have HS3:=hid (show EX (fun k=>S k∨k=w.heap.size+1+1) w3 wz from hS2.trans (hez.mono fun _ _ e=>.inr e))
 have HRZ:=hid (show Row wz (w.heap.size+1+1) 34 (tdC 0 0 0 false er) by rw [hwz];exact (HRY.out.set 4 (.int .i64 er)))
 have HEZ:=hid hez
 rw [← hwz]
 clear hez hwz hS2 hS0 hyl hx4 hz4 QB2 QO1
 have hr5:=HRZ.out
 have h50:=hr5.cell 0 (by simp)
 have h51:=hr5.cell 1 (by simp)
 have h52:=hr5.cell 2 (by simp)
 have h53:=hr5.cell 3 (by simp)
 have h54:=hr5.cell 4 (by simp)
 have h5l:=hr5.lt
 have hr4:=HC4.out _ HS3.out
 have h40:=hr4.cell 0 (by simp)
 have h41:=hr4.cell 1 (by simp)
 have h42:=hr4.cell 2 (by simp)
 have h43:=hr4.cell 3 (by simp)
 have h44:=hr4.cell 4 (by simp)
 have f40:=hr4.frozen 0
 have f41:=hr4.frozen 1
 have f42:=hr4.frozen 2
 have f43:=hr4.frozen 3
 have f44:=hr4.frozen 4
 have h4l:=hr4.lt
 have HZ4:=hid hr4
 have HY4:=hid (HEY.out.row HR4.out HN4.out)
 simp only [tdC,List.getElem_cons_zero,List.getElem_cons_succ] at h50 h51 h52 h53 h54 h40 h41 h42 h43 h44
 clear hr5 hr4
 go_wp2_with fail
 refine bodyPost_ret (v:=.agg (tdC 0 0 0 false er).toArray) (by simp [results,Tryz.f9,go_sem,h40,h41,h42,h43,h44]) rfl ?_
 exact doneX_doc HLW.out HSS.out (OffX.of_below (HB3.out.trans (bdN (Below.refl _ _) 1))) HTY.out (OffX.told (by have:=HLW.out;omega) HEZ.out HRY.out) ((EX.of_below HB3.out).trans (HS3.out.mono fun _ _ e=>e) |>.fresh (by omega)) (H3.out.ex HS3.out (fun k e=>by
  rcases e with e|rfl
  ·exact (HSS.out k e).2
  ·exact ⟨fun e=>row_tys H3.out.own HR5.out (by decide) e.symm,fun e=>ob_ne H3.out.hh HR5.out (by decide) _ e rfl⟩)) (fun _ e=>.inl e) HY4.out HZ4.out _ _ _ _ _
set_option maxRecDepth 100000 in
set_option maxHeartbeats 8000000 in
theorem does2_doc (o:O9)(er:Int)(w:World)(hk:o.kind=2)(hbw:base≤w.heap.size)(hS:∀ k,S k→k<w.heap.size∧k≠ob∧vh.ownBlock≠some k)(H:OX9 76 base ob p c tb vh hs w)(HC:∀ W,OffX 76 base vh w W→Calls Tryz.prog 35 #[.pointer (some ⟨tb,0,none⟩),.int .u64 (o.ad:Int),.agg #[.int .i64 o.f,.int .u8 o.q,.bool o.b]] W fun e w'=>e=.returned (.int .i64 er)∧J W w'∧EX S W w'):
 Calls Tryz.prog 9 #[.pointer (some ⟨ob,0,none⟩),.agg (opC9 o).toArray] w (DoneX 76 base ob p c tb vh S J hs (tdC 0 0 0 false er) w):=by
 obtain ⟨w3,hw3⟩:∃ w3,w3=((w.alloc (.cells (opC9 o).toArray 38)).alloc (.cells (tdC 0 0 0 false 0).toArray 34)).alloc (.cells (tdC 0 0 0 false 0).toArray 34):=⟨_,rfl⟩
 have HB3:=hid (show Below w.heap.size w w3 by rw [hw3];exact bthen (bthen (bal _) (bal _)) (bal _))
 have HRO:=hid (show Row w3 w.heap.size 38 (opC9 o) by rw [hw3];exact ((Row.new w _ _).alloc _).alloc _)
 have HR4:=hid (show Row w3 (w.heap.size+1) 34 (tdC 0 0 0 false 0) by
  rw [hw3]
  have:=Row.new (w.alloc (.cells (opC9 o).toArray 38)) 34 (tdC 0 0 0 false 0)
  rw [World.size_alloc] at this
  exact this.alloc _)
 have HR5:=hid (show Row w3 (w.heap.size+1+1) 34 (tdC 0 0 0 false 0) by
  rw [hw3]
  have:=Row.new ((w.alloc (.cells (opC9 o).toArray 38)).alloc (.cells (tdC 0 0 0 false 0).toArray 34)) 34 (tdC 0 0 0 false 0)
  rw [World.size_alloc,World.size_alloc] at this
  exact this)
 have H3:=hid (H.below HB3.out)
 have HW3:=hid hw3
 have HLW:=hid hbw
 have HSS:=hid hS
 clear hw3 hbw hS
 have HN5:=hid (show ¬ S (w.heap.size+1+1) from fun e=>by have:=(HSS.out _ e).1;omega)
 have HN4:=hid (show ¬ S (w.heap.size+1) from fun e=>by have:=(HSS.out _ e).1;omega)
 have HNO:=hid (show ¬ S w.heap.size from fun e=>by have:=(HSS.out _ e).1;omega)
 have HCO:=hid (fun ww (hs:EX (fun k=>S k∨k=w.heap.size+1+1) w3 ww)=>show Row ww w.heap.size 38 (opC9 o) from hs.row HRO.out (by rintro (e|e);(· exact HNO.out e);(· omega)))
 have HCB:=hid (fun ww (hs:EX (fun k=>S k∨k=w.heap.size+1+1) w3 ww)=>show Row ww ob 76 [.pointer (some ⟨p,0,none⟩),.pointer (some ⟨c,0,none⟩),.pointer (some ⟨tb,0,none⟩),vh] from hs.row H3.out.own (by
  rintro (e|e)
  ·exact (HSS.out _ e).2.1 rfl
  ·exact row_tys H3.out.own HR5.out (by decide) e))
 have HC4:=hid (fun ww (hs:EX (fun k=>S k∨k=w.heap.size+1+1) w3 ww)=>show Row ww (w.heap.size+1) 34 (tdC 0 0 0 false 0) from hs.row HR4.out (by rintro (e|e);(· exact HN4.out e);(· omega)))
 have HM:=hid (HC w3.drew (OffX.of_below (HB3.out.trans (bdN (Below.refl _ _) 1))))
 clear HC
 have QB2:∀ ww,EX (fun k=>S k∨k=w.heap.size+1+1) w3 ww→ww.cell? ⟨ob,2,none⟩=some (.pointer (some ⟨tb,0,none⟩)):=fun ww hs=>(HCB.out ww hs).cell 2 (by simp)
 have QO1:∀ ww,EX (fun k=>S k∨k=w.heap.size+1+1) w3 ww→ww.cell? ⟨w.heap.size,1,none⟩=some (.int .u64 (o.ad:Int)):=fun ww hs=>(HCO.out ww hs).cell 1 (by simp)
 have QO2:∀ ww,EX (fun k=>S k∨k=w.heap.size+1+1) w3 ww→ww.cell? ⟨w.heap.size,2,none⟩=some (.int .i64 o.f):=fun ww hs=>(HCO.out ww hs).cell 2 (by simp)
 have QO3:∀ ww,EX (fun k=>S k∨k=w.heap.size+1+1) w3 ww→ww.cell? ⟨w.heap.size,3,none⟩=some (.int .u8 o.q):=fun ww hs=>(HCO.out ww hs).cell 3 (by simp)
 have QO4:∀ ww,EX (fun k=>S k∨k=w.heap.size+1+1) w3 ww→ww.cell? ⟨w.heap.size,4,none⟩=some (.bool o.b):=fun ww hs=>(HCO.out ww hs).cell 4 (by simp)
 obtain ⟨kd,oad,oof,oq,obb,on⟩:=o
 obtain rfl:kd=2:=hk
 clear H
 have hS0:EX (fun k=>S k∨k=w.heap.size+1+1) w3 w3.drew:=EX.drew (EX.refl _)
 simp only [opC9] at *
 go_enter Tryz.func9,Tryz.ntmps9
 go_wp2_with fail
 rw [← HW3.out]
 go_region_held3 (EX (fun k=>S k∨k=w.heap.size+1+1) w3) (first|exact EX.drew _|exact EX.refl _|assumption|(refine EX.set (by assumption) (.inl (.inr rfl)) _ _)|exact EX.set (EX.set (by assumption) (.inl (.inr rfl)) _ _) (.inl (.inr rfl)) _ _|exact EX.set (EX.set (EX.set (by assumption) (.inl (.inr rfl)) _ _) (.inl (.inr rfl)) _ _) (.inl (.inr rfl)) _ _|exact EX.set (EX.set (EX.set (EX.set (by assumption) (.inl (.inr rfl)) _ _) (.inl (.inr rfl)) _ _) (.inl (.inr rfl)) _ _) (.inl (.inr rfl)) _ _) ((go_at_call 35;refine (HM.out).mono ?_;rintro e' wy ⟨rfl,hty,hey⟩;have HTY:=hid hty;have hey2:EX S w3 wy:=(EX.drew (EX.refl _)).trans hey;have HEY:=hid hey2;have HRY:=hid (hey2.row HR5.out HN5.out);have hx4:=HRY.out.cell 4 (by simp);have hz4:=HRY.out.frozen 4;have hyl:=HRY.out.lt;have hS2:EX (fun k=>S k∨k=w.heap.size+1+1) w3 wy:=hey2.mono fun _ _ e=>.inl e;clear hty hey hey2))
 obtain ⟨wz,hwz⟩:∃ wz,wz=(wy.setCell ⟨w.heap.size+1+1,4,none⟩ (.int .i64 er)):=⟨_,rfl⟩
 have hez:EX (fun k=>k=w.heap.size+1+1) wy wz:=by rw [hwz];exact ((EX.refl (S:=fun k=>k=w.heap.size+1+1) wy).set (g:=w.heap.size+1+1) (.inl rfl) 4 _)
 have HS3:=hid (show EX (fun k=>S k∨k=w.heap.size+1+1) w3 wz from hS2.trans (hez.mono fun _ _ e=>.inr e))
 have HRZ:=hid (show Row wz (w.heap.size+1+1) 34 (tdC 0 0 0 false er) by rw [hwz];exact (HRY.out.set 4 (.int .i64 er)))
 have HEZ:=hid hez
 rw [← hwz]
 clear hez hwz hS2 hS0 hyl hx4 hz4 QB2 QO1 QO2 QO3 QO4
 have hr5:=HRZ.out
 have h50:=hr5.cell 0 (by simp)
 have h51:=hr5.cell 1 (by simp)
 have h52:=hr5.cell 2 (by simp)
 have h53:=hr5.cell 3 (by simp)
 have h54:=hr5.cell 4 (by simp)
 have h5l:=hr5.lt
 have hr4:=HC4.out _ HS3.out
 have h40:=hr4.cell 0 (by simp)
 have h41:=hr4.cell 1 (by simp)
 have h42:=hr4.cell 2 (by simp)
 have h43:=hr4.cell 3 (by simp)
 have h44:=hr4.cell 4 (by simp)
 have f40:=hr4.frozen 0
 have f41:=hr4.frozen 1
 have f42:=hr4.frozen 2
 have f43:=hr4.frozen 3
 have f44:=hr4.frozen 4
 have h4l:=hr4.lt
 have HZ4:=hid hr4
 have HY4:=hid (HEY.out.row HR4.out HN4.out)
 simp only [tdC,List.getElem_cons_zero,List.getElem_cons_succ] at h50 h51 h52 h53 h54 h40 h41 h42 h43 h44
 clear hr5 hr4
 go_wp2_with fail
 refine bodyPost_ret (v:=.agg (tdC 0 0 0 false er).toArray) (by simp [results,Tryz.f9,go_sem,h40,h41,h42,h43,h44]) rfl ?_
 exact doneX_doc HLW.out HSS.out (OffX.of_below (HB3.out.trans (bdN (Below.refl _ _) 1))) HTY.out (OffX.told (by have:=HLW.out;omega) HEZ.out HRY.out) ((EX.of_below HB3.out).trans (HS3.out.mono fun _ _ e=>e) |>.fresh (by omega)) (H3.out.ex HS3.out (fun k e=>by
  rcases e with e|rfl
  ·exact (HSS.out k e).2
  ·exact ⟨fun e=>row_tys H3.out.own HR5.out (by decide) e.symm,fun e=>ob_ne H3.out.hh HR5.out (by decide) _ e rfl⟩)) (fun _ e=>.inl e) HY4.out HZ4.out _ _ _ _ _
set_option maxRecDepth 100000 in
set_option maxHeartbeats 8000000 in
theorem does3_doc (o:O9)(x0 x1:Int)(x2:Bool)(er:Int)(w:World)(hk:o.kind=3)(hbw:base≤w.heap.size)(hS:∀ k,S k→k<w.heap.size∧k≠ob∧vh.ownBlock≠some k)(H:OX9 76 base ob p c tb vh hs w)(HC:∀ W,OffX 76 base vh w W→Calls Tryz.prog 36 #[.pointer (some ⟨tb,0,none⟩),.int .u64 (o.ad:Int)] W fun e w'=>e=.returned (.tuple #[.agg #[.int .i64 x0,.int .u8 x1,.bool x2],.int .i64 er])∧J W w'∧EX S W w'):
 Calls Tryz.prog 9 #[.pointer (some ⟨ob,0,none⟩),.agg (opC9 o).toArray] w (DoneX 76 base ob p c tb vh S J hs (tdC 0 x0 x1 x2 er) w):=by
 obtain ⟨w3,hw3⟩:∃ w3,w3=((w.alloc (.cells (opC9 o).toArray 38)).alloc (.cells (tdC 0 0 0 false 0).toArray 34)).alloc (.cells (tdC 0 0 0 false 0).toArray 34):=⟨_,rfl⟩
 have HB3:=hid (show Below w.heap.size w w3 by rw [hw3];exact bthen (bthen (bal _) (bal _)) (bal _))
 have HRO:=hid (show Row w3 w.heap.size 38 (opC9 o) by rw [hw3];exact ((Row.new w _ _).alloc _).alloc _)
 have HR4:=hid (show Row w3 (w.heap.size+1) 34 (tdC 0 0 0 false 0) by
  rw [hw3]
  have:=Row.new (w.alloc (.cells (opC9 o).toArray 38)) 34 (tdC 0 0 0 false 0)
  rw [World.size_alloc] at this
  exact this.alloc _)
 have HR5:=hid (show Row w3 (w.heap.size+1+1) 34 (tdC 0 0 0 false 0) by
  rw [hw3]
  have:=Row.new ((w.alloc (.cells (opC9 o).toArray 38)).alloc (.cells (tdC 0 0 0 false 0).toArray 34)) 34 (tdC 0 0 0 false 0)
  rw [World.size_alloc,World.size_alloc] at this
  exact this)
 have H3:=hid (H.below HB3.out)
 have HW3:=hid hw3
 have HLW:=hid hbw
 have HSS:=hid hS
 clear hw3 hbw hS
 have HN5:=hid (show ¬ S (w.heap.size+1+1) from fun e=>by have:=(HSS.out _ e).1;omega)
 have HN4:=hid (show ¬ S (w.heap.size+1) from fun e=>by have:=(HSS.out _ e).1;omega)
 have HNO:=hid (show ¬ S w.heap.size from fun e=>by have:=(HSS.out _ e).1;omega)
 have HCO:=hid (fun ww (hs:EX (fun k=>S k∨k=w.heap.size+1+1) w3 ww)=>show Row ww w.heap.size 38 (opC9 o) from hs.row HRO.out (by rintro (e|e);(· exact HNO.out e);(· omega)))
 have HCB:=hid (fun ww (hs:EX (fun k=>S k∨k=w.heap.size+1+1) w3 ww)=>show Row ww ob 76 [.pointer (some ⟨p,0,none⟩),.pointer (some ⟨c,0,none⟩),.pointer (some ⟨tb,0,none⟩),vh] from hs.row H3.out.own (by
  rintro (e|e)
  ·exact (HSS.out _ e).2.1 rfl
  ·exact row_tys H3.out.own HR5.out (by decide) e))
 have HC4:=hid (fun ww (hs:EX (fun k=>S k∨k=w.heap.size+1+1) w3 ww)=>show Row ww (w.heap.size+1) 34 (tdC 0 0 0 false 0) from hs.row HR4.out (by rintro (e|e);(· exact HN4.out e);(· omega)))
 have HM:=hid (HC w3.drew (OffX.of_below (HB3.out.trans (bdN (Below.refl _ _) 1))))
 clear HC
 have QB2:∀ ww,EX (fun k=>S k∨k=w.heap.size+1+1) w3 ww→ww.cell? ⟨ob,2,none⟩=some (.pointer (some ⟨tb,0,none⟩)):=fun ww hs=>(HCB.out ww hs).cell 2 (by simp)
 have QO1:∀ ww,EX (fun k=>S k∨k=w.heap.size+1+1) w3 ww→ww.cell? ⟨w.heap.size,1,none⟩=some (.int .u64 (o.ad:Int)):=fun ww hs=>(HCO.out ww hs).cell 1 (by simp)
 obtain ⟨kd,oad,oof,oq,obb,on⟩:=o
 obtain rfl:kd=3:=hk
 clear H
 have hS0:EX (fun k=>S k∨k=w.heap.size+1+1) w3 w3.drew:=EX.drew (EX.refl _)
 simp only [opC9] at *
 go_enter Tryz.func9,Tryz.ntmps9
 go_wp2_with fail
 rw [← HW3.out]
 go_region_held3 (EX (fun k=>S k∨k=w.heap.size+1+1) w3) (first|exact EX.drew _|exact EX.refl _|assumption|(refine EX.set (by assumption) (.inl (.inr rfl)) _ _)|exact EX.set (EX.set (by assumption) (.inl (.inr rfl)) _ _) (.inl (.inr rfl)) _ _|exact EX.set (EX.set (EX.set (by assumption) (.inl (.inr rfl)) _ _) (.inl (.inr rfl)) _ _) (.inl (.inr rfl)) _ _|exact EX.set (EX.set (EX.set (EX.set (by assumption) (.inl (.inr rfl)) _ _) (.inl (.inr rfl)) _ _) (.inl (.inr rfl)) _ _) (.inl (.inr rfl)) _ _) ((go_at_call 36;refine (HM.out).mono ?_;rintro e' wy ⟨rfl,hty,hey⟩;have HTY:=hid hty;have hey2:EX S w3 wy:=(EX.drew (EX.refl _)).trans hey;have HEY:=hid hey2;have HRY:=hid (hey2.row HR5.out HN5.out);have hx1:=HRY.out.cell 1 (by simp);have hz1:=HRY.out.frozen 1;have hx2:=HRY.out.cell 2 (by simp);have hz2:=HRY.out.frozen 2;have hx3:=HRY.out.cell 3 (by simp);have hz3:=HRY.out.frozen 3;have hx4:=HRY.out.cell 4 (by simp);have hz4:=HRY.out.frozen 4;have hyl:=HRY.out.lt;have hS2:EX (fun k=>S k∨k=w.heap.size+1+1) w3 wy:=hey2.mono fun _ _ e=>.inl e;clear hty hey hey2))
 obtain ⟨wz,hwz⟩:∃ wz,wz=((((wy.setCell ⟨w.heap.size+1+1,1,none⟩ (.int .i64 x0)).setCell ⟨w.heap.size+1+1,2,none⟩ (.int .u8 x1)).setCell ⟨w.heap.size+1+1,3,none⟩ (.bool x2)).setCell ⟨w.heap.size+1+1,4,none⟩ (.int .i64 er)):=⟨_,rfl⟩
 have hez:EX (fun k=>k=w.heap.size+1+1) wy wz:=by rw [hwz];exact (((((EX.refl (S:=fun k=>k=w.heap.size+1+1) wy).set (g:=w.heap.size+1+1) (.inl rfl) 1 _).set (g:=w.heap.size+1+1) (.inl rfl) 2 _).set (g:=w.heap.size+1+1) (.inl rfl) 3 _).set (g:=w.heap.size+1+1) (.inl rfl) 4 _)
 have HS3:=hid (show EX (fun k=>S k∨k=w.heap.size+1+1) w3 wz from hS2.trans (hez.mono fun _ _ e=>.inr e))
 have HRZ:=hid (show Row wz (w.heap.size+1+1) 34 (tdC 0 x0 x1 x2 er) by rw [hwz];exact ((((HRY.out.set 1 (.int .i64 x0)).set 2 (.int .u8 x1)).set 3 (.bool x2)).set 4 (.int .i64 er)))
 have HEZ:=hid hez
 rw [← hwz]
 clear hez hwz hS2 hS0 hyl hx1 hz1 hx2 hz2 hx3 hz3 hx4 hz4 QB2 QO1
 have hr5:=HRZ.out
 have h50:=hr5.cell 0 (by simp)
 have h51:=hr5.cell 1 (by simp)
 have h52:=hr5.cell 2 (by simp)
 have h53:=hr5.cell 3 (by simp)
 have h54:=hr5.cell 4 (by simp)
 have h5l:=hr5.lt
 have hr4:=HC4.out _ HS3.out
 have h40:=hr4.cell 0 (by simp)
 have h41:=hr4.cell 1 (by simp)
 have h42:=hr4.cell 2 (by simp)
 have h43:=hr4.cell 3 (by simp)
 have h44:=hr4.cell 4 (by simp)
 have f40:=hr4.frozen 0
 have f41:=hr4.frozen 1
 have f42:=hr4.frozen 2
 have f43:=hr4.frozen 3
 have f44:=hr4.frozen 4
 have h4l:=hr4.lt
 have HZ4:=hid hr4
 have HY4:=hid (HEY.out.row HR4.out HN4.out)
 simp only [tdC,List.getElem_cons_zero,List.getElem_cons_succ] at h50 h51 h52 h53 h54 h40 h41 h42 h43 h44
 clear hr5 hr4
 go_wp2_with fail
 refine bodyPost_ret (v:=.agg (tdC 0 x0 x1 x2 er).toArray) (by simp [results,Tryz.f9,go_sem,h40,h41,h42,h43,h44]) rfl ?_
 exact doneX_doc HLW.out HSS.out (OffX.of_below (HB3.out.trans (bdN (Below.refl _ _) 1))) HTY.out (OffX.told (by have:=HLW.out;omega) HEZ.out HRY.out) ((EX.of_below HB3.out).trans (HS3.out.mono fun _ _ e=>e) |>.fresh (by omega)) (H3.out.ex HS3.out (fun k e=>by
  rcases e with e|rfl
  ·exact (HSS.out k e).2
  ·exact ⟨fun e=>row_tys H3.out.own HR5.out (by decide) e.symm,fun e=>ob_ne H3.out.hh HR5.out (by decide) _ e rfl⟩)) (fun _ e=>.inl e) HY4.out HZ4.out _ _ _ _ _
set_option maxRecDepth 100000 in
set_option maxHeartbeats 8000000 in
theorem does5_doc (o:O9)(x0 er:Int)(w:World)(hk:o.kind=5)(hbw:base≤w.heap.size)(hS:∀ k,S k→k<w.heap.size∧k≠ob∧vh.ownBlock≠some k)(H:OX9 76 base ob p c tb vh hs w)(HC:∀ W,OffX 76 base vh w W→Calls Tryz.prog 38 #[.pointer (some ⟨c,0,none⟩),.int .i64 1,.int .i64 o.n] W fun e w'=>e=.returned (.tuple #[.int .i64 x0,.int .i64 er])∧J W w'∧EX S W w'):
 Calls Tryz.prog 9 #[.pointer (some ⟨ob,0,none⟩),.agg (opC9 o).toArray] w (DoneX 76 base ob p c tb vh S J hs (tdC x0 0 0 false er) w):=by
 obtain ⟨w3,hw3⟩:∃ w3,w3=((w.alloc (.cells (opC9 o).toArray 38)).alloc (.cells (tdC 0 0 0 false 0).toArray 34)).alloc (.cells (tdC 0 0 0 false 0).toArray 34):=⟨_,rfl⟩
 have HB3:=hid (show Below w.heap.size w w3 by rw [hw3];exact bthen (bthen (bal _) (bal _)) (bal _))
 have HRO:=hid (show Row w3 w.heap.size 38 (opC9 o) by rw [hw3];exact ((Row.new w _ _).alloc _).alloc _)
 have HR4:=hid (show Row w3 (w.heap.size+1) 34 (tdC 0 0 0 false 0) by
  rw [hw3]
  have:=Row.new (w.alloc (.cells (opC9 o).toArray 38)) 34 (tdC 0 0 0 false 0)
  rw [World.size_alloc] at this
  exact this.alloc _)
 have HR5:=hid (show Row w3 (w.heap.size+1+1) 34 (tdC 0 0 0 false 0) by
  rw [hw3]
  have:=Row.new ((w.alloc (.cells (opC9 o).toArray 38)).alloc (.cells (tdC 0 0 0 false 0).toArray 34)) 34 (tdC 0 0 0 false 0)
  rw [World.size_alloc,World.size_alloc] at this
  exact this)
 have H3:=hid (H.below HB3.out)
 have HW3:=hid hw3
 have HLW:=hid hbw
 have HSS:=hid hS
 clear hw3 hbw hS
 have HN5:=hid (show ¬ S (w.heap.size+1+1) from fun e=>by have:=(HSS.out _ e).1;omega)
 have HN4:=hid (show ¬ S (w.heap.size+1) from fun e=>by have:=(HSS.out _ e).1;omega)
 have HNO:=hid (show ¬ S w.heap.size from fun e=>by have:=(HSS.out _ e).1;omega)
 have HCO:=hid (fun ww (hs:EX (fun k=>S k∨k=w.heap.size+1+1) w3 ww)=>show Row ww w.heap.size 38 (opC9 o) from hs.row HRO.out (by rintro (e|e);(· exact HNO.out e);(· omega)))
 have HCB:=hid (fun ww (hs:EX (fun k=>S k∨k=w.heap.size+1+1) w3 ww)=>show Row ww ob 76 [.pointer (some ⟨p,0,none⟩),.pointer (some ⟨c,0,none⟩),.pointer (some ⟨tb,0,none⟩),vh] from hs.row H3.out.own (by
  rintro (e|e)
  ·exact (HSS.out _ e).2.1 rfl
  ·exact row_tys H3.out.own HR5.out (by decide) e))
 have HC4:=hid (fun ww (hs:EX (fun k=>S k∨k=w.heap.size+1+1) w3 ww)=>show Row ww (w.heap.size+1) 34 (tdC 0 0 0 false 0) from hs.row HR4.out (by rintro (e|e);(· exact HN4.out e);(· omega)))
 have HM:=hid (HC w3.drew (OffX.of_below (HB3.out.trans (bdN (Below.refl _ _) 1))))
 clear HC
 have QB1:∀ ww,EX (fun k=>S k∨k=w.heap.size+1+1) w3 ww→ww.cell? ⟨ob,1,none⟩=some (.pointer (some ⟨c,0,none⟩)):=fun ww hs=>(HCB.out ww hs).cell 1 (by simp)
 have QO5:∀ ww,EX (fun k=>S k∨k=w.heap.size+1+1) w3 ww→ww.cell? ⟨w.heap.size,5,none⟩=some (.int .i64 o.n):=fun ww hs=>(HCO.out ww hs).cell 5 (by simp)
 obtain ⟨kd,oad,oof,oq,obb,on⟩:=o
 obtain rfl:kd=5:=hk
 clear H
 have hS0:EX (fun k=>S k∨k=w.heap.size+1+1) w3 w3.drew:=EX.drew (EX.refl _)
 simp only [opC9] at *
 go_enter Tryz.func9,Tryz.ntmps9
 go_wp2_with fail
 rw [← HW3.out]
 go_region_held3 (EX (fun k=>S k∨k=w.heap.size+1+1) w3) (first|exact EX.drew _|exact EX.refl _|assumption|(refine EX.set (by assumption) (.inl (.inr rfl)) _ _)|exact EX.set (EX.set (by assumption) (.inl (.inr rfl)) _ _) (.inl (.inr rfl)) _ _|exact EX.set (EX.set (EX.set (by assumption) (.inl (.inr rfl)) _ _) (.inl (.inr rfl)) _ _) (.inl (.inr rfl)) _ _|exact EX.set (EX.set (EX.set (EX.set (by assumption) (.inl (.inr rfl)) _ _) (.inl (.inr rfl)) _ _) (.inl (.inr rfl)) _ _) (.inl (.inr rfl)) _ _) ((go_at_call 38;refine (HM.out).mono ?_;rintro e' wy ⟨rfl,hty,hey⟩;have HTY:=hid hty;have hey2:EX S w3 wy:=(EX.drew (EX.refl _)).trans hey;have HEY:=hid hey2;have HRY:=hid (hey2.row HR5.out HN5.out);have hx0:=HRY.out.cell 0 (by simp);have hz0:=HRY.out.frozen 0;have hx4:=HRY.out.cell 4 (by simp);have hz4:=HRY.out.frozen 4;have hyl:=HRY.out.lt;have hS2:EX (fun k=>S k∨k=w.heap.size+1+1) w3 wy:=hey2.mono fun _ _ e=>.inl e;clear hty hey hey2))
 obtain ⟨wz,hwz⟩:∃ wz,wz=((wy.setCell ⟨w.heap.size+1+1,0,none⟩ (.int .i64 x0)).setCell ⟨w.heap.size+1+1,4,none⟩ (.int .i64 er)):=⟨_,rfl⟩
 have hez:EX (fun k=>k=w.heap.size+1+1) wy wz:=by rw [hwz];exact (((EX.refl (S:=fun k=>k=w.heap.size+1+1) wy).set (g:=w.heap.size+1+1) (.inl rfl) 0 _).set (g:=w.heap.size+1+1) (.inl rfl) 4 _)
 have HS3:=hid (show EX (fun k=>S k∨k=w.heap.size+1+1) w3 wz from hS2.trans (hez.mono fun _ _ e=>.inr e))
 have HRZ:=hid (show Row wz (w.heap.size+1+1) 34 (tdC x0 0 0 false er) by rw [hwz];exact ((HRY.out.set 0 (.int .i64 x0)).set 4 (.int .i64 er)))
 have HEZ:=hid hez
 rw [← hwz]
 clear hez hwz hS2 hS0 hyl hx0 hz0 hx4 hz4 QB1 QO5
 have hr5:=HRZ.out
 have h50:=hr5.cell 0 (by simp)
 have h51:=hr5.cell 1 (by simp)
 have h52:=hr5.cell 2 (by simp)
 have h53:=hr5.cell 3 (by simp)
 have h54:=hr5.cell 4 (by simp)
 have h5l:=hr5.lt
 have hr4:=HC4.out _ HS3.out
 have h40:=hr4.cell 0 (by simp)
 have h41:=hr4.cell 1 (by simp)
 have h42:=hr4.cell 2 (by simp)
 have h43:=hr4.cell 3 (by simp)
 have h44:=hr4.cell 4 (by simp)
 have f40:=hr4.frozen 0
 have f41:=hr4.frozen 1
 have f42:=hr4.frozen 2
 have f43:=hr4.frozen 3
 have f44:=hr4.frozen 4
 have h4l:=hr4.lt
 have HZ4:=hid hr4
 have HY4:=hid (HEY.out.row HR4.out HN4.out)
 simp only [tdC,List.getElem_cons_zero,List.getElem_cons_succ] at h50 h51 h52 h53 h54 h40 h41 h42 h43 h44
 clear hr5 hr4
 go_wp2_with fail
 refine bodyPost_ret (v:=.agg (tdC x0 0 0 false er).toArray) (by simp [results,Tryz.f9,go_sem,h40,h41,h42,h43,h44]) rfl ?_
 exact doneX_doc HLW.out HSS.out (OffX.of_below (HB3.out.trans (bdN (Below.refl _ _) 1))) HTY.out (OffX.told (by have:=HLW.out;omega) HEZ.out HRY.out) ((EX.of_below HB3.out).trans (HS3.out.mono fun _ _ e=>e) |>.fresh (by omega)) (H3.out.ex HS3.out (fun k e=>by
  rcases e with e|rfl
  ·exact (HSS.out k e).2
  ·exact ⟨fun e=>row_tys H3.out.own HR5.out (by decide) e.symm,fun e=>ob_ne H3.out.hh HR5.out (by decide) _ e rfl⟩)) (fun _ e=>.inl e) HY4.out HZ4.out _ _ _ _ _
set_option maxRecDepth 100000 in
set_option maxHeartbeats 8000000 in
theorem does7_doc (o:O9)(w:World)(hk:o.kind=7)(hbw:base≤w.heap.size)(hS:∀ k,S k→k<w.heap.size∧k≠ob∧vh.ownBlock≠some k)(H:OX9 76 base ob p c tb vh hs w)(HC:∀ W,OffX 76 base vh w W→Calls Tryz.prog 40 #[.pointer (some ⟨tb,0,none⟩)] W fun e w'=>e=.returned (.tuple #[])∧J W w'∧EX S W w'):
 Calls Tryz.prog 9 #[.pointer (some ⟨ob,0,none⟩),.agg (opC9 o).toArray] w (DoneX 76 base ob p c tb vh S J hs (tdC 0 0 0 false 0) w):=by
 obtain ⟨w3,hw3⟩:∃ w3,w3=((w.alloc (.cells (opC9 o).toArray 38)).alloc (.cells (tdC 0 0 0 false 0).toArray 34)).alloc (.cells (tdC 0 0 0 false 0).toArray 34):=⟨_,rfl⟩
 have HB3:=hid (show Below w.heap.size w w3 by rw [hw3];exact bthen (bthen (bal _) (bal _)) (bal _))
 have HRO:=hid (show Row w3 w.heap.size 38 (opC9 o) by rw [hw3];exact ((Row.new w _ _).alloc _).alloc _)
 have HR4:=hid (show Row w3 (w.heap.size+1) 34 (tdC 0 0 0 false 0) by
  rw [hw3]
  have:=Row.new (w.alloc (.cells (opC9 o).toArray 38)) 34 (tdC 0 0 0 false 0)
  rw [World.size_alloc] at this
  exact this.alloc _)
 have HR5:=hid (show Row w3 (w.heap.size+1+1) 34 (tdC 0 0 0 false 0) by
  rw [hw3]
  have:=Row.new ((w.alloc (.cells (opC9 o).toArray 38)).alloc (.cells (tdC 0 0 0 false 0).toArray 34)) 34 (tdC 0 0 0 false 0)
  rw [World.size_alloc,World.size_alloc] at this
  exact this)
 have H3:=hid (H.below HB3.out)
 have HW3:=hid hw3
 have HLW:=hid hbw
 have HSS:=hid hS
 clear hw3 hbw hS
 have HN5:=hid (show ¬ S (w.heap.size+1+1) from fun e=>by have:=(HSS.out _ e).1;omega)
 have HN4:=hid (show ¬ S (w.heap.size+1) from fun e=>by have:=(HSS.out _ e).1;omega)
 have HNO:=hid (show ¬ S w.heap.size from fun e=>by have:=(HSS.out _ e).1;omega)
 have HCO:=hid (fun ww (hs:EX (fun k=>S k∨k=w.heap.size+1+1) w3 ww)=>show Row ww w.heap.size 38 (opC9 o) from hs.row HRO.out (by rintro (e|e);(· exact HNO.out e);(· omega)))
 have HCB:=hid (fun ww (hs:EX (fun k=>S k∨k=w.heap.size+1+1) w3 ww)=>show Row ww ob 76 [.pointer (some ⟨p,0,none⟩),.pointer (some ⟨c,0,none⟩),.pointer (some ⟨tb,0,none⟩),vh] from hs.row H3.out.own (by
  rintro (e|e)
  ·exact (HSS.out _ e).2.1 rfl
  ·exact row_tys H3.out.own HR5.out (by decide) e))
 have HC4:=hid (fun ww (hs:EX (fun k=>S k∨k=w.heap.size+1+1) w3 ww)=>show Row ww (w.heap.size+1) 34 (tdC 0 0 0 false 0) from hs.row HR4.out (by rintro (e|e);(· exact HN4.out e);(· omega)))
 have HM:=hid (HC w3 (OffX.of_below HB3.out))
 clear HC
 obtain ⟨kd,oad,oof,oq,obb,on⟩:=o
 obtain rfl:kd=7:=hk
 clear H
 simp only [opC9] at *
 have hob2:=H3.out.own.cell 2 (by simp)
 have hobl:=H3.out.own.lt
 simp only [List.getElem_cons_zero,List.getElem_cons_succ] at hob2
 rw [HW3.out] at hob2 hobl
 go_enter Tryz.func9,Tryz.ntmps9
 go_wp2_with fail
 rw [← HW3.out]
 refine (HM.out).mono ?_
 rintro e' wz ⟨rfl,hty,hey⟩
 have HTY:=hid hty
 have HS3:=hid (show EX (fun k=>S k∨k=w.heap.size+1+1) w3 wz from hey.mono fun _ _ e=>.inl e)
 have HRZ:=hid (hey.row HR5.out HN5.out)
 clear hty hey hob2 hobl
 have hr5:=HRZ.out
 have h50:=hr5.cell 0 (by simp)
 have h51:=hr5.cell 1 (by simp)
 have h52:=hr5.cell 2 (by simp)
 have h53:=hr5.cell 3 (by simp)
 have h54:=hr5.cell 4 (by simp)
 have h5l:=hr5.lt
 have hr4:=HC4.out _ HS3.out
 have h40:=hr4.cell 0 (by simp)
 have h41:=hr4.cell 1 (by simp)
 have h42:=hr4.cell 2 (by simp)
 have h43:=hr4.cell 3 (by simp)
 have h44:=hr4.cell 4 (by simp)
 have f40:=hr4.frozen 0
 have f41:=hr4.frozen 1
 have f42:=hr4.frozen 2
 have f43:=hr4.frozen 3
 have f44:=hr4.frozen 4
 have h4l:=hr4.lt
 have HZ4:=hid hr4
 simp only [tdC,List.getElem_cons_zero,List.getElem_cons_succ] at h50 h51 h52 h53 h54 h40 h41 h42 h43 h44
 clear hr5 hr4
 go_wp2_with fail
 refine bodyPost_ret (v:=.agg (tdC 0 0 0 false 0).toArray) (by simp [results,Tryz.f9,go_sem,h40,h41,h42,h43,h44]) rfl ?_
 exact doneX_doc HLW.out HSS.out (OffX.of_below HB3.out) HTY.out (OffX.refl _ _ _ _) ((EX.of_below HB3.out).trans (HS3.out.mono fun _ _ e=>e) |>.fresh (by omega)) (H3.out.ex HS3.out (fun k e=>by
  rcases e with e|rfl
  ·exact (HSS.out k e).2
  ·exact ⟨fun e=>row_tys H3.out.own HR5.out (by decide) e.symm,fun e=>ob_ne H3.out.hh HR5.out (by decide) _ e rfl⟩)) (fun _ e=>.inl e) HZ4.out HZ4.out _ _ _ _ _
set_option maxRecDepth 100000 in
set_option maxHeartbeats 8000000 in
theorem does4_doc (o:O9)(x er:Int)(hs2:List Nat)(w:World)(hk:o.kind=4)(hbw:base≤w.heap.size)(hS:∀ k,S k→k<w.heap.size∧k≠ob∧vh.ownBlock≠some k)(H:OX9 76 base ob p c tb vh hs w)(HC:∀ W,OffX 76 base vh w W→Calls Tryz.prog 37 #[.pointer (some ⟨c,0,none⟩)] W fun e w'=>e=.returned (.tuple #[.int .i64 x,.int .i64 er])∧J W w'∧EX S W w')(hx:er=0→∃ q:Nat,x=(q:Int))(hl:hs.length≤1000000)(hA:er=0→hs2=hs++[x.toNat])(hB:¬ er=0→hs2=hs):
 Calls Tryz.prog 9 #[.pointer (some ⟨ob,0,none⟩),.agg (opC9 o).toArray] w (DoneX 76 base ob p c tb vh S J hs2 (tdC x 0 0 false er) w):=by
 obtain ⟨w3,hw3⟩:∃ w3,w3=((w.alloc (.cells (opC9 o).toArray 38)).alloc (.cells (tdC 0 0 0 false 0).toArray 34)).alloc (.cells (tdC 0 0 0 false 0).toArray 34):=⟨_,rfl⟩
 have HB3:=hid (show Below w.heap.size w w3 by rw [hw3];exact bthen (bthen (bal _) (bal _)) (bal _))
 have HRO:=hid (show Row w3 w.heap.size 38 (opC9 o) by rw [hw3];exact ((Row.new w _ _).alloc _).alloc _)
 have HR4:=hid (show Row w3 (w.heap.size+1) 34 (tdC 0 0 0 false 0) by
  rw [hw3]
  have:=Row.new (w.alloc (.cells (opC9 o).toArray 38)) 34 (tdC 0 0 0 false 0)
  rw [World.size_alloc] at this
  exact this.alloc _)
 have HR5:=hid (show Row w3 (w.heap.size+1+1) 34 (tdC 0 0 0 false 0) by
  rw [hw3]
  have:=Row.new ((w.alloc (.cells (opC9 o).toArray 38)).alloc (.cells (tdC 0 0 0 false 0).toArray 34)) 34 (tdC 0 0 0 false 0)
  rw [World.size_alloc,World.size_alloc] at this
  exact this)
 have H3:=hid (H.below HB3.out)
 have HW3:=hid hw3
 have HLW:=hid hbw
 have HSS:=hid hS
 clear hw3 hbw hS
 have HN5:=hid (show ¬ S (w.heap.size+1+1) from fun e=>by have:=(HSS.out _ e).1;omega)
 have HN4:=hid (show ¬ S (w.heap.size+1) from fun e=>by have:=(HSS.out _ e).1;omega)
 have HNO:=hid (show ¬ S w.heap.size from fun e=>by have:=(HSS.out _ e).1;omega)
 have HCO:=hid (fun ww (hs:EX (fun k=>S k∨k=w.heap.size+1+1) w3 ww)=>show Row ww w.heap.size 38 (opC9 o) from hs.row HRO.out (by rintro (e|e);(· exact HNO.out e);(· omega)))
 have HCB:=hid (fun ww (hs:EX (fun k=>S k∨k=w.heap.size+1+1) w3 ww)=>show Row ww ob 76 [.pointer (some ⟨p,0,none⟩),.pointer (some ⟨c,0,none⟩),.pointer (some ⟨tb,0,none⟩),vh] from hs.row H3.out.own (by
  rintro (e|e)
  ·exact (HSS.out _ e).2.1 rfl
  ·exact row_tys H3.out.own HR5.out (by decide) e))
 have HC4:=hid (fun ww (hs:EX (fun k=>S k∨k=w.heap.size+1+1) w3 ww)=>show Row ww (w.heap.size+1) 34 (tdC 0 0 0 false 0) from hs.row HR4.out (by rintro (e|e);(· exact HN4.out e);(· omega)))
 have HM:=hid (HC w3 (OffX.of_below HB3.out))
 clear HC
 obtain ⟨kd,oad,oof,oq,obb,on⟩:=o
 obtain rfl:kd=4:=hk
 clear H
 simp only [opC9] at *
 have hob1:=H3.out.own.cell 1 (by simp)
 have hobl:=H3.out.own.lt
 simp only [List.getElem_cons_zero,List.getElem_cons_succ] at hob1
 rw [HW3.out] at hob1 hobl
 have HX:=hid hx
 have HHL:=hid hl
 have HA:=hid hA
 have HB:=hid hB
 clear hx hl hA hB
 go_enter Tryz.func9,Tryz.ntmps9
 go_wp2_with fail
 rw [← HW3.out]
 refine (HM.out).mono ?_
 rintro e' wy ⟨rfl,hty,hey⟩
 have HTY:=hid hty
 have HEY:=hid hey
 have HRY:=hid (hey.row HR5.out HN5.out)
 have HY4:=hid (hey.row HR4.out HN4.out)
 have hx0:=HRY.out.cell 0 (by simp)
 have hx4:=HRY.out.cell 4 (by simp)
 have hz0:=HRY.out.frozen 0
 have hz4:=HRY.out.frozen 4
 have hyl:=HRY.out.lt
 have hS2:EX (fun k=>S k∨k=w.heap.size+1+1) w3 wy:=hey.mono fun _ _ e=>.inl e
 clear hty hey hob1 hobl
 by_cases he0:er=0
 ·subst he0
  obtain ⟨q,rfl⟩:=HX.out rfl
  have HA0:=hid (HA.out rfl)
  clear HX HA HB
  obtain ⟨wz,hwz⟩:∃ wz,wz=(wy.setCell ⟨w.heap.size+1+1,0,none⟩ (.int .i64 (q:Int))).setCell ⟨w.heap.size+1+1,4,none⟩ (.int .i64 0):=⟨_,rfl⟩
  have hez:EX (fun k=>k=w.heap.size+1+1) wy wz:=by rw [hwz];exact ((EX.refl (S:=fun k=>k=w.heap.size+1+1) wy).set (g:=w.heap.size+1+1) (.inl rfl) 0 _).set (g:=w.heap.size+1+1) (.inl rfl) 4 _
  have HS3:=hid (show EX (fun k=>S k∨k=w.heap.size+1+1) w3 wz from hS2.trans (hez.mono fun _ _ e=>.inr e))
  have HRZ:=hid (show Row wz (w.heap.size+1+1) 34 (tdC q 0 0 false 0) by rw [hwz];exact (HRY.out.set 0 _).set 4 _)
  have HEZ:=hid hez
  have HWZ:=hid (H3.out.ex HS3.out (fun k e=>by
   rcases e with e|rfl
   ·exact (HSS.out k e).2
   ·exact ⟨fun e=>row_tys H3.out.own HR5.out (by decide) e.symm,fun e=>ob_ne H3.out.hh HR5.out (by decide) _ e rfl⟩))
  have HWY:=hid hwz
  clear hez hS2
  have hb3:=HWZ.out.own.cell 3 (by simp)
  have hbl:=HWZ.out.own.lt
  have hbf:=HWZ.out.own.frozen 3
  simp only [List.getElem_cons_zero,List.getElem_cons_succ] at hb3
  have hr50:=HRZ.out.cell 0 (by simp)
  have hr54:=HRZ.out.cell 4 (by simp)
  have hr5l:=HRZ.out.lt
  rw [hwz] at hb3 hbl hbf hr50 hr54 hr5l
  clear hwz
  have HB3S:=hid (show (wz.cell? ⟨ob,3,none⟩=some vh∧wz.cell? ⟨w.heap.size+1+1,0,none⟩=some (.int .i64 (q:Int))∧ob<wz.heap.size) from ⟨HWZ.out.own.cell 3 (by simp),HRZ.out.cell 0 (by simp),HWZ.out.own.lt⟩)
  obtain ⟨ga,gc,rfl⟩:=own_hd9 HWZ.out.hh
  go_wp2_with fail
  rw [← HWY.out]
  clear hb3 hbl hbf hr50 hr54 hr5l
  have hS:wz.drew.cell? ⟨ob,3,none⟩=some (.slice ga hs.length gc)∧wz.drew.cell? ⟨w.heap.size+1+1,0,none⟩=some (.int .i64 (q:Int))∧ob<wz.drew.heap.size:=HB3S.out
  refine region_sk 11 (fun ww:World=>ww.cell? ⟨ob,3,none⟩=some (.slice ga hs.length gc)∧ww.cell? ⟨w.heap.size+1+1,0,none⟩=some (.int .i64 (q:Int))∧ob<ww.heap.size) (by kernel_rfl) (fun inv=>?_)
  refine sk_take (i:=0) (v:=?_) (some 83) rfl rfl (by kernel_rfl) (by kernel_rfl) (by decide) (by decide) inv (by kernel_rfl) (by kernel_rfl) (fun _ _ _ h=>h) (Or.inl ⟨by rfl,?_⟩) hS (fun inv=>?_)
  rotate_left
  ·intro ww hSw
   obtain ⟨hSa,hSb,hSc⟩:=hSw
   go_simp
   try with_reducible rfl
  simp only [Act.put,List.setIfInBounds_toArray,List.set_cons_zero,List.set_cons_succ]
  refine sk_take (i:=1) (v:=?_) (some 84) rfl rfl (by kernel_rfl) (by kernel_rfl) (by decide) (by decide) inv (by kernel_rfl) (by kernel_rfl) (fun _ _ _ h=>h) (Or.inl ⟨by rfl,?_⟩) hS (fun inv=>?_)
  rotate_left
  ·intro ww hSw
   obtain ⟨hSa,hSb,hSc⟩:=hSw
   go_simp
   try with_reducible rfl
  simp only [Act.put,List.setIfInBounds_toArray,List.set_cons_zero,List.set_cons_succ]
  refine sk_take (i:=2) (v:=?_) (some 85) rfl rfl (by kernel_rfl) (by kernel_rfl) (by decide) (by decide) inv (by kernel_rfl) (by kernel_rfl) (fun _ _ _ h=>h) (Or.inl ⟨by rfl,?_⟩) hS (fun inv=>?_)
  rotate_left
  ·intro ww hSw
   obtain ⟨hSa,hSb,hSc⟩:=hSw
   go_simp
   try with_reducible rfl
  simp only [Act.put,List.setIfInBounds_toArray,List.set_cons_zero,List.set_cons_succ]
  refine sk_take (i:=3) (v:=?_) (some 86) rfl rfl (by kernel_rfl) (by kernel_rfl) (by decide) (by decide) inv (by kernel_rfl) (by kernel_rfl) (fun _ _ _ h=>h) (Or.inl ⟨by rfl,?_⟩) hS (fun inv=>?_)
  rotate_left
  ·intro ww hSw
   obtain ⟨hSa,hSb,hSc⟩:=hSw
   go_simp
   try with_reducible rfl
  simp only [Act.put,List.setIfInBounds_toArray,List.set_cons_zero,List.set_cons_succ]
  refine sk_take (i:=4) (v:=?_) (some 87) rfl rfl (by kernel_rfl) (by kernel_rfl) (by decide) (by decide) inv (by kernel_rfl) (by kernel_rfl) (fun _ _ _ h=>h) (Or.inl ⟨by rfl,?_⟩) hS (fun inv=>?_)
  rotate_left
  ·intro ww hSw
   obtain ⟨hSa,hSb,hSc⟩:=hSw
   go_simp
   try with_reducible rfl
  simp only [Act.put,List.setIfInBounds_toArray,List.set_cons_zero,List.set_cons_succ]
  refine sk_take (i:=5) (v:=?_) (some 88) rfl rfl (by kernel_rfl) (by kernel_rfl) (by decide) (by decide) inv (by kernel_rfl) (by kernel_rfl) (fun _ _ _ h=>h) (Or.inl ⟨by rfl,?_⟩) hS (fun inv=>?_)
  rotate_left
  ·intro ww hSw
   obtain ⟨hSa,hSb,hSc⟩:=hSw
   go_simp
   try with_reducible rfl
  simp only [Act.put,List.setIfInBounds_toArray,List.set_cons_zero,List.set_cons_succ]
  refine sk_take (i:=6) (v:=?_) (some 89) rfl rfl (by kernel_rfl) (by kernel_rfl) (by decide) (by decide) inv (by kernel_rfl) (by kernel_rfl) (fun _ _ _ h=>h) (Or.inl ⟨by rfl,?_⟩) hS (fun inv=>?_)
  rotate_left
  ·intro ww hSw
   obtain ⟨hSa,hSb,hSc⟩:=hSw
   go_simp
   try with_reducible rfl
  simp only [Act.put,List.setIfInBounds_toArray,List.set_cons_zero,List.set_cons_succ]
  refine sk_one (i:=7) (by kernel_rfl) rfl inv (fun K hK=>?_)
  rw [if_pos (by rfl)]
  go_simp
  obtain ⟨w5,hw5⟩:∃ w5,w5=(wz.alloc (.cells #[.int .i64 (q:Int)] 3)).drew:=⟨_,rfl⟩
  have HB5:=hid (show Below wz.heap.size wz w5 by rw [hw5];exact bdN (bal _) 1)
  have HCE:=hid (show Cel w5 (some ⟨wz.heap.size,0,none⟩) 1 [nI9 q] from by
   have hh:=(Row.new wz 3 [nI9 q]).drew
   rw [hw5]
   exact ⟨rfl,fun i hi=>⟨_,0,rfl,by rw [Nat.zero_add];exact hh.cell i hi⟩⟩)
  have HW5:=hid hw5
  have hS:w5.cell? ⟨ob,3,none⟩=some (.slice ga hs.length gc)∧w5.cell? ⟨w.heap.size+1+1,0,none⟩=some (.int .i64 (q:Int))∧ob<w5.heap.size:=⟨keepC HB5.out HB3S.out.1,keepC HB5.out HB3S.out.2.1,Nat.lt_of_lt_of_le HB3S.out.2.2 HB5.out.size⟩
  clear hw5
  rw [← HW5.out]
  refine hK.out _ _ (fun _=>hS) (fun inv=>?_)
  have inv:=inv (by decide)
  clear hK K
  try simp only [Act.put,List.setIfInBounds_toArray,List.set_cons_zero,List.set_cons_succ]
  have HO5:=hid (own_below HWZ.out.hh HB5.out)
  have HR5B:=hid (HWZ.out.own.below HB5.out HWZ.out.own.lt)
  obtain ⟨i0,hi0,hz0,hz1,hz2⟩:=info_parts info_int9
  refine sk_one (i:=8) (by kernel_rfl) rfl inv (fun K hK=>?_)
  refine step_append_lies _ (by rfl) _ _ 44 (by rfl) base 3 i0 _ 1 8 Tryz.underlying44 hi0 hz0 hz1 hz2 rfl (by decide) (.slice ga hs.length gc) hs.length (hs.map nI9) (by rfl) HO5.out ⟨wz.heap.size,0,none⟩ 1 1 [nI9 q] (by rfl) (by rfl) HCE.out.news (fun u hu=>by rw [List.mem_singleton.1 hu];rfl) (by decide) (by have:=HHL.out;unfold maxLen;omega) (by have:=HHL.out;omega) (Nat.le_trans HLW.out (Nat.le_trans (Nat.le_trans HB3.out.size HS3.out.size) HB5.out.size)) w5.heap.size rfl ?_
  intro gg cap w6 hown hgrow hat hlt
  have HO6:=hid hown
  have HAT6:=hid hat
  have hr6:=HR5B.out.grown hgrow (own_row_neK2 HO5.out HR5B.out (by decide))
  have HE6:=hid (show EX (fun k=>(Value.slice ga hs.length gc).ownBlock=some k) wz w6 from (EX.of_below HB5.out).trans (EX.of_grown hgrow fun k e _=>e))
  have h6p:w6.cell? ⟨w.heap.size+1+1,0,none⟩=some (.int .i64 (q:Int)):=HE6.out.cell HB3S.out.2.1 (fun e=>ob_ne HWZ.out.hh HRZ.out (by decide) _ e rfl)
  have hS:w6.cell? ⟨ob,3,none⟩=some (.slice ga hs.length gc)∧w6.cell? ⟨w.heap.size+1+1,0,none⟩=some (.int .i64 (q:Int))∧ob<w6.heap.size:=⟨hr6.cell 3 (by simp),h6p,hr6.lt⟩
  have h6f:=hr6.frozen 3
  have HR6:=hid hr6
  clear hown hgrow hat hlt hr6 h6p
  refine hK.out _ _ (fun _=>hS) (fun inv=>?_)
  have inv:=inv (by decide)
  clear hK K
  try simp only [Act.put,List.setIfInBounds_toArray]
  refine sk_take (i:=9) (v:=?_) (some 92) rfl rfl (by kernel_rfl) (by kernel_rfl) (by decide) (by decide) inv (by kernel_rfl) (by kernel_rfl) (fun _ _ _ h=>h) (Or.inl ⟨by rfl,?_⟩) hS (fun inv=>?_)
  rotate_left
  ·intro ww hSw
   obtain ⟨hSa,hSb,hSc⟩:=hSw
   go_simp
   try with_reducible rfl
  simp only [Act.put]
  refine sk_take (i:=10) (v:=?_) (some 93) rfl rfl (by kernel_rfl) (by kernel_rfl) (by decide) (by decide) inv (by kernel_rfl) (by kernel_rfl) (fun _ _ _ h=>h) (Or.inl ⟨by rfl,?_⟩) hS (fun inv=>?_)
  rotate_left
  ·intro ww hSw
   obtain ⟨hSa,hSb,hSc⟩:=hSw
   go_simp
   try with_reducible rfl
  simp only [Act.put]
  refine sk_one (i:=11) (by kernel_rfl) rfl inv (fun K hK=>?_)
  rw [if_pos (by rfl)]
  have hSa:=hS.1
  have hSc:=hS.2.2
  go_simp
  refine hK.out _ _ (fun h=>absurd h (by decide)) (fun _=>?_)
  clear hK K
  refine sk_done (by kernel_rfl) ?_ _
  obtain ⟨wx,hwx⟩:∃ wx,wx=w6.setCell ⟨ob,3,none⟩ (.slice (some ⟨gg,0,none⟩) (hs.length+1) cap):=⟨_,rfl⟩
  rw [← hwx]
  have heo:EX (fun k=>k=ob∨(Value.slice ga hs.length gc).ownBlock=some k) wz wx:=by
   rw [hwx]
   exact (HE6.out.mono fun _ _ e=>.inr e).set (g:=ob) (.inl (.inl rfl)) 3 _
  have HWX:=hid (show OX9 76 base ob p c tb (.slice (some ⟨gg,0,none⟩) (hs.length+1) cap) (hs++[q]) wx from by
   rw [hwx]
   exact ⟨HR6.out.set 3 _,own_setOther (own_ext HO6.out (by simp) (by simp)) (own_row_neK2 HO6.out HR6.out (by decide)) _,H3.out.lo⟩)
  have HRX:=hid (heo.row HRZ.out (by rintro (e|e);(· exact row_tys HRZ.out HWZ.out.own (by decide) e);(· exact ob_ne HWZ.out.hh HRZ.out (by decide) _ e rfl)))
  have h4z:=HC4.out _ HS3.out
  have HZ4:=hid (heo.row h4z (by rintro (e|e);(· exact row_tys h4z HWZ.out.own (by decide) e);(· exact ob_ne HWZ.out.hh h4z (by decide) _ e rfl)))
  have HEO:=hid heo
  have hr5:=HRX.out
  have h50:=hr5.cell 0 (by simp)
  have h51:=hr5.cell 1 (by simp)
  have h52:=hr5.cell 2 (by simp)
  have h53:=hr5.cell 3 (by simp)
  have h54:=hr5.cell 4 (by simp)
  have h5l:=hr5.lt
  have hr4:=HZ4.out
  have h40:=hr4.cell 0 (by simp)
  have h41:=hr4.cell 1 (by simp)
  have h42:=hr4.cell 2 (by simp)
  have h43:=hr4.cell 3 (by simp)
  have h44:=hr4.cell 4 (by simp)
  have f40:=hr4.frozen 0
  have f41:=hr4.frozen 1
  have f42:=hr4.frozen 2
  have f43:=hr4.frozen 3
  have f44:=hr4.frozen 4
  have h4l:=hr4.lt
  simp only [tdC,List.getElem_cons_zero,List.getElem_cons_succ] at h50 h51 h52 h53 h54 h40 h41 h42 h43 h44
  clear hr5 hr4 heo hwx h4z hS h6f hSa hSc
  go_wp2_with fail
  refine bodyPost_ret (v:=.agg (tdC q 0 0 false 0).toArray) (by simp [results,Tryz.f9,go_sem,h40,h41,h42,h43,h44]) rfl ?_
  rw [show hs2=hs++[q] from HA0.out]
  have hoy:=HWY.out
  refine doneX_doc HLW.out HSS.out (OffX.of_below HB3.out) HTY.out ⟨fun k=>k=w.heap.size+1+1∨k=ob∨(Value.slice ga hs.length gc).ownBlock=some k,(HEZ.out.mono fun _ _ e=>.inl e).trans (HEO.out.mono fun _ _ e=>.inr e),fun k e=>?_⟩ (((EX.of_below HB3.out).trans (HS3.out.mono fun _ _ e=>e) |>.fresh (ob:=ob) (vh:=.slice ga hs.length gc) (by omega)).trans (HEO.out.mono fun _ _ e=>.inr e)) HWX.out (fun k e=>?_) HY4.out HZ4.out _ _ _ _ _
  ·rcases e with rfl|rfl|e
   ·exact ⟨by have:=HLW.out;omega,.inl ⟨_,HRY.out⟩⟩
   ·exact ⟨H3.out.lo,.inr (.inl ⟨_,HEY.out.row H3.out.own fun e=>(HSS.out _ e).2.1 rfl⟩)⟩
   ·obtain ⟨ds,hr⟩:=own_blk H3.out.hh k e
    exact ⟨(H3.out.hh.lt k e).1,.inr (.inr ⟨e,ds,HEY.out.row hr fun e2=>(HSS.out _ e2).2.2 e⟩)⟩
  ·have e:=Option.some.inj e
   rcases HAT6.out with h|h
   ·exact .inl (by rw [h,show gg=k from e])
   ·refine .inr ?_
    have h1:=Nat.le_trans HB3.out.size HS3.out.size
    have h2:=HB5.out.size
    have h3:gg=k:=e
    omega
 ·have d1:(er==(0:Int))=false:=by simpa using he0
  have HB0:=hid (HB.out he0)
  clear he0 HX HA HB
  obtain ⟨wz,hwz⟩:∃ wz,wz=(wy.setCell ⟨w.heap.size+1+1,0,none⟩ (.int .i64 x)).setCell ⟨w.heap.size+1+1,4,none⟩ (.int .i64 er):=⟨_,rfl⟩
  have hez:EX (fun k=>k=w.heap.size+1+1) wy wz:=by rw [hwz];exact ((EX.refl (S:=fun k=>k=w.heap.size+1+1) wy).set (g:=w.heap.size+1+1) (.inl rfl) 0 _).set (g:=w.heap.size+1+1) (.inl rfl) 4 _
  have HS3:=hid (show EX (fun k=>S k∨k=w.heap.size+1+1) w3 wz from hS2.trans (hez.mono fun _ _ e=>.inr e))
  have HRZ:=hid (show Row wz (w.heap.size+1+1) 34 (tdC x 0 0 false er) by rw [hwz];exact (HRY.out.set 0 _).set 4 _)
  have HEZ:=hid hez
  clear hez hS2
  have hr5:=HRZ.out
  have h50:=hr5.cell 0 (by simp)
  have h51:=hr5.cell 1 (by simp)
  have h52:=hr5.cell 2 (by simp)
  have h53:=hr5.cell 3 (by simp)
  have h54:=hr5.cell 4 (by simp)
  have h5l:=hr5.lt
  have hr4:=HC4.out _ HS3.out
  have h40:=hr4.cell 0 (by simp)
  have h41:=hr4.cell 1 (by simp)
  have h42:=hr4.cell 2 (by simp)
  have h43:=hr4.cell 3 (by simp)
  have h44:=hr4.cell 4 (by simp)
  have f40:=hr4.frozen 0
  have f41:=hr4.frozen 1
  have f42:=hr4.frozen 2
  have f43:=hr4.frozen 3
  have f44:=hr4.frozen 4
  have h4l:=hr4.lt
  have HZ4:=hid hr4
  simp only [tdC,List.getElem_cons_zero,List.getElem_cons_succ] at h50 h51 h52 h53 h54 h40 h41 h42 h43 h44
  clear hr5 hr4
  have HWY:=hid hwz
  rw [hwz] at h50 h51 h52 h53 h54 h40 h41 h42 h43 h44 f40 f41 f42 f43 f44 h5l h4l
  clear hwz
  go_wp2_with fail
  refine bodyPost_ret (v:=.agg (tdC x 0 0 false er).toArray) (by simp [results,Tryz.f9,go_sem,h40,h41,h42,h43,h44]) rfl ?_
  rw [← HWY.out,HB0.out]
  exact doneX_doc HLW.out HSS.out (OffX.of_below HB3.out) HTY.out (OffX.told (by have:=HLW.out;omega) HEZ.out HRY.out) ((EX.of_below HB3.out).trans (HS3.out.mono fun _ _ e=>e) |>.fresh (by omega)) (H3.out.ex HS3.out (fun k e=>by
   rcases e with e|rfl
   ·exact (HSS.out k e).2
   ·exact ⟨fun e=>row_tys H3.out.own HR5.out (by decide) e.symm,fun e=>ob_ne H3.out.hh HR5.out (by decide) _ e rfl⟩)) (fun _ e=>.inl e) HY4.out HZ4.out _ _ _ _ _
set_option maxRecDepth 100000 in
set_option maxHeartbeats 8000000 in
theorem does6_doc (o:O9)(er:Int)(hs2:List Nat)(w:World)(hk:o.kind=6)(hbw:base≤w.heap.size)(hS:∀ k,S k→k<w.heap.size∧k≠ob∧vh.ownBlock≠some k)(H:OX9 76 base ob p c tb vh hs w)(hJ:atN hs o.n=none→∀ W,OffX 76 base vh w W→J W W)(HC:∀ f,atN hs o.n=some f→∀ W,OffX 76 base vh w W→Calls Tryz.prog 39 #[.pointer (some ⟨p,0,none⟩),.int .i64 (f:Int)] W fun e w'=>e=.returned (.int .i64 er)∧J W w'∧EX S W w')(hl:hs.length≤1000000)(hA:∀ f,atN hs o.n=some f→hs2=hs.eraseIdx o.n.toNat)(hB:atN hs o.n=none→hs2=hs∧er=0):
 Calls Tryz.prog 9 #[.pointer (some ⟨ob,0,none⟩),.agg (opC9 o).toArray] w (DoneX 76 base ob p c tb vh S J hs2 (tdC 0 0 0 false er) w):=by
 obtain ⟨w3,hw3⟩:∃ w3,w3=((w.alloc (.cells (opC9 o).toArray 38)).alloc (.cells (tdC 0 0 0 false 0).toArray 34)).alloc (.cells (tdC 0 0 0 false 0).toArray 34):=⟨_,rfl⟩
 have HB3:=hid (show Below w.heap.size w w3 by rw [hw3];exact bthen (bthen (bal _) (bal _)) (bal _))
 have HRO:=hid (show Row w3 w.heap.size 38 (opC9 o) by rw [hw3];exact ((Row.new w _ _).alloc _).alloc _)
 have HR4:=hid (show Row w3 (w.heap.size+1) 34 (tdC 0 0 0 false 0) by
  rw [hw3]
  have:=Row.new (w.alloc (.cells (opC9 o).toArray 38)) 34 (tdC 0 0 0 false 0)
  rw [World.size_alloc] at this
  exact this.alloc _)
 have HR5:=hid (show Row w3 (w.heap.size+1+1) 34 (tdC 0 0 0 false 0) by
  rw [hw3]
  have:=Row.new ((w.alloc (.cells (opC9 o).toArray 38)).alloc (.cells (tdC 0 0 0 false 0).toArray 34)) 34 (tdC 0 0 0 false 0)
  rw [World.size_alloc,World.size_alloc] at this
  exact this)
 have H3:=hid (H.below HB3.out)
 have HOWN:=hid H.own
 have HW3:=hid hw3
 have HLW:=hid hbw
 have HSS:=hid hS
 clear hw3 hbw hS
 have HN5:=hid (show ¬ S (w.heap.size+1+1) from fun e=>by have:=(HSS.out _ e).1;omega)
 have HN4:=hid (show ¬ S (w.heap.size+1) from fun e=>by have:=(HSS.out _ e).1;omega)
 have HNO:=hid (show ¬ S w.heap.size from fun e=>by have:=(HSS.out _ e).1;omega)
 have HCO:=hid (fun ww (hs:EX (fun k=>S k∨k=w.heap.size+1+1) w3 ww)=>show Row ww w.heap.size 38 (opC9 o) from hs.row HRO.out (by rintro (e|e);(· exact HNO.out e);(· omega)))
 have HCB:=hid (fun ww (hs:EX (fun k=>S k∨k=w.heap.size+1+1) w3 ww)=>show Row ww ob 76 [.pointer (some ⟨p,0,none⟩),.pointer (some ⟨c,0,none⟩),.pointer (some ⟨tb,0,none⟩),vh] from hs.row H3.out.own (by
  rintro (e|e)
  ·exact (HSS.out _ e).2.1 rfl
  ·exact row_tys H3.out.own HR5.out (by decide) e))
 have HC4:=hid (fun ww (hs:EX (fun k=>S k∨k=w.heap.size+1+1) w3 ww)=>show Row ww (w.heap.size+1) 34 (tdC 0 0 0 false 0) from hs.row HR4.out (by rintro (e|e);(· exact HN4.out e);(· omega)))
 obtain ⟨kd,oad,oof,oq,obb,on⟩:=o
 obtain rfl:kd=6:=hk
 clear H
 simp only [opC9] at *
 have HHL:=hid hl
 have HJJ:=hid hJ
 have HCC:=hid HC
 have HA:=hid hA
 have HB:=hid hB
 obtain ⟨ga,gc,rfl⟩:=own_hd9 H3.out.hh
 have HCEL:=hid (show Cel w3 ga hs.length (hs.map nI9) from by
  obtain ⟨a2,c2,e,hc,_⟩:=own_cel H3.out.hh
  cases e
  exact hc)
 have HAT:=hid (fun nn=>at9_any ga gc hs on (w3.drewN nn) (HCEL.out.below' (bdN (Below.refl _ _) nn)))
 have HB3S:=hid (show (w3.cell? ⟨ob,3,none⟩=some (.slice ga hs.length gc)∧w3.cell? ⟨w.heap.size,5,none⟩=some (.int .i64 on)∧ob<w3.heap.size) from ⟨H3.out.own.cell 3 (by simp),HRO.out.cell 5 (by simp),H3.out.own.lt⟩)
 clear hl hJ HC hA hB
 go_enter Tryz.func9,Tryz.ntmps9
 go_wp2_with fail
 rw [← HW3.out]
 have hb3:=HB3S.out.1
 have ho5:=HB3S.out.2.1
 have hbl:=HB3S.out.2.2
 have hol:=HRO.out.lt
 cases ha:atN hs on with
 | none=>
  have HBB:=hid (HB.out ha)
  have HJ2:=hid (HJJ.out ha)
  rw [ha] at HAT
  unfold atE9 at HAT
  have hr5:=HR5.out
  have hr4:=HR4.out
  clear ha
  have h50:=hr5.cell 0 (by simp)
  have h51:=hr5.cell 1 (by simp)
  have h52:=hr5.cell 2 (by simp)
  have h53:=hr5.cell 3 (by simp)
  have h54:=hr5.cell 4 (by simp)
  have h5l:=hr5.lt
  have h40:=hr4.cell 0 (by simp)
  have h41:=hr4.cell 1 (by simp)
  have h42:=hr4.cell 2 (by simp)
  have h43:=hr4.cell 3 (by simp)
  have h44:=hr4.cell 4 (by simp)
  have f40:=hr4.frozen 0
  have f41:=hr4.frozen 1
  have f42:=hr4.frozen 2
  have f43:=hr4.frozen 3
  have f44:=hr4.frozen 4
  have h4l:=hr4.lt
  simp only [tdC,List.getElem_cons_zero,List.getElem_cons_succ] at h50 h51 h52 h53 h54 h40 h41 h42 h43 h44
  clear hr5 hr4
  go_quiet ((go_at_call 29;exact Calls.quiet_of_same ((HAT.out _).mono (fun _ _ h=>⟨h.1,h.2.symm⟩))))
  have HBQ:=hid (fun nn=>show Below w.heap.size w (w3.drewN nn) from HB3.out.trans ((bdN (Below.refl _ _) nn).mono HB3.out.size))
  go_wp2_with fail
  refine bodyPost_ret (v:=.agg (tdC 0 0 0 false 0).toArray) (by simp [results,Tryz.f9,go_sem,h40,h41,h42,h43,h44]) rfl ?_
  rw [HBB.out.1,HBB.out.2]
  exact doneX_doc HLW.out HSS.out (OffX.of_below (HBQ.out _)) (HJ2.out _ (OffX.of_below (HBQ.out _))) (OffX.refl _ _ _ _) (EX.of_below (HBQ.out _)) (H3.out.below (bdN (Below.refl _ _) _)) (fun _ e=>.inl e) (HR4.out.below (bdN (Below.refl _ _) _) HR4.out.lt) (HR4.out.below (bdN (Below.refl _ _) _) HR4.out.lt) _ _ _ _ _
 | some f=>
  obtain ⟨hj,hn0,hf⟩:=atN_some ha
  obtain ⟨j,rfl⟩:=Int.eq_ofNat_of_zero_le hn0
  clear hf
  rw [Int.toNat_natCast] at hj
  have HAA:=hid (HA.out f ha)
  rw [Int.toNat_natCast] at HAA
  have HDW:=hid (HCC.out f ha)
  rw [ha] at HAT
  unfold atE9 at HAT
  obtain ⟨b,hga,hgc⟩:∃ b,ga=some ⟨b,0,none⟩∧hs.length≤gc:=by
   obtain ⟨a2,c2,e,hc,h1,h2,h3,h4⟩:=own_cel2 H3.out.hh
   cases e
   cases ga with
   | none=>have:=(h1 rfl).2;omega
   | some x=>
    obtain ⟨G,rfl,_⟩:=h4 x rfl
    exact ⟨G,rfl,h2⟩
  subst hga
  have HJ:=hid hj
  have HGC:=hid hgc
  clear ha hn0 hj hgc
  go_quiet ((go_at_call 29;exact Calls.quiet_of_same ((HAT.out _).mono (fun _ _ h=>⟨h.1,h.2.symm⟩))))
  go_wp2_with fail
  obtain ⟨wA,hwA⟩:∃ wA,wA=w3.drewN nq:=⟨_,rfl⟩
  have HBA:=hid (show Below w3.heap.size w3 wA by rw [hwA];exact bdN (Below.refl _ _) _)
  rw [← hwA]
  clear hwA hb3 ho5 hbl hol
  have HA:=hid (H3.out.below HBA.out)
  have HSA:=hid (show wA.cell? ⟨ob,3,none⟩=some (.slice (some ⟨b,0,none⟩) hs.length gc)∧wA.cell? ⟨w.heap.size,5,none⟩=some (.int .i64 (j:Int))∧ob<wA.heap.size from ⟨keepC HBA.out HB3S.out.1,keepC HBA.out HB3S.out.2.1,Nat.lt_of_lt_of_le HB3S.out.2.2 HBA.out.size⟩)
  have HLE:=hid (less9_any b gc hs j HJ.out HHL.out HGC.out wA.drew (HCEL.out.below' (bdN HBA.out 1)))
  have hS:wA.drew.cell? ⟨ob,3,none⟩=some (.slice (some ⟨b,0,none⟩) hs.length gc)∧wA.drew.cell? ⟨w.heap.size,5,none⟩=some (.int .i64 (j:Int))∧ob<wA.drew.heap.size:=HSA.out
  refine region_sk 10 (fun ww:World=>ww.cell? ⟨ob,3,none⟩=some (.slice (some ⟨b,0,none⟩) hs.length gc)∧ww.cell? ⟨w.heap.size,5,none⟩=some (.int .i64 (j:Int))∧ob<ww.heap.size) (by kernel_rfl) (fun inv=>?_)
  refine sk_take (i:=0) (v:=?_) (some 121) rfl rfl (by kernel_rfl) (by kernel_rfl) (by decide) (by decide) inv (by kernel_rfl) (by kernel_rfl) (fun _ _ _ h=>h) (Or.inl ⟨by rfl,?_⟩) hS (fun inv=>?_)
  rotate_left
  ·intro ww hSw
   obtain ⟨hSa,hSb,hSc⟩:=hSw
   go_simp
   try with_reducible rfl
  simp only [Act.put,List.setIfInBounds_toArray,List.set_cons_zero,List.set_cons_succ]
  refine sk_take (i:=1) (v:=?_) (some 122) rfl rfl (by kernel_rfl) (by kernel_rfl) (by decide) (by decide) inv (by kernel_rfl) (by kernel_rfl) (fun _ _ _ h=>h) (Or.inl ⟨by rfl,?_⟩) hS (fun inv=>?_)
  rotate_left
  ·intro ww hSw
   obtain ⟨hSa,hSb,hSc⟩:=hSw
   go_simp
   try with_reducible rfl
  simp only [Act.put,List.setIfInBounds_toArray,List.set_cons_zero,List.set_cons_succ]
  refine sk_take (i:=2) (v:=?_) (some 123) rfl rfl (by kernel_rfl) (by kernel_rfl) (by decide) (by decide) inv (by kernel_rfl) (by kernel_rfl) (fun _ _ _ h=>h) (Or.inl ⟨by rfl,?_⟩) hS (fun inv=>?_)
  rotate_left
  ·intro ww hSw
   obtain ⟨hSa,hSb,hSc⟩:=hSw
   go_simp
   try with_reducible rfl
  simp only [Act.put,List.setIfInBounds_toArray,List.set_cons_zero,List.set_cons_succ]
  refine sk_take (i:=3) (v:=?_) (some 124) rfl rfl (by kernel_rfl) (by kernel_rfl) (by decide) (by decide) inv (by kernel_rfl) (by kernel_rfl) (fun _ _ _ h=>h) (Or.inl ⟨by rfl,?_⟩) hS (fun inv=>?_)
  rotate_left
  ·intro ww hSw
   obtain ⟨hSa,hSb,hSc⟩:=hSw
   go_simp
   try with_reducible rfl
  simp only [Act.put,List.setIfInBounds_toArray,List.set_cons_zero,List.set_cons_succ]
  refine sk_take (i:=4) (v:=?_) (some 125) rfl rfl (by kernel_rfl) (by kernel_rfl) (by decide) (by decide) inv (by kernel_rfl) (by kernel_rfl) (fun _ _ _ h=>h) (Or.inl ⟨by rfl,?_⟩) hS (fun inv=>?_)
  rotate_left
  ·intro ww hSw
   obtain ⟨hSa,hSb,hSc⟩:=hSw
   go_simp
   try with_reducible rfl
  simp only [Act.put,List.setIfInBounds_toArray,List.set_cons_zero,List.set_cons_succ]
  refine sk_take (i:=5) (v:=?_) (some 126) rfl rfl (by kernel_rfl) (by kernel_rfl) (by decide) (by decide) inv (by kernel_rfl) (by kernel_rfl) (fun _ _ _ h=>h) (Or.inl ⟨by rfl,?_⟩) hS (fun inv=>?_)
  rotate_left
  ·intro ww hSw
   obtain ⟨hSa,hSb,hSc⟩:=hSw
   go_simp
   try with_reducible rfl
  simp only [Act.put,List.setIfInBounds_toArray,List.set_cons_zero,List.set_cons_succ]
  refine sk_take (i:=6) (v:=?_) (some 127) rfl rfl (by kernel_rfl) (by kernel_rfl) (by decide) (by decide) inv (by kernel_rfl) (by kernel_rfl) (fun _ _ _ h=>h) (Or.inl ⟨by rfl,?_⟩) hS (fun inv=>?_)
  rotate_left
  ·intro ww hSw
   obtain ⟨hSa,hSb,hSc⟩:=hSw
   go_simp
   try with_reducible rfl
  simp only [Act.put,List.setIfInBounds_toArray,List.set_cons_zero,List.set_cons_succ]
  refine sk_one (i:=7) (by kernel_rfl) rfl inv (fun K hK=>?_)
  rw [if_pos (by rfl)]
  go_simp
  refine HLE.out.mono ?_
  rintro e' w5 ⟨v5,rfl,ho5,hb5⟩
  have HB5:=hid (show Below wA.heap.size wA w5 from (bdN (Below.refl _ _) 1).trans hb5)
  have HWL:=hid (Nat.le_trans HB3.out.size HBA.out.size)
  have HO5:=hid (show w5.ownsRow base 3 1 v5 (hs.eraseIdx j).length ((hs.eraseIdx j).map nI9) from own_from ho5 (Nat.le_trans HLW.out HWL.out))
  have HO5N:=hid (fun k (e:v5.ownBlock=some k)=>show w.heap.size≤k from Nat.le_trans HWL.out (own_low ho5 (Nat.le_refl _) k e))
  obtain ⟨g5,c5,rfl⟩:=own_hd9 ho5
  have hS:w5.cell? ⟨ob,3,none⟩=some (.slice (some ⟨b,0,none⟩) hs.length gc)∧w5.cell? ⟨w.heap.size,5,none⟩=some (.int .i64 (j:Int))∧ob<w5.heap.size:=⟨keepC HB5.out HSA.out.1,keepC HB5.out HSA.out.2.1,Nat.lt_of_lt_of_le HSA.out.2.2 HB5.out.size⟩
  clear ho5 hb5
  refine hK.out _ _ (fun _=>hS) (fun inv=>?_)
  have inv:=inv (by decide)
  clear hK K
  try simp only [Act.put,List.setIfInBounds_toArray,List.set_cons_zero,List.set_cons_succ]
  refine sk_take (i:=8) (v:=?_) (some 129) rfl rfl (by kernel_rfl) (by kernel_rfl) (by decide) (by decide) inv (by kernel_rfl) (by kernel_rfl) (fun _ _ _ h=>h) (Or.inl ⟨by rfl,?_⟩) hS (fun inv=>?_)
  rotate_left
  ·intro ww hSw
   obtain ⟨hSa,hSb,hSc⟩:=hSw
   go_simp
   try with_reducible rfl
  simp only [Act.put,List.setIfInBounds_toArray,List.set_cons_zero,List.set_cons_succ]
  refine sk_take (i:=9) (v:=?_) (some 130) rfl rfl (by kernel_rfl) (by kernel_rfl) (by decide) (by decide) inv (by kernel_rfl) (by kernel_rfl) (fun _ _ _ h=>h) (Or.inl ⟨by rfl,?_⟩) hS (fun inv=>?_)
  rotate_left
  ·intro ww hSw
   obtain ⟨hSa,hSb,hSc⟩:=hSw
   go_simp
   try with_reducible rfl
  simp only [Act.put,List.setIfInBounds_toArray,List.set_cons_zero,List.set_cons_succ]
  refine sk_one (i:=10) (by kernel_rfl) rfl inv (fun K hK=>?_)
  rw [if_pos (by rfl)]
  have hSa:=hS.1
  have hSc:=hS.2.2
  have h6f:=(HA.out.own.below HB5.out HA.out.own.lt).frozen 3
  have HRO5:=hid (HA.out.own.below HB5.out HA.out.own.lt)
  go_simp
  refine hK.out _ _ (fun h=>absurd h (by decide)) (fun _=>?_)
  clear hK K
  refine sk_done (by kernel_rfl) ?_ _
  obtain ⟨wx,hwx⟩:∃ wx,wx=w5.setCell ⟨ob,3,none⟩ (.slice g5 (hs.eraseIdx j).length c5):=⟨_,rfl⟩
  rw [← hwx]
  have HWX:=hid (show OX9 76 base ob p c tb (.slice g5 (hs.eraseIdx j).length c5) (hs.eraseIdx j) wx from by
   rw [hwx]
   exact ⟨HRO5.out.set 3 _,own_setOther HO5.out (own_row_neK2 HO5.out HRO5.out (by decide)) _,H3.out.lo⟩)
  have heo:EX (fun k=>k=ob) w3 wx:=by
   rw [hwx]
   exact (EX.of_below (S:=fun k=>k=ob) (HBA.out.trans (HB5.out.mono HBA.out.size))).set (g:=ob) (.inl rfl) 3 _
  have HRX:=hid (heo.row HR5.out (row_tys HR5.out H3.out.own (by decide)))
  have HX4:=hid (heo.row HR4.out (row_tys HR4.out H3.out.own (by decide)))
  have HEO:=hid heo
  have HEOW:=hid (show EX (fun k=>k=ob) w wx from (EX.of_below HB3.out).trans heo)
  have HOFF:=hid (show OffX 76 base (.slice (some ⟨b,0,none⟩) hs.length gc) w wx from ⟨fun k=>k=ob,HEOW.out,fun k e=>⟨by rw [e];exact H3.out.lo,.inr (.inl (by rw [e];exact ⟨_,HOWN.out⟩))⟩⟩)
  have HDN:=hid (HDW.out wx HOFF.out)
  have hp0:=HWX.out.own.cell 0 (by simp)
  have hpl:=HWX.out.own.lt
  have hfc:=HRX.out.cell 4 (by simp)
  clear heo hwx hS hSa hSc h6f
  simp only [List.getElem_cons_zero] at hp0
  go_wp2_with fail
  refine (HDN.out).mono ?_
  rintro e' wy ⟨rfl,hty,hey⟩
  have HTY:=hid hty
  have HRY:=hid (hey.row HRX.out HN5.out)
  have HY4:=hid (hey.row HX4.out HN4.out)
  have HSX:=hid (fun k (e:S k)=>show k≠ob∧(Value.slice g5 (hs.eraseIdx j).length c5).ownBlock≠some k from ⟨(HSS.out k e).2.1,fun e2=>by have h1:=HO5N.out k e2;have h2:=(HSS.out k e).1;omega⟩)
  have HWY:=hid (HWX.out.ex hey HSX.out)
  have HEY:=hid hey
  have hx4:=HRY.out.cell 4 (by simp)
  have hz4:=HRY.out.frozen 4
  have hyl:=HRY.out.lt
  clear hty hey hp0 hpl hfc
  obtain ⟨wz,hwz⟩:∃ wz,wz=wy.setCell ⟨w.heap.size+1+1,4,none⟩ (.int .i64 er):=⟨_,rfl⟩
  have hez:EX (fun k=>k=w.heap.size+1+1) wy wz:=by rw [hwz];exact (EX.refl (S:=fun k=>k=w.heap.size+1+1) wy).set (g:=w.heap.size+1+1) (.inl rfl) 4 _
  have HRZ:=hid (show Row wz (w.heap.size+1+1) 34 (tdC 0 0 0 false er) by rw [hwz];exact told_set HRY.out er)
  have HEZ:=hid hez
  have HZ4:=hid (hez.row HY4.out (by omega))
  have hr5:=HRZ.out
  have hr4:=HZ4.out
  have h50:=hr5.cell 0 (by simp)
  have h51:=hr5.cell 1 (by simp)
  have h52:=hr5.cell 2 (by simp)
  have h53:=hr5.cell 3 (by simp)
  have h54:=hr5.cell 4 (by simp)
  have h5l:=hr5.lt
  have h40:=hr4.cell 0 (by simp)
  have h41:=hr4.cell 1 (by simp)
  have h42:=hr4.cell 2 (by simp)
  have h43:=hr4.cell 3 (by simp)
  have h44:=hr4.cell 4 (by simp)
  have f40:=hr4.frozen 0
  have f41:=hr4.frozen 1
  have f42:=hr4.frozen 2
  have f43:=hr4.frozen 3
  have f44:=hr4.frozen 4
  have h4l:=hr4.lt
  simp only [tdC,List.getElem_cons_zero,List.getElem_cons_succ] at h50 h51 h52 h53 h54 h40 h41 h42 h43 h44
  have HWE:=hid hwz
  rw [hwz] at h50 h51 h52 h53 h54 h40 h41 h42 h43 h44 f40 f41 f42 f43 f44 h5l h4l
  clear hr5 hr4 hez hwz
  go_wp2_with fail
  refine bodyPost_ret (v:=.agg (tdC 0 0 0 false er).toArray) (by simp [results,Tryz.f9,go_sem,h40,h41,h42,h43,h44]) rfl ?_
  rw [← HWE.out,HAA.out]
  have hsz:=Nat.le_trans HB3.out.size (Nat.le_trans HEO.out.size HEY.out.size)
  refine doneX_doc HLW.out HSS.out HOFF.out HTY.out (OffX.told (by have:=HLW.out;omega) HEZ.out HRY.out) (((HEOW.out.mono fun _ _ e=>.inr (.inl e)).trans (HEY.out.mono fun _ _ e=>.inl e)).new HEZ.out (by omega)) (HWY.out.ex HEZ.out (fun k e=>?_)) (fun k e=>.inr (HO5N.out k e)) HY4.out HZ4.out _ _ _ _ _
  subst e
  exact ⟨fun e=>row_tys HWY.out.own HRY.out (by decide) e.symm,fun e=>ob_ne HWY.out.hh HRY.out (by decide) _ e rfl⟩
set_option maxRecDepth 100000 in
set_option maxHeartbeats 8000000 in
theorem does9_doc (o:O9)(w:World)(hk:∀ k:Nat,k≤7→o.kind≠(k:Int))(hJ:∀ W,OffX 76 base vh w W→J W W)(hbw:base≤w.heap.size)(hS:∀ k,S k→k<w.heap.size∧k≠ob∧vh.ownBlock≠some k)(H:OX9 76 base ob p c tb vh hs w):
 Calls Tryz.prog 9 #[.pointer (some ⟨ob,0,none⟩),.agg (opC9 o).toArray] w (DoneX 76 base ob p c tb vh S J hs (tdC 0 0 0 false 0) w):=by
 obtain ⟨w3,hw3⟩:∃ w3,w3=((w.alloc (.cells (opC9 o).toArray 38)).alloc (.cells (tdC 0 0 0 false 0).toArray 34)).alloc (.cells (tdC 0 0 0 false 0).toArray 34):=⟨_,rfl⟩
 have HB3:=hid (show Below w.heap.size w w3 by rw [hw3];exact bthen (bthen (bal _) (bal _)) (bal _))
 have HRO:=hid (show Row w3 w.heap.size 38 (opC9 o) by rw [hw3];exact ((Row.new w _ _).alloc _).alloc _)
 have HR4:=hid (show Row w3 (w.heap.size+1) 34 (tdC 0 0 0 false 0) by
  rw [hw3]
  have:=Row.new (w.alloc (.cells (opC9 o).toArray 38)) 34 (tdC 0 0 0 false 0)
  rw [World.size_alloc] at this
  exact this.alloc _)
 have HR5:=hid (show Row w3 (w.heap.size+1+1) 34 (tdC 0 0 0 false 0) by
  rw [hw3]
  have:=Row.new ((w.alloc (.cells (opC9 o).toArray 38)).alloc (.cells (tdC 0 0 0 false 0).toArray 34)) 34 (tdC 0 0 0 false 0)
  rw [World.size_alloc,World.size_alloc] at this
  exact this)
 have H3:=hid (H.below HB3.out)
 have HW3:=hid hw3
 have HLW:=hid hbw
 have HSS:=hid hS
 clear hw3 hbw hS
 have HN5:=hid (show ¬ S (w.heap.size+1+1) from fun e=>by have:=(HSS.out _ e).1;omega)
 have HN4:=hid (show ¬ S (w.heap.size+1) from fun e=>by have:=(HSS.out _ e).1;omega)
 have HNO:=hid (show ¬ S w.heap.size from fun e=>by have:=(HSS.out _ e).1;omega)
 have HCO:=hid (fun ww (hs:EX (fun k=>S k∨k=w.heap.size+1+1) w3 ww)=>show Row ww w.heap.size 38 (opC9 o) from hs.row HRO.out (by rintro (e|e);(· exact HNO.out e);(· omega)))
 have HCB:=hid (fun ww (hs:EX (fun k=>S k∨k=w.heap.size+1+1) w3 ww)=>show Row ww ob 76 [.pointer (some ⟨p,0,none⟩),.pointer (some ⟨c,0,none⟩),.pointer (some ⟨tb,0,none⟩),vh] from hs.row H3.out.own (by
  rintro (e|e)
  ·exact (HSS.out _ e).2.1 rfl
  ·exact row_tys H3.out.own HR5.out (by decide) e))
 have HC4:=hid (fun ww (hs:EX (fun k=>S k∨k=w.heap.size+1+1) w3 ww)=>show Row ww (w.heap.size+1) 34 (tdC 0 0 0 false 0) from hs.row HR4.out (by rintro (e|e);(· exact HN4.out e);(· omega)))
 have HTY:=hid (hJ w3 (OffX.of_below HB3.out))
 obtain ⟨kd,oad,oof,oq,obb,on⟩:=o
 have k0:(kd==0)=false:=by simpa using hk 0 (by omega)
 have k1:(kd==1)=false:=by simpa using hk 1 (by omega)
 have k2:(kd==2)=false:=by simpa using hk 2 (by omega)
 have k3:(kd==3)=false:=by simpa using hk 3 (by omega)
 have k4:(kd==4)=false:=by simpa using hk 4 (by omega)
 have k5:(kd==5)=false:=by simpa using hk 5 (by omega)
 have k6:(kd==6)=false:=by simpa using hk 6 (by omega)
 have k7:(kd==7)=false:=by simpa using hk 7 (by omega)
 clear H hk hJ
 simp only [opC9] at *
 have HS3:=hid (show EX (fun k=>S k∨k=w.heap.size+1+1) w3 w3 from EX.refl _)
 have hr5:=HR5.out
 have h50:=hr5.cell 0 (by simp)
 have h51:=hr5.cell 1 (by simp)
 have h52:=hr5.cell 2 (by simp)
 have h53:=hr5.cell 3 (by simp)
 have h54:=hr5.cell 4 (by simp)
 have h5l:=hr5.lt
 have hr4:=HR4.out
 have h40:=hr4.cell 0 (by simp)
 have h41:=hr4.cell 1 (by simp)
 have h42:=hr4.cell 2 (by simp)
 have h43:=hr4.cell 3 (by simp)
 have h44:=hr4.cell 4 (by simp)
 have f40:=hr4.frozen 0
 have f41:=hr4.frozen 1
 have f42:=hr4.frozen 2
 have f43:=hr4.frozen 3
 have f44:=hr4.frozen 4
 have h4l:=hr4.lt
 simp only [tdC,List.getElem_cons_zero,List.getElem_cons_succ] at h50 h51 h52 h53 h54 h40 h41 h42 h43 h44
 clear hr5 hr4
 go_enter Tryz.func9,Tryz.ntmps9
 go_wp2_with fail
 rw [← HW3.out]
 refine bodyPost_ret (v:=.agg (tdC 0 0 0 false 0).toArray) (by simp [results,Tryz.f9,go_sem,h40,h41,h42,h43,h44]) rfl ?_
 exact ⟨rfl,w3,w3,vh,OffX.of_below HB3.out,HTY.out,OffX.refl _ _ _ _,H3.out,EX.of_below HB3.out,fun _ e=>.inl e⟩
end
end Go.Proofs.YtdjpjfdeeelijaaGreatDoor
