
/- hostelref20: bytes, text, and the texts that grow downwards. -/
import Derived.Test.YtihaakcfegelkaaDoorTl3
import Derived.Test.YtihaakcfegelkaaDoorWR
import Derived.Test.YtihaakcfegelkaaDoorAZ
import Derived.Test.YtihaakcfegelkaaDoorMK
import Derived.Laws.IdiomStrings
namespace Go.Proofs.YtihaakcfegelkaaDoor
open Go.RowKit Go.Sort
attribute [local go_sem] Oper.semAt_some

def NewBy (w : World) (l : BL) (e : Ending) (w' : World) : Prop := ∃ v, e = .returned v ∧ OwnBy w' w.heap.size v l ∧ Below w.heap.size w w'
theorem Row.ownBy {w : World} {g base : Nat} {l : BL} (h : Row w g 5 (l.map B8)) (hb : base ≤ g) (hm : l.length ≤ 1000000) : OwnBy w base (.slice (some ⟨g, 0, none⟩) l.length l.length) l := by
  have := h.owns hb (show (l.map B8).length = l.length by simp) (Nat.le_refl _) (by unfold maxLen; omega)
  rw [List.take_of_length_le (by simp)] at this
  exact this

set_option maxRecDepth 100000 in
set_option maxHeartbeats 4000000 in
theorem rbytes_any (x : Nat) (w : World) (hx : x < 18446744073709551616) : Calls Tryd.prog 26 #[.int .u64 x] w fun e w' => ∃ g, e = .returned (.slice (some ⟨g, 0, none⟩) 8 8) ∧ w.heap.size ≤ g ∧ Row w' g 5 ((leB x 8).map B8) ∧ Below w.heap.size w w' := by
  have HX := hid hx
  clear hx
  go_enter Tryd.func26, Tryd.ntmps26
  go_wp2_with (at_make; refine wpList_make_row _ rfl _ _ 29 rfl 5 (.int .u8 0) 1 Tryd.underlying29 infoBy rfl .i64 .i64 _ _ 8 rfl rfl rfl rfl (by decide) (by decide) ?_; intro w1 hr1 hb1 hs1; have HR1 := hid hr1; have HB1 := hid hb1; clear hr1 hb1 hs1)
  refine (rset_new w.heap.size 8 x w1 (by decide) HX.out (Row.byt (l := List.replicate 8 0) (rest := []) (by rw [List.append_nil, ← rep_b8]; exact HR1.out) (by simp))).mono ?_
  rintro e' w2 ⟨rfl, hr2, hb2⟩
  have HR2 := hid hr2
  have HB2 := hid (bthen HB1.out hb2)
  clear hr2 hb2
  go_wp2_with fail
  go_ret
  exact ⟨w1.heap.size, rfl, HB1.out.size, HR2.out, HB2.out⟩

set_option maxRecDepth 100000 in
set_option maxHeartbeats 4000000 in
theorem text_any (s : BL) (w : World) (hs : s.length ≤ 300) : Calls Tryd.prog 40 #[.string (ba s)] w fun e w' => ∃ v, e = .returned v ∧ OwnM w' w.heap.size 5 v (s.length + 1) ((s ++ [0]).map B8) ∧ Below w.heap.size w w' := by
  have HS := hid hs
  have hcv := run_bytes_of_string (P := Tryd.prog) w 9 29 5 (ba s) Tryd.underlying9 Tryd.underlying29 Tryd.underlying5
  have ho := ownM_text w 5 (ba s) w.heap.size (Nat.le_refl _) (by rw [ba_size]; omega)
  have hb1 : Below w.heap.size w (w.drew.alloc (.cells (bytesRow (ba s) (grownCap w (ba s).size 0 5)) 5 ((bytesRow (ba s) (grownCap w (ba s).size 0 5)).size, (bytesRow (ba s) (grownCap w (ba s).size 0 5)).size + 1))) := (Below.refl _ w).drew.alloc (Nat.le_refl _) _
  generalize w.drew.alloc (.cells (bytesRow (ba s) (grownCap w (ba s).size 0 5)) 5 ((bytesRow (ba s) (grownCap w (ba s).size 0 5)).size, (bytesRow (ba s) (grownCap w (ba s).size 0 5)).size + 1)) = w1 at *
  rw [ba_size] at hcv ho
  generalize grownCap w s.length 0 5 = cap at *
  have HB1 := hid hb1
  have HO1 := hid (fun o => ho.below (@bal w1 o) (Nat.le_refl _))
  have HC := hid (cel_one w1 5 (.int .u8 0))
  have HNa := hid (show (s.length + 1) * 1 ≤ 140737488355328 by omega)
  have HNb := hid (show s.length + 1 ≤ maxLen by unfold maxLen; omega)
  have HZ := hid (show w.heap.size ≤ (w1.alloc (.cells #[.int .u8 0] 5)).heap.size by rw [World.size_alloc]; have := hb1.size; omega)
  have HONE := hid (show ∀ u ∈ [Value.int .u8 0], u.oneCell' = true by intro u hu; rw [List.mem_singleton.1 hu]; rfl)
  clear hs ho hb1
  go_enter Tryd.func40, Tryd.ntmps40
  go_wp2_with (at_builtin; go_must (refine wpList_apM Tryd.underlying29 infoBy rfl rfl _ _ rfl w.heap.size (.slice (some ⟨w.heap.size, 0, none⟩) s.length cap) s.length ((ba s).data.toList.map B8) [.int .u8 0] rfl ⟨w1.heap.size, 0, none⟩ 1 1 rfl (HO1.out _) HC.out HONE.out HNa.out HNb.out HZ.out ?_; intro v' w9 hown hgrow hb9; have HO9 := hid hown; have HB9 := hid hb9; clear hown hgrow hb9))
  go_ret
  exact ⟨v', rfl, by have := HO9.out; rw [List.map_append]; exact this, (HB1.out.alloc HB1.out.size _).trans HB9.out⟩
end Go.Proofs.YtihaakcfegelkaaDoor
