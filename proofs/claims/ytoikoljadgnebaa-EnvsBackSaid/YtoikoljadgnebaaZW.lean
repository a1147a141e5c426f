/- The anchor of hostellaw03. -/
import Derived.Test.YtoikoljadgnebaaZG
import Derived.Test.YtoikoljadgnebaaZ7
namespace Go.Proofs.Ytoikoljadgnebaa
open Go.RowKit Go.Sort

theorem new_cel (w : World) (ds : List BL) : Cel (w.alloc (.cells (strs ds).toArray 9)) (some ⟨w.heap.size, 0, none⟩) ds.length (strs ds) := by
  have hr := Row.new w 9 (strs ds)
  exact ⟨strsS_len ds, fun i hi => ⟨_, _, rfl, by rw [Nat.zero_add]; exact hr.cell i hi⟩⟩

set_option maxHeartbeats 2000000 in
theorem works_any (w : World) :
    Calls Try.prog 10 #[] w fun e' w' => e' = .returned (.bool true) ∧ Below w.heap.size w w' := by
  go_enter Try.func10, Try.ntmps10
  go_wp2_with fail
  refine (setE_any _ _ _ [[66, 61, 49]] _ _ _ (new_cel w [[66, 61, 49]]) (by decide) (by decide) (by decide) (by decide)).mono ?_
  rintro e' w1 ⟨r, rfl, ho, hb⟩
  rw [show setE (ByteArray.mk #[65]).data.toList (ByteArray.mk #[50]).data.toList = 0 by decide +kernel]
  rw [show setR [[66, 61, 49]] (ByteArray.mk #[65]).data.toList (ByteArray.mk #[50]).data.toList = [[66, 61, 49], [65, 61, 50]] by decide +kernel] at ho
  obtain ⟨a1, c1, rfl, hC1, _⟩ := own_cel ho
  have HC1 := hid hC1
  have HB1 := hid (bthen (bal (w := w) (.cells (strs [[66, 61, 49]]).toArray 9)) hb)
  clear ho hC1 hb
  simp only [List.length_cons, List.length_nil] at HC1 ⊢
  go_wp2_with fail
  refine (getE_any _ _ _ [[66, 61, 49], [65, 61, 50]] _ _ HC1.out (by decide) (by decide)).mono ?_
  rintro e' w2 ⟨rfl, k, hw2⟩
  rw [show getV [[66, 61, 49], [65, 61, 50]] (ByteArray.mk #[65]).data.toList = [50] by decide +kernel, show getB [[66, 61, 49], [65, 61, 50]] (ByteArray.mk #[65]).data.toList = true by decide +kernel]
  have q2 : ((ba [50]).toList == [50]) = true := by rw [Lib.toList_data]; rfl
  have HB2 := hid (bthen HB1.out (show Below w1.heap.size w1 w2 by rw [hw2]; exact drewN_below _ _))
  clear hw2
  go_wp2_with fail
  refine (scrubE_any _ _ _ [[84, 77, 80, 68, 73, 82, 61, 120], [65, 61, 49]] _ (new_cel w2 [[84, 77, 80, 68, 73, 82, 61, 120], [65, 61, 49]]) (by decide) (by decide)).mono ?_
  rintro e' w3 ⟨r, rfl, ho, hb⟩
  rw [show scrubL [[84, 77, 80, 68, 73, 82, 61, 120], [65, 61, 49]] = [[65, 61, 49]] by decide +kernel] at ho
  obtain ⟨a3, c3, rfl, _⟩ := own_cel ho
  have HB3 := hid (bthen HB2.out (bthen (bal (w := w2) (.cells (strs [[84, 77, 80, 68, 73, 82, 61, 120], [65, 61, 49]]).toArray 9)) hb))
  clear ho hb
  simp only [List.length_cons, List.length_nil]
  go_wp2_with fail
  refine (list_any _ _ (by decide)).mono ?_
  rintro e' w4 ⟨r, rfl, ho, hb⟩
  rw [show listL (ByteArray.mk #[58]).data.toList = [[46], [46]] by decide +kernel] at ho
  obtain ⟨a4, c4, rfl, _⟩ := own_cel ho
  have HB4 := hid (bthen HB3.out hb)
  clear ho hb
  simp only [List.length_cons, List.length_nil]
  go_wp2_with fail
  refine (checkE_any _ _ _ [[0]] _ (new_cel w4 [[0]]) (by decide) (by decide)).mono ?_
  rintro e' w5 ⟨rfl, rfl⟩
  rw [show chkL [[0]] = 1 by decide +kernel]
  have HB5 := hid (bthen HB4.out (bal (w := w4) (.cells (strs [[0]]).toArray 9)))
  go_wp2_with fail
  go_ret
  exact ⟨rfl, HB5.out⟩
end Go.Proofs.Ytoikoljadgnebaa
