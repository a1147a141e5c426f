/- The anchor of hostellaw02. -/
import Derived.Test.YtonieacjlkcjiaaP7
namespace Go.Proofs.Ytonieacjlkcjiaa
open Go.RowKit Go.Sort

set_option maxHeartbeats 2000000 in
theorem works_any (w : World) :
    Calls Try.prog 8 #[] w fun e' w' => e' = .returned (.bool true) ∧ Below w.heap.size w w' := by
  go_enter Try.func8, Try.ntmps8
  go_wp2_with fail
  refine (parts_any _ _ (by decide)).mono ?_
  rintro e' w1 ⟨v, rfl, ho, hb⟩
  rw [show rootF (ByteArray.mk #[47, 97, 47, 47, 98, 47, 46, 47, 46, 46]).data.toList = true by decide +kernel, show chkE (ByteArray.mk #[47, 97, 47, 47, 98, 47, 46, 47, 46, 46]).data.toList = 0 by decide +kernel]
  rw [show partsF (ByteArray.mk #[47, 97, 47, 47, 98, 47, 46, 47, 46, 46]).data.toList = [[97], [98], [46, 46]] by decide +kernel] at ho
  obtain ⟨a9, c9, rfl, hC, _⟩ := own_cel ho
  obtain ⟨b1, o1, rfl, hc1⟩ := hC.some_of (by simp [strs])
  have hx0 := strs_at hc1 (k := 0) (by simp)
  have hx2 := strs_at hc1 (k := 2) (by simp)
  simp only [Nat.add_zero, List.getElem_cons_zero, List.getElem_cons_succ] at hx0 hx2
  have q0 : ((ba [97]).toList == [97]) = true := by rw [ba_beq]; rfl
  have q2 : ((ba [46, 46]).toList == [46, 46]) = true := by rw [ba_beq]; rfl
  have HB := hid hb
  clear hc1 hC ho hb
  simp only [List.length_cons, List.length_nil]
  go_wp2_with fail
  refine (base_any _ _ (by decide)).mono ?_
  rintro e' w2 ⟨rfl, rfl⟩
  rw [show baseL (ByteArray.mk #[47, 97, 47, 98]).data.toList = [98] by decide +kernel]
  have q3 : ((ba [98]).toList == [98]) = true := by rw [ba_beq]; rfl
  go_wp2_with fail
  refine (dir_any _ _ (by decide)).mono ?_
  rintro e' w2 ⟨rfl, rfl⟩
  rw [show dirL (ByteArray.mk #[47, 97, 47, 98]).data.toList = [47, 97] by decide +kernel]
  have q4 : ((ba [47, 97]).toList == [47, 97]) = true := by rw [ba_beq]; rfl
  go_wp2_with fail
  refine (join_any _ _ _ (by decide) (by decide)).mono ?_
  rintro e' w2 ⟨rfl, rfl⟩
  rw [show joinL (ByteArray.mk #[97]).data.toList (ByteArray.mk #[98]).data.toList = [97, 47, 98] by decide +kernel]
  have q5 : ((ba [97, 47, 98]).toList == [97, 47, 98]) = true := by rw [ba_beq]; rfl
  go_wp2_with fail
  refine (check_any _ _ (by decide)).mono ?_
  rintro e' w2 ⟨rfl, hb⟩
  rw [show chkE (ByteArray.mk #[]).data.toList = 3 by decide +kernel]
  have HB2 := hid (bthen HB.out hb)
  clear hb
  go_wp2_with fail
  go_ret
  exact ⟨rfl, HB2.out⟩
end Go.Proofs.Ytonieacjlkcjiaa
