
/- hostellaw12.looked. -/
import Derived.Test.YtaaohcpiideaaaaDoorNaD
namespace Go.Proofs.YtaaohcpiideaaaaDoor
open Go.RowKit Go.Sort Go.Shelf
attribute [local go_sem] Oper.semAt_some

set_option maxHeartbeats 8000000 in
theorem looked_any (i ph many : Int) (w : World) (hi0 : 0 ≤ i) (hi : i ≤ 1000000) (hp0 : 0 ≤ ph) (hp : ph ≤ 1000000) (hm0 : 0 ≤ many) (hm : many ≤ 1000000) :
    Calls Tryd.prog 23 #[.int .i64 i, .int .i64 ph, .int .i64 many] w fun e w' => e = .returned (.bool (lookB i ph many)) ∧ w = w' := by
  have hb : ∀ b, lookB i ph many = b → Ending.returned (.bool b) = .returned (.bool (lookB i ph many)) := fun b h => by rw [h]
  by_cases h64 : i < 64
  · have e0 : lookB i ph many = decide (i < 7 ∨ (16 ≤ i ∧ i < 40) ∨ (54 ≤ i ∧ i < 58)) := by unfold lookB; rw [if_pos h64]
    go_enter Tryd.func23, Tryd.ntmps23
    go_wp2_with fail
    all_goals go_ret
    all_goals exact ⟨hb _ (by rw [e0]; first | (simp; done) | (simp; omega) | (rw [Bool.eq_iff_iff]; simp; omega)), rfl⟩
  have ew1 := IntWalk.i64_in (56 * many) ⟨by omega, by omega⟩
  have ew2 := IntWalk.i64_in (ph + 56 * many) ⟨by omega, by omega⟩
  have ew3 := IntWalk.i64_in (i - ph) ⟨by omega, by omega⟩
  have ew4 := IntWalk.wrap64_in (56 * many) ⟨by omega, by omega⟩
  have ew5 := IntWalk.wrap64_in (ph + 56 * many) ⟨by omega, by omega⟩
  have ew6 := IntWalk.wrap64_in (i - ph) ⟨by omega, by omega⟩
  by_cases hin : i < ph ∨ ph + 56 * many ≤ i
  · have e0 : lookB i ph many = false := by unfold lookB; rw [if_neg h64, if_pos hin]
    go_enter Tryd.func23, Tryd.ntmps23
    go_wp2_with fail
    all_goals first | (exfalso; omega) | (go_ret; exact ⟨hb _ (by rw [e0]), rfl⟩)
  have e0 : lookB i ph many = decide ((i - ph) % 56 < 24 ∨ 32 ≤ (i - ph) % 56) := by unfold lookB; rw [if_neg h64, if_neg hin]
  have et : (i - ph).tmod 56 = (i - ph) % 56 := Int.tmod_eq_emod_of_nonneg (by omega)
  have ew7 := IntWalk.i64_in ((i - ph) % 56) ⟨by omega, by omega⟩
  go_enter Tryd.func23, Tryd.ntmps23
  go_wp2_with fail
  all_goals first | (exfalso; omega) | (go_ret; exact ⟨hb _ (by rw [e0]; first | (simp; done) | (simp; omega) | (rw [Bool.eq_iff_iff]; simp; omega)), rfl⟩)
end Go.Proofs.YtaaohcpiideaaaaDoor
