
/- Contracts of the reference of package words: sums, pages, sizes. -/
import Derived.Test.YtkkadknijjninaaDoorW1
namespace Go.Proofs.YtkkadknijjninaaDoor
open Go.RowKit

set_option maxHeartbeats 400000 in
theorem radd_any (a b : Int) (w : World) :
    Calls Tryd.prog 73 #[.int .u64 a, .int .u64 b] w fun e w' => e = .returned (.tuple #[.int .u64 (addV a b), .bool (addB a b)]) ∧ w = w' := by
  go_enter Tryd.func73, Tryd.ntmps73
  go_wp2
  all_goals go_ret2
  · have h : IntKind.u64.wrap (a + b) < a := by assumption
    exact ⟨ret_add (by unfold addV; rw [if_pos h]) (by unfold addB; simp; omega), rfl⟩
  · have h : a ≤ IntKind.u64.wrap (a + b) := by assumption
    exact ⟨ret_add (by unfold addV; rw [if_neg (by omega)]) (by unfold addB; simp; omega), rfl⟩

set_option maxHeartbeats 400000 in
theorem rinside_any (a b c : Int) (w : World) (hb : 0 ≤ b) (hc : c ≤ 18446744073709551615) :
    Calls Tryd.prog 41 #[.int .u64 a, .int .u64 b, .int .u64 c] w fun e w' => e = .returned (.bool (insB a b c)) ∧ w = w' := by
  by_cases h : b ≤ c
  · go_enter Tryd.func41, Tryd.ntmps41
    go_wp2
    go_ret
    exact ⟨ret_bool (by unfold insB; simp [h]), rfl⟩
  · go_enter Tryd.func41, Tryd.ntmps41
    go_wp2
    go_ret
    exact ⟨ret_bool (by unfold insB; simp; omega), rfl⟩

end Go.Proofs.YtkkadknijjninaaDoor
