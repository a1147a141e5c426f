
/- Contracts of the reference of package words: sums, pages, sizes. -/
import Derived.Test.YtcbkikioapdbbaaDoorW1
namespace Go.Proofs.YtcbkikioapdbbaaDoor
open Go.RowKit

set_option maxHeartbeats 400000 in
theorem rinside_any (a b c : Int) (w : World) (hb : 0 ≤ b) (hc : c ≤ 18446744073709551615) :
    Calls Tryd.prog 76 #[.int .u64 a, .int .u64 b, .int .u64 c] w fun e w' => e = .returned (.bool (insB a b c)) ∧ w = w' := by
  by_cases h : b ≤ c
  · go_enter Tryd.func76, Tryd.ntmps76
    go_wp2
    go_ret
    exact ⟨ret_bool (by unfold insB; simp [h]), rfl⟩
  · go_enter Tryd.func76, Tryd.ntmps76
    go_wp2
    go_ret
    exact ⟨ret_bool (by unfold insB; simp; omega), rfl⟩

end Go.Proofs.YtcbkikioapdbbaaDoor
