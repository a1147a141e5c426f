/- The walks of stage 1's statements. -/
import Derived.Test.YtneppfggbaiglaaDoorK1
import Derived.Test.YtneppfggbaiglaaDoorH1
namespace Go.Proofs.YtneppfggbaiglaaDoor
open Go.RowKit

set_option maxHeartbeats 1000000 in
theorem wordsAdds_walk (a b c : Int) (w : World) (hs : Sizes w) (hb : 0 ≤ b) (hc : c ≤ 18446744073709551615) :
    Calls Tryd.prog 5 #[.int .u64 a, .int .u64 b, .int .u64 c] w fun e w' => e = .returned (.bool true) ∧ Below w.heap.size w w' := by
  go_enter Tryd.func5, Tryd.ntmps5
  go_wp2_with (first
    | (go_at_call 18; refine (add_any _ _ _).mono ?_; rintro e w' ⟨rfl, rfl⟩)
    | (go_at_call 19; refine (radd_any _ _ _).mono ?_; rintro e w' ⟨rfl, rfl⟩)
    | (go_at_call 20; refine (inside_any _ _ _ _ hb hc).mono ?_; rintro e w' ⟨rfl, rfl⟩)
    | (go_at_call 21; refine (rinside_any _ _ _ _ hb hc).mono ?_; rintro e w' ⟨rfl, rfl⟩)
    | (go_at_call 9; refine (works_any _ hs).mono ?_; rintro e w' ⟨rfl, hw⟩))
  go_ret
  exact ⟨rfl, hw⟩
end Go.Proofs.YtneppfggbaiglaaDoor
