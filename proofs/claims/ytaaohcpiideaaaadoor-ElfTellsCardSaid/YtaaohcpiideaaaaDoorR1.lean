
/- Contracts of the reference of package words: sums, pages, sizes. -/
import Derived.Test.YtaaohcpiideaaaaDoorW1
namespace Go.Proofs.YtaaohcpiideaaaaDoor
open Go.RowKit

set_option maxHeartbeats 400000 in
theorem radd_any (a b : Int) (w : World) :
    Calls Tryd.prog 29 #[.int .u64 a, .int .u64 b] w fun e w' => e = .returned (.tuple #[.int .u64 (addV a b), .bool (addB a b)]) ∧ w = w' := by
  go_enter Tryd.func29, Tryd.ntmps29
  go_wp2
  all_goals go_ret2
  · have h : IntKind.u64.wrap (a + b) < a := by assumption
    exact ⟨ret_add (by unfold addV; rw [if_pos h]) (by unfold addB; simp; omega), rfl⟩
  · have h : a ≤ IntKind.u64.wrap (a + b) := by assumption
    exact ⟨ret_add (by unfold addV; rw [if_neg (by omega)]) (by unfold addB; simp; omega), rfl⟩

set_option maxHeartbeats 400000 in
theorem rinside_any (a b c : Int) (w : World) (hb : 0 ≤ b) (hc : c ≤ 18446744073709551615) :
    Calls Tryd.prog 34 #[.int .u64 a, .int .u64 b, .int .u64 c] w fun e w' => e = .returned (.bool (insB a b c)) ∧ w = w' := by
  by_cases h : b ≤ c
  · go_enter Tryd.func34, Tryd.ntmps34
    go_wp2
    go_ret
    exact ⟨ret_bool (by unfold insB; simp [h]), rfl⟩
  · go_enter Tryd.func34, Tryd.ntmps34
    go_wp2
    go_ret
    exact ⟨ret_bool (by unfold insB; simp; omega), rfl⟩

set_option maxHeartbeats 400000 in
theorem rdown_any (a : Int) (w : World) (ha : 0 ≤ a) (hb : a ≤ 18446744073709551615) :
    Calls Tryd.prog 31 #[.int .u64 a] w fun e w' => e = .returned (.int .u64 (a - a % 4096)) ∧ w = w' := by
  go_enter Tryd.func31, Tryd.ntmps31
  go_wp2
  go_ret
  exact ⟨rfl, rfl⟩

set_option maxHeartbeats 400000 in
theorem rup_any (a : Int) (w : World) (ha : 0 ≤ a) (hb : a ≤ 18446744073709551615) :
    Calls Tryd.prog 30 #[.int .u64 a] w fun e w' => e = .returned (.tuple #[.int .u64 (upV a), .bool (upB a)]) ∧ w = w' := by
  by_cases h : a % 4096 = 0
  · have hz : (a % 4096 == 0) = true := by simp; omega
    have H := hid h; clear h
    go_enter Tryd.func30, Tryd.ntmps30
    go_wp2
    go_ret2
    exact ⟨ret_up (by unfold upV; rw [if_pos H.out]) (by unfold upB; rw [if_pos H.out]), rfl⟩
  · have hz : (a % 4096 == 0) = false := by simp; omega
    go_enter Tryd.func30, Tryd.ntmps30
    go_wp2_with (first | (go_at_call 31; refine (rdown_any _ _ (by omega) (by omega)).mono ?_; rintro e w' ⟨rfl, rfl⟩) | (go_at_call 29; refine (radd_any _ _ _).mono ?_; rintro e w' ⟨rfl, rfl⟩))
    go_ret2
    exact ⟨ret_up (by unfold upV; rw [if_neg h]) (by unfold upB; rw [if_neg h]), rfl⟩

end Go.Proofs.YtaaohcpiideaaaaDoor
