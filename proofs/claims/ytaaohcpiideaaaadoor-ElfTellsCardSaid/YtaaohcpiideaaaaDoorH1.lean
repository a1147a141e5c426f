
/- Contracts of the reference of package words over bytes in memory. -/
import Derived.Test.YtaaohcpiideaaaaDoorG1
import Derived.Test.YtaaohcpiideaaaaDoorR1
namespace Go.Proofs.YtaaohcpiideaaaaDoor
open Go.RowKit

set_option maxHeartbeats 400000 in
theorem place_any (a : Option Addr) (len cap : Nat) (p n : Int) (w : World) (hl : len ≤ 9223372036854775807) :
    Calls Tryd.prog 56 #[.slice a len cap, .int .u64 p, .int .i64 n] w fun e w' => e = .returned (.int .i64 (chk len p n)) ∧ w = w' := by
  by_cases h : isSz n = true
  · have hn := isSz_cases h
    have h1 : 1 ≤ n := by omega
    have h8 : n ≤ 8 := by omega
    have H := hid h; clear h
    have hb : insB p n len = true ∨ insB p n len = false := by cases insB p n len <;> simp
    rcases hn with rfl | rfl | rfl | rfl <;> rcases hb with hi | hi
    all_goals
      go_enter Tryd.func56, Tryd.ntmps56
      go_wp2_with (go_at_call 34; refine (rinside_any _ _ _ _ (by omega) (by omega)).mono ?_; rintro e w' ⟨rfl, rfl⟩)
      go_ret
      exact ⟨ret_i64 (by unfold chk; rw [if_pos H.out, hi]; rfl), rfl⟩
  · have h' : isSz n = false := by simpa using h
    have h2 : n ≠ 1 ∧ n ≠ 2 ∧ n ≠ 4 ∧ n ≠ 8 := by simpa [isSz] using h'
    have e1 : (n != 1) = true := by simpa using h2.1
    have e2 : (n != 2) = true := by simpa using h2.2.1
    have e3 : (n != 4) = true := by simpa using h2.2.2.1
    have e4 : (n != 8) = true := by simpa using h2.2.2.2
    clear h h2
    have H := hid h'; clear h'
    go_enter Tryd.func56, Tryd.ntmps56
    go_wp2
    go_ret
    exact ⟨ret_i64 (by unfold chk; rw [if_neg (by rw [H.out]; decide)]), rfl⟩

end Go.Proofs.YtaaohcpiideaaaaDoor
