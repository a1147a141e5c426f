/- Contracts of the reference of package words: sums, pages, sizes. -/
import Derived.Test.YtneppfggbaiglaaDoorW1
namespace Go.Proofs.YtneppfggbaiglaaDoor
open Go.RowKit

set_option maxHeartbeats 400000 in
theorem radd_any (a b : Int) (w : World) :
    Calls Tryd.prog 19 #[.int .u64 a, .int .u64 b] w fun e w' => e = .returned (.tuple #[.int .u64 (addV a b), .bool (addB a b)]) ∧ w = w' := by
  go_enter Tryd.func19, Tryd.ntmps19
  go_wp2
  all_goals go_ret2
  · have h : IntKind.u64.wrap (a + b) < a := by assumption
    exact ⟨ret_add (by unfold addV; rw [if_pos h]) (by unfold addB; simp; omega), rfl⟩
  · have h : a ≤ IntKind.u64.wrap (a + b) := by assumption
    exact ⟨ret_add (by unfold addV; rw [if_neg (by omega)]) (by unfold addB; simp; omega), rfl⟩

set_option maxHeartbeats 400000 in
theorem rinside_any (a b c : Int) (w : World) (hb : 0 ≤ b) (hc : c ≤ 18446744073709551615) :
    Calls Tryd.prog 21 #[.int .u64 a, .int .u64 b, .int .u64 c] w fun e w' => e = .returned (.bool (insB a b c)) ∧ w = w' := by
  by_cases h : b ≤ c
  · go_enter Tryd.func21, Tryd.ntmps21
    go_wp2
    go_ret
    exact ⟨ret_bool (by unfold insB; simp [h]), rfl⟩
  · go_enter Tryd.func21, Tryd.ntmps21
    go_wp2
    go_ret
    exact ⟨ret_bool (by unfold insB; simp; omega), rfl⟩

set_option maxHeartbeats 400000 in
theorem rdown_any (a : Int) (w : World) (ha : 0 ≤ a) (hb : a ≤ 18446744073709551615) :
    Calls Tryd.prog 27 #[.int .u64 a] w fun e w' => e = .returned (.int .u64 (a - a % 4096)) ∧ w = w' := by
  go_enter Tryd.func27, Tryd.ntmps27
  go_wp2
  go_ret
  exact ⟨rfl, rfl⟩

set_option maxHeartbeats 400000 in
theorem rpages_any (a b : Int) (w : World) (ha : 0 ≤ a) (hb : 0 ≤ b) (ha' : a ≤ 18446744073709551615) (hb' : b ≤ 18446744073709551615) :
    Calls Tryd.prog 25 #[.int .u64 a, .int .u64 b] w fun e w' => e = .returned (.tuple #[.int .u64 (pgF a b), .int .u64 (pgM a b), .int .i64 (pgE a b)]) ∧ w = w' := by
  by_cases h : a + b ≤ 18446744073709551615
  · have h1 : addB a b = true := by rw [addB_eq ha hb ha' hb']; simpa using h
    have h2 : addV a b = a + b := by rw [addV_eq ha hb ha' hb', if_pos h]
    have H2 := hid h2; clear h2
    by_cases hz : b = 0
    · have hz1 : (b == 0) = true := by simpa using hz
      clear hz
      go_enter Tryd.func25, Tryd.ntmps25
      go_wp2_with (go_at_call 19; refine (radd_any _ _ _).mono ?_; rintro e w' ⟨rfl, rfl⟩)
      go_ret3
      simp at hz1
      exact ⟨ret_pg (by unfold pgF; rw [if_pos h1]) (by unfold pgM; rw [if_pos h1, if_pos hz1]) (by unfold pgE; rw [if_pos h1]), rfl⟩
    · have hz1 : (b == 0) = false := by simpa using hz
      have hz2 : 1 ≤ b := by omega
      have hd : (a + b - 1) / 4096 ≥ a / 4096 := by omega
      have hv : 1 ≤ addV a b := by rw [H2.out]; omega
      have hv' : addV a b ≤ 18446744073709551615 := by rw [H2.out]; omega
      clear hz
      go_enter Tryd.func25, Tryd.ntmps25
      go_wp2_with (go_at_call 19; refine (radd_any _ _ _).mono ?_; rintro e w' ⟨rfl, rfl⟩)
      go_ret3
      simp at hz1
      refine ⟨ret_pg (by unfold pgF; rw [if_pos h1]) (by unfold pgM; rw [if_pos h1, if_neg hz1, H2.out]; rw [IntWalk.u64_in ((a + b - 1) / 4096 - a / 4096) (by omega), IntWalk.u64_in _ (by omega)]) (by unfold pgE; rw [if_pos h1]), rfl⟩
  · have h1 : addB a b = false := by rw [addB_eq ha hb ha' hb']; simpa using h
    go_enter Tryd.func25, Tryd.ntmps25
    go_wp2_with (go_at_call 19; refine (radd_any _ _ _).mono ?_; rintro e w' ⟨rfl, rfl⟩)
    go_ret3
    exact ⟨ret_pg (by unfold pgF; rw [h1]; rfl) (by unfold pgM; rw [h1]; rfl) (by unfold pgE; rw [h1]; rfl), rfl⟩

set_option maxHeartbeats 400000 in
theorem rup_any (a : Int) (w : World) (ha : 0 ≤ a) (hb : a ≤ 18446744073709551615) :
    Calls Tryd.prog 23 #[.int .u64 a] w fun e w' => e = .returned (.tuple #[.int .u64 (upV a), .bool (upB a)]) ∧ w = w' := by
  by_cases h : a % 4096 = 0
  · have hz : (a % 4096 == 0) = true := by simp; omega
    have H := hid h; clear h
    go_enter Tryd.func23, Tryd.ntmps23
    go_wp2
    go_ret2
    exact ⟨ret_up (by unfold upV; rw [if_pos H.out]) (by unfold upB; rw [if_pos H.out]), rfl⟩
  · have hz : (a % 4096 == 0) = false := by simp; omega
    go_enter Tryd.func23, Tryd.ntmps23
    go_wp2_with (first | (go_at_call 27; refine (rdown_any _ _ (by omega) (by omega)).mono ?_; rintro e w' ⟨rfl, rfl⟩) | (go_at_call 19; refine (radd_any _ _ _).mono ?_; rintro e w' ⟨rfl, rfl⟩))
    go_ret2
    exact ⟨ret_up (by unfold upV; rw [if_neg h]) (by unfold upB; rw [if_neg h]), rfl⟩

end Go.Proofs.YtneppfggbaiglaaDoor
