/- The walk of WordsParts. -/
import Derived.Test.YtneppfggbaiglaaDoorK1
namespace Go.Proofs.YtneppfggbaiglaaDoor
open Go.RowKit

theorem upB_cases (a : Int) (ha : 0 ≤ a) (ha' : a ≤ 18446744073709551615) :
    (upB a = true ∧ a ≤ upV a ∧ upV a ≤ 18446744073709551615 ∧ upV a - (a - a % 4096) ≤ 4096 ∧ (upV a = a - a % 4096 ↔ a = a - a % 4096) ∧ upV a % 4096 = 0) ∨ (upB a = false ∧ upV a = 0 ∧ 18446744073709551615 < a + 4096) := by
  unfold upB upV
  by_cases h : a % 4096 = 0
  · rw [if_pos h, if_pos h]
    refine .inl ⟨rfl, ?_, ?_, ?_, ?_, ?_⟩ <;> omega
  · rw [if_neg h, if_neg h]
    rw [addB_eq (by omega) (by omega) (by omega) (by omega), addV_eq (by omega) (by omega) (by omega) (by omega)]
    by_cases h2 : a - a % 4096 + 4096 ≤ 18446744073709551615
    · rw [if_pos h2]
      refine .inl ⟨by simpa using h2, ?_, ?_, ?_, ?_, ?_⟩ <;> omega
    · rw [if_neg h2]
      refine .inr ⟨by simpa using h2, rfl, by omega⟩

theorem parts_sum (a b r : Int) (ha : 0 ≤ a) (hb : 0 ≤ b) (hab : a + b ≤ 18446744073709551615) (h1 : a ≤ upV a) (h5 : upV a % 4096 = 0) (r0 : 0 ≤ r) (r1 : r < b - (upV a - a)) :
    pgE a (upV a + r / 4096 * 4096 - a) = 0 ∧ pgE (upV a + r / 4096 * 4096) (b - (upV a + r / 4096 * 4096 - a)) = 0 ∧
    (pgM a (upV a + r / 4096 * 4096 - a) + pgM (upV a + r / 4096 * 4096) (b - (upV a + r / 4096 * 4096 - a)) = pgM a b) ∧ 0 ≤ pgM a b ∧ pgM a b ≤ 18446744073709551615 := by
  generalize upV a = u at *
  have k1 : addB a (u + r / 4096 * 4096 - a) = true := by rw [addB_eq (by omega) (by omega) (by omega) (by omega)]; simp; omega
  have k2 : addB (u + r / 4096 * 4096) (b - (u + r / 4096 * 4096 - a)) = true := by rw [addB_eq (by omega) (by omega) (by omega) (by omega)]; simp; omega
  have k3 : addB a b = true := by rw [addB_eq (by omega) (by omega) (by omega) (by omega)]; simp; omega
  unfold pgE pgM
  simp only [k1, k2, k3, if_true]
  refine ⟨trivial, trivial, ?_, by split <;> omega, by split <;> omega⟩
  rw [if_neg (show ¬ (b - (u + r / 4096 * 4096 - a) = 0) by omega), if_neg (show ¬ (b = 0) by omega)]
  split <;> omega

set_option maxHeartbeats 1000000 in
theorem wordsParts_walk (a b c : Int) (w : World) (hs : Sizes w) (ha : 0 ≤ a) (hb : 0 ≤ b) (hc : 0 ≤ c) (ha' : a ≤ 18446744073709551615) (hb' : b ≤ 18446744073709551615) (hc' : c ≤ 18446744073709551615) :
    Calls Tryd.prog 8 #[.int .u64 a, .int .u64 b, .int .u64 c] w fun e w' => e = .returned (.bool true) ∧ Below w.heap.size w w' := by
  have m0 : 0 ≤ a % 4096 := by omega
  have m1 : a % 4096 < 4096 := by omega
  have m2 : a % 4096 ≤ a := by omega
  have md : ((a - a % 4096) % 4096 != 0) = false := by simp
  rcases upB_cases a ha ha' with ⟨hB, h1, h2, h3, h4, h5⟩ | ⟨hB, h1, h2⟩
  · have t1 : (upV a == a - a % 4096) = (a == a - a % 4096) := by
      by_cases e : upV a = a - a % 4096
      · have := h4.1 e
        simp [e, ← this]
      · have : ¬ a = a - a % 4096 := fun x => e (h4.2 x)
        rw [beq_eq_false_iff_ne.2 e, beq_eq_false_iff_ne.2 this]
    clear h4
    by_cases hE : addB a b = true
    · have hp0 : pgE a b = 0 := by unfold pgE; rw [if_pos hE]
      have hab : a + b ≤ 18446744073709551615 := by rw [addB_eq ha hb ha' hb'] at hE; simpa using hE
      by_cases hz : b = 0
      · have hz1 : (b == 0) = true := by simpa using hz
        clear hz
        go_enter Tryd.func8, Tryd.ntmps8
        go_wp2_with (first
          | (go_at_call 22; refine (up_any _ _ ha ha').mono ?_; rintro e w' ⟨rfl, rfl⟩)
          | (go_at_call 26; refine (down_any _ _ ha ha').mono ?_; rintro e w' ⟨rfl, rfl⟩)
          | (go_at_call 24; refine (pages_any _ _ _ ha hb ha' hb').mono ?_; rintro e w' ⟨rfl, rfl⟩; rw [hp0])
          | (go_at_call 9; refine (works_any _ hs).mono ?_; rintro e w' ⟨rfl, hw⟩))
        go_ret
        exact ⟨rfl, hw⟩
      · have hz1 : (b == 0) = false := by simpa using hz
        by_cases hu : b ≤ upV a - a
        · clear hz
          go_enter Tryd.func8, Tryd.ntmps8
          go_wp2_with (first
            | (go_at_call 22; refine (up_any _ _ ha ha').mono ?_; rintro e w' ⟨rfl, rfl⟩)
            | (go_at_call 26; refine (down_any _ _ ha ha').mono ?_; rintro e w' ⟨rfl, rfl⟩)
            | (go_at_call 24; refine (pages_any _ _ _ ha hb ha' hb').mono ?_; rintro e w' ⟨rfl, rfl⟩; rw [hp0])
            | (go_at_call 9; refine (works_any _ hs).mono ?_; rintro e w' ⟨rfl, hw⟩))
          go_ret
          exact ⟨rfl, hw⟩
        · clear hz
          have r0 : 0 ≤ c % (b - (upV a - a)) := Int.emod_nonneg _ (by omega)
          have r1 : c % (b - (upV a - a)) < b - (upV a - a) := Int.emod_lt_of_pos _ (by omega)
          go_enter Tryd.func8, Tryd.ntmps8
          go_wp2_with (first
            | (go_at_call 22; refine (up_any _ _ ha ha').mono ?_; rintro e w' ⟨rfl, rfl⟩)
            | (go_at_call 26; refine (down_any _ _ ha ha').mono ?_; rintro e w' ⟨rfl, rfl⟩)
            | fail)
          refine (pages_any _ _ _ ha hb ha' hb').mono ?_
          rintro e w' ⟨rfl, rfl⟩
          rw [hp0]
          obtain ⟨e1, e2, e3, e4, e5⟩ := parts_sum a b (c % (b - (upV a - a))) ha hb hab h1 h5 r0 r1
          have e6 : (IntKind.u64.wrap (pgM a (upV a + c % (b - (upV a - a)) / 4096 * 4096 - a) + pgM (upV a + c % (b - (upV a - a)) / 4096 * 4096) (b - (upV a + c % (b - (upV a - a)) / 4096 * 4096 - a))) == pgM a b) = true := by
            rw [e3, IntWalk.u64_in _ ⟨e4, e5⟩]; simp
          clear e3 e4 e5
          go_wp2_with fail
          refine (pages_any _ _ _ ha (by omega) ha' (by omega)).mono ?_
          rintro e w' ⟨rfl, rfl⟩
          rw [e1]
          go_wp2_with fail
          refine (pages_any _ _ _ (by omega) (by omega) (by omega) (by omega)).mono ?_
          rintro e w' ⟨rfl, rfl⟩
          rw [e2]
          go_wp2_with (go_at_call 9; refine (works_any _ hs).mono ?_; rintro e w' ⟨rfl, hw⟩)
          go_ret
          exact ⟨rfl, hw⟩
    · have hp0 : pgE a b = 1 := by unfold pgE; rw [if_neg hE]
      go_enter Tryd.func8, Tryd.ntmps8
      go_wp2_with (first
        | (go_at_call 22; refine (up_any _ _ ha ha').mono ?_; rintro e w' ⟨rfl, rfl⟩)
        | (go_at_call 26; refine (down_any _ _ ha ha').mono ?_; rintro e w' ⟨rfl, rfl⟩)
        | (go_at_call 24; refine (pages_any _ _ _ ha hb ha' hb').mono ?_; rintro e w' ⟨rfl, rfl⟩; rw [hp0])
        | (go_at_call 9; refine (works_any _ hs).mono ?_; rintro e w' ⟨rfl, hw⟩))
      go_ret
      exact ⟨rfl, hw⟩
  · have hz0 : pgE a b = 0 ∨ pgE a b = 1 := by unfold pgE; split <;> simp
    have H1 := hid h1
    clear h1
    rcases hz0 with hp0 | hp0
    all_goals
      go_enter Tryd.func8, Tryd.ntmps8
      go_wp2_with (first
        | (go_at_call 22; refine (up_any _ _ ha ha').mono ?_; rintro e w' ⟨rfl, rfl⟩; rw [hB, H1.out])
        | (go_at_call 26; refine (down_any _ _ ha ha').mono ?_; rintro e w' ⟨rfl, rfl⟩)
        | (go_at_call 24; refine (pages_any _ _ _ ha hb ha' hb').mono ?_; rintro e w' ⟨rfl, rfl⟩; rw [hp0])
        | (go_at_call 9; refine (works_any _ hs).mono ?_; rintro e w' ⟨rfl, hw⟩))
      go_ret
      exact ⟨rfl, hw⟩
end Go.Proofs.YtneppfggbaiglaaDoor
