/- Contract of hostelref00.EqTexts. -/
import Derived.Test.YtgclemicgcbpjaaE0
namespace Go.Proofs.Ytgclemicgcbpjaa
open Go.RowKit Go.Sort

set_option maxHeartbeats 1000000 in
theorem eqTexts_any (a c : Option Addr) (len cap len2 cap2 : Nat) (l m : List (List UInt8)) (w : World) (hB : Cel w a len (strs l)) (hC : Cel w c len2 (strs m)) (hl : len ≤ 140737488351232) (hl2 : len2 ≤ 140737488351232) :
    Calls Try.prog 28 #[.slice a len cap, .slice c len2 cap2] w fun e w' => e = .returned (.bool (eqT l m)) ∧ ∃ n, w' = w.drewN n := by
  have e1 := hB.hlen
  have e2 := hC.hlen
  simp only [strs, List.length_map] at e1 e2
  subst e1 e2
  go_enter Try.func28, Try.ntmps28
  go_wp2_with fail
  go_loopw [5] (fun i wr => ∃ k : Nat, k ≤ l.length ∧ k ≤ m.length ∧ i = .int .i64 k ∧ l.take k = m.take k ∧ ∃ n, wr = w.drewN n) (fun i _ => l.length - (intOf i).toNat)
  case atStart => exact ⟨0, Nat.zero_le _, Nat.zero_le _, rfl, by simp, 0, rfl⟩
  case round =>
    obtain ⟨k, hk, hk2, rfl, he, n, rfl⟩ := hrel
    have HE := hid he; clear he
    by_cases h1 : k < l.length
    · have d1 : decide ((k : Int) < (l.length : Int)) = true := by simp; omega
      by_cases h2 : k < m.length
      · have d2 : decide ((k : Int) < (m.length : Int)) = true := by simp; omega
        obtain ⟨b1, o1, rfl, hc1⟩ := hB.some_of (by simp [strs]; omega)
        obtain ⟨b2, o2, rfl, hc2⟩ := hC.some_of (by simp [strs]; omega)
        have hx := strs_at hc1 h1
        have hy := strs_at hc2 h2
        have hq := ba_beq2 l[k] m[k]
        clear hB hC hc1 hc2
        by_cases h3 : l[k] = m[k]
        · have HT := hid (show l.take (k + 1) = m.take (k + 1) by rw [List.take_succ_eq_append_getElem h1, List.take_succ_eq_append_getElem h2, HE.out, h3])
          rw [decide_eq_true h3] at hq
          clear h3
          go_wp2_with fail
          go_quiet (fail)
          go_wp2_with fail
          go_roundw
          case rel => exact ⟨k + 1, by omega, by omega, by go_num, HT.out, n + nq, by simp [World.drewN, Nat.add_assoc]⟩
          case measure => simp [intOf]; omega
        · have HF := hid (show false = eqT l m by
            unfold eqT; rw [eq_comm, decide_eq_false_iff_not]; intro e; subst e; exact h3 rfl)
          rw [decide_eq_false h3] at hq
          have q1 : ((k : Int) == (l.length : Int)) = false := by rw [beq_eq_false_iff_ne]; omega
          clear h3
          go_wp2_with fail
          go_quiet (fail)
          go_wp2_with fail
          go_ret
          exact ⟨ret_bool HF.out, n + nq, by simp [World.drewN, Nat.add_assoc]⟩
      · have d2 : decide ((k : Int) < (m.length : Int)) = false := by simp; omega
        have q1 : ((k : Int) == (l.length : Int)) = false := by rw [beq_eq_false_iff_ne]; omega
        have HF := hid (show false = eqT l m by
            unfold eqT; rw [eq_comm, decide_eq_false_iff_not]; intro e; subst e; omega)
        go_wp2_with fail
        go_quiet (fail)
        go_wp2_with fail
        go_ret
        exact ⟨ret_bool HF.out, n + nq, by simp [World.drewN, Nat.add_assoc]⟩
    · have d1 : decide ((k : Int) < (l.length : Int)) = false := by simp; omega
      obtain rfl : k = l.length := by omega
      have q1 : ((l.length : Int) == (l.length : Int)) = true := by simp
      by_cases h2 : l.length = m.length
      · have HF := hid (show true = eqT l m by
            unfold eqT; rw [eq_comm, decide_eq_true_eq]
            have := HE.out
            rwa [List.take_length, h2, List.take_length] at this)
        have q2 : ((l.length : Int) == (m.length : Int)) = true := by simp; omega
        clear h2
        go_wp2_with fail
        go_quiet (fail)
        go_wp2_with fail
        go_ret
        exact ⟨ret_bool HF.out, n + nq, by simp [World.drewN, Nat.add_assoc]⟩
      · have HF := hid (show false = eqT l m by
            unfold eqT; rw [eq_comm, decide_eq_false_iff_not]; intro e; subst e; exact h2 rfl)
        have q2 : ((l.length : Int) == (m.length : Int)) = false := by rw [beq_eq_false_iff_ne]; omega
        clear h2
        go_wp2_with fail
        go_quiet (fail)
        go_wp2_with fail
        go_ret
        exact ⟨ret_bool HF.out, n + nq, by simp [World.drewN, Nat.add_assoc]⟩
end Go.Proofs.Ytgclemicgcbpjaa
