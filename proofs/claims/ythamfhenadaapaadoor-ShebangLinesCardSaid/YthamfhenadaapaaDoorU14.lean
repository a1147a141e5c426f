
/- Stage 21: gap, odd. -/
import Derived.Test.YthamfhenadaapaaDoorU13
import Derived.Test.YthamfhenadaapaaDoorUC
import Derived.Test.YthamfhenadaapaaDoorU4
namespace Go.Proofs.YthamfhenadaapaaDoor
open Go.RowKit Go.Sort

theorem gap_ok (x : Int) : ∃ j : Nat, j < 20 ∧ (wrap64 (x.tmod 20 + 20)).tmod 20 = (j : Int) := by
  have h1 : -20 < x.tmod 20 := Int.lt_tmod_of_pos x (by omega)
  have h2 : x.tmod 20 < 20 := Int.tmod_lt_of_pos x (by omega)
  have hw : wrap64 (x.tmod 20 + 20) = x.tmod 20 + 20 := Go.IntWalk.wrap64_in _ (by omega)
  rw [hw]
  have h3 := Int.tmod_lt_of_pos (x.tmod 20 + 20) (b := 20) (by omega)
  have h4 := Int.tmod_nonneg (a := x.tmod 20 + 20) 20 (by omega)
  obtain ⟨j, hj⟩ := Int.eq_ofNat_of_zero_le h4
  exact ⟨j, by omega, hj⟩
theorem half_even (k : Nat) : ((k : Int) % 2 == 0) = decide (k % 2 = 0) := by
  by_cases h : k % 2 = 0
  · rw [decide_eq_true h, beq_iff_eq]; omega
  · rw [decide_eq_false h, beq_eq_false_iff_ne]; omega

set_option maxRecDepth 100000 in
set_option maxHeartbeats 4000000 in
theorem gap_any (x : Int) (w : World) : ∃ m : Nat, m < 20 ∧ ∀ w, Calls Tryd.prog 6 #[.int .i64 x] w fun e' w' => e' = .returned (.string (ba (gapL m))) ∧ w = w' := by
  obtain ⟨m, hm, hx⟩ := gap_ok x
  refine ⟨m, hm, fun w => ?_⟩
  go_enter Tryd.func6, Tryd.ntmps6
  go_wp2_with fail
  go_loop [3, 4] (fun v i => ∃ k : Nat, k ≤ m ∧ i = .int .i64 k ∧ v = .string (ba (gapL k))) (fun _ i => m - (intOf i).toNat)
  case atStart => exact ⟨0, Nat.zero_le _, rfl, rfl⟩
  case round =>
    obtain ⟨k, hk, rfl, rfl⟩ := hrel
    by_cases hlt : k < m
    · have d1 : decide ((k : Int) < (m : Int)) = true := by simp; omega
      have he := half_even k
      have hzz : ¬ 9223372036854775807 < (ba (gapL k)).size + 1 := by rw [ba_size, gapL_len]; omega
      by_cases hh : k % 2 = 0
      · rw [decide_eq_true hh] at he
        have HE := hid (show ba (gapL k) ++ (ByteArray.mk #[32]) = ba (gapL (k + 1)) by rw [gapL_succ, if_pos hh, show ByteArray.mk #[32] = ba [32] from rfl, ba_append])
        clear hh
        go_wp2_with fail
        go_round
        case rel => exact ⟨k + 1, by omega, by go_num, by rw [← HE.out]⟩
        case measure => simp [intOf]; omega
      · rw [decide_eq_false hh] at he
        have HE := hid (show ba (gapL k) ++ (ByteArray.mk #[9]) = ba (gapL (k + 1)) by rw [gapL_succ, if_neg hh, show ByteArray.mk #[9] = ba [9] from rfl, ba_append])
        clear hh
        go_wp2_with fail
        go_round
        case rel => exact ⟨k + 1, by omega, by go_num, by rw [← HE.out]⟩
        case measure => simp [intOf]; omega
    · have d1 : decide ((k : Int) < (m : Int)) = false := decide_eq_false (by omega)
      obtain rfl : k = m := by omega
      go_wp2_with fail
      go_ret
      exact ⟨rfl, rfl⟩

def OddPost (s : BL) (t : Bool) (w : World) (e : Ending) (w' : World) : Prop := ∃ b, e = .returned (.bool b) ∧ w = w' ∧ (b = false → OddFree s t)
theorem odd_ret {s : BL} {t b : Bool} {w : World} (h : b = false → OddFree s t) : OddPost s t w (.returned (.bool b)) w := ⟨b, rfl, rfl, h⟩
def OddTo (s : BL) (t : Bool) (k : Nat) : Prop := ∀ i (h : i < s.length), i < k → s[i] ≠ 10 ∧ (blk s[i] = true → t = false ∧ i ≠ 0 ∧ i ≠ s.length - 1)
theorem odd_step {s : ByteArray} {t : Bool} {k : Nat} (h : OddTo s.data.toList t k) (hk : k < s.size) (hh : s[k] ≠ 10 ∧ (blk s[k] = true → t = false ∧ k ≠ 0 ∧ k ≠ s.data.toList.length - 1)) : OddTo s.data.toList t (k + 1) := by
  intro i hi hik
  by_cases e : i = k
  · subst e; exact hh
  · exact h i hi (by omega)

set_option maxRecDepth 100000 in
set_option maxHeartbeats 4000000 in
theorem odd_any (s : ByteArray) (t : Bool) (w : World) (hs : s.size ≤ 1000000) :
    Calls Tryd.prog 5 #[.string s, .bool t] w (OddPost s.data.toList t w) := by
  go_enter Tryd.func5, Tryd.ntmps5
  go_wp2_with fail
  go_loop [5] (fun i => ∃ k : Nat, k ≤ s.size ∧ i = .int .i64 k ∧ OddTo s.data.toList t k) (fun i => s.size - (intOf i).toNat)
  case atStart => exact ⟨0, Nat.zero_le _, rfl, fun i _ h => by omega⟩
  case round =>
    obtain ⟨k, hk, rfl, hno⟩ := hrel
    have HNO := hid hno
    clear hno
    by_cases hlt : k < s.size
    · have d1 : decide ((k : Int) < (s.size : Int)) = true := by simp; omega
      have q1 := byte_eq2 (s[k]'hlt) 32 32 rfl
      have q2 := byte_eq2 (s[k]'hlt) 9 9 rfl
      have q3 := byte_eq2 (s[k]'hlt) 10 10 rfl
      have hbk := blk_or (s[k]'hlt)
      by_cases h1 : s[k] = 32
      · rw [decide_eq_true h1] at q1
        rw [h1, decide_eq_false (by decide)] at q3
        clear q2 hbk
        cases t
        · by_cases hk0 : k = 0
          · have dk0 : ((k : Int) == 0) = true := by rw [hk0]; rfl
            clear hk0
            go_wp2_with fail
            go_ret
            exact odd_ret (fun h => by cases h)
          · have dk0 : ((k : Int) == 0) = false := by rw [beq_eq_false_iff_ne]; omega
            by_cases hkl : k + 1 = s.size
            · have dkl : ((k : Int) == (s.size : Int) - 1) = true := by rw [beq_iff_eq]; omega
              clear hkl
              go_wp2_with fail
              go_ret
              exact odd_ret (fun h => by cases h)
            · have dkl : ((k : Int) == (s.size : Int) - 1) = false := by rw [beq_eq_false_iff_ne]; omega
              have HNX := hid (odd_step HNO.out hlt ⟨by rw [h1]; decide, fun _ => ⟨rfl, hk0, by rw [size_list]; omega⟩⟩)
              go_wp2_with fail
              go_round
              case rel => exact ⟨k + 1, by omega, by go_num, HNX.out⟩
              case measure => simp [intOf]; omega
        · go_wp2_with fail
          go_ret
          exact odd_ret (fun h => by cases h)
      · rw [decide_eq_false h1] at q1
        by_cases h2 : s[k] = 9
        · rw [decide_eq_true h2] at q2
          rw [h2, decide_eq_false (by decide)] at q3
          clear hbk
          cases t
          · by_cases hk0 : k = 0
            · have dk0 : ((k : Int) == 0) = true := by rw [hk0]; rfl
              clear hk0
              go_wp2_with fail
              go_ret
              exact odd_ret (fun h => by cases h)
            · have dk0 : ((k : Int) == 0) = false := by rw [beq_eq_false_iff_ne]; omega
              by_cases hkl : k + 1 = s.size
              · have dkl : ((k : Int) == (s.size : Int) - 1) = true := by rw [beq_iff_eq]; omega
                clear hkl
                go_wp2_with fail
                go_ret
                exact odd_ret (fun h => by cases h)
              · have dkl : ((k : Int) == (s.size : Int) - 1) = false := by rw [beq_eq_false_iff_ne]; omega
                have HNX := hid (odd_step HNO.out hlt ⟨by rw [h2]; decide, fun _ => ⟨rfl, hk0, by rw [size_list]; omega⟩⟩)
                go_wp2_with fail
                go_round
                case rel => exact ⟨k + 1, by omega, by go_num, HNX.out⟩
                case measure => simp [intOf]; omega
          · go_wp2_with fail
            go_ret
            exact odd_ret (fun h => by cases h)
        · rw [decide_eq_false h2] at q2
          rw [decide_eq_false h1, decide_eq_false h2] at hbk
          by_cases h3 : s[k] = 10
          · rw [decide_eq_true h3] at q3
            clear hbk
            go_wp2_with fail
            go_ret
            exact odd_ret (fun h => by cases h)
          · rw [decide_eq_false h3] at q3
            have HNX := hid (odd_step HNO.out hlt ⟨h3, fun h => by rw [hbk] at h; cases h⟩)
            go_wp2_with fail
            go_round
            case rel => exact ⟨k + 1, by omega, by go_num, HNX.out⟩
            case measure => simp [intOf]; omega
    · have d1 : decide ((k : Int) < (s.size : Int)) = false := decide_eq_false (by omega)
      have HF := hid (show OddFree s.data.toList t from fun i hi => HNO.out i hi (by rw [size_list] at hi; omega))
      go_wp2_with fail
      go_ret
      exact odd_ret (fun _ => HF.out)
end Go.Proofs.YthamfhenadaapaaDoor
