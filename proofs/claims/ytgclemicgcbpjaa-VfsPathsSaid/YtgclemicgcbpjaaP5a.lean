/- hostelref02: Dir, Tail. -/
import Derived.Test.YtgclemicgcbpjaaP2a
import Derived.Test.YtgclemicgcbpjaaE0
import Derived.Test.YtgclemicgcbpjaaP3
namespace Go.Proofs.Ytgclemicgcbpjaa
open Go.RowKit Go.Sort

theorem byte_eq (s : ByteArray) (k : Nat) (h : k < s.size) (c : UInt8) (n : Int) (hn : (c.toNat : Int) = n) : ((s[k].toNat : Int) == n) = decide (s[k] = c) := by
  rw [Bool.eq_iff_iff, beq_iff_eq, decide_eq_true_eq, ← hn]
  constructor
  · intro h; exact UInt8.toNat_inj.1 (by omega)
  · intro h; rw [h]
theorem take_snoc2 (s : ByteArray) (k : Nat) (h : k < s.size) : s.data.toList.take (k + 1) = s.data.toList.take k ++ [s[k]] := by
  rw [List.take_succ_eq_append_getElem (by simpa using h)]; rfl

set_option maxHeartbeats 1000000 in
theorem rlast_any (s : ByteArray) (w : World) (hs : s.size ≤ 1000000) :
    Calls Try.prog 42 #[.string s] w fun e' w' => e' = .returned (.int .i64 (lastI s.data.toList)) ∧ w = w' := by
  go_enter Try.func42, Try.ntmps42
  go_wp2_with fail
  go_loop [3, 4] (fun v i => ∃ k : Nat, k ≤ s.size ∧ i = .int .i64 k ∧ v = .int .i64 (lastI (s.data.toList.take k))) (fun _ i => s.size - (intOf i).toNat)
  case atStart => exact ⟨0, Nat.zero_le _, rfl, rfl⟩
  case round =>
    obtain ⟨k, hk, rfl, rfl⟩ := hrel
    by_cases hlt : k < s.size
    · have hb := byte_eq s k hlt 47 47 rfl
      have HS := hid (show lastI (s.data.toList.take (k + 1)) = if s[k] = 47 then (k : Int) else lastI (s.data.toList.take k) by
        rw [take_snoc2 s k hlt, lastI_snoc]
        have : (s.data.toList.take k).length = k := by simp; have h2 : s.data.size = s.size := rfl; omega
        rw [this])
      by_cases h : s[k] = 47
      · rw [decide_eq_true h] at hb
        have HT := hid (show lastI (s.data.toList.take (k + 1)) = (k : Int) by rw [HS.out, if_pos h])
        clear h HS
        go_wp2
        go_round
        case rel => exact ⟨k + 1, by omega, by go_num, by rw [HT.out]⟩
        case measure => simp [intOf]; omega
      · rw [decide_eq_false h] at hb
        have HT := hid (show lastI (s.data.toList.take (k + 1)) = lastI (s.data.toList.take k) by rw [HS.out, if_neg h])
        clear h HS
        go_wp2
        go_round
        case rel => exact ⟨k + 1, by omega, by go_num, by rw [HT.out]⟩
        case measure => simp [intOf]; omega
    · have HF := hid (show lastI (s.data.toList.take k) = lastI s.data.toList by rw [List.take_of_length_le (by rw [size_list]; omega)])
      go_wp2
      go_ret
      exact ⟨ret_i64 HF.out, rfl⟩

theorem rdir_any (s : ByteArray) (w : World) (hs : s.size ≤ 1000000) :
    Calls Try.prog 23 #[.string s] w fun e' w' => e' = .returned (.string (ba (dirL s.data.toList))) ∧ w = w' := by
  go_enter Try.func23, Try.ntmps23
  go_wp2_with fail
  refine (rlast_any _ _ hs).mono ?_
  rintro e' w1 ⟨rfl, rfl⟩
  have HD := hid (show dirL s.data.toList = if lastI s.data.toList = -1 then [46] else if lastI s.data.toList = 0 then [47] else s.data.toList.take (lastI s.data.toList).toNat from rfl)
  rcases lastI_cases s.data.toList with ⟨h1, h2⟩ | ⟨i, h1, h3, h2⟩
  · rw [h1] at HD ⊢
    have HF := hid (show ByteArray.mk #[46] = ba (dirL s.data.toList) by rw [HD.out]; rfl)
    clear h1 h2 HD
    go_wp2_with fail
    go_ret
    exact ⟨str_eq HF.out, rfl⟩
  · rw [h1] at HD ⊢
    have hi : i + 1 ≤ s.size := by rw [size_list] at h3; omega
    by_cases h0 : i = 0
    · subst h0
      have HF := hid (show ByteArray.mk #[47] = ba (dirL s.data.toList) by rw [HD.out]; rfl)
      clear h1 h2 HD h3
      go_wp2_with fail
      go_ret
      exact ⟨str_eq HF.out, rfl⟩
    · have hz : (((i : Int)) == 0) = false := by rw [beq_eq_false_iff_ne]; omega
      have HF := hid (show s.extract 0 i = ba (dirL s.data.toList) by rw [HD.out, if_neg (by omega), if_neg (by omega), ba_extract]; simp)
      clear h1 h2 HD h3
      go_wp2_with fail
      go_ret
      exact ⟨str_eq HF.out, rfl⟩

theorem tail_at {s : ByteArray} {n : Nat} (h : s.size = n + 1) (hlt : n < s.size) : tailB s.data.toList = decide (s[n] = 47) := by
  have e : s.data.toList = s.data.toList.take n ++ [s[n]] := by
    rw [← take_snoc2 s n (by omega), List.take_of_length_le (by rw [size_list]; omega)]
  rw [Bool.eq_iff_iff, tail_iff, decide_eq_true_eq]
  constructor
  · rintro ⟨a, ha⟩
    rw [e] at ha
    have := List.append_inj_right' ha rfl
    simpa using this
  · intro h2
    exact ⟨_, by rw [e, h2]⟩

theorem rtail_any (s : ByteArray) (w : World) (hs : s.size ≤ 1000000) :
    Calls Try.prog 22 #[.string s] w fun e' w' => e' = .returned (.bool (tailB s.data.toList)) ∧ w = w' := by
  by_cases h : s.size = 0
  · have hd : ¬ 0 < (s.size : Int) := by omega
    have HF := hid (show false = tailB s.data.toList by
      have : s.data.toList = [] := List.length_eq_zero_iff.1 (by rw [size_list]; exact h)
      rw [this]; rfl)
    clear h
    go_enter Try.func22, Try.ntmps22
    go_wp2_with fail
    go_ret
    exact ⟨ret_bool HF.out, rfl⟩
  · obtain ⟨n, hn⟩ : ∃ n, s.size = n + 1 := ⟨s.size - 1, by omega⟩
    have hlt : n < s.size := by omega
    have hd : 0 < (s.size : Int) := by omega
    have he : (s.size : Int) - 1 = n := by omega
    have HT := hid (tail_at hn hlt)
    have hb := byte_eq s n hlt 47 47 rfl
    clear hn h
    go_enter Try.func22, Try.ntmps22
    go_wp2_with fail
    go_ret
    exact ⟨ret_bool (by rw [HT.out]), rfl⟩

end Go.Proofs.Ytgclemicgcbpjaa
