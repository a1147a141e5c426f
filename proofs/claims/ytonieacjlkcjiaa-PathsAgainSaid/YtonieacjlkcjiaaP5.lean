/- Contracts of package hostelref02: what is in front and behind. -/
import Derived.Test.YtonieacjlkcjiaaP2
namespace Go.Proofs.Ytonieacjlkcjiaa
open Go.RowKit Go.Sort

theorem byte_eq (s : ByteArray) (k : Nat) (h : k < s.size) (c : UInt8) (n : Int) (hn : (c.toNat : Int) = n) : ((s[k].toNat : Int) == n) = decide (s[k] = c) := by
  rw [Bool.eq_iff_iff, beq_iff_eq, decide_eq_true_eq, ← hn]
  constructor
  · intro h; exact UInt8.toNat_inj.1 (by omega)
  · intro h; rw [h]
theorem take_snoc2 (s : ByteArray) (k : Nat) (h : k < s.size) : s.data.toList.take (k + 1) = s.data.toList.take k ++ [s[k]] := by
  rw [List.take_succ_eq_append_getElem (by simpa using h)]; rfl

set_option maxHeartbeats 1000000 in
theorem rlast_any (s : ByteArray) (w : World) (hs : s.size ≤ 1000000) :
    Calls Try.prog 29 #[.string s] w fun e' w' => e' = .returned (.int .i64 (lastI s.data.toList)) ∧ w = w' := by
  go_enter Try.func29, Try.ntmps29
  go_wp2_with fail
  go_loop [3, 4] (fun v i => ∃ k : Nat, k ≤ s.size ∧ i = .int .i64 k ∧ v = .int .i64 (lastI (s.data.toList.take k))) (fun _ i => s.size - (intOf i).toNat)
  case atStart => exact ⟨0, Nat.zero_le _, rfl, rfl⟩
  case round =>
    obtain ⟨k, hk, rfl, rfl⟩ := hrel
    by_cases hlt : k < s.size
    · have hb := byte_eq s k hlt 47 47 rfl
      have HS := hid (show lastI (s.data.toList.take (k + 1)) = if s[k] = 47 then (k : Int) else lastI (s.data.toList.take k) by
        rw [take_snoc2 s k hlt, lastI_snoc]
        have : (s.data.toList.take k).length = k := by simp; have h2 : s.data.size = s.size := rfl; omega
        rw [this])
      by_cases h : s[k] = 47
      · rw [decide_eq_true h] at hb
        have HT := hid (show lastI (s.data.toList.take (k + 1)) = (k : Int) by rw [HS.out, if_pos h])
        clear h HS
        go_wp2
        go_round
        case rel => exact ⟨k + 1, by omega, by go_num, by rw [HT.out]⟩
        case measure => simp [intOf]; omega
      · rw [decide_eq_false h] at hb
        have HT := hid (show lastI (s.data.toList.take (k + 1)) = lastI (s.data.toList.take k) by rw [HS.out, if_neg h])
        clear h HS
        go_wp2
        go_round
        case rel => exact ⟨k + 1, by omega, by go_num, by rw [HT.out]⟩
        case measure => simp [intOf]; omega
    · have HF := hid (show lastI (s.data.toList.take k) = lastI s.data.toList by rw [List.take_of_length_le (by rw [size_list]; omega)])
      go_wp2
      go_ret
      exact ⟨ret_i64 HF.out, rfl⟩

theorem rbase_any (s : ByteArray) (w : World) (hs : s.size ≤ 1000000) :
    Calls Try.prog 17 #[.string s] w fun e' w' => e' = .returned (.string (ba (baseL s.data.toList))) ∧ w = w' := by
  go_enter Try.func17, Try.ntmps17
  go_wp2_with fail
  refine (rlast_any _ _ hs).mono ?_
  rintro e' w1 ⟨rfl, rfl⟩
  rcases lastI_cases s.data.toList with ⟨h1, h2⟩ | ⟨i, h1, h3, h2⟩
  · rw [h1]
    have HF := hid (show s = ba (baseL s.data.toList) by rw [h2, ba_eta])
    clear h1 h2
    go_wp2_with fail
    go_ret
    exact ⟨str_eq (by simpa using HF.out), rfl⟩
  · rw [h1]
    have hi : i + 1 ≤ s.size := by rw [size_list] at h3; omega
    have HF := hid (show s.extract (i + 1) s.size = ba (baseL s.data.toList) by rw [h2, ba_extract, List.take_of_length_le (by rw [size_list]; exact Nat.le_refl _)])
    clear h1 h2 h3
    go_wp2_with fail
    go_ret
    exact ⟨str_eq HF.out, rfl⟩

theorem rdir_any (s : ByteArray) (w : World) (hs : s.size ≤ 1000000) :
    Calls Try.prog 19 #[.string s] w fun e' w' => e' = .returned (.string (ba (dirL s.data.toList))) ∧ w = w' := by
  go_enter Try.func19, Try.ntmps19
  go_wp2_with fail
  refine (rlast_any _ _ hs).mono ?_
  rintro e' w1 ⟨rfl, rfl⟩
  have HD := hid (show dirL s.data.toList = if lastI s.data.toList = -1 then [46] else if lastI s.data.toList = 0 then [47] else s.data.toList.take (lastI s.data.toList).toNat from rfl)
  rcases lastI_cases s.data.toList with ⟨h1, h2⟩ | ⟨i, h1, h3, h2⟩
  · rw [h1] at HD ⊢
    have HF := hid (show ByteArray.mk #[46] = ba (dirL s.data.toList) by rw [HD.out]; rfl)
    clear h1 h2 HD
    go_wp2_with fail
    go_ret
    exact ⟨str_eq HF.out, rfl⟩
  · rw [h1] at HD ⊢
    have hi : i + 1 ≤ s.size := by rw [size_list] at h3; omega
    by_cases h0 : i = 0
    · subst h0
      have HF := hid (show ByteArray.mk #[47] = ba (dirL s.data.toList) by rw [HD.out]; rfl)
      clear h1 h2 HD h3
      go_wp2_with fail
      go_ret
      exact ⟨str_eq HF.out, rfl⟩
    · have hz : (((i : Int)) == 0) = false := by rw [beq_eq_false_iff_ne]; omega
      have HF := hid (show s.extract 0 i = ba (dirL s.data.toList) by rw [HD.out, if_neg (by omega), if_neg (by omega), ba_extract]; simp)
      clear h1 h2 HD h3
      go_wp2_with fail
      go_ret
      exact ⟨str_eq HF.out, rfl⟩

theorem tail_at {s : ByteArray} {n : Nat} (h : s.size = n + 1) (hlt : n < s.size) : tailB s.data.toList = decide (s[n] = 47) := by
  have e : s.data.toList = s.data.toList.take n ++ [s[n]] := by
    rw [← take_snoc2 s n (by omega), List.take_of_length_le (by rw [size_list]; omega)]
  rw [Bool.eq_iff_iff, tail_iff, decide_eq_true_eq]
  constructor
  · rintro ⟨a, ha⟩
    rw [e] at ha
    have := List.append_inj_right' ha rfl
    simpa using this
  · intro h2
    exact ⟨_, by rw [e, h2]⟩

theorem rtail_any (s : ByteArray) (w : World) (hs : s.size ≤ 1000000) :
    Calls Try.prog 21 #[.string s] w fun e' w' => e' = .returned (.bool (tailB s.data.toList)) ∧ w = w' := by
  by_cases h : s.size = 0
  · have hd : ¬ 0 < (s.size : Int) := by omega
    have HF := hid (show false = tailB s.data.toList by
      have : s.data.toList = [] := List.length_eq_zero_iff.1 (by rw [size_list]; exact h)
      rw [this]; rfl)
    clear h
    go_enter Try.func21, Try.ntmps21
    go_wp2_with fail
    go_ret
    exact ⟨ret_bool HF.out, rfl⟩
  · obtain ⟨n, hn⟩ : ∃ n, s.size = n + 1 := ⟨s.size - 1, by omega⟩
    have hlt : n < s.size := by omega
    have hd : 0 < (s.size : Int) := by omega
    have he : (s.size : Int) - 1 = n := by omega
    have HT := hid (tail_at hn hlt)
    have hb := byte_eq s n hlt 47 47 rfl
    clear hn h
    go_enter Try.func21, Try.ntmps21
    go_wp2_with fail
    go_ret
    exact ⟨ret_bool (by rw [HT.out]), rfl⟩

theorem beg_at {s : ByteArray} (h : 0 < s.size) : begB s.data.toList = decide (s[0] = 47) := by
  have hl : 0 < s.data.toList.length := by rw [size_list]; exact h
  have e : s.data.toList.head? = some s[0] := by
    rw [List.head?_eq_getElem?, List.getElem?_eq_getElem hl]; rfl
  unfold begB
  rw [e]
  simp

set_option maxHeartbeats 1000000 in
theorem rjoin_any (d p : ByteArray) (w : World) (hd : d.size ≤ 1000000) (hp : p.size ≤ 1000000) :
    Calls Try.prog 15 #[.string d, .string p] w fun e' w' => e' = .returned (.string (ba (joinL d.data.toList p.data.toList))) ∧ w = w' := by
  have HJ := hid (show joinL d.data.toList p.data.toList = if begB p.data.toList || decide (d.data.toList = []) then p.data.toList else if tailB d.data.toList then d.data.toList ++ p.data.toList else d.data.toList ++ [47] ++ p.data.toList from rfl)
  have hne := ba_nil d
  by_cases hdn : d.data.toList = []
  · rw [decide_eq_true hdn] at hne
    have HF := hid (show p = ba (joinL d.data.toList p.data.toList) by rw [HJ.out, decide_eq_true hdn]; simp [ba_eta])
    clear HJ hdn
    go_enter Try.func15, Try.ntmps15
    go_wp2_with fail
    go_ret
    exact ⟨str_eq HF.out, rfl⟩
  · rw [decide_eq_false hdn] at hne
    have HD := hid hdn
    clear hdn
    by_cases h0 : 0 < p.size
    · have hd0 : 0 < (p.size : Int) := by omega
      have hb := byte_eq p 0 h0 47 47 rfl
      have hbb := beg_at h0
      cases hbg : begB p.data.toList
      · rw [hbg] at hbb
        rw [← hbb] at hb
        have HJ2 := hid (show joinL d.data.toList p.data.toList = if tailB d.data.toList then d.data.toList ++ p.data.toList else d.data.toList ++ [47] ++ p.data.toList by rw [HJ.out, hbg, decide_eq_false HD.out]; simp)
        clear HJ hbg hbb
        go_enter Try.func15, Try.ntmps15
        go_wp2_with fail
        refine (rtail_any _ _ (by omega)).mono ?_
        rintro e' w1 ⟨rfl, rfl⟩
        cases ht : tailB d.data.toList
        · have HF := hid (show d ++ (ByteArray.mk #[47]) ++ p = ba (joinL d.data.toList p.data.toList) by
            rw [HJ2.out, ht, ← ba_eta d, ← ba_eta p, show ByteArray.mk #[47] = ba [47] from rfl, ba_append, ba_append]; rfl)
          clear HJ2 ht hne hb
          go_wp2_with fail
          go_ret
          exact ⟨str_eq HF.out, rfl⟩
        · have HF := hid (show d ++ p = ba (joinL d.data.toList p.data.toList) by
            rw [HJ2.out, ht, ← ba_eta d, ← ba_eta p, ba_append]; rfl)
          clear HJ2 ht hne hb
          go_wp2_with fail
          go_ret
          exact ⟨str_eq HF.out, rfl⟩
      · rw [hbg] at hbb
        rw [← hbb] at hb
        have HF := hid (show p = ba (joinL d.data.toList p.data.toList) by rw [HJ.out, hbg]; simp [ba_eta])
        clear HJ hbg hbb
        go_enter Try.func15, Try.ntmps15
        go_wp2_with fail
        go_ret
        exact ⟨str_eq HF.out, rfl⟩
    · have hd0 : ¬ 0 < (p.size : Int) := by omega
      have hpn : p.data.toList = [] := List.length_eq_zero_iff.1 (by rw [size_list]; omega)
      have HJ2 := hid (show joinL d.data.toList p.data.toList = if tailB d.data.toList then d.data.toList ++ p.data.toList else d.data.toList ++ [47] ++ p.data.toList by rw [HJ.out, show begB p.data.toList = false by rw [hpn]; rfl, decide_eq_false HD.out]; simp)
      clear HJ hpn
      go_enter Try.func15, Try.ntmps15
      go_wp2_with fail
      refine (rtail_any _ _ (by omega)).mono ?_
      rintro e' w1 ⟨rfl, rfl⟩
      cases ht : tailB d.data.toList
      · have HF := hid (show d ++ (ByteArray.mk #[47]) ++ p = ba (joinL d.data.toList p.data.toList) by
          rw [HJ2.out, ht, ← ba_eta d, ← ba_eta p, show ByteArray.mk #[47] = ba [47] from rfl, ba_append, ba_append]; rfl)
        clear HJ2 ht hne
        go_wp2_with fail
        go_ret
        exact ⟨str_eq HF.out, rfl⟩
      · have HF := hid (show d ++ p = ba (joinL d.data.toList p.data.toList) by
          rw [HJ2.out, ht, ← ba_eta d, ← ba_eta p, ba_append]; rfl)
        clear HJ2 ht hne
        go_wp2_with fail
        go_ret
        exact ⟨str_eq HF.out, rfl⟩
end Go.Proofs.Ytonieacjlkcjiaa
