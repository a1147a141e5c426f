/- Contracts of package hostelref03: one text. -/
import Derived.Test.YtoikoljadgnebaaZ1
namespace Go.Proofs.Ytoikoljadgnebaa
open Go.RowKit Go.Sort

theorem rhas_any (s : ByteArray) (c : UInt8) (n : Int) (hn : (c.toNat : Int) = n) (w : World) (hs : s.size ≤ 140737488351232) :
    Calls Try.prog 35 #[.string s, .int .u8 n] w fun e' w' => e' = .returned (.bool (hasC c s.data.toList)) ∧ w = w' := by
  have HN := hid hn
  clear hn
  go_enter Try.func35, Try.ntmps35
  go_wp2_with fail
  go_loop [5] (fun i => ∃ k : Nat, k ≤ s.size ∧ i = .int .i64 k ∧ ¬ c ∈ s.data.toList.take k) (fun i => s.size - (intOf i).toNat)
  case atStart => exact ⟨0, Nat.zero_le _, rfl, by simp⟩
  case round =>
    obtain ⟨k, hk, rfl, hno⟩ := hrel
    have HNO := hid hno
    clear hno
    by_cases hlt : k < s.size
    · have hb := byte_eq s k hlt c n HN.out
      have HT := hid (take_snoc2 s k hlt)
      by_cases h : s[k] = c
      · rw [decide_eq_true h] at hb
        have HF := hid (show true = hasC c s.data.toList by
          unfold hasC; rw [eq_comm, decide_eq_true_eq]
          have : c ∈ s.data.toList.take (k + 1) := by rw [HT.out]; simp [h]
          exact List.mem_of_mem_take this)
        clear h HT
        go_wp2
        go_ret
        exact ⟨ret_bool HF.out, rfl⟩
      · rw [decide_eq_false h] at hb
        have HNO2 := hid (show ¬ c ∈ s.data.toList.take (k + 1) by
          rw [HT.out]
          intro hm
          rcases List.mem_append.1 hm with hm | hm
          · exact HNO.out hm
          · exact h (List.mem_singleton.1 hm).symm)
        clear h HT
        go_wp2
        go_round
        case rel => exact ⟨k + 1, by omega, by go_num, HNO2.out⟩
        case measure => simp [intOf]; omega
    · have HF := hid (show false = hasC c s.data.toList by
        unfold hasC
        have := HNO.out
        rw [take_all s k (by omega)] at this
        rw [decide_eq_false this])
      go_wp2
      go_ret
      exact ⟨ret_bool HF.out, rfl⟩

theorem upTo_at {s : ByteArray} {x : UInt8} {k : Nat} (hlt : k < s.size) (h : s[k] = x) (hno : ¬ x ∈ s.data.toList.take k) : x ∈ s.data.toList ∧ upTo x s.data.toList = s.data.toList.take k := by
  have e : s.data.toList = s.data.toList.take k ++ [x] ++ s.data.toList.drop (k + 1) := by
    have h2 := take_snoc2 s k hlt
    rw [h] at h2
    rw [← h2, List.take_append_drop]
  constructor
  · rw [e]; simp
  · conv => lhs; rw [e]
    exact upTo_app (fun c hc => by rintro rfl; exact hno hc)

theorem rsplit_any (s : ByteArray) (w : World) (hs : s.size ≤ 140737488351232) :
    Calls Try.prog 13 #[.string s] w (SplitPost s w) := by
  go_enter Try.func13, Try.ntmps13
  go_wp2_with fail
  go_loop [5] (fun i => ∃ k : Nat, k ≤ s.size ∧ i = .int .i64 k ∧ ¬ 61 ∈ s.data.toList.take k) (fun i => s.size - (intOf i).toNat)
  case atStart => exact ⟨0, Nat.zero_le _, rfl, by simp⟩
  case round =>
    obtain ⟨k, hk, rfl, hno⟩ := hrel
    have HNO := hid hno
    clear hno
    by_cases hlt : k < s.size
    · have hb := byte_eq s k hlt 61 61 rfl
      have HT := hid (take_snoc2 s k hlt)
      by_cases h : s[k] = 61
      · rw [decide_eq_true h] at hb
        have HU := hid (upTo_at hlt h HNO.out)
        by_cases h0 : k = 0
        · subst h0
          have hok : okS s.data.toList = false := by unfold okS; rw [HU.out.2]; simp
          have HN := hid (nmS_no hok)
          have HO := hid hok
          clear h HT hok
          go_wp2_with fail
          go_ret3
          exact split_ret (n := 0) (by rw [HN.out.1]; rfl) (by rw [HN.out.2]; rfl) HO.out.symm rfl
        · have hlen : (s.data.toList.take k).length = k := by rw [List.length_take, size_list]; omega
          have hok : okS s.data.toList = true := by
            unfold okS
            rw [HU.out.2]
            have : s.data.toList.take k ≠ [] := by intro e; rw [e] at hlen; simp at hlen; omega
            simp [this, HU.out.1]
          have HE1 := hid (show s.extract 0 k = ba (nmS s.data.toList) by
            rw [(nmS_ok hok).1, HU.out.2, ba_extract]; rfl)
          have HE2 := hid (show s.extract (k + 1) s.size = ba (vlS s.data.toList) by
            rw [(nmS_ok hok).2, HU.out.2, hlen, ba_extract, take_all _ _ (Nat.le_refl _)])
          have HO := hid hok
          have hz : ((k : Int) == 0) = false := by rw [beq_eq_false_iff_ne]; omega
          clear h HT hok hlen
          go_wp2_with fail
          go_quiet (fail)
          go_wp2_with fail
          go_ret3
          exact split_ret (n := nq) HE1.out HE2.out HO.out.symm rfl
      · rw [decide_eq_false h] at hb
        have HNO2 := hid (show ¬ 61 ∈ s.data.toList.take (k + 1) by
          rw [HT.out]
          intro hm
          rcases List.mem_append.1 hm with hm | hm
          · exact HNO.out hm
          · exact h (List.mem_singleton.1 hm).symm)
        clear h HT
        go_wp2
        go_round
        case rel => exact ⟨k + 1, by omega, by go_num, HNO2.out⟩
        case measure => simp [intOf]; omega
    · have hno := HNO.out
      rw [take_all s k (by omega)] at hno
      have hok : okS s.data.toList = false := by unfold okS; rw [decide_eq_false hno]; rfl
      have HN := hid (nmS_no hok)
      have HO := hid hok
      clear hno hok
      go_wp2_with fail
      go_ret3
      exact split_ret (n := 0) (by rw [HN.out.1]; rfl) (by rw [HN.out.2]; rfl) HO.out.symm rfl

theorem rnamed_any (s n : ByteArray) (w : World) (hs : s.size ≤ 140737488351232) :
    Calls Try.prog 33 #[.string s, .string n] w fun e' w' => e' = .returned (.bool (named s.data.toList n.data.toList)) ∧ ∃ k, w' = w.drewN k := by
  go_enter Try.func33, Try.ntmps33
  go_wp2_with fail
  refine (rsplit_any _ _ hs).mono ?_
  rintro e' w1 ⟨rfl, k, rfl⟩
  have HN := hid (show named s.data.toList n.data.toList = (okS s.data.toList && decide (nmS s.data.toList = n.data.toList)) from rfl)
  have hq := ba_beq2 (nmS s.data.toList) n.data.toList
  rw [ba_eta] at hq
  cases ho : okS s.data.toList
  · rw [ho] at HN
    have HF := hid (show false = named s.data.toList n.data.toList by rw [HN.out]; rfl)
    clear HN ho hq
    go_wp2_with fail
    go_ret
    exact ⟨ret_bool HF.out, k, rfl⟩
  · rw [ho] at HN
    have HF := hid (show decide (nmS s.data.toList = n.data.toList) = named s.data.toList n.data.toList by rw [HN.out]; rfl)
    clear HN ho
    go_wp2_with fail
    go_ret
    exact ⟨ret_bool HF.out, k, rfl⟩
end Go.Proofs.Ytoikoljadgnebaa
