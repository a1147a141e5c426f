
/- The reference: blank, trimmed, Parse. -/
import Derived.Test.YthamfhenadaapaaGreatDoorU0
import Derived.Test.YthamfhenadaapaaGreatDoorUC
namespace Go.Proofs.YthamfhenadaapaaGreatDoor
open Go.RowKit Go.Sort

theorem blk_or (c : UInt8) : blk c = (decide (c = 32) || decide (c = 9)) := by
  unfold blk cs2
  rw [List.contains_eq_mem]
  simp
theorem byte_eq2 (c d : UInt8) (n : Int) (hn : (d.toNat : Int) = n) : ((c.toNat : Int) == n) = decide (c = d) := by
  rw [← hn]
  by_cases h : c = d
  · subst h; simp
  · rw [decide_eq_false h, beq_eq_false_iff_ne]
    intro e
    exact h (UInt8.toNat_inj.1 (by omega))
theorem blank_any (c : UInt8) (w : World) :
    Calls Tryz.prog 55 #[.int .u8 (c.toNat : Int)] w fun e' w' => e' = .returned (.bool (blk c)) ∧ w = w' := by
  have h1 := byte_eq2 c 32 32 rfl
  have h2 := byte_eq2 c 9 9 rfl
  rw [blk_or]
  cases e1 : decide (c = 32)
  · rw [e1] at h1
    cases e2 : decide (c = 9)
    · rw [e2] at h2
      clear e1 e2
      go_enter Tryz.func55, Tryz.ntmps55
      go_wp2_with fail
      go_ret
      exact ⟨rfl, rfl⟩
    · rw [e2] at h2
      clear e1 e2
      go_enter Tryz.func55, Tryz.ntmps55
      go_wp2_with fail
      go_ret
      exact ⟨rfl, rfl⟩
  · rw [e1] at h1
    clear e1 h2
    go_enter Tryz.func55, Tryz.ntmps55
    go_wp2_with fail
    go_ret
    exact ⟨rfl, rfl⟩

theorem ba_eta' (s : ByteArray) : ba s.data.toList = s := rfl
def lenT : Value → Nat
  | .string s => s.size
  | _ => 0
theorem str_cons (S : ByteArray) (h : 0 < S.size) : S.data.toList = S[0]'h :: (S.extract 1 S.size).data.toList := by
  have h1 := take_snoc2 S 0 h
  have e : (S.extract 1 S.size).data.toList = S.data.toList.drop 1 := by
    rw [ba_extract, ba_list, take_all _ _ (Nat.le_refl _)]
  rw [e]
  have := List.take_append_drop 1 S.data.toList
  rw [h1] at this
  simpa using this.symm
theorem str_snoc (S : ByteArray) (k : Nat) (h : k < S.size) (hk : S.size = k + 1) : S.data.toList = (S.extract 0 k).data.toList ++ [S[k]'h] := by
  have h1 := take_snoc2 S k h
  have e : (S.extract 0 k).data.toList = S.data.toList.take k := by
    rw [ba_extract, ba_list]; rfl
  rw [e, ← h1, take_all _ _ (by omega)]

set_option maxRecDepth 100000 in
set_option maxHeartbeats 4000000 in
theorem trimmed_any (s : ByteArray) (w : World) (hs : s.size ≤ 1000000) :
    Calls Tryz.prog 54 #[.string s] w fun e' w' => e' = .returned (.string (ba (trS s.data.toList))) ∧ w = w' := by
  have HTS : Hid (trS s.data.toList = trB (trL s.data.toList)) := hid rfl
  go_enter Tryz.func54, Tryz.ntmps54
  go_wp2_with fail
  go_loop [0] (fun v => ∃ S : ByteArray, v = .string S ∧ trL S.data.toList = trL s.data.toList ∧ S.size ≤ s.size) lenT
  case atStart => exact ⟨s, rfl, rfl, Nat.le_refl _⟩
  case round =>
    obtain ⟨S, rfl, hS, hle⟩ := hrel
    have HS := hid hS
    clear hS
    by_cases hgo : ∃ h : 0 < S.size, blk (S[0]'h) = true
    · obtain ⟨h0, hb⟩ := hgo
      have d1 : decide ((0 : Int) < (S.size : Int)) = true := by simp; omega
      have d1n : decide (0 < S.size) = true := by simp; omega
      have HB := hid hb
      have HC := hid (str_cons S h0)
      have HN := hid (show trL (S.extract 1 S.size).data.toList = trL s.data.toList by rw [← HS.out, HC.out, trL_yes hb])
      have HZ := hid (show (S.extract 1 S.size).size < S.size by rw [ba_extract, ba_size]; simp; omega)
      clear hb
      go_wp2_with fail
      refine (blank_any _ _).mono ?_
      rintro e' w1 ⟨rfl, rfl⟩
      rw [HB.out]
      go_wp2_with fail
      go_round
      case rel => exact ⟨_, rfl, HN.out, by have := HZ.out; omega⟩
      case measure => exact HZ.out
    · have HL : Hid (trL s.data.toList = S.data.toList) := by
        refine hid ?_
        rw [← HS.out]
        by_cases h0 : 0 < S.size
        · have hb : blk (S[0]'h0) = false := by
            cases h : blk (S[0]'h0)
            · rfl
            · exact absurd ⟨h0, h⟩ hgo
          rw [str_cons S h0, trL_no hb]
        · have : S.data.toList = [] := List.eq_nil_of_length_eq_zero (by rw [size_list]; omega)
          rw [this]; rfl
      rw [HL.out] at HTS
      have hex : (∃ h : 0 < S.size, blk (S[0]'h) = false) ∨ ¬ 0 < S.size := by
        by_cases h0 : 0 < S.size
        · left
          refine ⟨h0, ?_⟩
          cases h : blk (S[0]'h0)
          · rfl
          · exact absurd ⟨h0, h⟩ hgo
        · exact .inr h0
      clear hgo
      rcases hex with ⟨h0, hb⟩ | h0
      · have d1 : decide ((0 : Int) < (S.size : Int)) = true := by simp; omega
        have d1n : decide (0 < S.size) = true := by simp; omega
        have HB := hid hb
        clear hb
        go_wp2_with fail
        refine (blank_any _ _).mono ?_
        rintro e' w1 ⟨rfl, rfl⟩
        rw [HB.out]
        go_wp2_with fail
        clear HB d1 d1n
        go_loop [0] (fun v => ∃ R : ByteArray, v = .string R ∧ trB R.data.toList = trB S.data.toList ∧ R.size ≤ S.size) lenT
        case atStart => exact ⟨S, rfl, rfl, Nat.le_refl _⟩
        case round =>
          obtain ⟨R, rfl, hR, hle2⟩ := hrel
          have HR := hid hR
          clear hR
          by_cases h1 : 0 < R.size
          · obtain ⟨k, hk⟩ : ∃ k, R.size = k + 1 := ⟨R.size - 1, by omega⟩
            have hlt : k < R.size := by omega
            have d3 : decide ((0 : Int) < (R.size : Int)) = true := by simp; omega
            have d3n : decide (0 < R.size) = true := by simp; omega
            have e1 : (R.size : Int) - 1 = (k : Int) := by omega
            have HC := hid (str_snoc R k hlt hk)
            have HK := hid hk
            clear hk
            cases hb2 : blk (R[k]'hlt)
            · have HB2 := hid hb2
              have HF := hid (show R.data.toList = trB S.data.toList by rw [← HR.out, HC.out, trB_no hb2])
              clear hb2
              go_wp2_with fail
              refine (blank_any _ _).mono ?_
              rintro e' w1 ⟨rfl, rfl⟩
              rw [HB2.out]
              go_wp2_with fail
              go_ret
              exact ⟨by rw [HTS.out, ← HF.out, ba_eta']; rfl, rfl⟩
            · have HB2 := hid hb2
              have HN := hid (show trB (R.extract 0 k).data.toList = trB S.data.toList by rw [← HR.out, HC.out, trB_yes hb2])
              have HZ := hid (show (R.extract 0 k).size < R.size by rw [ba_extract, ba_size]; simp; omega)
              clear hb2
              go_wp2_with fail
              refine (blank_any _ _).mono ?_
              rintro e' w1 ⟨rfl, rfl⟩
              rw [HB2.out]
              go_wp2_with fail
              go_round
              case rel => exact ⟨_, rfl, HN.out, by have := HZ.out; omega⟩
              case measure => exact HZ.out
          · have d3 : decide ((0 : Int) < (R.size : Int)) = false := decide_eq_false (by omega)
            have d3n : decide (0 < R.size) = false := decide_eq_false (by omega)
            have HF := hid (show R.data.toList = trB S.data.toList by
              have e0 : R.data.toList = [] := List.eq_nil_of_length_eq_zero (by rw [size_list]; omega)
              rw [← HR.out, e0]; rfl)
            go_wp2_with fail
            go_ret
            exact ⟨by rw [HTS.out, ← HF.out, ba_eta']; rfl, rfl⟩
      · have d1 : decide ((0 : Int) < (S.size : Int)) = false := decide_eq_false (by omega)
        have d1n : decide (0 < S.size) = false := decide_eq_false (by omega)
        go_wp2_with fail
        clear d1 d1n
        go_loop [0] (fun v => ∃ R : ByteArray, v = .string R ∧ trB R.data.toList = trB S.data.toList ∧ R.size ≤ S.size) lenT
        case atStart => exact ⟨S, rfl, rfl, Nat.le_refl _⟩
        case round =>
          obtain ⟨R, rfl, hR, hle2⟩ := hrel
          have HR := hid hR
          clear hR
          by_cases h1 : 0 < R.size
          · obtain ⟨k, hk⟩ : ∃ k, R.size = k + 1 := ⟨R.size - 1, by omega⟩
            have hlt : k < R.size := by omega
            have d3 : decide ((0 : Int) < (R.size : Int)) = true := by simp; omega
            have d3n : decide (0 < R.size) = true := by simp; omega
            have e1 : (R.size : Int) - 1 = (k : Int) := by omega
            have HC := hid (str_snoc R k hlt hk)
            have HK := hid hk
            clear hk
            cases hb2 : blk (R[k]'hlt)
            · have HB2 := hid hb2
              have HF := hid (show R.data.toList = trB S.data.toList by rw [← HR.out, HC.out, trB_no hb2])
              clear hb2
              go_wp2_with fail
              refine (blank_any _ _).mono ?_
              rintro e' w1 ⟨rfl, rfl⟩
              rw [HB2.out]
              go_wp2_with fail
              go_ret
              exact ⟨by rw [HTS.out, ← HF.out, ba_eta']; rfl, rfl⟩
            · have HB2 := hid hb2
              have HN := hid (show trB (R.extract 0 k).data.toList = trB S.data.toList by rw [← HR.out, HC.out, trB_yes hb2])
              have HZ := hid (show (R.extract 0 k).size < R.size by rw [ba_extract, ba_size]; simp; omega)
              clear hb2
              go_wp2_with fail
              refine (blank_any _ _).mono ?_
              rintro e' w1 ⟨rfl, rfl⟩
              rw [HB2.out]
              go_wp2_with fail
              go_round
              case rel => exact ⟨_, rfl, HN.out, by have := HZ.out; omega⟩
              case measure => exact HZ.out
          · have d3 : decide ((0 : Int) < (R.size : Int)) = false := decide_eq_false (by omega)
            have d3n : decide (0 < R.size) = false := decide_eq_false (by omega)
            have HF := hid (show R.data.toList = trB S.data.toList by
              have e0 : R.data.toList = [] := List.eq_nil_of_length_eq_zero (by rw [size_list]; omega)
              rw [← HR.out, e0]; rfl)
            go_wp2_with fail
            go_ret
            exact ⟨by rw [HTS.out, ← HF.out, ba_eta']; rfl, rfl⟩
end Go.Proofs.YthamfhenadaapaaGreatDoor
