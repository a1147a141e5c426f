
/- hostelref20.may. -/
import Derived.Test.YtihaakcfegelkaaDoorTl1
namespace Go.Proofs.YtihaakcfegelkaaDoor
open Go.RowKit Go.Sort
attribute [local go_sem] Oper.semAt_some

set_option maxRecDepth 100000 in
set_option maxHeartbeats 4000000 in
theorem rmay20_any (a b c : Option Addr) (ac bc cc : Nat) (argv env : List BL) (aux : List (Nat × Nat)) (s : ByteArray) (w : World) (hA : Cel w a argv.length (strs argv)) (hB : Cel w b env.length (strs env)) (hC : Axs w c aux.length aux)
    (ha : argv.length ≤ 140737488351232) (hb : env.length ≤ 140737488351232) (hc : aux.length ≤ 140737488351232) (hsa : ∀ p ∈ argv, p.length ≤ 140737488351232) (hsb : ∀ p ∈ env, p.length ≤ 140737488351232) (hss : s.size ≤ 140737488351232) :
    Calls Tryd.prog 24 #[.slice a argv.length ac, .slice b env.length bc, .slice c aux.length cc, .string s] w fun e w' => e = .returned (.int .i64 (chkS argv env aux s.data.toList)) ∧ w = w' := by
  have HA := hid (rcheck3_any a argv.length ac argv w hA ha hsa)
  have HB := hid (rcheck3_any b env.length bc env w hB hb hsb)
  have HC := hid hC
  have hz := size_list s
  have HZ := hid hz
  have HEQ := hid (chkS_eq argv env aux s.data.toList)
  clear hA hB hC hsa hsb ha hb hc
  generalize chkL argv = x1 at *
  generalize chkL env = x2 at *
  by_cases c1 : x1 = 0
  · subst c1
    by_cases c2 : x2 = 0
    · subst c2
      have HE := hid (show chkS argv env aux s.data.toList = chkT aux s.data.toList by rw [HEQ.out, if_neg (by simp), if_neg (by simp)])
      by_cases c3 : 200 < s.data.toList.length ∨ 16 < aux.length
      · have HF := hid (show chkS argv env aux s.data.toList = 12 by rw [HE.out]; exact chkT_1 c3)
        rw [hz] at c3
        clear hz
        by_cases c4 : 200 < s.size
        · have d4 : decide ((200 : Int) < (s.size : Int)) = true := by simp; omega
          have d4n : decide (200 < s.size) = true := by simp; omega
          clear c3 c4
          go_enter Tryd.func24, Tryd.ntmps24
          go_wp2_with fail
          refine (HA.out).mono ?_
          rintro e' w1 ⟨rfl, hw⟩
          subst hw
          go_wp2_with fail
          refine (HB.out).mono ?_
          rintro e' w1 ⟨rfl, hw⟩
          subst hw
          go_wp2_with fail
          go_ret
          exact ⟨ret_i64s HF.out, rfl⟩
        · have c5 : 16 < aux.length := by omega
          have d4 : decide ((200 : Int) < (s.size : Int)) = false := by simp; omega
          have d4n : decide (200 < s.size) = false := by simp; omega
          have d5 : decide ((16 : Int) < (aux.length : Int)) = true := by simp; omega
          have d5n : decide (16 < aux.length) = true := by simp; omega
          clear c3 c4 c5
          go_enter Tryd.func24, Tryd.ntmps24
          go_wp2_with fail
          refine (HA.out).mono ?_
          rintro e' w1 ⟨rfl, hw⟩
          subst hw
          go_wp2_with fail
          refine (HB.out).mono ?_
          rintro e' w1 ⟨rfl, hw⟩
          subst hw
          go_wp2_with fail
          go_ret
          exact ⟨ret_i64s HF.out, rfl⟩
      · have C3 := hid c3
        rw [hz] at c3
        have d4 : decide ((200 : Int) < (s.size : Int)) = false := by simp; omega
        have d4n : decide (200 < s.size) = false := by simp; omega
        have d5 : decide ((16 : Int) < (aux.length : Int)) = false := by simp; omega
        have d5n : decide (16 < aux.length) = false := by simp; omega
        have h16 : aux.length ≤ 16 := by omega
        have h200 : s.size ≤ 200 := by omega
        clear c3 hz
        go_enter Tryd.func24, Tryd.ntmps24
        go_wp2_with fail
        refine (HA.out).mono ?_
        rintro e' w1 ⟨rfl, hw⟩
        subst hw
        go_wp2_with fail
        refine (HB.out).mono ?_
        rintro e' w1 ⟨rfl, hw⟩
        subst hw
        go_wp2_with fail
        go_loop [10] (fun i => ∃ k : Nat, k ≤ s.size ∧ i = .int .i64 k ∧ ¬ 0 ∈ s.data.toList.take k) (fun i => s.size - (intOf i).toNat)
        case atStart => exact ⟨0, Nat.zero_le _, rfl, by simp⟩
        case round =>
          obtain ⟨k, hk, rfl, hno⟩ := hrel
          have HNO := hid hno
          clear hno
          by_cases hlt : k < s.size
          · have hb := byte_eq s k hlt 0 0 rfl
            have HT := hid (take_snoc2 s k hlt)
            have d1 : decide ((k : Int) < (s.size : Int)) = true := by simp; omega
            have d1n : decide (k < s.size) = true := by simp; omega
            by_cases h : s[k] = 0
            · rw [decide_eq_true h] at hb
              have HF := hid (show chkS argv env aux s.data.toList = 1 by
                rw [HE.out]
                refine chkT_2 C3.out ?_
                unfold has0; rw [decide_eq_true_eq]
                have : (0 : UInt8) ∈ s.data.toList.take (k + 1) := by rw [HT.out]; simp [h]
                exact List.mem_of_mem_take this)
              clear h HT
              go_wp2_with fail
              go_ret
              exact ⟨ret_i64s HF.out, rfl⟩
            · rw [decide_eq_false h] at hb
              have HNO2 := hid (show ¬ 0 ∈ s.data.toList.take (k + 1) by
                rw [HT.out]
                intro hm
                rcases List.mem_append.1 hm with hm | hm
                · exact HNO.out hm
                · exact h (List.mem_singleton.1 hm).symm)
              clear h HT
              go_wp2_with fail
              go_round
              case rel => exact ⟨k + 1, by omega, by go_num, HNO2.out⟩
              case measure => simp [intOf]; omega
          · have d1 : decide ((k : Int) < (s.size : Int)) = false := by simp; omega
            have d1n : decide (k < s.size) = false := by simp; omega
            have HP0 := hid (show has0 s.data.toList = false by
              unfold has0
              have := HNO.out
              rw [take_all s k (by omega)] at this
              rw [decide_eq_false this])
            clear hlt
            go_wp2_with fail
            go_loop [11] (fun i => ∃ j : Nat, j ≤ aux.length ∧ i = .int .i64 j ∧ (aux.take j).any keyBad = false) (fun i => aux.length - (intOf i).toNat)
            case atStart => exact ⟨0, Nat.zero_le _, rfl, by simp⟩
            case round =>
              obtain ⟨j, hj, rfl, hno⟩ := hrel
              have HNK := hid hno
              clear hno
              by_cases hlt : j < aux.length
              · have d2 : decide ((j : Int) < (aux.length : Int)) = true := by simp; omega
                have d2n : decide (j < aux.length) = true := by simp; omega
                obtain ⟨cb, co, rfl, hx0, hx1⟩ := axs_at HC.out hlt
                have HT := hid (any_keyBad hlt HNK.out)
                have HHT := hid (fun hp => List.any_eq_true.2 ⟨_, List.getElem_mem hlt, hp⟩ : keyBad aux[j] = true → aux.any keyBad = true)
                generalize aux[j] = p at *
                obtain ⟨pk, pv⟩ := p
                simp only at hx0 hx1
                by_cases p0 : pk = 0
                · have HF := hid (show chkS argv env aux s.data.toList = 1 by rw [HE.out]; exact chkT_3 C3.out HP0.out (HHT.out (by unfold keyBad; simp [p0])))
                  have q0 : ((pk : Int) == 0) = true := by simp [p0]
                  clear p0
                  go_wp2_with fail
                  go_ret
                  exact ⟨ret_i64s HF.out, rfl⟩
                · have q0 : ((pk : Int) == 0) = false := by simp; omega
                  by_cases p1 : pk = 31
                  · have HF := hid (show chkS argv env aux s.data.toList = 1 by rw [HE.out]; exact chkT_3 C3.out HP0.out (HHT.out (by unfold keyBad; simp [p1])))
                    have q1 : ((pk : Int) == 31) = true := by simp; omega
                    clear p0 p1
                    go_wp2_with fail
                    go_ret
                    exact ⟨ret_i64s HF.out, rfl⟩
                  · have q1 : ((pk : Int) == 31) = false := by simp; omega
                    have HT2 := hid (show (aux.take (j + 1)).any keyBad = false by rw [HT.out]; unfold keyBad; simp; omega)
                    clear p0 p1
                    go_wp2_with fail
                    go_round
                    case rel => exact ⟨j + 1, by omega, by go_num, HT2.out⟩
                    case measure => simp [intOf]; omega
              · have d2 : decide ((j : Int) < (aux.length : Int)) = false := by simp; omega
                have d2n : decide (j < aux.length) = false := by simp; omega
                have HF := hid (show chkS argv env aux s.data.toList = 0 by rw [HE.out]; exact chkT_4 C3.out HP0.out (show aux.any keyBad = false by have := HNK.out; rwa [List.take_of_length_le (by omega)] at this))
                go_wp2_with fail
                go_ret
                exact ⟨ret_i64s HF.out, rfl⟩
    · have HE := hid (show chkS argv env aux s.data.toList = x2 by rw [HEQ.out, if_neg (by simp), if_pos c2])
      have d2 : (x2 != 0) = true := by simpa using c2
      clear c2 hz
      go_enter Tryd.func24, Tryd.ntmps24
      go_wp2_with fail
      refine (HA.out).mono ?_
      rintro e' w1 ⟨rfl, hw⟩
      subst hw
      go_wp2_with fail
      refine (HB.out).mono ?_
      rintro e' w1 ⟨rfl, hw⟩
      subst hw
      go_wp2_with fail
      go_ret
      exact ⟨ret_i64s HE.out, rfl⟩
  · have HE := hid (show chkS argv env aux s.data.toList = x1 by rw [HEQ.out, if_pos c1])
    have d1 : (x1 != 0) = true := by simpa using c1
    clear c1 hz
    go_enter Tryd.func24, Tryd.ntmps24
    go_wp2_with fail
    refine (HA.out).mono ?_
    rintro e' w1 ⟨rfl, hw⟩
    subst hw
    go_wp2_with fail
    go_ret
    exact ⟨ret_i64s HE.out, rfl⟩
end Go.Proofs.YtihaakcfegelkaaDoor
