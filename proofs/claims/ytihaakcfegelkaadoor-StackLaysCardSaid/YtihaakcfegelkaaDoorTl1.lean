
/- stack: check, textBytes, size. -/
import Derived.Test.YtihaakcfegelkaaDoorTl0
import Derived.Test.YtihaakcfegelkaaDoorTk4
import Derived.Test.YtihaakcfegelkaaDoorUC
namespace Go.Proofs.YtihaakcfegelkaaDoor
open Go.RowKit Go.Sort
attribute [local go_sem] Oper.semAt_some

/-- Pairs in memory. -/
abbrev Axs (w : World) (a : Option Addr) (n : Nat) (l : List (Nat × Nat)) : Prop := Rk w 2 a n (l.map axC)
def SmallT (l : List BL) : Prop := l.length ≤ 32 ∧ ∀ s ∈ l, s.length ≤ 256
theorem tbN_le {l : List BL} (h : ∀ s ∈ l, s.length ≤ 256) : tbN l ≤ 257 * l.length := by
  induction l with
  | nil => exact Nat.le_refl _
  | cons s r ih =>
    have h1 := h s (List.mem_cons_self ..)
    have h2 := ih (fun t ht => h t (List.mem_cons_of_mem _ ht))
    unfold tbN at h2 ⊢
    rw [List.map_cons, List.sum_cons, List.length_cons]
    omega
theorem tbN_take {l : List BL} {k : Nat} (hk : k < l.length) : tbN (l.take (k + 1)) = tbN (l.take k) + (l[k].length + 1) := by
  rw [List.take_succ_eq_append_getElem hk, tbN_snoc]
theorem chkL_small {l : List BL} (h : chkL l = 0) : SmallT l := by
  unfold chkL at h
  by_cases c1 : 32 < l.length
  · rw [if_pos c1] at h; exact absurd h (by decide)
  · rw [if_neg c1] at h
    by_cases c2 : l.any longB = true
    · rw [if_pos c2] at h; exact absurd h (by decide)
    · refine ⟨by omega, fun s hs => ?_⟩
      have := (List.any_eq_false.1 (by simpa using c2)) s hs
      unfold longB at this
      simp at this
      omega

set_option maxHeartbeats 1000000 in
theorem textBytes_any (a : Option Addr) (cap : Nat) (l : List BL) (w : World) (hB : Cel w a l.length (strs l)) (hS : SmallT l) :
    Calls Tryd.prog 37 #[.slice a l.length cap] w fun e w' => e = .returned (.int .i64 (tbN l : Int)) ∧ w = w' := by
  have HB := hid hB
  have HS := hid hS
  clear hB hS
  go_enter Tryd.func37, Tryd.ntmps37
  go_wp2_with fail
  go_loop [3, 8] (fun x i => ∃ k : Nat, k ≤ l.length ∧ i = .int .i64 k ∧ x = .int .i64 (tbN (l.take k) : Int)) (fun _ i => l.length - (intOf i).toNat)
  case atStart => exact ⟨0, Nat.zero_le _, rfl, rfl⟩
  case round =>
    obtain ⟨k, hk, rfl, rfl⟩ := hrel
    by_cases hlt : k < l.length
    · have d1 : decide ((k : Int) < (l.length : Int)) = true := by simp; omega
      obtain ⟨b, off, rfl, hc⟩ := HB.out.some_of (by simp [strs]; omega)
      have hx := strs_at hc hlt
      have HT := hid (tbN_take hlt)
      have h1 := HS.out.2 _ (List.getElem_mem hlt)
      have h2 : tbN (l.take k) ≤ 257 * (l.take k).length := tbN_le (fun s hs => HS.out.2 s (List.mem_of_mem_take hs))
      have h3 := HS.out.1
      rw [List.length_take] at h2
      have hz : ((ba l[k]).size : Int) = (l[k].length : Int) := by rw [ba_size]
      generalize l[k] = t at *
      clear hc
      generalize tbN (l.take k) = n at *
      have e1 : IntKind.i64.wrap ((t.length : Int) + 1) = (t.length : Int) + 1 := IntWalk.i64_in _ (by omega)
      have e2 : IntKind.i64.wrap ((n : Int) + ((t.length : Int) + 1)) = (n : Int) + ((t.length : Int) + 1) := IntWalk.i64_in _ (by omega)
      have hk32 : k < 32 := by omega
      clear h1 h2 h3
      go_wp2_with fail
      clear e1 e2
      go_round
      case rel => exact ⟨k + 1, by omega, by go_num, by rw [HT.out]; rfl⟩
      case measure => simp [intOf]; omega
    · have d1 : decide ((k : Int) < (l.length : Int)) = false := by simp; omega
      have HT := hid (show tbN (l.take k) = tbN l by rw [List.take_of_length_le (by omega)])
      go_wp2_with fail
      go_ret
      exact ⟨ret_i64s (by rw [HT.out]), rfl⟩

set_option maxHeartbeats 1000000 in
theorem size20_any (a b c : Option Addr) (ac bc cc : Nat) (argv env : List BL) (aux : List (Nat × Nat)) (path : BL) (w : World) (hA : Cel w a argv.length (strs argv)) (hB : Cel w b env.length (strs env)) (h1 : SmallT argv) (h2 : SmallT env) (h3 : aux.length ≤ 16) (h4 : path.length ≤ 200) :
    Calls Tryd.prog 20 #[.slice a argv.length ac, .slice b env.length bc, .slice c aux.length cc, .string (ba path)] w fun e w' => e = .returned (.int .i64 (allN argv env aux path : Int)) ∧ w = w' := by
  have HA := hid (textBytes_any a ac argv w hA h1)
  have HB := hid (textBytes_any b bc env w hB h2)
  have hz : ((ba path).size : Int) = (path.length : Int) := by rw [ba_size]
  have t1 := tbN_le h1.2
  have t2 := tbN_le h2.2
  have n1 := h1.1
  have n2 := h2.1
  have HF := hid (show (allN argv env aux path : Int) = ((1 + (argv.length : Int) + 1 + env.length + 1 + 2 * aux.length + 4) * 8 + tbN argv + tbN env + path.length + 1 + 8 + 16 - 1) / 16 * 16 by
    unfold allN numN
    rw [txtB_len]
    omega)
  rw [HF.out]
  clear hA hB h1 h2
  have b0 : (tbN argv : Int) ≤ 8224 := by omega
  have b1 : (tbN env : Int) ≤ 8224 := by omega
  have b2 : (0 : Int) ≤ tbN argv := by omega
  have b3 : (0 : Int) ≤ tbN env := by omega
  generalize (tbN argv : Int) = ta at *
  generalize (tbN env : Int) = te at *
  have c1 : (argv.length : Int) ≤ 32 := by omega
  have c2 : (env.length : Int) ≤ 32 := by omega
  have c3 : (aux.length : Int) ≤ 16 := by omega
  have c4 : (path.length : Int) ≤ 200 := by omega
  clear t1 t2 HF n1 n2 h3 h4
  go_enter Tryd.func20, Tryd.ntmps20
  go_wp2_with fail
  refine (HA.out).mono ?_
  rintro e' w1 ⟨rfl, rfl⟩
  go_wp2_with fail
  refine (HB.out).mono ?_
  rintro e' w1 ⟨rfl, rfl⟩
  go_wp2_with fail
  go_ret
  exact ⟨rfl, rfl⟩

theorem any_keyBad {aux : List (Nat × Nat)} {k : Nat} (hk : k < aux.length) (h : (aux.take k).any keyBad = false) : (aux.take (k + 1)).any keyBad = keyBad aux[k] := by
  rw [List.take_succ_eq_append_getElem hk, List.any_append, h]; simp
theorem axs_at {w : World} {a : Option Addr} {n : Nat} {l : List (Nat × Nat)} (h : Axs w a n l) {k : Nat} (hk : k < l.length) : ∃ b off, a = some ⟨b, off, none⟩ ∧ w.cell? ⟨b, off + k * 2, none⟩ = some (.int .u64 (l[k].1 : Int)) ∧ w.cell? ⟨b, off + k * 2 + 1, none⟩ = some (.int .u64 (l[k].2 : Int)) := by
  have hk' : k < (l.map axC).length := by simpa using hk
  have e : (l.map axC)[k] = axC l[k] := by simp
  obtain ⟨h1, b, off, rfl, hc⟩ := h.row k hk'
  have h0 := hc 0 (by rw [e]; simp [axC])
  have h2 := hc 1 (by rw [e]; simp [axC])
  simp only [e, axC, List.getElem_cons_zero, List.getElem_cons_succ, Nat.add_zero] at h0 h2
  exact ⟨b, off, rfl, h0, h2⟩
theorem axs_len {w : World} {a : Option Addr} {n : Nat} {l : List (Nat × Nat)} (h : Axs w a n l) : l.length = n := by simpa using h.hlen

/-- The first fault but those of texts. -/
def chkT (aux : List (Nat × Nat)) (path : BL) : Int := if 200 < path.length ∨ 16 < aux.length then 12 else if has0 path = true then 1 else if aux.any keyBad = true then 1 else 0
theorem chkS_eq (argv env : List BL) (aux : List (Nat × Nat)) (path : BL) : chkS argv env aux path = if chkL argv ≠ 0 then chkL argv else if chkL env ≠ 0 then chkL env else chkT aux path := rfl
theorem chkT_1 {aux : List (Nat × Nat)} {path : BL} (h : 200 < path.length ∨ 16 < aux.length) : chkT aux path = 12 := by unfold chkT; rw [if_pos h]
theorem chkT_2 {aux : List (Nat × Nat)} {path : BL} (h : ¬ (200 < path.length ∨ 16 < aux.length)) (h2 : has0 path = true) : chkT aux path = 1 := by unfold chkT; rw [if_neg h, if_pos h2]
theorem chkT_3 {aux : List (Nat × Nat)} {path : BL} (h : ¬ (200 < path.length ∨ 16 < aux.length)) (h2 : has0 path = false) (h3 : aux.any keyBad = true) : chkT aux path = 1 := by unfold chkT; rw [if_neg h, if_neg (by rw [h2]; decide), if_pos h3]
theorem chkT_4 {aux : List (Nat × Nat)} {path : BL} (h : ¬ (200 < path.length ∨ 16 < aux.length)) (h2 : has0 path = false) (h3 : aux.any keyBad = false) : chkT aux path = 0 := by unfold chkT; rw [if_neg h, if_neg (by rw [h2]; decide), if_neg (by rw [h3]; decide)]
theorem chkS_0 {argv env : List BL} {aux : List (Nat × Nat)} {path : BL} (h : chkS argv env aux path = 0) : chkL argv = 0 ∧ chkL env = 0 ∧ chkT aux path = 0 := by
  rw [chkS_eq] at h
  by_cases c1 : chkL argv = 0
  · rw [if_neg (by simpa using c1)] at h
    by_cases c2 : chkL env = 0
    · rw [if_neg (by simpa using c2)] at h
      exact ⟨c1, c2, h⟩
    · rw [if_pos c2] at h; exact absurd h c2
  · rw [if_pos c1] at h; exact absurd h c1
theorem chkT_0 {aux : List (Nat × Nat)} {path : BL} (h : chkT aux path = 0) : path.length ≤ 200 ∧ aux.length ≤ 16 ∧ has0 path = false ∧ aux.any keyBad = false := by
  by_cases c1 : 200 < path.length ∨ 16 < aux.length
  · rw [chkT_1 c1] at h; exact absurd h (by decide)
  · by_cases c2 : has0 path = true
    · rw [chkT_2 c1 c2] at h; exact absurd h (by decide)
    · have c2' : has0 path = false := by simpa using c2
      by_cases c3 : aux.any keyBad = true
      · rw [chkT_3 c1 c2' c3] at h; exact absurd h (by decide)
      · exact ⟨by omega, by omega, c2', by simpa using c3⟩

set_option maxRecDepth 100000 in
set_option maxHeartbeats 4000000 in
theorem check20_any (a b c : Option Addr) (ac bc cc : Nat) (argv env : List BL) (aux : List (Nat × Nat)) (path : BL) (w : World) (hA : Cel w a argv.length (strs argv)) (hB : Cel w b env.length (strs env)) (hC : Axs w c aux.length aux)
    (ha : argv.length ≤ 140737488351232) (hb : env.length ≤ 140737488351232) (hc : aux.length ≤ 140737488351232) (hsa : ∀ p ∈ argv, p.length ≤ 140737488351232) (hsb : ∀ p ∈ env, p.length ≤ 140737488351232) :
    Calls Tryd.prog 19 #[.slice a argv.length ac, .slice b env.length bc, .slice c aux.length cc, .string (ba path)] w fun e w' => e = .returned (.int .i64 (chkS argv env aux path)) ∧ Below w.heap.size w w' := by
  have HA := hid (checkE_any a argv.length ac argv w hA ha hsa)
  have HB := hid (checkE_any b env.length bc env w hB hb hsb)
  have HC := hid hC
  have hz : ((ba path).size : Int) = (path.length : Int) := by rw [ba_size]
  have HEQ := hid (chkS_eq argv env aux path)
  clear hA hB hC hsa hsb ha hb hc
  generalize chkL argv = x1 at *
  generalize chkL env = x2 at *
  by_cases c1 : x1 = 0
  · subst c1
    by_cases c2 : x2 = 0
    · subst c2
      have HE := hid (show chkS argv env aux path = chkT aux path by rw [HEQ.out, if_neg (by simp), if_neg (by simp)])
      rw [HE.out]
      by_cases c3 : 200 < path.length ∨ 16 < aux.length
      · have HF := hid (chkT_1 c3)
        rw [HF.out]
        by_cases c4 : 200 < path.length
        · have d4 : decide ((200 : Int) < (path.length : Int)) = true := by simp; omega
          have d4n : decide (200 < path.length) = true := by simp; omega
          clear c3 c4
          go_enter Tryd.func19, Tryd.ntmps19
          go_wp2_with fail
          refine (HA.out).mono ?_
          rintro e' w1 ⟨rfl, hw⟩
          subst hw
          go_wp2_with fail
          refine (HB.out).mono ?_
          rintro e' w1 ⟨rfl, hw⟩
          subst hw
          go_wp2_with fail
          go_ret
          exact ⟨rfl, Below.refl _ _⟩
        · have c5 : 16 < aux.length := by omega
          have d4 : decide ((200 : Int) < (path.length : Int)) = false := by simp; omega
          have d4n : decide (200 < path.length) = false := by simp; omega
          have d5 : decide ((16 : Int) < (aux.length : Int)) = true := by simp; omega
          have d5n : decide (16 < aux.length) = true := by simp; omega
          clear c3 c4 c5
          go_enter Tryd.func19, Tryd.ntmps19
          go_wp2_with fail
          refine (HA.out).mono ?_
          rintro e' w1 ⟨rfl, hw⟩
          subst hw
          go_wp2_with fail
          refine (HB.out).mono ?_
          rintro e' w1 ⟨rfl, hw⟩
          subst hw
          go_wp2_with fail
          go_ret
          exact ⟨rfl, Below.refl _ _⟩
      · have C3 := hid c3
        have d4 : decide ((200 : Int) < (path.length : Int)) = false := by simp; omega
        have d4n : decide (200 < path.length) = false := by simp; omega
        have d5 : decide ((16 : Int) < (aux.length : Int)) = false := by simp; omega
        have d5n : decide (16 < aux.length) = false := by simp; omega
        have h16 : aux.length ≤ 16 := by omega
        clear c3
        go_enter Tryd.func19, Tryd.ntmps19
        go_wp2_with fail
        refine (HA.out).mono ?_
        rintro e' w1 ⟨rfl, hw⟩
        subst hw
        go_wp2_with fail
        refine (HB.out).mono ?_
        rintro e' w1 ⟨rfl, hw⟩
        subst hw
        go_wp2_with fail
        refine (Tryd.strings_IndexByte _ _ _).mono ?_
        rintro e' w1 ⟨rfl, hw⟩
        obtain rfl := hw.symm
        clear hw
        rw [show (0 : Int).toNat.toUInt8 = 0 from rfl, ba_list]
        by_cases h0 : 0 ∈ path
        · have HF := hid (chkT_2 C3.out (show has0 path = true by unfold has0; rw [decide_eq_true h0]))
          rw [idx_mem h0]
          clear h0
          go_wp2_with fail
          go_ret
          exact ⟨ret_i64s HF.out, Below.refl _ _⟩
        · have HP0 := hid (show has0 path = false by unfold has0; rw [decide_eq_false h0])
          rw [idx_no h0]
          clear h0
          go_wp2_with fail
          go_loopw [36] (fun i wr => ∃ k : Nat, k ≤ aux.length ∧ i = .int .i64 k ∧ (aux.take k).any keyBad = false ∧ Below w.heap.size w wr) (fun i _ => aux.length - (intOf i).toNat)
          case atStart => exact ⟨0, Nat.zero_le _, rfl, by simp, Below.refl _ _⟩
          case round =>
            obtain ⟨k, hk, rfl, hno, hbw⟩ := hrel
            have HNO := hid hno
            have HBW := hid hbw
            clear hno hbw
            by_cases hlt : k < aux.length
            · have d1 : decide ((k : Int) < (aux.length : Int)) = true := by simp; omega
              have d1n : decide (k < aux.length) = true := by simp; omega
              obtain ⟨cb, co, rfl, hx0, hx1⟩ := axs_at (HC.out.below' HBW.out) hlt
              have HT := hid (any_keyBad hlt HNO.out)
              have HHT := hid (fun hp => List.any_eq_true.2 ⟨_, List.getElem_mem hlt, hp⟩ : keyBad aux[k] = true → aux.any keyBad = true)
              generalize aux[k] = p at *
              obtain ⟨pk, pv⟩ := p
              simp only at hx0 hx1
              have HROW := hid (Row.new wr 43 [.int .u64 (pk : Int), .int .u64 (pv : Int)])
              have HBN := hid (HBW.out.alloc HBW.out.size (.cells #[.int .u64 (pk : Int), .int .u64 (pv : Int)] 43))
              have y0 := HROW.out.cell 0 (by simp)
              have y1 := HROW.out.cell 1 (by simp)
              by_cases p0 : pk = 0
              · have HF := hid (chkT_3 C3.out HP0.out (HHT.out (by unfold keyBad; simp [p0])))
                have q0 : ((pk : Int) == 0) = true := by simp [p0]
                clear p0
                go_wp2_with fail
                go_ret
                exact ⟨ret_i64s HF.out, HBN.out⟩
              · have q0 : ((pk : Int) == 0) = false := by simp; omega
                by_cases p1 : pk = 31
                · have HF := hid (chkT_3 C3.out HP0.out (HHT.out (by unfold keyBad; simp [p1])))
                  have q1 : ((pk : Int) == 31) = true := by simp; omega
                  clear p0 p1
                  go_wp2_with fail
                  go_ret
                  exact ⟨ret_i64s HF.out, HBN.out⟩
                · have q1 : ((pk : Int) == 31) = false := by simp; omega
                  have HT2 := hid (show (aux.take (k + 1)).any keyBad = false by rw [HT.out]; unfold keyBad; simp; omega)
                  clear p0 p1
                  go_wp2_with fail
                  go_roundw
                  case rel => exact ⟨k + 1, by omega, by go_num, HT2.out, HBN.out⟩
                  case measure => simp [intOf]; omega
            · have d1 : decide ((k : Int) < (aux.length : Int)) = false := by simp; omega
              have d1n : decide (k < aux.length) = false := by simp; omega
              have HF := hid (chkT_4 C3.out HP0.out (show aux.any keyBad = false by have := HNO.out; rwa [List.take_of_length_le (by omega)] at this))
              go_wp2_with fail
              go_ret
              exact ⟨ret_i64s HF.out, HBW.out⟩
    · have HE := hid (show chkS argv env aux path = x2 by rw [HEQ.out, if_neg (by simp), if_pos c2])
      rw [HE.out]
      have d2 : (x2 != 0) = true := by simpa using c2
      clear c2
      go_enter Tryd.func19, Tryd.ntmps19
      go_wp2_with fail
      refine (HA.out).mono ?_
      rintro e' w1 ⟨rfl, hw⟩
      subst hw
      go_wp2_with fail
      refine (HB.out).mono ?_
      rintro e' w1 ⟨rfl, hw⟩
      subst hw
      go_wp2_with fail
      go_ret
      exact ⟨rfl, Below.refl _ _⟩
  · have HE := hid (show chkS argv env aux path = x1 by rw [HEQ.out, if_pos c1])
    rw [HE.out]
    have d1 : (x1 != 0) = true := by simpa using c1
    clear c1
    go_enter Tryd.func19, Tryd.ntmps19
    go_wp2_with fail
    refine (HA.out).mono ?_
    rintro e' w1 ⟨rfl, hw⟩
    subst hw
    go_wp2_with fail
    go_ret
    exact ⟨rfl, Below.refl _ _⟩
end Go.Proofs.YtihaakcfegelkaaDoor
