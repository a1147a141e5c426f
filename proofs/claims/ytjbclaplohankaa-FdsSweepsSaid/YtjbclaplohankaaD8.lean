/- FdsSweeps: the walk. -/
import Derived.Test.YtjbclaplohankaaD7
import Derived.StillTailTactics
namespace Go.Proofs.Ytjbclaplohankaa
open Go.RowKit Go.Sort

def Good (ss : List SL) : Prop := ∀ s ∈ ss, s.1 = true ∨ s = slot0
theorem good_zero : Good zero16 := by
  intro s hs
  right
  unfold zero16 at hs
  simpa [slot0] using hs
theorem good_set {ss : List SL} (h : Good ss) (k : Nat) (s : SL) (hs : s.1 = true ∨ s = slot0) : Good (ss.set k s) := by
  intro x hx
  rcases List.mem_or_eq_of_mem_set hx with hx | rfl
  · exact h x hx
  · exact hs
theorem good_open {ss : List SL} (h : Good ss) (n : Int) (c : Bool) : Good (openS ss n c) := by
  unfold openS
  split
  · exact good_set h _ _ (.inl rfl)
  · exact h
theorem good_close {ss : List SL} (h : Good ss) (n : Int) : Good (closeS ss n) := by
  unfold closeS
  split
  · exact good_set h _ _ (.inr rfl)
  · exact h
theorem good_move {ss : List SL} (h : Good ss) (n p : Int) : Good (moveS ss n p) := by
  unfold moveS
  split
  · rename_i h1
    refine good_set h _ _ (.inl ?_)
    unfold moveC at h1
    split at h1
    · assumption
    · cases h1
  · exact h

set_option maxHeartbeats 4000000 in
set_option maxRecDepth 100000 in
theorem fdsSweeps_walk (a : Option Addr) (len cap : Nat) (f : Nat → OpL) (w : World) (hA : OpsAt w a len f) (hlc : len ≤ 9223372036854775807) :
    Calls Try.prog 4 #[.slice a len cap] w fun e' w' => e' = .returned (.bool true) ∧ Below w.heap.size w w' := by
  have HA := hid hA
  clear hA
  go_enter Try.func4, Try.ntmps4
  go_wp2_with fail
  refine (new_any _).mono ?_
  rintro e' w1 ⟨rfl, ht, hb⟩
  have HT := hid ht
  have HB1 := hid hb
  clear ht hb
  go_wp2_with fail
  go_loopw [4] (fun i wr => ∃ (k : Nat) (ss : List SL), k ≤ len ∧ k ≤ 200 ∧ i = .int .i64 k ∧ Good ss ∧ Tab wr w.heap.size 50 ss ∧ Below w.heap.size w wr) (fun i _ => 200 - (intOf i).toNat)
  case atStart => exact ⟨0, zero16, Nat.zero_le _, Nat.zero_le _, rfl, good_zero, HT.out, HB1.out⟩
  case round =>
    obtain ⟨k, ss, hk, hk2, rfl, hg, ht, hb⟩ := hrel
    have HG := hid hg
    have HT := hid ht
    have HB := hid hb
    have hlt0 := ht.row.lt
    clear hg
    by_cases h1 : k < len ∧ k < 200
    · obtain ⟨h1, h2⟩ := h1
      have d1 : decide ((k : Int) < (len : Int)) = true := by simp; omega
      have d2 : decide ((k : Int) < 200) = true := by simp; omega
      obtain ⟨ba, off, rfl, hx⟩ := HA.out k h1
      have hx := hx.below hb
      clear ht hb
      generalize f k = x at *
      obtain ⟨x0, x1, x2, x3, x4, x5⟩ := x
      obtain ⟨y0, y1, y2, y3, y4, y5⟩ := hx
      by_cases c1 : x0 = 1
      · subst c1
        go_wp2_with fail
        go_still_tail 11, (by kernel_rfl)
        have HTd := hid (HT.out.below (bdN (Below.refl wr.heap.size wr) 1))
        go_wp2_with fail
        refine (open_any _ _ _ _ _ HTd.out).mono ?_
        rintro e' w2 ⟨rfl, ht, hg⟩
        have HT2 := hid ht
        have HB2 := hid ((bdN HB.out 1).grown hg HB.out.size (fun k hk => by cases hk; exact Nat.le_refl _))
        have HG2 := hid (good_open HG.out x3 x5)
        clear ht hg
        go_wp2_with fail
        go_roundw
        case rel => exact ⟨k + 1, _, by omega, by omega, by go_num, HG2.out, HT2.out, HB2.out⟩
        case measure => simp [intOf]; omega
      · by_cases c2 : x0 = 2
        · subst c2
          go_wp2_with fail
          refine (close_any _ _ _ _ HT.out).mono ?_
          rintro e' w2 ⟨rfl, ht, hg⟩
          have HT2 := hid ht
          have HB2 := hid (HB.out.grown hg HB.out.size (fun k hk => by cases hk; exact Nat.le_refl _))
          have HG2 := hid (good_close HG.out x2)
          clear ht hg
          go_wp2_with fail
          go_roundw
          case rel => exact ⟨k + 1, _, by omega, by omega, by go_num, HG2.out, HT2.out, HB2.out⟩
          case measure => simp [intOf]; omega
        · by_cases c3 : x0 = 4
          · subst c3
            go_wp2_with fail
            go_still_tail 11, (by kernel_rfl)
            have HTd := hid (HT.out.below (bdN (Below.refl wr.heap.size wr) 1))
            go_wp2_with fail
            refine (move_any _ _ _ _ _ HTd.out).mono ?_
            rintro e' w2 ⟨rfl, ht, hg⟩
            have HT2 := hid ht
            have HB2 := hid ((bdN HB.out 1).grown hg HB.out.size (fun k hk => by cases hk; exact Nat.le_refl _))
            have HG2 := hid (good_move HG.out x2 x4)
            clear ht hg
            go_wp2_with fail
            go_roundw
            case rel => exact ⟨k + 1, _, by omega, by omega, by go_num, HG2.out, HT2.out, HB2.out⟩
            case measure => simp [intOf]; omega
          · have q1 : (x0 == 1) = false := by rw [beq_eq_false_iff_ne]; exact c1
            have q2 : (x0 == 2) = false := by rw [beq_eq_false_iff_ne]; exact c2
            have q3 : (x0 == 4) = false := by rw [beq_eq_false_iff_ne]; exact c3
            go_wp2_with fail
            go_roundw
            case rel => exact ⟨k + 1, _, by omega, by omega, by go_num, HG.out, HT.out, HB.out⟩
            case measure => simp [intOf]; omega
    · clear ht hb
      rename World => wA
      have hcase : (decide ((k : Int) < (len : Int)) = false ∧ decide (k < len) = false ∧ ¬ k < len) ∨ (decide ((k : Int) < (len : Int)) = true ∧ decide ((k : Int) < 200) = false ∧ decide (k < 200) = false ∧ k < len ∧ decide (k < len) = true) := by
        by_cases h : k < len
        · exact .inr ⟨by simp; omega, by simp; omega, by simp; omega, h, by simp; omega⟩
        · exact .inl ⟨by simp; omega, by simp; omega, h⟩
      rcases hcase with ⟨d1, d2, d3⟩ | ⟨d1, d2, d3, d4, d5⟩
      · go_wp2_with fail
        refine (list_any _ _ _ HT.out).mono ?_
        rintro e' w2 ⟨rfl, hl2, hb2⟩
        have hz2 := hb2.size
        have HWAS := hid hl2
        have HT2 := hid (HT.out.below (hb2.mono (Nat.le_refl _)))
        have HB2 := hid (HB.out.trans (hb2.mono HB.out.size))
        have hlw2 := hl2.row.lt
        clear hl2 hb2
        go_wp2_with fail
        refine (fork_any _ _ _ HT2.out).mono ?_
        rintro e' w3 ⟨rfl, hl3, hb3⟩
        have hz3 := hb3.size
        have HF := hid hl3
        have HT3 := hid (HT2.out.below hb3)
        have HWAS := hid (HWAS.out.below hb3)
        have HB3 := hid (HB2.out.trans (hb3.mono HB2.out.size))
        clear hl3 hb3
        go_wp2_with fail
        refine (sweep_any _ _ _ HT3.out).mono ?_
        rintro e' w4 ⟨rfl, ht4, hg4⟩
        have hz4 := hg4.size
        have HF := hid (tab_grown HF.out hg4 (by omega))
        have HWAS := hid (tab_grown HWAS.out hg4 (by omega))
        have HB4 := hid (HB3.out.grown hg4 HB3.out.size (fun k hk => by cases hk; exact Nat.le_refl _))
        have HT4 := hid ht4
        clear ht4 hg4
        go_wp2_with fail
        refine (list_any _ _ _ HT4.out).mono ?_
        rintro e' w5 ⟨rfl, hl5, hb5⟩
        have hz5 := hb5.size
        have HNOW := hid hl5
        have HF := hid (HF.out.below hb5)
        have HWAS := hid (HWAS.out.below hb5)
        have HB5 := hid (HB4.out.trans (hb5.mono HB4.out.size))
        have hlw5 := hl5.row.lt
        clear hl5 hb5
        go_wp2_with fail
        refine (list_any _ _ _ HF.out).mono ?_
        rintro e' w6 ⟨rfl, hl6, hb6⟩
        have hz6 := hb6.size
        have HL6 := hid hl6
        have HNOW := hid (HNOW.out.below hb6)
        have HWAS := hid (HWAS.out.below hb6)
        have HB6 := hid (HB5.out.trans (hb6.mono HB5.out.size))
        clear hl6 hb6
        go_wp2_with fail
        refine (eqSlots_any _ _ _ _ HL6.out HWAS.out).mono ?_
        rintro e' w7 ⟨rfl, n, rfl⟩
        have HNOW := hid (HNOW.out.below (bdN (Below.refl _ _) n))
        have HWAS := hid (HWAS.out.below (bdN (Below.refl _ _) n))
        have HB7 := hid (bdN HB6.out n)
        generalize w6.drewN n = w7 at *
        have hln : wA.heap.size < w7.heap.size := HWAS.out.row.lt
        have hlm : w4.heap.size < w7.heap.size := HNOW.out.row.lt
        have hl16 : ss.length = 16 := HWAS.out.len
        go_wp2_with fail
        go_loopw [8] (fun i wr => ∃ k : Nat, k ≤ 16 ∧ i = .int .i64 k ∧ Below w7.heap.size w7 wr) (fun i _ => 16 - (intOf i).toNat)
        case atStart => exact ⟨0, Nat.zero_le _, rfl, Below.refl _ _⟩
        case round =>
          obtain ⟨m, hm, rfl, hb⟩ := hrel
          have HBQ := hid hb
          by_cases h2 : m < 16
          · have e1 : decide ((m : Int) < 16) = true := by simp; omega
            have e2 : decide (m < 16) = true := by simp; omega
            have hms : m < ss.length := by omega
            have hmc : m < (ss.map clr).length := by rw [List.length_map]; exact hms
            obtain ⟨x0, x1, x2, x3⟩ := (HWAS.out.below hb).at m hms
            obtain ⟨y0, y1, y2, y3⟩ := (HNOW.out.below hb).at m hmc
            have hgood := HG.out ss[m] (List.getElem_mem hms)
            simp only [List.getElem_map] at y0 y1 y2 y3
            have hlq1 : wA.heap.size < wr.heap.size := Nat.lt_of_lt_of_le hln hb.size
            have hlq2 : w4.heap.size < wr.heap.size := Nat.lt_of_lt_of_le hlm hb.size
            clear hb
            generalize ss[m] = sm at *
            obtain ⟨u, n, p, c⟩ := sm
            have hneq := slot_neq
            cases c
            · rcases hgood with hu | hs
              · replace hu : u = true := hu
                subst hu
                have y0 : wr.cell? ⟨w4.heap.size, m * 4, none⟩ = some (.bool true) := y0
                have y1 : wr.cell? ⟨w4.heap.size, m * 4 + 1, none⟩ = some (.int .i64 n) := y1
                have y2 : wr.cell? ⟨w4.heap.size, m * 4 + 2, none⟩ = some (.int .i64 p) := y2
                have y3 : wr.cell? ⟨w4.heap.size, m * 4 + 3, none⟩ = some (.bool false) := y3
                go_wp2_with fail
                have z := Row.new wr 44 [.bool true, .int .i64 n, .int .i64 p, .bool false]
                obtain ⟨z0, z1, z2, z3⟩ := z.four
                have hzl := z.lt
                have HX := hid (bthen HBQ.out (bal (.cells #[.bool true, .int .i64 n, .int .i64 p, .bool false] 44)))
                have y0 := keepC (bal (.cells #[.bool true, .int .i64 n, .int .i64 p, .bool false] 44)) y0
                have y1 := keepC (bal (.cells #[.bool true, .int .i64 n, .int .i64 p, .bool false] 44)) y1
                have y2 := keepC (bal (.cells #[.bool true, .int .i64 n, .int .i64 p, .bool false] 44)) y2
                have y3 := keepC (bal (.cells #[.bool true, .int .i64 n, .int .i64 p, .bool false] 44)) y3
                have s1 : eqS (true, n, p, false) (true, n, p, false) = true := eqS_self _
                have s2 : eqS (true, n, p, false) (false, 0, 0, false) = false := by simp [eqS]
                clear z x0 x1 x2 x3
                generalize wr.alloc (.cells #[.bool true, .int .i64 n, .int .i64 p, .bool false] 44) = wx at *
                go_quiet (fail)
                go_wp2_with fail
                go_roundw
                case rel => exact ⟨m + 1, by omega, by go_num, bdN HX.out nq⟩
                case measure => simp [intOf]; omega
              · obtain ⟨rfl, rfl, rfl⟩ : u = false ∧ n = 0 ∧ p = 0 := by simpa [slot0] using hs
                clear hs
                have y0 : wr.cell? ⟨w4.heap.size, m * 4, none⟩ = some (.bool false) := y0
                have y1 : wr.cell? ⟨w4.heap.size, m * 4 + 1, none⟩ = some (.int .i64 0) := y1
                have y2 : wr.cell? ⟨w4.heap.size, m * 4 + 2, none⟩ = some (.int .i64 0) := y2
                have y3 : wr.cell? ⟨w4.heap.size, m * 4 + 3, none⟩ = some (.bool false) := y3
                go_wp2_with fail
                have z := Row.new wr 44 [.bool false, .int .i64 0, .int .i64 0, .bool false]
                obtain ⟨z0, z1, z2, z3⟩ := z.four
                have hzl := z.lt
                have HX := hid (bthen HBQ.out (bal (.cells #[.bool false, .int .i64 0, .int .i64 0, .bool false] 44)))
                have y0 := keepC (bal (.cells #[.bool false, .int .i64 0, .int .i64 0, .bool false] 44)) y0
                have y1 := keepC (bal (.cells #[.bool false, .int .i64 0, .int .i64 0, .bool false] 44)) y1
                have y2 := keepC (bal (.cells #[.bool false, .int .i64 0, .int .i64 0, .bool false] 44)) y2
                have y3 := keepC (bal (.cells #[.bool false, .int .i64 0, .int .i64 0, .bool false] 44)) y3
                have s1 : eqS (false, 0, 0, false) (false, 0, 0, false) = true := eqS_self _
                have s2 : eqS (false, 0, 0, false) (false, 0, 0, false) = true := by simp [eqS]
                clear z x0 x1 x2 x3
                generalize wr.alloc (.cells #[.bool false, .int .i64 0, .int .i64 0, .bool false] 44) = wx at *
                go_quiet (fail)
                go_wp2_with fail
                go_roundw
                case rel => exact ⟨m + 1, by omega, by go_num, bdN HX.out nq⟩
                case measure => simp [intOf]; omega
            · clear hgood
              have y0 : wr.cell? ⟨w4.heap.size, m * 4, none⟩ = some (.bool false) := y0
              have y1 : wr.cell? ⟨w4.heap.size, m * 4 + 1, none⟩ = some (.int .i64 0) := y1
              have y2 : wr.cell? ⟨w4.heap.size, m * 4 + 2, none⟩ = some (.int .i64 0) := y2
              have y3 : wr.cell? ⟨w4.heap.size, m * 4 + 3, none⟩ = some (.bool false) := y3
              go_wp2_with fail
              have z := Row.new wr 44 [.bool false, .int .i64 0, .int .i64 0, .bool false]
              obtain ⟨z0, z1, z2, z3⟩ := z.four
              have hzl := z.lt
              have HX := hid (bthen HBQ.out (bal (.cells #[.bool false, .int .i64 0, .int .i64 0, .bool false] 44)))
              have y0 := keepC (bal (.cells #[.bool false, .int .i64 0, .int .i64 0, .bool false] 44)) y0
              have y1 := keepC (bal (.cells #[.bool false, .int .i64 0, .int .i64 0, .bool false] 44)) y1
              have y2 := keepC (bal (.cells #[.bool false, .int .i64 0, .int .i64 0, .bool false] 44)) y2
              have y3 := keepC (bal (.cells #[.bool false, .int .i64 0, .int .i64 0, .bool false] 44)) y3
              have s1 : eqS (false, 0, 0, false) (false, 0, 0, false) = true := eqS_self _
              have s2 : eqS (false, 0, 0, false) (false, 0, 0, false) = true := by simp [eqS]
              clear z x0 x1 x2 x3
              generalize wr.alloc (.cells #[.bool false, .int .i64 0, .int .i64 0, .bool false] 44) = wx at *
              go_quiet (fail)
              go_wp2_with fail
              go_roundw
              case rel => exact ⟨m + 1, by omega, by go_num, bdN HX.out nq⟩
              case measure => simp [intOf]; omega
          · have e1 : decide ((m : Int) < 16) = false := by simp; omega
            have e2 : decide (m < 16) = false := by simp; omega
            have HBF := hid (HB7.out.trans (hb.mono HB7.out.size))
            clear hb
            go_wp2_with (go_at_call 13; refine (works_any _).mono ?_; rintro e' w' ⟨rfl, hw⟩)
            go_ret
            exact ⟨rfl, bthen HBF.out hw⟩
      · go_wp2_with fail
        refine (list_any _ _ _ HT.out).mono ?_
        rintro e' w2 ⟨rfl, hl2, hb2⟩
        have hz2 := hb2.size
        have HWAS := hid hl2
        have HT2 := hid (HT.out.below (hb2.mono (Nat.le_refl _)))
        have HB2 := hid (HB.out.trans (hb2.mono HB.out.size))
        have hlw2 := hl2.row.lt
        clear hl2 hb2
        go_wp2_with fail
        refine (fork_any _ _ _ HT2.out).mono ?_
        rintro e' w3 ⟨rfl, hl3, hb3⟩
        have hz3 := hb3.size
        have HF := hid hl3
        have HT3 := hid (HT2.out.below hb3)
        have HWAS := hid (HWAS.out.below hb3)
        have HB3 := hid (HB2.out.trans (hb3.mono HB2.out.size))
        clear hl3 hb3
        go_wp2_with fail
        refine (sweep_any _ _ _ HT3.out).mono ?_
        rintro e' w4 ⟨rfl, ht4, hg4⟩
        have hz4 := hg4.size
        have HF := hid (tab_grown HF.out hg4 (by omega))
        have HWAS := hid (tab_grown HWAS.out hg4 (by omega))
        have HB4 := hid (HB3.out.grown hg4 HB3.out.size (fun k hk => by cases hk; exact Nat.le_refl _))
        have HT4 := hid ht4
        clear ht4 hg4
        go_wp2_with fail
        refine (list_any _ _ _ HT4.out).mono ?_
        rintro e' w5 ⟨rfl, hl5, hb5⟩
        have hz5 := hb5.size
        have HNOW := hid hl5
        have HF := hid (HF.out.below hb5)
        have HWAS := hid (HWAS.out.below hb5)
        have HB5 := hid (HB4.out.trans (hb5.mono HB4.out.size))
        have hlw5 := hl5.row.lt
        clear hl5 hb5
        go_wp2_with fail
        refine (list_any _ _ _ HF.out).mono ?_
        rintro e' w6 ⟨rfl, hl6, hb6⟩
        have hz6 := hb6.size
        have HL6 := hid hl6
        have HNOW := hid (HNOW.out.below hb6)
        have HWAS := hid (HWAS.out.below hb6)
        have HB6 := hid (HB5.out.trans (hb6.mono HB5.out.size))
        clear hl6 hb6
        go_wp2_with fail
        refine (eqSlots_any _ _ _ _ HL6.out HWAS.out).mono ?_
        rintro e' w7 ⟨rfl, n, rfl⟩
        have HNOW := hid (HNOW.out.below (bdN (Below.refl _ _) n))
        have HWAS := hid (HWAS.out.below (bdN (Below.refl _ _) n))
        have HB7 := hid (bdN HB6.out n)
        generalize w6.drewN n = w7 at *
        have hln : wA.heap.size < w7.heap.size := HWAS.out.row.lt
        have hlm : w4.heap.size < w7.heap.size := HNOW.out.row.lt
        have hl16 : ss.length = 16 := HWAS.out.len
        go_wp2_with fail
        go_loopw [8] (fun i wr => ∃ k : Nat, k ≤ 16 ∧ i = .int .i64 k ∧ Below w7.heap.size w7 wr) (fun i _ => 16 - (intOf i).toNat)
        case atStart => exact ⟨0, Nat.zero_le _, rfl, Below.refl _ _⟩
        case round =>
          obtain ⟨m, hm, rfl, hb⟩ := hrel
          have HBQ := hid hb
          by_cases h2 : m < 16
          · have e1 : decide ((m : Int) < 16) = true := by simp; omega
            have e2 : decide (m < 16) = true := by simp; omega
            have hms : m < ss.length := by omega
            have hmc : m < (ss.map clr).length := by rw [List.length_map]; exact hms
            obtain ⟨x0, x1, x2, x3⟩ := (HWAS.out.below hb).at m hms
            obtain ⟨y0, y1, y2, y3⟩ := (HNOW.out.below hb).at m hmc
            have hgood := HG.out ss[m] (List.getElem_mem hms)
            simp only [List.getElem_map] at y0 y1 y2 y3
            have hlq1 : wA.heap.size < wr.heap.size := Nat.lt_of_lt_of_le hln hb.size
            have hlq2 : w4.heap.size < wr.heap.size := Nat.lt_of_lt_of_le hlm hb.size
            clear hb
            generalize ss[m] = sm at *
            obtain ⟨u, n, p, c⟩ := sm
            have hneq := slot_neq
            cases c
            · rcases hgood with hu | hs
              · replace hu : u = true := hu
                subst hu
                have y0 : wr.cell? ⟨w4.heap.size, m * 4, none⟩ = some (.bool true) := y0
                have y1 : wr.cell? ⟨w4.heap.size, m * 4 + 1, none⟩ = some (.int .i64 n) := y1
                have y2 : wr.cell? ⟨w4.heap.size, m * 4 + 2, none⟩ = some (.int .i64 p) := y2
                have y3 : wr.cell? ⟨w4.heap.size, m * 4 + 3, none⟩ = some (.bool false) := y3
                go_wp2_with fail
                have z := Row.new wr 44 [.bool true, .int .i64 n, .int .i64 p, .bool false]
                obtain ⟨z0, z1, z2, z3⟩ := z.four
                have hzl := z.lt
                have HX := hid (bthen HBQ.out (bal (.cells #[.bool true, .int .i64 n, .int .i64 p, .bool false] 44)))
                have y0 := keepC (bal (.cells #[.bool true, .int .i64 n, .int .i64 p, .bool false] 44)) y0
                have y1 := keepC (bal (.cells #[.bool true, .int .i64 n, .int .i64 p, .bool false] 44)) y1
                have y2 := keepC (bal (.cells #[.bool true, .int .i64 n, .int .i64 p, .bool false] 44)) y2
                have y3 := keepC (bal (.cells #[.bool true, .int .i64 n, .int .i64 p, .bool false] 44)) y3
                have s1 : eqS (true, n, p, false) (true, n, p, false) = true := eqS_self _
                have s2 : eqS (true, n, p, false) (false, 0, 0, false) = false := by simp [eqS]
                clear z x0 x1 x2 x3
                generalize wr.alloc (.cells #[.bool true, .int .i64 n, .int .i64 p, .bool false] 44) = wx at *
                go_quiet (fail)
                go_wp2_with fail
                go_roundw
                case rel => exact ⟨m + 1, by omega, by go_num, bdN HX.out nq⟩
                case measure => simp [intOf]; omega
              · obtain ⟨rfl, rfl, rfl⟩ : u = false ∧ n = 0 ∧ p = 0 := by simpa [slot0] using hs
                clear hs
                have y0 : wr.cell? ⟨w4.heap.size, m * 4, none⟩ = some (.bool false) := y0
                have y1 : wr.cell? ⟨w4.heap.size, m * 4 + 1, none⟩ = some (.int .i64 0) := y1
                have y2 : wr.cell? ⟨w4.heap.size, m * 4 + 2, none⟩ = some (.int .i64 0) := y2
                have y3 : wr.cell? ⟨w4.heap.size, m * 4 + 3, none⟩ = some (.bool false) := y3
                go_wp2_with fail
                have z := Row.new wr 44 [.bool false, .int .i64 0, .int .i64 0, .bool false]
                obtain ⟨z0, z1, z2, z3⟩ := z.four
                have hzl := z.lt
                have HX := hid (bthen HBQ.out (bal (.cells #[.bool false, .int .i64 0, .int .i64 0, .bool false] 44)))
                have y0 := keepC (bal (.cells #[.bool false, .int .i64 0, .int .i64 0, .bool false] 44)) y0
                have y1 := keepC (bal (.cells #[.bool false, .int .i64 0, .int .i64 0, .bool false] 44)) y1
                have y2 := keepC (bal (.cells #[.bool false, .int .i64 0, .int .i64 0, .bool false] 44)) y2
                have y3 := keepC (bal (.cells #[.bool false, .int .i64 0, .int .i64 0, .bool false] 44)) y3
                have s1 : eqS (false, 0, 0, false) (false, 0, 0, false) = true := eqS_self _
                have s2 : eqS (false, 0, 0, false) (false, 0, 0, false) = true := by simp [eqS]
                clear z x0 x1 x2 x3
                generalize wr.alloc (.cells #[.bool false, .int .i64 0, .int .i64 0, .bool false] 44) = wx at *
                go_quiet (fail)
                go_wp2_with fail
                go_roundw
                case rel => exact ⟨m + 1, by omega, by go_num, bdN HX.out nq⟩
                case measure => simp [intOf]; omega
            · clear hgood
              have y0 : wr.cell? ⟨w4.heap.size, m * 4, none⟩ = some (.bool false) := y0
              have y1 : wr.cell? ⟨w4.heap.size, m * 4 + 1, none⟩ = some (.int .i64 0) := y1
              have y2 : wr.cell? ⟨w4.heap.size, m * 4 + 2, none⟩ = some (.int .i64 0) := y2
              have y3 : wr.cell? ⟨w4.heap.size, m * 4 + 3, none⟩ = some (.bool false) := y3
              go_wp2_with fail
              have z := Row.new wr 44 [.bool false, .int .i64 0, .int .i64 0, .bool false]
              obtain ⟨z0, z1, z2, z3⟩ := z.four
              have hzl := z.lt
              have HX := hid (bthen HBQ.out (bal (.cells #[.bool false, .int .i64 0, .int .i64 0, .bool false] 44)))
              have y0 := keepC (bal (.cells #[.bool false, .int .i64 0, .int .i64 0, .bool false] 44)) y0
              have y1 := keepC (bal (.cells #[.bool false, .int .i64 0, .int .i64 0, .bool false] 44)) y1
              have y2 := keepC (bal (.cells #[.bool false, .int .i64 0, .int .i64 0, .bool false] 44)) y2
              have y3 := keepC (bal (.cells #[.bool false, .int .i64 0, .int .i64 0, .bool false] 44)) y3
              have s1 : eqS (false, 0, 0, false) (false, 0, 0, false) = true := eqS_self _
              have s2 : eqS (false, 0, 0, false) (false, 0, 0, false) = true := by simp [eqS]
              clear z x0 x1 x2 x3
              generalize wr.alloc (.cells #[.bool false, .int .i64 0, .int .i64 0, .bool false] 44) = wx at *
              go_quiet (fail)
              go_wp2_with fail
              go_roundw
              case rel => exact ⟨m + 1, by omega, by go_num, bdN HX.out nq⟩
              case measure => simp [intOf]; omega
          · have e1 : decide ((m : Int) < 16) = false := by simp; omega
            have e2 : decide (m < 16) = false := by simp; omega
            have HBF := hid (HB7.out.trans (hb.mono HB7.out.size))
            clear hb
            go_wp2_with (go_at_call 13; refine (works_any _).mono ?_; rintro e' w' ⟨rfl, hw⟩)
            go_ret
            exact ⟨rfl, bthen HBF.out hw⟩
end Go.Proofs.Ytjbclaplohankaa
