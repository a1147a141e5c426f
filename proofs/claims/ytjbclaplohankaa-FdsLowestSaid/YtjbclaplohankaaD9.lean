/- FdsLowest: the walk. -/
import Derived.Test.YtjbclaplohankaaD7
import Derived.StillTailTactics
namespace Go.Proofs.Ytjbclaplohankaa
open Go.RowKit Go.Sort

def us (ss : List SL) : List Value := ss.map fun s => .bool s.1
theorem us_len (ss : List SL) : (us ss).length = ss.length := by simp [us]
theorem us_set (ss : List SL) (k : Nat) (s : SL) : us (ss.set k s) = (us ss).set k (.bool s.1) := by simp [us, List.map_set]
theorem us_at {w : World} {B : Nat} {T : TypeId} {ss : List SL} (h : Row w B T (us ss)) (k : Nat) (hk : k < ss.length) : w.cell? ⟨B, k, none⟩ = some (.bool ss[k].1) := by
  rw [h.cell']
  simp [us, hk]
theorem ff_of {ss : List SL} (hl : ss.length = 16) {j : Nat} (hj : j ≤ 16) (hu : ∀ m (h : m < ss.length), m < j → ss[m].1 = true) (he : ∀ h : j < ss.length, ss[j].1 = false) : ff ss = j := by
  unfold ff
  by_cases h : j < ss.length
  · rw [List.findIdx_eq h]
    refine ⟨by rw [he h]; rfl, fun m hm => ?_⟩
    have := hu m (by omega) hm
    simp [this]
  · have hlj : j = ss.length := by omega
    rw [hlj]
    rw [List.findIdx_eq_length]
    intro s hs
    obtain ⟨m, hm, rfl⟩ := List.getElem_of_mem hs
    have := hu m hm (by omega)
    simp [this]

set_option maxHeartbeats 4000000 in
set_option maxRecDepth 100000 in
theorem fdsLowest_walk (a : Option Addr) (len cap : Nat) (f : Nat → OpL) (w : World) (hA : OpsAt w a len f) (hlc : len ≤ 9223372036854775807) :
    Calls Try.prog 5 #[.slice a len cap] w fun e' w' => e' = .returned (.bool true) ∧ Below w.heap.size w w' := by
  have HA := hid hA
  clear hA
  go_enter Try.func5, Try.ntmps5
  go_wp2_with fail
  refine (new_any _).mono ?_
  rintro e' w1 ⟨rfl, ht, hb⟩
  have HB1 := hid (fun o => bthen hb (@bal w1 o))
  have HT := hid (fun o => ht.below (@bal w1 o))
  have HU := hid (Row.new w1 45 (us zero16))
  have hlt1 : w.heap.size < w1.heap.size := ht.row.lt
  clear ht hb
  go_wp2_with fail
  go_loopw [5] (fun i wr => ∃ (k : Nat) (ss : List SL), k ≤ len ∧ k ≤ 200 ∧ i = .int .i64 k ∧ Row wr w1.heap.size 45 (us ss) ∧ Tab wr w.heap.size 50 ss ∧ Below w.heap.size w wr) (fun i _ => 200 - (intOf i).toNat)
  case atStart => exact ⟨0, zero16, Nat.zero_le _, Nat.zero_le _, rfl, HU.out, HT.out _, HB1.out _⟩
  case round =>
    obtain ⟨k, ss, hk, hk2, rfl, hu, ht, hb⟩ := hrel
    have HU := hid hu
    have HT := hid ht
    have HB := hid hb
    have hlt0 := ht.row.lt
    have hltu := hu.lt
    have hl16 := ht.len
    clear HB1
    by_cases h1 : k < len ∧ k < 200
    · obtain ⟨h1, h2⟩ := h1
      have d1 : decide ((k : Int) < (len : Int)) = true := by simp; omega
      have d2 : decide ((k : Int) < 200) = true := by simp; omega
      obtain ⟨ba, off, rfl, hx⟩ := HA.out k h1
      have HX := hid hx
      have hx := hx.below hb
      clear ht hb hu
      generalize f k = x at *
      obtain ⟨x0, x1, x2, x3, x4, x5⟩ := x
      obtain ⟨y0, y1, y2, y3, y4, y5⟩ := hx
      by_cases c1 : x0 = 2
      · subst c1
        go_wp2_with fail
        refine (close_any _ _ _ _ HT.out).mono ?_
        rintro e' w2 ⟨rfl, ht, hg⟩
        have hu2 := HU.out.grown hg (by simp; omega)
        have hB2 := HB.out.grown hg HB.out.size (fun k hk => by cases hk; exact Nat.le_refl _)
        have HT2 := hid ht
        have HU2 := hid hu2
        have HB2 := hid hB2
        have hz2 := hg.size
        obtain ⟨y0, y1, y2, y3, y4, y5⟩ := HX.out.below hB2
        clear ht hg
        rcases used_cases ss x2 with ⟨j, hj, hx2, hj1, hju, hjn, hjs⟩ | ⟨hju, hjn⟩
        · rcases Nat.eq_zero_or_pos j with h0 | h0
          · subst h0
            obtain rfl : x2 = 0 := by simpa using hx2
            clear hx2
            have hc : closeC ss 0 = 0 := by unfold closeC; rw [hju]; rfl
            have hS : closeS ss 0 = ss.set 0 slot0 := by unfold closeS; rw [hju]; rfl
            rw [hS] at HT2
            rw [hc]
            have z := us_at hu2 0 hj
            rw [hj1] at z
            have zf := hu2.frozen 0
            have g3 : 0 < 16 := by omega
            have HU3 := hid (by have h := hu2.set 0 (.bool false); rwa [show (us ss).set 0 (.bool false) = us (ss.set 0 slot0) by rw [us_set]; rfl] at h : Row (w2.setCell ⟨w1.heap.size, 0, none⟩ (.bool false)) w1.heap.size 45 (us (ss.set 0 slot0)))
            have HT3 := hid (Tab.mk (HT2.out.row.other (a := ⟨w1.heap.size, 0, none⟩) (by show w.heap.size ≠ w1.heap.size; omega) (.bool false)) HT2.out.len)
            have HB3 := hid (bset HB2.out (b := w1.heap.size) (o := 0) (by omega) (.bool false))
            clear hu2 hB2 hjn hjs hju hj1 hc hS
            go_wp2_with fail
            go_roundw
            case rel => exact ⟨k + 1, _, by omega, by omega, by go_num, HU3.out, HT3.out, HB3.out⟩
            case measure => simp [intOf]; omega
          · subst hx2
            have hc : closeC ss (j : Int) = 0 := by unfold closeC; rw [hju]; rfl
            have hS : closeS ss (j : Int) = ss.set j slot0 := by unfold closeS; rw [hju]; rfl
            rw [hS] at HT2
            rw [hc]
            have z := us_at hu2 j hj
            rw [hj1] at z
            have zf := hu2.frozen j
            have g3 : j < 16 := by omega
            have HU3 := hid (by have h := hu2.set j (.bool false); rwa [show (us ss).set j (.bool false) = us (ss.set j slot0) by rw [us_set]; rfl] at h : Row (w2.setCell ⟨w1.heap.size, j, none⟩ (.bool false)) w1.heap.size 45 (us (ss.set j slot0)))
            have HT3 := hid (Tab.mk (HT2.out.row.other (a := ⟨w1.heap.size, j, none⟩) (by show w.heap.size ≠ w1.heap.size; omega) (.bool false)) HT2.out.len)
            have HB3 := hid (bset HB2.out (b := w1.heap.size) (o := j) (by omega) (.bool false))
            have g1 : decide ((0 : Int) ≤ (j : Int)) = true := by simp
            have g2 : decide ((j : Int) < 16) = true := by simp; omega
            clear hu2 hB2 hjn hjs hju hj1 hc hS
            go_wp2_with fail
            go_roundw
            case rel => exact ⟨k + 1, _, by omega, by omega, by go_num, HU3.out, HT3.out, HB3.out⟩
            case measure => simp [intOf]; omega
        · have hc : closeC ss x2 = 14 := by unfold closeC; rw [hju]; rfl
          have hS : closeS ss x2 = ss := by unfold closeS; rw [hju]; rfl
          rw [hS] at HT2
          rw [hc]
          clear hc hS hjn
          by_cases hn : x2 < 0
          · have g1 : decide (0 ≤ x2) = false := by simp; omega
            clear hu2 hB2 hju
            go_wp2_with fail
            go_roundw
            case rel => exact ⟨k + 1, _, by omega, by omega, by go_num, HU2.out, HT2.out, HB2.out⟩
            case measure => simp [intOf]; omega
          · by_cases hn2 : x2 < 16
            · obtain ⟨j, rfl⟩ := Int.eq_ofNat_of_zero_le (show 0 ≤ x2 by omega)
              have hj : j < ss.length := by omega
              have z := us_at hu2 j hj
              have hj1 : ss[j].1 = false := by unfold usedB at hju; rwa [slotAt_nat ss j hj] at hju
              rw [hj1] at z
              have g1 : decide ((0 : Int) ≤ (j : Int)) = true := by simp
              have g2 : decide ((j : Int) < 16) = true := by simp; omega
              have g3 : j < 16 := by omega
              clear hu2 hB2 hju hn hn2
              rcases Nat.eq_zero_or_pos j with h0 | h0
              · subst h0
                go_wp2_with fail
                go_roundw
                case rel => exact ⟨k + 1, _, by omega, by omega, by go_num, HU2.out, HT2.out, HB2.out⟩
                case measure => simp [intOf]; omega
              · go_wp2_with fail
                go_roundw
                case rel => exact ⟨k + 1, _, by omega, by omega, by go_num, HU2.out, HT2.out, HB2.out⟩
                case measure => simp [intOf]; omega
            · have g1 : decide (0 ≤ x2) = true := by simp; omega
              have g2 : decide (x2 < 16) = false := by simp; omega
              clear hu2 hB2 hju
              go_wp2_with fail
              go_roundw
              case rel => exact ⟨k + 1, _, by omega, by omega, by go_num, HU2.out, HT2.out, HB2.out⟩
              case measure => simp [intOf]; omega
      · have q2 : (x0 == 2) = false := by rw [beq_eq_false_iff_ne]; exact c1
        by_cases c2 : x0 = 1
        · subst c2
          go_wp2_with fail
          have HTd := hid (HT.out.below (bdN (Below.refl wr.heap.size wr) 1))
          go_region_with (go_at_call 14; refine (open_any _ _ _ _ _ HTd.out).mono ?_; rintro e' w2 ⟨rfl, ht, hg⟩)
          all_goals
            have hu2 := (HU.out.drewN 1).grown hg (by simp; omega)
            have hB2 := (bdN HB.out 1).grown hg HB.out.size (fun k hk => by cases hk; exact Nat.le_refl _)
            obtain ⟨y0, y1, y2, y3, y4, y5⟩ := HX.out.below hB2
            have HT2 := hid ht
            have HU2 := hid hu2
            have HB2 := hid hB2
            have hltu2 := hu2.lt
            have hltb2 := ht.row.lt
            clear ht hg hB2
            by_cases hn : x3 < 0
            · have hC : openC ss x3 = 1 := by unfold openC; rw [if_pos hn]
              have hN : openN ss x3 = 0 := by unfold openN; rw [hC]; rfl
              have hS : openS ss x3 x5 = ss := by unfold openS; rw [hC]; rfl
              have g1 : decide (0 ≤ x3) = false := by simp; omega
              rw [hS] at HT2
              rw [hC, hN]
              clear hC hN hS hn
              go_wp2_with fail
              go_loop [10] (fun i => ∃ j : Nat, j ≤ 16 ∧ i = .int .i64 j ∧ ∀ m (h : m < ss.length), m < j → ss[m].1 = true) (fun i => 16 - (intOf i).toNat)
              case atStart => exact ⟨0, Nat.zero_le _, rfl, fun m h hm => by omega⟩
              case round =>
                obtain ⟨j, hj, rfl, hm⟩ := hrel
                have HM := hid hm
                clear hm
                by_cases hj2 : j < 16
                · have e1 : decide ((j : Int) < 16) = true := by simp; omega
                  have e2 : decide (j < 16) = true := by simp; omega
                  have hjl : j < ss.length := by omega
                  have z := us_at hu2 j hjl
                  cases hs : ss[j].1
                  · rw [hs] at z
                    have HF := hid (ff_of hl16 hj HM.out (fun _ => hs))
                    clear hs
                    clear hu2
                    go_wp2_with fail
                    go_roundw
                    case rel => exact ⟨k + 1, _, by omega, by omega, by go_num, HU2.out, HT2.out, HB2.out⟩
                    case measure => simp [intOf]; omega
                  · rw [hs] at z
                    have HM2 : Hid (∀ m (h : m < ss.length), m < j + 1 → ss[m].1 = true) := hid (fun m h hmj => by
                      by_cases e : m < j
                      · exact HM.out m h e
                      · obtain rfl : m = j := by omega
                        exact hs)
                    clear hs
                    go_wp2_with fail
                    go_round
                    case rel => exact ⟨j + 1, by omega, by go_num, HM2.out⟩
                    case measure => simp [intOf]; omega
                · have e1 : decide ((j : Int) < 16) = false := by simp; omega
                  have e2 : decide (j < 16) = false := by simp; omega
                  obtain rfl : j = 16 := by omega
                  have HF := hid (ff_of hl16 hj HM.out (fun h => by omega))
                  clear hu2
                  go_wp2_with fail
                  go_roundw
                  case rel => exact ⟨k + 1, _, by omega, by omega, by go_num, HU2.out, HT2.out, HB2.out⟩
                  case measure => simp [intOf]; omega
            · by_cases hf : ff ss = 16
              · have hC : openC ss x3 = 15 := by unfold openC; rw [if_neg hn, if_pos hf]
                have hN : openN ss x3 = 0 := by unfold openN; rw [hC]; rfl
                have hS : openS ss x3 x5 = ss := by unfold openS; rw [hC]; rfl
                have g1 : decide (0 ≤ x3) = true := by simp; omega
                rw [hS] at HT2
                rw [hC, hN]
                have HFF := hid hf
                clear hC hN hS hn hf
                go_wp2_with fail
                go_loop [10] (fun i => ∃ j : Nat, j ≤ 16 ∧ i = .int .i64 j ∧ ∀ m (h : m < ss.length), m < j → ss[m].1 = true) (fun i => 16 - (intOf i).toNat)
                case atStart => exact ⟨0, Nat.zero_le _, rfl, fun m h hm => by omega⟩
                case round =>
                  obtain ⟨j, hj, rfl, hm⟩ := hrel
                  have HM := hid hm
                  clear hm
                  by_cases hj2 : j < 16
                  · have e1 : decide ((j : Int) < 16) = true := by simp; omega
                    have e2 : decide (j < 16) = true := by simp; omega
                    have hjl : j < ss.length := by omega
                    have z := us_at hu2 j hjl
                    cases hs : ss[j].1
                    · rw [hs] at z
                      have HF := hid (ff_of hl16 hj HM.out (fun _ => hs))
                      clear hs
                      exact absurd (HF.out.symm.trans HFF.out) (by omega)
                    · rw [hs] at z
                      have HM2 : Hid (∀ m (h : m < ss.length), m < j + 1 → ss[m].1 = true) := hid (fun m h hmj => by
                        by_cases e : m < j
                        · exact HM.out m h e
                        · obtain rfl : m = j := by omega
                          exact hs)
                      clear hs
                      go_wp2_with fail
                      go_round
                      case rel => exact ⟨j + 1, by omega, by go_num, HM2.out⟩
                      case measure => simp [intOf]; omega
                  · have e1 : decide ((j : Int) < 16) = false := by simp; omega
                    have e2 : decide (j < 16) = false := by simp; omega
                    obtain rfl : j = 16 := by omega
                    have HF := hid (ff_of hl16 hj HM.out (fun h => by omega))
                    clear hu2
                    go_wp2_with fail
                    go_roundw
                    case rel => exact ⟨k + 1, _, by omega, by omega, by go_num, HU2.out, HT2.out, HB2.out⟩
                    case measure => simp [intOf]; omega
              · have hC : openC ss x3 = 0 := by unfold openC; rw [if_neg hn, if_neg hf]
                have hN : openN ss x3 = ff ss := by unfold openN; rw [hC]; rfl
                have hS : openS ss x3 x5 = ss.set (ff ss) (true, x3, 0, x5) := by unfold openS; rw [hC]; rfl
                rw [hS] at HT2
                rw [hC, hN]
                have HFF := hid hf
                clear hC hN hS hn hf
                go_wp2_with fail
                go_loop [10] (fun i => ∃ j : Nat, j ≤ 16 ∧ i = .int .i64 j ∧ ∀ m (h : m < ss.length), m < j → ss[m].1 = true) (fun i => 16 - (intOf i).toNat)
                case atStart => exact ⟨0, Nat.zero_le _, rfl, fun m h hm => by omega⟩
                case round =>
                  obtain ⟨j, hj, rfl, hm⟩ := hrel
                  have HM := hid hm
                  clear hm
                  by_cases hj2 : j < 16
                  · have e1 : decide ((j : Int) < 16) = true := by simp; omega
                    have e2 : decide (j < 16) = true := by simp; omega
                    have hjl : j < ss.length := by omega
                    have z := us_at hu2 j hjl
                    cases hs : ss[j].1
                    · rw [hs] at z
                      have HF := hid (ff_of hl16 hj HM.out (fun _ => hs))
                      clear hs
                      rw [HF.out] at HT2
                      rw [HF.out]
                      have hat : atS (ss.set j (true, x3, 0, x5)) (j : Int) = (true, x3, 0, x5) ∧ closeC (ss.set j (true, x3, 0, x5)) (j : Int) = 0 := by
                        have h9 : j < (ss.set j (true, x3, 0, x5)).length := by rw [List.length_set]; exact hjl
                        have h1 : slotAt (ss.set j (true, x3, 0, x5)) (j : Int) = (true, x3, 0, x5) := by rw [slotAt_nat _ j h9]; simp
                        have h2 : usedB (ss.set j (true, x3, 0, x5)) (j : Int) = true := by unfold usedB; rw [h1]
                        unfold atS closeC
                        rw [h2, h1]
                        exact ⟨rfl, rfl⟩
                      clear hu2 HFF HF HM
                      go_wp2_with fail
                      refine (at_any _ _ _ _ HT2.out).mono ?_
                      rintro e' w3 ⟨rfl, hb⟩
                      rw [hat.1, hat.2]
                      clear hat
                      obtain ⟨y0, y1, y2, y3, y4, y5⟩ := HX.out.below (HB2.out.trans (hb.mono HB2.out.size))
                      have HT3 := hid (((HT2.out.below hb).below (@bal w3 (.cells #[.bool true, .int .i64 x3, .int .i64 0, .bool x5] 44))))
                      have HU3 := hid (((HU2.out.below hb HU2.out.lt).alloc (.cells #[.bool true, .int .i64 x3, .int .i64 0, .bool x5] 44)))
                      have HB3 := hid ((bthen (HB2.out.trans (hb.mono HB2.out.size)) (@bal w3 (.cells #[.bool true, .int .i64 x3, .int .i64 0, .bool x5] 44))))
                      have zf := HU3.out.frozen j
                      have zn := Row.new w3 44 [.bool true, .int .i64 x3, .int .i64 0, .bool x5]
                      obtain ⟨z0, z1, z2, z3⟩ := zn.four
                      have zl := zn.lt
                      have y3' := keepC (@bal w3 (.cells #[.bool true, .int .i64 x3, .int .i64 0, .bool x5] 44)) y3
                      have y5' := keepC (@bal w3 (.cells #[.bool true, .int .i64 x3, .int .i64 0, .bool x5] 44)) y5
                      have zc := keepC (@bal w3 (.cells #[.bool true, .int .i64 x3, .int .i64 0, .bool x5] 44)) (keepC hb z)
                      have s1 : eqS (true, x3, 0, x5) (true, x3, 0, x5) = true := eqS_self _
                      have hneq := slot_neq
                      clear z y0 y1 y2 y4 zn hb
                      go_wp2_with fail
                      generalize w3.alloc (.cells #[.bool true, .int .i64 x3, .int .i64 0, .bool x5] 44) = wx at *
                      go_quiet (fail)
                      go_wp2_with fail
                      have HU4 := hid (by have h := (HU3.out.drewN nq).set j (.bool true); rwa [show (us ss).set j (.bool true) = us (ss.set j (true, x3, 0, x5)) by rw [us_set]] at h : Row ((wx.drewN nq).setCell ⟨w1.heap.size, j, none⟩ (.bool true)) w1.heap.size 45 (us (ss.set j (true, x3, 0, x5))))
                      have HT4 := hid (Tab.mk ((HT3.out.below (bdN (Below.refl _ _) nq)).row.other (a := ⟨w1.heap.size, j, none⟩) (by show w.heap.size ≠ w1.heap.size; omega) (.bool true)) HT3.out.len)
                      have HB4 := hid (bset (bdN HB3.out nq) (b := w1.heap.size) (o := j) (by omega) (.bool true))
                      go_roundw
                      case rel => exact ⟨k + 1, _, by omega, by omega, by go_num, HU4.out, HT4.out, HB4.out⟩
                      case measure => simp [intOf]; omega
                    · rw [hs] at z
                      have HM2 : Hid (∀ m (h : m < ss.length), m < j + 1 → ss[m].1 = true) := hid (fun m h hmj => by
                        by_cases e : m < j
                        · exact HM.out m h e
                        · obtain rfl : m = j := by omega
                          exact hs)
                      clear hs
                      go_wp2_with fail
                      go_round
                      case rel => exact ⟨j + 1, by omega, by go_num, HM2.out⟩
                      case measure => simp [intOf]; omega
                  · have e1 : decide ((j : Int) < 16) = false := by simp; omega
                    have e2 : decide (j < 16) = false := by simp; omega
                    obtain rfl : j = 16 := by omega
                    have HF := hid (ff_of hl16 hj HM.out (fun h => by omega))
                    exact absurd HF.out HFF.out
        · have q1 : (x0 == 1) = false := by rw [beq_eq_false_iff_ne]; exact c2
          go_wp2_with fail
          go_roundw
          case rel => exact ⟨k + 1, _, by omega, by omega, by go_num, HU.out, HT.out, HB.out⟩
          case measure => simp [intOf]; omega
    · have hcase : (decide ((k : Int) < (len : Int)) = false ∧ decide (k < len) = false ∧ ¬ k < len) ∨ (decide ((k : Int) < (len : Int)) = true ∧ decide ((k : Int) < 200) = false ∧ decide (k < 200) = false ∧ k < len ∧ decide (k < len) = true) := by
        by_cases h : k < len
        · exact .inr ⟨by simp; omega, by simp; omega, by simp; omega, h, by simp; omega⟩
        · exact .inl ⟨by simp; omega, by simp; omega, h⟩
      clear hu ht hb
      rcases hcase with ⟨d1, d2, d3⟩ | ⟨d1, d2, d3, d4, d5⟩
      · go_wp2_with (go_at_call 13; refine (works_any _).mono ?_; rintro e' w' ⟨rfl, hw⟩)
        go_ret
        exact ⟨rfl, bthen HB.out hw⟩
      · go_wp2_with (go_at_call 13; refine (works_any _).mono ?_; rintro e' w' ⟨rfl, hw⟩)
        go_ret
        exact ⟨rfl, bthen HB.out hw⟩
end Go.Proofs.Ytjbclaplohankaa
