/- SymbolsOf: the walk. -/
import Derived.Test.YtblefgkhikfmhaaSy4
namespace Go.Proofs.Ytblefgkhikfmhaa
open Go.RowKit Go.Sort Go.Shelf
attribute [local go_sem] Oper.semAt_some

set_option maxRecDepth 100000 in
set_option maxHeartbeats 4000000 in
theorem symbolsOf_walk (a : Option Addr) (len cap : Nat) (xs : List OB) (p q : Int) (w : World) (hO : Objs w a len xs) (hF : ∀ x ∈ xs, Full w x) (hl : len ≤ 1000000000000) (hnm : ∀ x ∈ xs, ∀ s ∈ x.sy, s.name.length ≤ 140737488351232) :
    Calls Try.prog 4 #[.slice a len cap, .agg #[.int .i64 p, .int .i64 q]] w fun e' w' => e' = .returned (.bool true) ∧ Below w.heap.size w w' := by
  obtain rfl := hO.hlen
  have hb0 := @bal w (.cells #[.int .i64 p, .int .i64 q] 33)
  have HB0 := hid hb0
  have HO := hid (hO.below' hb0)
  have HF := hid (fun x hx => (hF x hx).below' hb0)
  have HSN := hid (fun (x : OB) (hx : x ∈ xs) => show x.sn ≤ 4000000000000 by have := (hF x hx).sn; omega)
  have HL2 := hid (show xs.length ≤ 1000000000000 by omega)
  have hR := Row.new w 33 [.int .i64 p, .int .i64 q]
  have HR := hid hR
  have hL := hid (large_any a xs.length cap xs _ HO.out HL2.out HSN.out hnm)
  clear hO hF hnm hb0 hR
  go_enter Try.func4, Try.ntmps4
  go_wp2_with fail
  refine (hL.out).mono ?_
  rintro e' w' ⟨b, rfl, hw, hb⟩
  obtain rfl := hw.symm
  clear hL hw
  cases b
  · obtain ⟨hb1, hb2⟩ := hb rfl
    have HX3 := hid hb2
    have H8 := hid (show xs.length ≤ 800000000000 by omega)
    clear hb hb2
    go_wp2_with fail
    refine (copied_any a xs.length cap xs _ HO.out HF.out H8.out).mono ?_
    rintro e' w1 ⟨v, ys, rfl, hC⟩
    obtain ⟨a1, c1, rfl, hO1⟩ := hC.objs
    have HC := hid hC
    have HO1 := hid hO1
    have HOS := hid hC.os
    have HB1 := hid hC.below
    have HYN := hid hC.sns
    have HR1 := hid (HR.out.below hC.below HR.out.lt)
    have HT1 := hid (HB0.out.trans (hC.below.mono HB0.out.size))
    have HX1 := hid (HO.out.below' hC.below)
    have HF1 := hid (fun x hx => (HF.out x hx).below' hC.below)
    clear hC hO1
    have ONE := hid (fun (i k : Int) (w : World) (hb : Below w1.heap.size w1 w) => one_any a1 a xs.length c1 cap ys xs i k w (HO1.out.below' hb) (HX1.out.below' hb) HOS.out HL2.out HYN.out HSN.out)
    go_wp2_with fail
    go_loopw [6] (fun i wr => ∃ j : Int, -1 ≤ j ∧ j ≤ (xs.length : Int) + 1 ∧ i = .int .i64 j ∧ Below w1.heap.size w1 wr) (fun i _ => ((xs.length : Int) + 1 - intOf i).toNat)
    case atStart => exact ⟨-1, by omega, by omega, rfl, Below.refl _ _⟩
    case round =>
      obtain ⟨j, hj1, hj2, rfl, hb⟩ := hrel
      have HB := hid hb
      clear hb
      by_cases hlt : j ≤ (xs.length : Int)
      · have d1 : decide (j ≤ (xs.length : Int)) = true := by simpa using hlt
        by_cases hin : 0 ≤ j ∧ j < (xs.length : Int)
        · obtain ⟨k, rfl⟩ : ∃ k : Nat, j = (k : Int) := ⟨j.toNat, by omega⟩
          have hkx : k < xs.length := by omega
          have d2 : decide ((0 : Int) ≤ (k : Int)) = true := by simp
          have d3 : decide ((k : Int) < (xs.length : Int)) = true := by simp; omega
          have d3n : decide (k < xs.length) = true := by simp; omega
          obtain ⟨bo, oo, rfl, _, x6, x7, x8, x9, x10⟩ := (HX1.out.below' HB.out).cells hkx
          replace x9 : _ = some (Value.slice xs[k].sa xs[k].sn xs[k].sc) := x9
          have hsb := HX3.out _ (List.getElem_mem hkx)
          have hbo := World.block_lt_of_cell? _ _ x9
          dsimp only at hbo
          generalize xs[k] = x at *
          clear x6 x7 x8 x10 hin
          rename World => wo
          go_wp2_with fail
          go_loopw [8] (fun i wr => ∃ g : Int, -1 ≤ g ∧ g ≤ (x.sn : Int) + 1 ∧ i = .int .i64 g ∧ Below w1.heap.size w1 wr) (fun i _ => ((x.sn : Int) + 1 - intOf i).toNat)
          case atStart => exact ⟨-1, by omega, by omega, rfl, HB.out⟩
          case round =>
            rename World => wr
            obtain ⟨g, hg1, hg2, rfl, hb⟩ := hrel
            have HB2 := hid hb
            clear hb
            by_cases hgt : g ≤ (x.sn : Int)
            · have d4 : decide (g ≤ (x.sn : Int)) = true := by simpa using hgt
              have HONE := hid (ONE.out (k : Int) g _ HB2.out)
              go_wp2_with fail
              refine (HONE.out).mono ?_
              rintro e' w2 ⟨rfl, hb⟩
              have HB3 := hid (HB2.out.trans (hb.mono HB2.out.size))
              clear hb
              go_wp2_with fail
              go_roundw
              case rel => exact ⟨g + 1, by omega, by omega, rfl, HB3.out⟩
              case measure => simp [intOf]; omega
            · have d4 : decide (g ≤ (x.sn : Int)) = false := by simpa using hgt
              have HB3 := hid HB2.out
              clear hgt hg1 hg2
              go_wp2_with fail
              go_roundw
              case rel => exact ⟨(k : Int) + 1, by omega, by omega, rfl, HB3.out⟩
              case measure => simp [intOf]; omega
        · have d23 : (decide ((0 : Int) ≤ j) && decide (j < (xs.length : Int))) = false := by simp; omega
          rename World => wo
          by_cases hneg : 0 ≤ j
          · have d2 : decide ((0 : Int) ≤ j) = true := by simpa using hneg
            have d3 : decide (j < (xs.length : Int)) = false := by simp; omega
            clear d23 hin
            go_wp2_with fail
            go_loopw [8] (fun i wr => ∃ g : Int, -1 ≤ g ∧ g ≤ 0 + 1 ∧ i = .int .i64 g ∧ Below w1.heap.size w1 wr) (fun i _ => (0 + 1 - intOf i).toNat)
            case atStart => exact ⟨-1, by omega, by omega, rfl, HB.out⟩
            case round =>
              rename World => wr
              obtain ⟨g, hg1, hg2, rfl, hb⟩ := hrel
              have HB2 := hid hb
              clear hb
              by_cases hgt : g ≤ 0
              · have d4 : decide (g ≤ 0) = true := by simpa using hgt
                have HONE := hid (ONE.out j g _ HB2.out)
                go_wp2_with fail
                refine (HONE.out).mono ?_
                rintro e' w2 ⟨rfl, hb⟩
                have HB3 := hid (HB2.out.trans (hb.mono HB2.out.size))
                clear hb
                go_wp2_with fail
                go_roundw
                case rel => exact ⟨g + 1, by omega, by omega, rfl, HB3.out⟩
                case measure => simp [intOf]; omega
              · have d4 : decide (g ≤ 0) = false := by simpa using hgt
                have HB3 := hid HB2.out
                clear hgt hg1 hg2
                go_wp2_with fail
                go_roundw
                case rel => exact ⟨j + 1, by omega, by omega, rfl, HB3.out⟩
                case measure => simp [intOf]; omega
          · have d2 : decide ((0 : Int) ≤ j) = false := by simpa using hneg
            clear d23 hin
            go_wp2_with fail
            go_loopw [8] (fun i wr => ∃ g : Int, -1 ≤ g ∧ g ≤ 0 + 1 ∧ i = .int .i64 g ∧ Below w1.heap.size w1 wr) (fun i _ => (0 + 1 - intOf i).toNat)
            case atStart => exact ⟨-1, by omega, by omega, rfl, HB.out⟩
            case round =>
              rename World => wr
              obtain ⟨g, hg1, hg2, rfl, hb⟩ := hrel
              have HB2 := hid hb
              clear hb
              by_cases hgt : g ≤ 0
              · have d4 : decide (g ≤ 0) = true := by simpa using hgt
                have HONE := hid (ONE.out j g _ HB2.out)
                go_wp2_with fail
                refine (HONE.out).mono ?_
                rintro e' w2 ⟨rfl, hb⟩
                have HB3 := hid (HB2.out.trans (hb.mono HB2.out.size))
                clear hb
                go_wp2_with fail
                go_roundw
                case rel => exact ⟨g + 1, by omega, by omega, rfl, HB3.out⟩
                case measure => simp [intOf]; omega
              · have d4 : decide (g ≤ 0) = false := by simpa using hgt
                have HB3 := hid HB2.out
                clear hgt hg1 hg2
                go_wp2_with fail
                go_roundw
                case rel => exact ⟨j + 1, by omega, by omega, rfl, HB3.out⟩
                case measure => simp [intOf]; omega
      · have d1 : decide (j ≤ (xs.length : Int)) = false := by simpa using hlt
        clear hlt hj1 hj2
        have hr := HR1.out.below HB.out HR1.out.lt
        have p0 := hr.cell 0 (by simp)
        have p1 := hr.cell 1 (by simp)
        simp only [List.getElem_cons_zero, List.getElem_cons_succ] at p0 p1
        have hlr := hr.lt
        have HONE := hid (ONE.out p q _ HB.out)
        clear hr
        go_wp2_with fail
        refine (HONE.out).mono ?_
        rintro e' w2 ⟨rfl, hb⟩
        have HB2 := hid (HB.out.trans (hb.mono HB.out.size))
        clear hb
        go_wp2_with fail
        refine (same_any a a1 xs.length cap c1 xs ys _ (HX1.out.below' HB2.out) (HO1.out.below' HB2.out) (fun x hx => (HF1.out x hx).below' HB2.out) (fun y hy => (HC.out.full y hy).below' HB2.out) HC.out.twin H8.out).mono ?_
        rintro e' w3 ⟨rfl, hb⟩
        have HB3 := hid (HB2.out.trans (hb.mono HB2.out.size))
        clear hb
        go_wp2_with fail
        refine (works_any _).mono ?_
        rintro e' w4 ⟨rfl, hb⟩
        have HB4 := hid (HB3.out.trans (hb.mono HB3.out.size))
        clear hb
        go_wp2_with fail
        go_ret
        exact ⟨rfl, HT1.out.trans (HB4.out.mono HT1.out.size)⟩
  · clear hb
    go_wp2_with fail
    refine (works_any _).mono ?_
    rintro e' w1 ⟨rfl, hb⟩
    have HB := hid (bthen HB0.out hb)
    clear hb
    go_wp2_with fail
    go_ret
    exact ⟨rfl, HB.out⟩
end Go.Proofs.Ytblefgkhikfmhaa
