
/- ShebangArgs' walk. -/
import Derived.Test.YtnepccjcjkeneaaDoorU8
import Derived.Test.YtnepccjcjkeneaaDoorU10
namespace Go.Proofs.YtnepccjcjkeneaaDoor
open Go.RowKit Go.Sort
open Go.ChangeShapes Go.WideShapes Go.ChangeAt

theorem Row.three' {w : World} {g : Nat} {E : TypeId} {a b c : Value} (h : Row w g E [a, b, c]) : w.cell? ⟨g, 0, none⟩ = some a ∧ w.cell? ⟨g, 1, none⟩ = some b ∧ w.cell? ⟨g, 2, none⟩ = some c := ⟨h.cell 0 (by simp), h.cell 1 (by simp), h.cell 2 (by simp)⟩
theorem own_at {wr : World} {base G n c k : Nat} {xs : List Value} (hox : wr.ownsRow base 9 1 (.slice (some ⟨G, 0, none⟩) n c) n xs) (hk : k < n) : (∃ u, wr.cell? ⟨G, k, none⟩ = some u) ∧ wr.frozen? ⟨G, k, none⟩ = false := by
  have hx := hox.cellAt k (by have := hox.1; omega)
  rw [List.getElem?_eq_getElem (by have := hox.1; omega)] at hx
  rcases hox.2 with ⟨h1, _⟩ | ⟨g, cap', cur, h1, _, h3, _⟩
  · cases h1
  · simp only [Value.slice.injEq, Option.some.injEq, Addr.mk.injEq, and_true, true_and] at h1
    obtain ⟨rfl, rfl⟩ := h1
    exact ⟨⟨_, hx⟩, frozen_of_row _ _ _ _ _ h3⟩

set_option maxRecDepth 100000 in
set_option maxHeartbeats 8000000 in
theorem shebangArgs_walk (i a p : BL) (ar : Option Addr) (n cr : Nat) (rest : List BL) (w : World) (hi : i.length ≤ 140737488351232) (ha : a.length ≤ 140737488351232) (hp : p.length ≤ 140737488351232) (hR : Cel w ar n (strs rest)) (hcr : n ≤ cr) (hn : n ≤ 140737488351232) (hs : ∀ q ∈ rest, q.length ≤ 140737488351232) :
    Calls Tryd.prog 4 #[.agg #[.string (ba i), .string (ba a), .string (ba p)], .slice ar n cr] w fun e' w' => e' = .returned (.bool true) ∧ Below w.heap.size w w' := by
  obtain ⟨W0, hW0⟩ : ∃ W0, W0 = w.alloc (.cells #[.string (ba i), .string (ba a), .string (ba p)] 31) := ⟨_, rfl⟩
  have HB0 := hid (show Below w.heap.size w W0 by rw [hW0]; exact bal _)
  have HX0 := hid (show Row W0 w.heap.size 31 [.string (ba i), .string (ba a), .string (ba p)] by rw [hW0]; exact Row.new w 31 [.string (ba i), .string (ba a), .string (ba p)])
  have HR0 := hid (hR.below' HB0.out)
  have hnl := cel_len hR
  have HL := hid (large_any ar n cr rest W0 HR0.out hn hs)
  obtain ⟨x0, x1, x2⟩ := HX0.out.three'
  have hl0 := HX0.out.lt
  have HCR := hid hcr
  have zi : (ba i).size ≤ 140737488351232 := by rw [ba_size]; exact hi
  have za : (ba a).size ≤ 140737488351232 := by rw [ba_size]; exact ha
  have zp : (ba p).size ≤ 140737488351232 := by rw [ba_size]; exact hp
  clear hR hs hcr hi ha hp hn
  go_enter Tryd.func4, Tryd.ntmps4
  go_wp2_with fail
  try rw [← hW0]
  clear hW0
  go_wp2_with fail
  refine (HL.out).mono ?_
  rintro e' w1 ⟨rfl, b, rfl, hb⟩
  have HTN := hid hb
  clear hb
  cases b
  · have hlen : totN rest ≤ 65536 := HTN.out rfl
    by_cases hsum : 65536 < ((ba i).size : Int) + (ba a).size + (ba p).size
    · have d1 : decide ((65536 : Int) < ((ba i).size : Int) + (ba a).size + (ba p).size) = true := decide_eq_true hsum
      go_wp2_with fail
      refine (works21_any _).mono ?_
      rintro e' w2 ⟨rfl, hb⟩
      have HB2 := hid (bthen HB0.out hb)
      clear hb
      go_wp2_with fail
      go_ret
      exact ⟨rfl, HB2.out⟩
    · have d1 : decide ((65536 : Int) < ((ba i).size : Int) + (ba a).size + (ba p).size) = false := decide_eq_false hsum
      have HN := hid (show n ≤ 65536 by have := totN_len rest; omega)
      have HCP := hid (copyTexts_any ar n cr rest W0 HR0.out (by have := HN.out; omega))
      clear hlen hsum
      go_wp2_with fail
      refine (HCP.out).mono ?_
      rintro e' w1 ⟨v1, rfl, ho, hb⟩
      have HB1 := hid (bthen HB0.out hb)
      have HR1 := hid (HR0.out.below' hb)
      have HX1 := hid (HX0.out.below hb HX0.out.lt)
      obtain ⟨ia, ic, rfl, hic, hinil, hile, _⟩ := own_cel2 ho
      have HI1 := hid hic
      have HILE := hid hile
      have hrl : rest.length = n := hnl
      rw [hrl] at HI1 HILE
      rw [hrl]
      clear ho hb hic hile hinil x0 x1 x2 hl0 HCP d1
      obtain ⟨x0, x1, x2⟩ := HX1.out.three'
      have hl0 := HX1.out.lt
      have HAV := hid (argv_any i a p ia n ic rest w1 HI1.out HILE.out (by have := HN.out; omega))
      have HRV := hid (fun (wx : World) (hb : Below w1.heap.size w1 wx) => rargv_any i a p ar n cr rest wx (HR1.out.below' hb) HCR.out (by have := HN.out; omega))
      have HAL := hid (show (argvL i a p rest).length ≤ 65539 by have := argvL_len i a p rest; have := HN.out; omega)
      generalize argvL i a p rest = out at *
      go_wp2_with fail
      refine (HAV.out).mono ?_
      rintro e' w2 ⟨v2, rfl, ho, hb⟩
      have HO2 := hid ho
      have HB2 := hid hb
      have HX2 := hid (HX1.out.below hb HX1.out.lt)
      clear ho hb x0 x1 x2 hl0 HAV
      obtain ⟨x0, x1, x2⟩ := HX2.out.three'
      have hl0 := HX2.out.lt
      go_wp2_with fail
      refine (HRV.out w2 HB2.out).mono ?_
      rintro e' w3 ⟨v3, rfl, ho, hb⟩
      have HB3 := hid (bthen HB2.out hb)
      have HO3 := hid (own_below HO2.out hb)
      obtain ⟨oa, oc, rfl, hoc, _, _, _⟩ := own_cel2 HO3.out
      obtain ⟨qa, qc, rfl, hqc, _, _, _⟩ := own_cel2 ho
      have HEQ := hid (eqTexts_any oa qa out.length oc out.length qc out out w3 hoc hqc (by have := HAL.out; omega) (by have := HAL.out; omega))
      rw [show eqT out out = true by simp [eqT]] at HEQ
      clear ho hb hoc hqc x0 x1 x2 hl0 HRV HO2
      go_wp2_with fail
      refine (HEQ.out).mono ?_
      rintro e' w4 ⟨rfl, q4, hw4⟩
      have HB4 := hid (show Below w1.heap.size w1 w4 by rw [hw4]; exact bdN HB3.out q4)
      have HO4 := hid (show OwnS w4 w1.heap.size (.slice oa out.length oc) out by rw [hw4]; exact own_below HO3.out (drewN_below w3 q4))
      have HZ4 := hid HB4.out.size
      have HAL2 := hid (show out.length ≤ 8000000000000 by have := HAL.out; omega)
      clear hw4 HO3 HEQ
      go_wp2_with (at_builtin; go_must (refine wpList_appS rfl _ _ rfl w1.heap.size (.slice oa out.length oc) out (ba [33]) rfl rfl HO4.out HAL2.out HZ4.out ?_; intro v' w9 hown hgrow hb9 _ hat; have HO9 := hid hown; have HB9 := hid (HB4.out.trans hb9); obtain ⟨G2, c2, rfl, hc1, hc2, hc3, hc4⟩ := own_open hown (by omega); clear hown hgrow hb9 hat))
      have HG2 := hid hc2
      clear hc1 hc2 hc3 hc4
      go_loopw [7] (fun i wr => ∃ k : Nat, k ≤ out.length + 1 ∧ i = .int .i64 k ∧ (∃ xs, wr.ownsRow w1.heap.size 9 1 (.slice (some ⟨G2, 0, none⟩) (out.length + 1) c2) (out.length + 1) xs) ∧ Below w1.heap.size w1 wr) (fun i _ => out.length + 1 - (intOf i).toNat)
      case atStart => exact ⟨0, Nat.zero_le _, rfl, ⟨_, HO9.out⟩, HB9.out⟩
      case round =>
        obtain ⟨k, hk, rfl, ⟨xs, hox⟩, hg⟩ := hrel
        have HG := hid hg
        have HX := hid hox
        clear hg
        by_cases hlt : k < out.length + 1
        · have d1 : decide ((k : Int) < (out.length : Int) + 1) = true := by simp; omega
          have d1n : decide (k < out.length + 1) = true := by simp; omega
          obtain ⟨⟨u, hc0⟩, hf⟩ := own_at hox hlt
          have HAL3 := HAL.out
          clear hox
          go_wp2_with fail
          go_roundw
          case rel => exact ⟨k + 1, by omega, by go_num, ⟨_, (HX.out.stored k _).1⟩, bset HG.out HG2.out _⟩
          case measure => simp [intOf]; omega
        · have d1 : decide ((k : Int) < (out.length : Int) + 1) = false := decide_eq_false (by omega)
          have d1n : decide (k < out.length + 1) = false := decide_eq_false (by omega)
          have HE9 := hid (eqTexts_any ia ar n ic n cr rest rest wr (HI1.out.below' HG.out) (HR1.out.below' HG.out) (by have := HN.out; omega) (by have := HN.out; omega))
          rw [show eqT rest rest = true by simp [eqT]] at HE9
          have HBW := hid (HB1.out.trans (HG.out.mono HB1.out.size))
          clear hox
          go_wp2_with fail
          refine (HE9.out).mono ?_
          rintro e' w5 ⟨rfl, q5, rfl⟩
          have HB5 := hid (bdN HBW.out q5)
          go_wp2_with fail
          refine (works21_any _).mono ?_
          rintro e' w6 ⟨rfl, hb⟩
          have HB6 := hid (bthen HB5.out hb)
          clear hb
          go_wp2_with fail
          go_ret
          exact ⟨rfl, HB6.out⟩
  · go_wp2_with fail
    refine (works21_any _).mono ?_
    rintro e' w2 ⟨rfl, hb⟩
    have HB2 := hid (bthen HB0.out hb)
    clear hb
    go_wp2_with fail
    go_ret
    exact ⟨rfl, HB2.out⟩
end Go.Proofs.YtnepccjcjkeneaaDoor
