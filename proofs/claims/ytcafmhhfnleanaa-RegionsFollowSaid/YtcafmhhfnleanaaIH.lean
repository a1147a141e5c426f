/- RegionsFollow: has each address what it must? -/
import Derived.Test.YtcafmhhfnleanaaIG
namespace Go.Proofs.Ytcafmhhfnleanaa
open Go.RowKit Go.Sort

/-- What an address must have behind a change. -/
def CF (l m : List RG) (d : Int) (r : RG) (t : Int) : Prop :=
  ((r.fr ≤ t ∧ t < r.to → d = 1 → atR m t = some (valR r t)) ∧ (r.fr ≤ t ∧ t < r.to → d = 2 → atR m t = none) ∧ (r.fr ≤ t ∧ t < r.to → d = 3 → ∃ x, atR l t = some x ∧ atR m t = some (protR r.pr x))) ∧ (¬ (r.fr ≤ t ∧ t < r.to) → atR m t = atR l t)
def chgc (d : Int) (r : RG) : List Value := .int .i64 d :: rgc r
abbrev chgV (d : Int) (r : RG) : Value := .agg #[.int .i64 d, .int .u64 r.fr, .int .u64 r.to, .int .u8 r.pr, .int .i64 r.ino, .int .u64 r.off]
theorem Row.c6 {w : World} {g : Nat} {E : TypeId} {d : Int} {x : RG} (h : Row w g E (chgc d x)) : w.cell? ⟨g, 0, none⟩ = some (.int .i64 d) ∧ w.cell? ⟨g, 1, none⟩ = some (.int .u64 x.fr) ∧ w.cell? ⟨g, 2, none⟩ = some (.int .u64 x.to) ∧ w.cell? ⟨g, 3, none⟩ = some (.int .u8 x.pr) ∧ w.cell? ⟨g, 4, none⟩ = some (.int .i64 x.ino) ∧ w.cell? ⟨g, 5, none⟩ = some (.int .u64 x.off) :=
  ⟨h.cell 0 (by simp [chgc, rgc]), h.cell 1 (by simp [chgc, rgc]), h.cell 2 (by simp [chgc, rgc]), h.cell 3 (by simp [chgc, rgc]), h.cell 4 (by simp [chgc, rgc]), h.cell 5 (by simp [chgc, rgc])⟩
abbrev rgA (x : RG) : Array Value := #[.int .u64 x.fr, .int .u64 x.to, .int .u8 x.pr, .int .i64 x.ino, .int .u64 x.off]
abbrev zA : Array Value := #[.int .u64 0, .int .u64 0, .int .u8 0, .int .i64 0, .int .u64 0]
abbrev pA (x : RG) (q : Int) : Array Value := #[.int .u64 x.fr, .int .u64 x.to, .int .u8 q, .int .i64 x.ino, .int .u64 x.off]
theorem at_one (r : RG) (t : Int) (h : r.fr ≤ t ∧ t < r.to) : atR [r] t = some (valR r t) := by
  unfold atR findR
  rw [List.find?_cons, show hits t r = true from (hits_iff t r).2 h]
  rfl
theorem one_rgs {w : World} {g : Nat} {E : TypeId} {x : RG} (h : Row w g E (rgc x)) : Rgs w (some ⟨g, 0, none⟩) 1 [x] := ⟨rfl, fun i hi => ⟨g, 0, rfl, by
  simp only [List.length_cons, List.length_nil] at hi
  obtain rfl : i = 0 := by omega
  simpa using h.rg⟩⟩

set_option maxRecDepth 100000 in
set_option maxHeartbeats 4000000 in
theorem fits_any (a b ta : Option Addr) (la lb tn ca cb tc : Nat) (l m : List RG) (d : Int) (r : RG) (ts : List Int) (w : World) (hA : Rgs w a la l) (hB : Rgs w b lb m) (hT : Nums w .u64 ta tn ts) (h1 : la ≤ 64) (h2 : lb ≤ 64) (h3 : tn ≤ 2000) (hd : d = 1 ∨ d = 2 ∨ d = 3) (ht : ∀ t ∈ ts, CF l m d r t) :
    Calls Try.prog 29 #[.slice a la ca, .slice b lb cb, chgV d r, .slice ta tn tc] w fun e w' => e = .returned (.bool true) ∧ Below w.heap.size w w' := by
  obtain rfl := hT.hlen
  have HA := hid hA
  have HB := hid hB
  have HT := hid hT
  have HF := hid ht
  have HC := hid (Row.new w 49 (chgc d r))
  have HW := hid (@bal w)
  clear hA hB hT ht
  go_enter Try.func29, Try.ntmps29
  go_wp2_with fail
  go_loopw [9] (fun i wr => ∃ k : Nat, k ≤ ts.length ∧ i = .int .i64 k ∧ Row wr w.heap.size 49 (chgc d r) ∧ Below w.heap.size w wr) (fun i _ => ts.length - (intOf i).toNat)
  case atStart => exact ⟨0, Nat.zero_le _, rfl, HC.out, HW.out _⟩
  case round =>
    obtain ⟨k, hk, rfl, hc, hb⟩ := hrel
    have HC1 := hid hc
    have HB1 := hid hb
    have HA1 := hid (HA.out.below hb)
    have HM1 := hid (HB.out.below hb)
    have HT1 := hid (HT.out.below' hb)
    clear hc hb
    by_cases hlt : k < ts.length
    · have d1 : decide ((k : Int) < (ts.length : Int)) = true := by simp; omega
      have d1n : decide (k < ts.length) = true := by simp; omega
      obtain ⟨bt, ot, rfl, hct⟩ := HT1.out.cell k hlt
      have hbt := World.block_lt_of_cell? _ _ hct
      have HFt := hid (HF.out _ (List.getElem_mem hlt))
      generalize ts[k] = t at *
      go_wp2_with fail
      refine (at_any _ _ _ l t _ HA1.out (by omega)).mono ?_
      rintro e' w1 ⟨rfl, hb⟩
      have HA2 := hid (fun o => (HA1.out.below hb).below (bal o))
      have HM2 := hid (fun o => (HM1.out.below hb).below (bal o))
      have HC2 := hid (fun o => (HC1.out.bel hb).alloc o)
      have HB2 := hid (fun o => bal2 (bthen HB1.out hb) o)
      have HX2 := hid (Row.new w1 25 (rgc ((atR l t).getD rg0)))
      have hKw : w.heap.size < w1.heap.size := Nat.lt_of_lt_of_le HC1.out.lt hb.size
      clear hb
      generalize hX : (atR l t).getD rg0 = X at *
      generalize hS : (atR l t).isSome = hs at *
      have HXE := hid hX
      have HSE := hid hS
      clear hX hS
      go_wp2_with fail
      refine (at_any _ _ _ m t _ (HM2.out _) (by omega)).mono ?_
      rintro e' w2 ⟨rfl, hb⟩
      have HA3 := hid (fun o => ((HA2.out _).below hb).below (bal o))
      have HM3 := hid (fun o => ((HM2.out _).below hb).below (bal o))
      have HC3 := hid (fun o => ((HC2.out _).bel hb).alloc o)
      have HB3 := hid (fun o => bal2 (bthen (HB2.out _) hb) o)
      have HX3 := hid (fun o => (HX2.out.bel hb).alloc o)
      have hsz := hb.size
      simp only [World.size_alloc] at hsz
      clear hb
      by_cases hin : r.fr ≤ t ∧ t < r.to
      · obtain ⟨c1, c2⟩ := hin
        rcases hd with rfl | rfl | rfl
        · have hq := HFt.out.1.1 ⟨c1, c2⟩ rfl
          rw [hq]
          simp only [Option.getD_some, Option.isSome_some]
          have HY3 := hid (show Row (w2.alloc (.cells (rgA (valR r t)) 25)) w2.heap.size 25 (rgc (valR r t)) from Row.new w2 25 (rgc (valR r t)))
          have HO1 := hid (at_one r t ⟨c1, c2⟩)
          have HC4 := hid (HC3.out (.cells (rgA (valR r t)) 25))
          have HX4 := hid (HX3.out (.cells (rgA (valR r t)) 25))
          have HB4 := hid (HB3.out (.cells (rgA (valR r t)) 25))
          generalize valR r t = Y at *
          have heq : ∀ w : World, (binOp .neq 25 (rgV Y) (rgV Y)).run Try.prog w = .ok (.bool false) w := fun w => by rw [rg_neq, eqR_self]; rfl
          obtain ⟨k0, k1, k2, k3, k4, k5⟩ := HC4.out.c6
          have hlk := HC4.out.lt
          have HR := hid (show Rgs ((w2.alloc (.cells (rgA Y) 25)).alloc (.cells (rgA r) 25)) (some ⟨w2.heap.size + 1, 0, none⟩) 1 [r] from by
            have := one_rgs (Row.new (w2.alloc (.cells (rgA Y) 25)) 25 (rgc r))
            rw [World.size_alloc] at this
            exact this)
          have HC5 := hid (HC4.out.alloc (.cells (rgA r) 25))
          have HX5 := hid (HX4.out.alloc (.cells (rgA r) 25))
          have HY5 := hid (HY3.out.alloc (.cells (rgA r) 25))
          have HB5 := hid (bal2 HB4.out (.cells (rgA r) 25))
          go_wp2_with fail
          refine (at_any _ _ _ [r] t _ HR.out (by omega)).mono ?_
          rintro e' w3 ⟨rfl, hb⟩
          rw [HO1.out]
          simp only [Option.getD_some, Option.isSome_some]
          have HCF := hid (HC5.out.bel hb)
          have HX6 := hid (HX5.out.bel hb)
          have HY6 := hid (HY5.out.bel hb)
          have HBF := hid (bthen HB5.out hb)
          clear hb k0 k1 k2 k3 k4 k5 hlk
          obtain ⟨k0, k1, k2, k3, k4, k5⟩ := HCF.out.c6
          obtain ⟨x0, x1, x2, x3, x4⟩ := HX6.out.c5
          obtain ⟨fx0, fx1, fx2, fx3, fx4⟩ := HX6.out.fiveF
          obtain ⟨y0, y1, y2, y3, y4⟩ := HY6.out.c5
          have hlk := HCF.out.lt
          have hlx := HX6.out.lt
          have hly := HY6.out.lt
          have hne1 : w1.heap.size ≠ w2.heap.size := by omega
          have hne2 : w.heap.size ≠ w1.heap.size := by omega
          go_wp2_with fail
          go_roundw
          case rel =>
            refine ⟨k + 1, by omega, by go_num, ?_, ?_⟩
            · repeat (with_reducible refine Row.other ?_ (by show w.heap.size ≠ w1.heap.size; omega) _)
              exact HCF.out
            · repeat (with_reducible refine bset ?_ (by omega) _)
              exact HBF.out
          case measure => simp [intOf]; omega
        · have hq := HFt.out.1.2.1 ⟨c1, c2⟩ rfl
          rw [hq]
          clear hq
          simp only [Option.getD_none, Option.isSome_none, rg0]
          have HY3 := hid (show Row (w2.alloc (.cells zA 25)) w2.heap.size 25 (rgc rg0) from Row.new w2 25 (rgc rg0))
          have HC4 := hid (HC3.out (.cells zA 25))
          have HX4 := hid (HX3.out (.cells zA 25))
          have HB4 := hid (HB3.out (.cells zA 25))
          have heq : ∀ w : World, (binOp .neq 25 (.agg zA) (.agg zA)).run Try.prog w = .ok (.bool false) w := fun w => by
            have := rg_neq w rg0 rg0
            rw [eqR_self] at this
            exact this
          obtain ⟨k0, k1, k2, k3, k4, k5⟩ := HC4.out.c6
          obtain ⟨x0, x1, x2, x3, x4⟩ := HX4.out.c5
          obtain ⟨fx0, fx1, fx2, fx3, fx4⟩ := HX4.out.fiveF
          obtain ⟨y0, y1, y2, y3, y4⟩ := HY3.out.c5
          simp only [rg0] at y0 y1 y2 y3 y4
          have hlk := HC4.out.lt
          have hlx := HX4.out.lt
          have hly := HY3.out.lt
          have hne1 : w1.heap.size ≠ w2.heap.size := by omega
          have hne2 : w.heap.size ≠ w1.heap.size := by omega
          have HCF := HC4
          have HBF := HB4
          go_wp2_with fail
          go_roundw
          case rel =>
            refine ⟨k + 1, by omega, by go_num, ?_, ?_⟩
            · repeat (with_reducible refine Row.other ?_ (by show w.heap.size ≠ w1.heap.size; omega) _)
              exact HCF.out
            · repeat (with_reducible refine bset ?_ (by omega) _)
              exact HBF.out
          case measure => simp [intOf]; omega
        · obtain ⟨x, hq1, hq2⟩ := HFt.out.1.2.2 ⟨c1, c2⟩ rfl
          rw [hq2]
          rw [hq1] at HXE HSE
          have hx1 := HXE.out
          have hs1 := HSE.out
          simp only [Option.getD_some, Option.isSome_some] at hx1 hs1
          subst hx1 hs1
          simp only [Option.getD_some, Option.isSome_some, protR]
          clear hq1 hq2
          have HY3 := hid (show Row (w2.alloc (.cells (pA x r.pr) 25)) w2.heap.size 25 (rgc (protR r.pr x)) from Row.new w2 25 (rgc (protR r.pr x)))
          have HC4 := hid (HC3.out (.cells (pA x r.pr) 25))
          have HX4 := hid (HX3.out (.cells (pA x r.pr) 25))
          have HB4 := hid (HB3.out (.cells (pA x r.pr) 25))
          have heq : ∀ w : World, (binOp .neq 25 (.agg (pA x r.pr)) (.agg (pA x r.pr))).run Try.prog w = .ok (.bool false) w := fun w => by
            have := rg_neq w (protR r.pr x) (protR r.pr x)
            rw [eqR_self] at this
            exact this
          obtain ⟨k0, k1, k2, k3, k4, k5⟩ := HC4.out.c6
          obtain ⟨x0, x1, x2, x3, x4⟩ := HX4.out.c5
          obtain ⟨fx0, fx1, fx2, fx3, fx4⟩ := HX4.out.fiveF
          obtain ⟨y0, y1, y2, y3, y4⟩ := HY3.out.c5
          simp only [protR] at y0 y1 y2 y3 y4
          have hlk := HC4.out.lt
          have hlx := HX4.out.lt
          have hly := HY3.out.lt
          have hne1 : w1.heap.size ≠ w2.heap.size := by omega
          have hne2 : w.heap.size ≠ w1.heap.size := by omega
          have HCF := HC4
          have HBF := HB4
          go_wp2_with fail
          go_roundw
          case rel =>
            refine ⟨k + 1, by omega, by go_num, ?_, ?_⟩
            · repeat (with_reducible refine Row.other ?_ (by show w.heap.size ≠ w1.heap.size; omega) _)
              exact HCF.out
            · repeat (with_reducible refine bset ?_ (by omega) _)
              exact HBF.out
          case measure => simp [intOf]; omega
      · have hq := HFt.out.2 hin
        rw [hq, HXE.out, HSE.out]
        clear hq
        have HY3 := hid (show Row (w2.alloc (.cells (rgA X) 25)) w2.heap.size 25 (rgc X) from Row.new w2 25 (rgc X))
        have heq : ∀ w : World, (binOp .neq 25 (rgV X) (rgV X)).run Try.prog w = .ok (.bool false) w := fun w => by rw [rg_neq, eqR_self]; rfl
        have HC4 := hid (HC3.out (.cells (rgA X) 25))
        have HX4 := hid (HX3.out (.cells (rgA X) 25))
        have HB4 := hid (HB3.out (.cells (rgA X) 25))
        obtain ⟨k0, k1, k2, k3, k4, k5⟩ := HC4.out.c6
        obtain ⟨x0, x1, x2, x3, x4⟩ := HX4.out.c5
        obtain ⟨y0, y1, y2, y3, y4⟩ := HY3.out.c5
        have hlk := HC4.out.lt
        have hlx := HX4.out.lt
        have hly := HY3.out.lt
        rcases hd with rfl | rfl | rfl <;> cases hs <;> by_cases c1 : r.fr ≤ t
        all_goals
          first
            | (have c2 : ¬ t < r.to := fun h => hin ⟨c1, h⟩
               have b1 : decide (r.fr ≤ t) = true := decide_eq_true c1
               have b2 : decide (t < r.to) = false := decide_eq_false c2
               clear hin
               go_wp2_with fail
               go_roundw
               case rel => exact ⟨k + 1, by omega, by go_num, HC4.out, HB4.out⟩
               case measure => simp [intOf]; omega)
            | (have b1 : decide (r.fr ≤ t) = false := decide_eq_false c1
               clear hin
               go_wp2_with fail
               go_roundw
               case rel => exact ⟨k + 1, by omega, by go_num, HC4.out, HB4.out⟩
               case measure => simp [intOf]; omega)
    · have d1 : decide ((k : Int) < (ts.length : Int)) = false := by simp; omega
      have d1n : decide (k < ts.length) = false := by simp; omega
      go_wp2_with fail
      go_ret
      exact ⟨rfl, HB1.out⟩
end Go.Proofs.Ytcafmhhfnleanaa
