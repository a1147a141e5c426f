
/- hostellaw08: Great, twins, vast. -/
import Derived.Test.YtlfgogjjnekfpaaDoorBcG
namespace Go.Proofs.YtlfgogjjnekfpaaDoor
open Go.RowKit Go.Sort Go.Shelf Go.WideMaps Go.Maps Go.WideShapes Go.WideElems Go.MapKept Go.ChangeMaps
attribute [local go_sem] Oper.semAt_some

def smallE8 (x : EN) : Prop := x.path.length ≤ 524288 ∧ x.to.length ≤ 524288 ∧ x.data.length ≤ 524288
theorem EntsIn.small8 {w : World} {a : Option Addr} {n : Nat} {xs : List EN} (h : EntsIn w a n xs) (hs : ∀ x ∈ xs, smallE8 x) : Ents w a n xs :=
  ⟨h.rows, fun x hx => by
    obtain ⟨h1, h2, h3, h4, h5, h6⟩ := h.ok x hx
    obtain ⟨s1, s2, s3⟩ := hs x hx
    exact ⟨h1, h2, by omega, by omega, by omega, h6⟩⟩
def GreatP (w : World) (xs : List EN) (e : Ending) (w' : World) : Prop := ∃ b, e = .returned (.bool b) ∧ Below w.heap.size w w' ∧ (b = false → ∀ x ∈ xs, smallE8 x)
set_option maxRecDepth 100000 in
set_option maxHeartbeats 4000000 in
theorem great_any (a : Option Addr) (cap : Nat) (xs : List EN) (w : World) (hX : EntsIn w a xs.length xs) (hl : xs.length ≤ 64) :
    Calls Tryd.prog 42 #[.slice a xs.length cap] w (GreatP w xs) := by
  have HX := hid hX
  have HL := hid hl
  have d0 : decide ((128 : Int) < (xs.length : Int)) = false := by simp; omega
  clear hX
  go_enter Tryd.func42, Tryd.ntmps42
  go_wp2_with fail
  clear d0
  go_loopw [3, 4] (fun n i wr => Below w.heap.size w wr ∧ ∃ k m : Nat, k ≤ xs.length ∧ i = .int .i64 k ∧ n = .int .i64 m ∧ m ≤ 524288 ∧ ∀ j (hj : j < xs.length), j < k → min xs[j].path.length 1048576 ≤ m ∧ min xs[j].data.length 1048576 ≤ m ∧ min xs[j].to.length 1048576 ≤ m) (fun _ i _ => xs.length - (intOf i).toNat)
  case atStart => exact ⟨Below.refl _ _, 0, 0, Nat.zero_le _, rfl, rfl, by omega, fun j _ h => by omega⟩
  case round =>
    obtain ⟨hbw, k, m, hk, rfl, rfl, h2, h3⟩ := hrel
    have H3 := hid h3
    have HBW := hid hbw
    clear h3 hbw
    by_cases hlt : k < xs.length
    · have d1 : decide ((k : Int) < (xs.length : Int)) = true := by simp; omega
      have d1n : decide (k < xs.length) = true := by simp; omega
      obtain ⟨b, o, rfl, hcell⟩ := (HX.out.rows.below' HBW.out).some_of (by simp; omega)
      have g := fun j hj => hcell k (by simpa using hlt) j hj
      have e9 : (xs.map EN.cs)[k]'(by simpa using hlt) = xs[k].cs := by simp
      rw [e9] at g
      have g0 := g 0 (by simp [EN.cs])
      have g5 := g 5 (by simp [EN.cs])
      have g6 := g 6 (by simp [EN.cs])
      simp only [EN.cs, List.getElem_cons_zero, List.getElem_cons_succ, Nat.add_zero] at g0 g5 g6
      have HOK := hid (HX.out.ok _ (List.getElem_mem hlt))
      have HSTEP := hid (fun (m' : Nat) (hm : m ≤ m') (hx : min (xs[k].path.length) 1048576 ≤ m' ∧ min (xs[k].data.length) 1048576 ≤ m' ∧ min (xs[k].to.length) 1048576 ≤ m') => show ∀ j (hj : j < xs.length), j < k + 1 → min xs[j].path.length 1048576 ≤ m' ∧ min xs[j].data.length 1048576 ≤ m' ∧ min xs[j].to.length 1048576 ≤ m' from fun j hj hjk => by
        by_cases e : j = k
        · subst e; exact hx
        · obtain ⟨q1, q2, q3⟩ := H3.out j hj (by omega)
          exact ⟨Nat.le_trans q1 hm, Nat.le_trans q2 hm, Nat.le_trans q3 hm⟩)
      clear hcell g e9
      generalize xs[k] = x at *
      have hp := HOK.out.path
      have ht := HOK.out.to
      have hd := HOK.out.data
      have e1 : (ba x.path).size = x.path.length := ba_size _
      have e2 : (ba x.to).size = x.to.length := ba_size _
      generalize hmp : min x.path.length 1048576 = mp at *
      generalize hmd : min x.data.length 1048576 = md at *
      generalize hmt : min x.to.length 1048576 = mt at *
      have i1 : (if decide ((1048576 : Int) < ((ba x.path).size : Int)) = true then (1048576 : Int) else ((ba x.path).size : Int)) = (mp : Int) := by rw [e1]; split <;> simp_all <;> omega
      have hblt := World.block_lt_of_cell? _ _ g0
      dsimp only at hblt
      go_wp2_with fail
      go_quiet (fail)
      have HSUM := hid (show ((m + md + mp + mt : Nat) : Int) = (m : Int) + min (x.data.length : Int) 1048576 + min (x.path.length : Int) 1048576 + min (x.to.length : Int) 1048576 by omega)
      have HB := hid (show mp ≤ 1048576 ∧ md ≤ 1048576 ∧ mt ≤ 1048576 by omega)
      rw [← HSUM.out]
      clear hmp hmd hmt i1 e1 e2 hp ht hd
      obtain ⟨M, hM⟩ : ∃ M, M = m + md + mp + mt := ⟨_, rfl⟩
      rw [← hM]
      have HM := hid hM
      by_cases hn : M ≤ 524288
      · have d2 : decide ((524288 : Int) < (M : Int)) = false := by simp; omega
        clear hM
        go_wp2_with fail
        go_roundw
        case rel =>
          obtain ⟨q1, q2, q3⟩ := HB.out
          have := HM.out
          exact ⟨bdN HBW.out _, k + 1, M, by omega, by go_num, rfl, hn, HSTEP.out _ (by omega) ⟨by omega, by omega, by omega⟩⟩
        case measure => simp [intOf]; omega
      · have d2 : decide ((524288 : Int) < (M : Int)) = true := by simp; omega
        clear hM
        go_wp2_with fail
        go_ret
        exact ⟨true, rfl, bdN HBW.out _, fun h => (by cases h)⟩
    · have d1 : decide ((k : Int) < (xs.length : Int)) = false := by simp; omega
      have d1n : decide (k < xs.length) = false := by simp; omega
      have HLE := hid (show ∀ x ∈ xs, smallE8 x from fun x hx => by
        obtain ⟨j, hj, rfl⟩ := List.getElem_of_mem hx
        obtain ⟨q1, q2, q3⟩ := H3.out j hj (by omega)
        exact ⟨by omega, by omega, by omega⟩)
      go_wp2_with fail
      go_ret
      exact ⟨false, rfl, HBW.out, fun _ => HLE.out⟩
/-- Files, and how many frames. -/
def flV (a : Option Addr) (n cap : Nat) (N : Int) : Value := .agg #[.slice a n cap, .int .i64 N]
def VastP (w : World) (xs : List EN) (N : Int) (m : Nat) (e : Ending) (w' : World) : Prop := ∃ b, e = .returned (.bool b) ∧ Below w.heap.size w w' ∧ (b = false → (∀ x ∈ xs, smallE8 x) ∧ xs.length ≤ 64 ∧ N ≤ 64 ∧ m ≤ 200)
set_option maxRecDepth 100000 in
set_option maxHeartbeats 4000000 in
theorem vast8_any (a : Option Addr) (cap : Nat) (xs : List EN) (N : Int) (oa : Option Addr) (m oc : Nat) (w : World) (hX : EntsIn w a xs.length xs) :
    Calls Tryd.prog 19 #[flV a xs.length cap N, .slice oa m oc] w (VastP w xs N m) := by
  obtain ⟨w1, hw1⟩ : ∃ w1, w1 = w.alloc (.cells #[.slice a xs.length cap, .int .i64 N] 43) := ⟨_, rfl⟩
  have HB1 := hid (show Below w.heap.size w w1 by rw [hw1]; exact bal _)
  have HR1 := hid (show Row w1 w.heap.size 43 [.slice a xs.length cap, .int .i64 N] by rw [hw1]; exact Row.new w _ _)
  have HX1 := hid (show EntsIn w1 a xs.length xs from ⟨hX.rows.below' HB1.out, fun x hx => by
    obtain ⟨h1, h2, h3, h4, h5, h6⟩ := hX.ok x hx
    exact ⟨h1.below' HB1.out, h2, h3, h4, h5, h6⟩⟩)
  have HW1 := hid hw1
  clear hX hw1
  unfold flV
  by_cases c1 : 200 < m
  · have d1 : decide ((200 : Int) < (m : Int)) = true := by simp; omega
    clear c1
    go_enter Tryd.func19, Tryd.ntmps19
    go_wp2_with fail
    go_ret
    exact ⟨true, rfl, bal _, fun h => (by cases h)⟩
  have d1 : decide ((200 : Int) < (m : Int)) = false := by simp; omega
  by_cases c2 : 64 < N
  · have d2 : decide (64 < N) = true := decide_eq_true c2
    clear c1 c2
    go_enter Tryd.func19, Tryd.ntmps19
    go_wp2_with fail
    go_ret
    exact ⟨true, rfl, bal _, fun h => (by cases h)⟩
  have d2 : decide (64 < N) = false := decide_eq_false c2
  by_cases c3 : 64 < xs.length
  · have d3 : decide ((64 : Int) < (xs.length : Int)) = true := by simp; omega
    clear c1 c2 c3
    go_enter Tryd.func19, Tryd.ntmps19
    go_wp2_with fail
    go_ret
    exact ⟨true, rfl, bal _, fun h => (by cases h)⟩
  have d3 : decide ((64 : Int) < (xs.length : Int)) = false := by simp; omega
  have HC := hid (show N ≤ 64 ∧ m ≤ 200 ∧ xs.length ≤ 64 by omega)
  have HGR := hid (great_any a cap xs w1 HX1.out HC.out.2.2)
  clear c1 c2 c3
  go_enter Tryd.func19, Tryd.ntmps19
  go_wp2_with fail
  rw [← HW1.out]
  refine (HGR.out).mono ?_
  rintro e w2 ⟨b, rfl, hb, hs⟩
  have HB2 := hid hb
  have HS := hid hs
  clear hb hs
  go_wp2_with fail
  go_ret
  exact ⟨b, rfl, bthen HB1.out HB2.out, fun h => ⟨HS.out h, HC.out.2.2, HC.out.1, HC.out.2.1⟩⟩
/-- What a list of bytes of the call's own is. -/
theorem own_data {w : World} {base n : Nat} {v : Value} {l : List UInt8} (h : w.ownsRow base 5 1 v n (l.map B8)) : ∃ a c, v = .slice a n c ∧ Byt w a n l ∧ (a = none → c = 0) ∧ (∀ b, a = some b → base ≤ b.block ∧ b.block < w.heap.size) ∧ (∀ b, a = some b → ∃ cs, w.heap[b.block]? = some (Obj.cells cs 5 (0, 0))) := by
  rcases h.2 with ⟨rfl, rfl⟩ | ⟨g, cap, cur, rfl, hb, hg, r⟩
  · obtain rfl : l = [] := by have := h.1; simpa using this
    exact ⟨none, 0, rfl, Byt.nil _ _, fun _ => rfl, fun b e => (by cases e), fun b e => (by cases e)⟩
  · obtain ⟨a, c, e, hby⟩ := own_byt h
    have i0 := Value.slice.inj e
    refine ⟨_, _, rfl, by rw [i0.1]; exact hby, fun e => (by cases e), fun b e => ?_, fun b e => ?_⟩
    · cases e; exact ⟨hb, (Array.getElem?_eq_some_iff.1 hg).1⟩
    · cases e; exact ⟨cur, hg⟩
end Go.Proofs.YtlfgogjjnekfpaaDoor
