/- hostellaw06.Large. -/
import Derived.Test.YtgclemicgcbpjaaFC
import Derived.BigQuiet
import Derived.IntWalk
namespace Go.Proofs.Ytgclemicgcbpjaa
open Go.RowKit Go.Sort

/-- An entry as an argument. -/
structure EnIn (w : World) (x : EN) : Prop where
  byt : Byt w x.a x.data.length x.data
  nil : x.a = none → x.c = 0
  path : x.path.length ≤ 140737488351232
  to : x.to.length ≤ 140737488351232
  data : x.data.length ≤ 140737488351232
  mode : 0 ≤ x.mode ∧ x.mode ≤ 65535
structure EntsIn (w : World) (a : Option Addr) (n : Nat) (xs : List EN) : Prop where
  rows : Rk w 7 a n (xs.map EN.cs)
  ok : ∀ x ∈ xs, EnIn w x
def smallE (x : EN) : Prop := x.path.length ≤ 262144 ∧ x.to.length ≤ 262144 ∧ x.data.length ≤ 262144
def LargeE (w : World) (xs : List EN) (e : Ending) (w' : World) : Prop := ∃ b, e = .returned (.bool b) ∧ Below w.heap.size w w' ∧ (b = false → xs.length ≤ 262144 ∧ ∀ x ∈ xs, smallE x)
theorem EntsIn.small {w : World} {a : Option Addr} {n : Nat} {xs : List EN} (h : EntsIn w a n xs) (hs : ∀ x ∈ xs, smallE x) : Ents w a n xs :=
  ⟨h.rows, fun x hx => by
    obtain ⟨h1, h2, h3, h4, h5, h6⟩ := h.ok x hx
    obtain ⟨s1, s2, s3⟩ := hs x hx
    exact ⟨h1, h2, by omega, by omega, by omega, h6⟩⟩

set_option maxRecDepth 100000 in
set_option maxHeartbeats 4000000 in
theorem largeE_any (a : Option Addr) (len cap : Nat) (xs : List EN) (w : World) (hX : EntsIn w a len xs) (hl : len ≤ 140737488351232) :
    Calls Try.prog 17 #[.slice a len cap] w (LargeE w xs) := by
  obtain rfl : xs.length = len := by have := hX.rows.hlen; simpa using this
  have HX := hid hX
  clear hX
  go_enter Try.func17, Try.ntmps17
  go_wp2_with fail
  go_loopw [3, 4] (fun n i wr => Below w.heap.size w wr ∧ ∃ k m : Nat, k ≤ xs.length ∧ i = .int .i64 k ∧ n = .int .i64 m ∧ xs.length ≤ m ∧ m ≤ xs.length + 262144 + 1572864 ∧ ∀ j (hj : j < xs.length), j < k → min xs[j].path.length 524288 ≤ m ∧ min xs[j].data.length 524288 ≤ m ∧ min xs[j].to.length 524288 ≤ m) (fun _ i _ => xs.length - (intOf i).toNat)
  case atStart => exact ⟨Below.refl _ _, 0, xs.length, Nat.zero_le _, rfl, rfl, Nat.le_refl _, by omega, fun j _ h => by omega⟩
  case round =>
    obtain ⟨hbw, k, m, hk, rfl, rfl, h1, h2, h3⟩ := hrel
    have H3 := hid h3
    have HBW := hid hbw
    clear h3 hbw
    by_cases hlt : k < xs.length
    · have d1 : decide ((k : Int) < (xs.length : Int)) = true := by simp; omega
      have d1n : decide (k < xs.length) = true := by simp; omega
      by_cases hn : m ≤ 262144
      · have d2 : decide ((m : Int) ≤ 262144) = true := by simp; omega
        obtain ⟨b, o, rfl, hcell⟩ := (HX.out.rows.below' HBW.out).some_of (by simp; omega)
        have g := fun j hj => hcell k (by simpa using hlt) j hj
        have e9 : (xs.map EN.cs)[k]'(by simpa using hlt) = xs[k].cs := by simp
        rw [e9] at g
        have g0 := g 0 (by simp [EN.cs])
        have g5 := g 5 (by simp [EN.cs])
        have g6 := g 6 (by simp [EN.cs])
        simp only [EN.cs, List.getElem_cons_zero, List.getElem_cons_succ, Nat.add_zero] at g0 g5 g6
        have HOK := hid (HX.out.ok _ (List.getElem_mem hlt))
        have HSTEP := hid (fun (m' : Nat) (hm : m ≤ m') (hx : min (xs[k].path.length) 524288 ≤ m' ∧ min (xs[k].data.length) 524288 ≤ m' ∧ min (xs[k].to.length) 524288 ≤ m') => show ∀ j (hj : j < xs.length), j < k + 1 → min xs[j].path.length 524288 ≤ m' ∧ min xs[j].data.length 524288 ≤ m' ∧ min xs[j].to.length 524288 ≤ m' from fun j hj hjk => by
          by_cases e : j = k
          · subst e; exact hx
          · obtain ⟨q1, q2, q3⟩ := H3.out j hj (by omega)
            exact ⟨Nat.le_trans q1 hm, Nat.le_trans q2 hm, Nat.le_trans q3 hm⟩)
        clear hcell g e9
        generalize xs[k] = x at *
        have hp := HOK.out.path
        have ht := HOK.out.to
        have hd := HOK.out.data
        have e1 : (ba x.path).size = x.path.length := ba_size _
        have e2 : (ba x.to).size = x.to.length := ba_size _
        generalize hmp : min x.path.length 524288 = mp at *
        generalize hmd : min x.data.length 524288 = md at *
        generalize hmt : min x.to.length 524288 = mt at *
        have i1 : (if decide ((524288 : Int) < ((ba x.path).size : Int)) = true then (524288 : Int) else ((ba x.path).size : Int)) = (mp : Int) := by rw [e1]; split <;> simp_all <;> omega
        have hblt := World.block_lt_of_cell? _ _ g0
        dsimp only at hblt
        go_wp2_with fail
        go_quiet (fail)
        have HSUM := hid (show ((m + mp + md + mt : Nat) : Int) = (m : Int) + min (x.path.length : Int) 524288 + min (x.data.length : Int) 524288 + min (x.to.length : Int) 524288 by omega)
        have HB := hid (show mp ≤ 524288 ∧ md ≤ 524288 ∧ mt ≤ 524288 by omega)
        rw [← HSUM.out]
        clear hmp hmd hmt i1 e1 e2 hp ht hd
        go_wp2_with fail
        go_roundw
        case rel =>
          obtain ⟨q1, q2, q3⟩ := HB.out
          exact ⟨bdN HBW.out _, k + 1, m + mp + md + mt, by omega, by go_num, rfl, by omega, by omega, HSTEP.out _ (by omega) ⟨by omega, by omega, by omega⟩⟩
        case measure => simp [intOf]; omega
      · have d2 : decide ((m : Int) ≤ 262144) = false := by simp; omega
        have d3 : decide ((262144 : Int) < (m : Int)) = true := by simp; omega
        go_wp2_with fail
        go_ret
        exact ⟨true, rfl, HBW.out, fun h => by cases h⟩
    · have d1 : decide ((k : Int) < (xs.length : Int)) = false := by simp; omega
      have d1n : decide (k < xs.length) = false := by simp; omega
      have HLE := hid (show m ≤ 262144 → ∀ x ∈ xs, smallE x from fun hm x hx => by
        obtain ⟨j, hj, rfl⟩ := List.getElem_of_mem hx
        obtain ⟨q1, q2, q3⟩ := H3.out j hj (by omega)
        exact ⟨by omega, by omega, by omega⟩)
      by_cases hn : m ≤ 262144
      · have d3 : decide ((262144 : Int) < (m : Int)) = false := by simp; omega
        go_wp2_with fail
        go_ret
        exact ⟨false, rfl, HBW.out, fun _ => ⟨by omega, HLE.out hn⟩⟩
      · have d3 : decide ((262144 : Int) < (m : Int)) = true := by simp; omega
        go_wp2_with fail
        go_ret
        exact ⟨true, rfl, HBW.out, fun h => by cases h⟩
end Go.Proofs.Ytgclemicgcbpjaa
