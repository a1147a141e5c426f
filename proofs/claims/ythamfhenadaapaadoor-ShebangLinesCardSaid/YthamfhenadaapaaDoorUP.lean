
/- What the rows list; openings of hostellaw21's arguments. -/
import Derived.Test.YthamfhenadaapaaDoorVOm
import Derived.Test.YthamfhenadaapaaDoorKN
import Derived.Test.YthamfhenadaapaaDoorOT
import Derived.Test.YthamfhenadaapaaDoorKO
import Derived.Lay
namespace Go.Proofs.YthamfhenadaapaaDoor
open Go.ChangeShapes Go.WideShapes Go.ChangeAt Go.RowKit Go.Sort

def laidU : List (String × DataW Unit) := [("unicode/utf8.acceptRanges", Rows.laid_unicode_utf8_acceptRanges), ("unicode/utf8.first", Rows.laid_unicode_utf8_first)]
theorem pin_met (os : Os) (args : Array Value) : laidMetH Tryd.prog laidU ((World.laidAll Tryd.prog os laidU).forCall (fun _ _ => 0) ⟨#[], args, []⟩).memory := by
  rw [MakeChecks.laidMetH_plain _ _ _ (by kernel_rfl)]
  exact laidMet_laidAll _ (by kernel_rfl) (by kernel_rfl)

theorem leavesLine : leaves Tryd.prog 2 23 = [(0, 9), (1, 9), (2, 9)] := by kernel_rfl
theorem cellsLine : Tryd.prog.cellsOf 23 = 3 := by kernel_rfl
section
variable {H : Type} {enc : TypeId × Value → H} {w : World}
set_option maxRecDepth 100000 in
theorem open_line {held : Bool} {r : Reach} {b0 : Nat} {v : Value} {d : DataW H} {ps : List MemPlace} (hv : Value.okWide Tryd.prog w r b0 23 v) (h : DataW.Trod enc Tryd.prog w 0 (fun _ => true) held 23 v d ps) (hz : (d.weights Tryd.prog 23).all (· ≤ reachBytes) = true) :
    ∃ (p q l : BL), v = .agg #[.string (ba p), .string (ba q), .string (ba l)] ∧ p.length ≤ 140737488351232 ∧ q.length ≤ 140737488351232 ∧ l.length ≤ 140737488351232 := by
  obtain ⟨cs, rfl, hsz, hc⟩ := open_agg (n := 2) Tryd.underlying23 hv h (small_of hz)
  rw [cellsLine] at hsz
  rw [leavesLine] at hc
  obtain ⟨l, hl⟩ : ∃ l, cs = ⟨l⟩ := ⟨cs.toList, rfl⟩
  subst hl
  match l, hsz with
  | [v0, v1, v2], _ =>
    obtain ⟨m0, y0, t0, s0⟩ := hc 0 9 (by simp) (by kernel_rfl) (by simp)
    obtain ⟨m1, y1, t1, s1⟩ := hc 1 9 (by simp) (by kernel_rfl) (by simp)
    obtain ⟨m2, y2, t2, s2⟩ := hc 2 9 (by simp) (by kernel_rfl) (by simp)
    obtain ⟨x0, rfl, hx0⟩ := leaf_string Tryd.underlying9 t0 s0
    obtain ⟨x1, rfl, hx1⟩ := leaf_string Tryd.underlying9 t1 s1
    obtain ⟨x2, rfl, hx2⟩ := leaf_string Tryd.underlying9 t2 s2
    rw [reach_is] at hx0 hx1 hx2
    exact ⟨x0, x1, x2, rfl, hx0, hx1, hx2⟩
set_option maxRecDepth 100000 in
theorem open_txtsU {r : Reach} {b0 : Nat} {v : Value} {d : DataW H} {ps : List MemPlace} (hv : Value.okWide Tryd.prog w r b0 41 v) (h : DataW.Trod enc Tryd.prog w 0 (fun _ => true) true 41 v d ps) (hz : (d.weights Tryd.prog 41).all (· ≤ reachBytes) = true) :
    ∃ a len cap ds, v = .slice a len cap ∧ Cel w a len (strs ds) ∧ len ≤ cap ∧ (a = none → cap = 0) ∧ cap ≤ 8796093022207 ∧ ∀ p ∈ ds, p.length ≤ 140737488351232 := by
  obtain ⟨a, len, cap, rfl⟩ := okWide_slice Tryd.underlying41 hv
  obtain ⟨fuel, hf⟩ := h
  exact open_txts Tryd.underlying41 Tryd.underlying9 (by kernel_rfl) (by kernel_rfl) ⟨fuel, hf⟩ hz
end
end Go.Proofs.YthamfhenadaapaaDoor
