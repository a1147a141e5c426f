
/- What the rows list; openings of hostellaw21's arguments. -/
import Derived.Test.YthamfhenadaapaaGreatDoorVOm
import Derived.Test.YthamfhenadaapaaGreatDoorKN
import Derived.Test.YthamfhenadaapaaGreatDoorOT
import Derived.Test.YthamfhenadaapaaGreatDoorKO
import Derived.Lay
namespace Go.Proofs.YthamfhenadaapaaGreatDoor
open Go.ChangeShapes Go.WideShapes Go.ChangeAt Go.RowKit Go.Sort

def laidU : List (String × DataW Unit) := [("unicode/utf8.acceptRanges", Rows.laid_unicode_utf8_acceptRanges), ("unicode/utf8.first", Rows.laid_unicode_utf8_first)]
theorem pin_met (os : Os) (args : Array Value) : laidMetH Tryz.prog laidU ((World.laidAll Tryz.prog os laidU).forCall (fun _ _ => 0) ⟨#[], args, []⟩).memory := by
  rw [MakeChecks.laidMetH_plain _ _ _ (by kernel_rfl)]
  exact laidMet_laidAll _ (by kernel_rfl) (by kernel_rfl)

theorem leavesRun : leaves Tryz.prog 2 29 = [(0, 9), (1, 27)] := by kernel_rfl
theorem cellsRun : Tryz.prog.cellsOf 29 = 2 := by kernel_rfl
section
variable {H : Type} {enc : TypeId × Value → H} {w : World}
set_option maxRecDepth 100000 in
theorem open_run {r : Reach} {b0 : Nat} {v : Value} {d : DataW H} {ps : List MemPlace} (hv : Value.okWide Tryz.prog w r b0 29 v) (h : DataW.Trod enc Tryz.prog w 0 (fun _ => true) true 29 v d ps) (hz : (d.weights Tryz.prog 29).all (· ≤ reachBytes) = true) :
    ∃ (p : BL) (a : Option Addr) (c : Nat) (ds : List BL), v = .agg #[.string (ba p), .slice a ds.length c] ∧ p.length ≤ 140737488351232 ∧ Cel w a ds.length (strs ds) ∧ ds.length ≤ 8796093022207 ∧ ds.length ≤ c ∧ (a = none → c = 0) ∧ ∀ p ∈ ds, p.length ≤ 140737488351232 := by
  obtain ⟨cs, rfl, hsz, hc⟩ := open_agg (n := 2) Tryz.underlying29 hv h (small_of hz)
  rw [cellsRun] at hsz
  rw [leavesRun] at hc
  obtain ⟨l, hl⟩ : ∃ l, cs = ⟨l⟩ := ⟨cs.toList, rfl⟩
  subst hl
  match l, hsz with
  | [v0, v1], _ =>
    obtain ⟨m0, y0, t0, s0⟩ := hc 0 9 (by simp) (by kernel_rfl) (by simp)
    obtain ⟨m1, y1, t1, s1⟩ := hc 1 27 (by simp) (by kernel_rfl) (by simp)
    obtain ⟨x0, rfl, hx0⟩ := leaf_string Tryz.underlying9 t0 s0
    obtain ⟨a, n, c, ds, rfl, hC, hle, hnil, hcap, hds⟩ := leaf_txts t1 s1
    obtain rfl : ds.length = n := by simpa [strs] using hC.hlen
    rw [reach_is] at hx0
    exact ⟨x0, a, c, ds, rfl, hx0, hC, by omega, hle, hnil, hds⟩
set_option maxRecDepth 100000 in
theorem open_txtsU {r : Reach} {b0 : Nat} {v : Value} {d : DataW H} {ps : List MemPlace} (hv : Value.okWide Tryz.prog w r b0 27 v) (h : DataW.Trod enc Tryz.prog w 0 (fun _ => true) true 27 v d ps) (hz : (d.weights Tryz.prog 27).all (· ≤ reachBytes) = true) :
    ∃ a len cap ds, v = .slice a len cap ∧ Cel w a len (strs ds) ∧ len ≤ cap ∧ (a = none → cap = 0) ∧ cap ≤ 8796093022207 ∧ ∀ p ∈ ds, p.length ≤ 140737488351232 := by
  obtain ⟨a, len, cap, rfl⟩ := okWide_slice Tryz.underlying27 hv
  obtain ⟨fuel, hf⟩ := h
  exact open_txts Tryz.underlying27 Tryz.underlying9 (by kernel_rfl) (by kernel_rfl) ⟨fuel, hf⟩ hz
end
end Go.Proofs.YthamfhenadaapaaGreatDoor
