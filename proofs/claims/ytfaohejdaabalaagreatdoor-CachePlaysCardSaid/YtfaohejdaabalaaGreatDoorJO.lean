
/- What the listed variable gives a walk; closed facts of the program. -/
import Derived.Test.YtfaohejdaabalaaGreatDoorKJ
import Derived.Test.YtfaohejdaabalaaGreatDoorKA
import Derived.Test.YtfaohejdaabalaaGreatDoorRows
namespace Go.Proofs.YtfaohejdaabalaaGreatDoor
open Go.ChangeShapes Go.WideShapes Go.ChangeAt Go.RowKit

theorem own : ownKnob Tryz.prog.godebug = none := by kernel_rfl
theorem laidOut : laidOutB Tryz.prog = true := by kernel_rfl
theorem gTab : Tryz.prog.globalNamed "math/bits.deBruijn64tab" = some 0 := by kernel_rfl
theorem tTab : (Tryz.prog.globals[0]?).map (·.type) = some 195 := by kernel_rfl

/-- What the rows list. -/
def laidT : List (String × DataW Unit) := [("math/bits.deBruijn64tab", Rows.laid_math_bits_deBruijn64tab)]
theorem laid_tab : (Rows.laid_math_bits_deBruijn64tab : DataW Unit) = .agg (Lib.deBruijn64tab.map fun (x : Nat) => DataW.lit (.int .u8 (x : Int))) := by kernel_rfl

theorem door_met (os : Os) (args : Array Value) : laidMetH Tryz.prog laidT ((World.doorLaid Tryz.prog 400 os).forCall (fun _ _ => 0) ⟨#[], args, []⟩).memory :=
  laidMetH_of_parts3 (fuel := 8) (laidMet_of_run' 8 (by kernel_rfl) (by kernel_rfl)) (by kernel_rfl) (by kernel_rfl)

theorem tab_of_laid {W : World} (h : laidMetH Tryz.prog laidT W) : Tb W := by
  rw [MakeChecks.laidMetH_plain _ _ _ (by kernel_rfl)] at h
  obtain ⟨ps, ⟨g0, t0, cs0, f0, p0, q0, hg0, ht0, hv0, hd0, _, _⟩, _, _⟩ := h
  obtain rfl := Option.some.inj (gTab.symm.trans hg0)
  obtain rfl := Option.some.inj (tTab.symm.trans ht0)
  obtain ⟨xs, m1, rfl, hx1, hlen, hn3, hel⟩ := DataW.trod_array Tryz.underlying195 hd0
  have c1 : Tryz.prog.cellsOf 5 = 1 := by kernel_rfl
  intro j hj
  have h0 := hel j hj
  simp only [Prod.mk.injEq, laid_tab, DataW.agg.injEq] at hx1
  have hjx : j < xs.length := by omega
  obtain ⟨k, e1, e2, _⟩ := DataW.trod_int Tryz.underlying5 (show DataW.trod _ Tryz.prog W 0 _ false m1 5 _ = some xs[j] from by rw [List.getElem?_eq_getElem hjx] at h0; exact h0)
  have hjl : j < Lib.deBruijn64tab.length := hj
  have hk : k = ((Lib.deBruijn64tab.getD j 0 : Nat) : Int) := by
    have e3 := hx1.1
    have e4 : (xs.map (·.1))[j]? = (Lib.deBruijn64tab.map fun (x : Nat) => (DataW.lit (H := Unit) (.int .u8 (x : Int))))[j]? := by rw [← e3]
    rw [List.getElem?_map, List.getElem?_eq_getElem hjx, List.getElem?_map, List.getElem?_eq_getElem hjl] at e4
    simp only [Option.map_some, Option.some.injEq] at e4
    rw [e2] at e4
    simp only [DataW.lit.injEq, Lit.int.injEq, true_and] at e4
    rw [e4, List.getD_eq_getElem?_getD, List.getElem?_eq_getElem hjl]
    rfl
  subst hk
  have := World.var?_cell hg0 hv0 j
  rw [this]
  rw [c1] at e1
  have e5 : (List.take 1 (List.drop (j * 1) cs0.toList))[0]? = some (.int .u8 ((Lib.deBruijn64tab.getD j 0 : Nat) : Int)) := by rw [e1]; rfl
  simpa using e5
end Go.Proofs.YtfaohejdaabalaaGreatDoor
