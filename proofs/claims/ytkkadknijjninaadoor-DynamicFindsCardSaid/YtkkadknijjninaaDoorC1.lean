
/- What the listed variable of stage 1 gives a walk; closed facts of the program. -/
import Derived.Test.YtkkadknijjninaaDoorW1
import Derived.Test.YtkkadknijjninaaDoorKA
namespace Go.Proofs.YtkkadknijjninaaDoor
open Go.ChangeShapes Go.WideShapes Go.ChangeAt Go.RowKit

theorem own : ownKnob Tryd.prog.godebug = none := by kernel_rfl
theorem laidOut : laidOutB Tryd.prog = true := by kernel_rfl
theorem gSizes : Tryd.prog.globalNamed "hostel/words.sizes" = some 1 := by kernel_rfl
theorem tSizes : (Tryd.prog.globals[1]?).map (·.type) = some 151 := by kernel_rfl

/-- What the rows list. -/
def laidS : List (String × DataW Unit) := [("hostel/words.sizes", Rows.laid_hostel_words_sizes)]

theorem door_met (os : Os) (args : Array Value) : laidMetH Tryd.prog laidS ((World.doorLaid Tryd.prog 400 os).forCall (fun _ _ => 0) ⟨#[], args, []⟩).memory :=
  laidMetH_of_parts3 (fuel := 8) (laidMet_of_run' 8 (by kernel_rfl) (by kernel_rfl)) (by kernel_rfl) (by kernel_rfl)

theorem sizes_of_laid {W : World} (h : laidMetH Tryd.prog laidS W) : Sizes W := by
  rw [MakeChecks.laidMetH_plain _ _ _ (by kernel_rfl)] at h
  obtain ⟨ps, ⟨g0, t0, cs0, f0, p0, q0, hg0, ht0, hv0, hd0, _, _⟩, _, _⟩ := h
  obtain rfl := Option.some.inj (gSizes.symm.trans hg0)
  obtain rfl := Option.some.inj (tSizes.symm.trans ht0)
  obtain ⟨xs, m1, rfl, hx1, hlen, hn3, hel⟩ := DataW.trod_array Tryd.underlying151 hd0
  have c3 : Tryd.prog.cellsOf 3 = 1 := by kernel_rfl
  have key : ∀ (j : Nat) (k0 : Int), j < 4 → ([DataW.lit (H := Unit) (.int .i64 1), .lit (.int .i64 2), .lit (.int .i64 4), .lit (.int .i64 8)])[j]? = some (.lit (.int .i64 k0)) → W.cell? ⟨1, j, none⟩ = some (.int .i64 k0) := by
    intro j k0 hj hk0
    have h0 := hel j hj
    simp only [Prod.mk.injEq, Rows.laid_hostel_words_sizes, DataW.agg.injEq] at hx1
    have hjx : j < xs.length := by omega
    obtain ⟨k, e1, e2, _⟩ := DataW.trod_int Tryd.underlying3 (show DataW.trod _ Tryd.prog W 0 _ false m1 3 _ = some xs[j] from by rw [List.getElem?_eq_getElem hjx] at h0; exact h0)
    have hk : k = k0 := by
      have e3 := hx1.1
      have e4 : (xs.map (·.1))[j]? = some (.lit (.int .i64 k0)) := by rw [← e3]; exact hk0
      rw [List.getElem?_map, List.getElem?_eq_getElem hjx] at e4
      simp only [Option.map_some, Option.some.injEq] at e4
      rw [e2] at e4
      simpa using e4
    subst hk
    have := World.var?_cell hg0 hv0 j
    rw [this]
    rw [c3] at e1
    have e5 : (List.take 1 (List.drop (j * 1) cs0.toList))[0]? = some (.int .i64 k) := by rw [e1]; rfl
    simpa using e5
  exact ⟨key 0 1 (by decide) rfl, key 1 2 (by decide) rfl, key 2 4 (by decide) rfl, key 3 8 (by decide) rfl⟩
end Go.Proofs.YtkkadknijjninaaDoor
