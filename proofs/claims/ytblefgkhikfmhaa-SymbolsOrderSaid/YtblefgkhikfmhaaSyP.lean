/- An object as an argument by value. -/
import Derived.Test.YtblefgkhikfmhaaSyK
import Derived.Test.YtblefgkhikfmhaaSyO
namespace Go.Proofs.Ytblefgkhikfmhaa
open Go.ChangeShapes Go.WideShapes Go.ChangeAt Go.RowKit Go.Sort

section
variable {H : Type} {enc : TypeId × Value → H} {w : World} {held : Bool}
theorem open_cap {r : Reach} {b0 : Nat} {a : Option Addr} {n c : Nat} {d : DataW H} {ps : List MemPlace} (hv : Value.okWide Try.prog w r b0 22 (.slice a n c)) (h : DataW.Trod enc Try.prog w 0 (fun _ => true) held 22 (.slice a n c) d ps) (hz : (d.weights Try.prog 22).all (· ≤ reachBytes) = true) : a = none → c = 0 := by
  obtain ⟨a', n', c', e, _, _, hc, _⟩ := open_rows_arg (n := 0) Try.underlying22 hv h (small_of hz) (by rw [cellsObj]; omega)
  cases e
  exact hc
theorem open_obj {r : Reach} {b0 : Nat} {v : Value} {d : DataW H} {ps : List MemPlace} (hv : Value.okWide Try.prog w r b0 44 v) (h : DataW.Trod enc Try.prog w 0 (fun _ => true) held 44 v d ps) (hz : (d.weights Try.prog 44).all (· ≤ reachBytes) = true) :
    ∃ x : OB, v = obV x ∧ OkO w x := by
  obtain ⟨cs, rfl, hsz, hc⟩ := open_agg (n := 3) Try.underlying44 hv h (small_of hz)
  rw [cellsObj] at hsz
  rw [leavesObj] at hc
  obtain ⟨x, hx, c0, c1, c2, c3, c4, c5, c6, c7, c8, c9, c10⟩ := leaves_obj (C := fun o val => cs[o]? = some val) (fun o u hm hcu ho => by
    obtain ⟨m, y, t, s⟩ := hc o u hm hcu (by omega)
    exact ⟨cs[o]'(by omega), m, y, Array.getElem?_eq_getElem (by omega), t, s⟩)
  refine ⟨x, ?_, hx⟩
  unfold obV
  congr 1
  apply Array.ext_getElem?
  intro i
  rcases i with _ | _ | _ | _ | _ | _ | _ | _ | _ | _ | _ | i
  · exact c0
  · exact c1
  · exact c2
  · exact c3
  · exact c4
  · exact c5
  · exact c6
  · exact c7
  · exact c8
  · exact c9
  · exact c10
  · rw [Array.getElem?_eq_none (by omega), Array.getElem?_eq_none (by simp)]
end
end Go.Proofs.Ytblefgkhikfmhaa
