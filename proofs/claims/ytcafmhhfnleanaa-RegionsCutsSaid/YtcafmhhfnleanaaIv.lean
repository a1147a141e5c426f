/- Opening an argument of type hostellaw10.Stretch. -/
import Derived.Test.YtcafmhhfnleanaaIO
import Derived.Lib.SmallJoins
namespace Go.Proofs.Ytcafmhhfnleanaa
open Go.ChangeShapes Go.WideShapes Go.ChangeAt Go.RowKit Go.Joins Go.Sort

theorem cellsStretch : Try.prog.cellsOf 40 = 3 := by kernel_rfl
theorem open_stretch {H : Type} {enc : TypeId × Value → H} {W : World} {v : Value} {d : DataW H} {ps : List MemPlace} {held : Bool} {r : Reach} {base : Nat}
    (hv : Value.okWide Try.prog W r base 40 v) (h : DataW.Trod enc Try.prog W 0 (fun _ => true) held 40 v d ps) :
    ∃ f t q, v = .agg #[.int .u64 f, .int .u64 t, .int .u8 q] ∧ 0 ≤ f ∧ 0 ≤ t := by
  obtain ⟨v0, v1, v2, y0, y1, y2, m, rfl, rfl, rfl, h0, h1, h2⟩ := open_agg3 Try.underlying40 (by kernel_rfl) cellsStretch hv h
  obtain ⟨p, e1, _, w1⟩ := DataW.trod_int Try.underlying23 h0
  obtain ⟨n, e2, _, w2⟩ := DataW.trod_int Try.underlying23 h1
  obtain ⟨x, e3, _, w3⟩ := DataW.trod_int Try.underlying5 h2
  simp only [List.cons.injEq, and_true] at e1 e2 e3
  subst e1 e2 e3
  exact ⟨_, _, _, rfl, (bounds_u64 w1).1, (bounds_u64 w2).1⟩
end Go.Proofs.Ytcafmhhfnleanaa
