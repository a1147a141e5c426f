/- The two names of EnvsBack, by value. -/
import Derived.Test.YtoikoljadgnebaaZL3
import Derived.Test.YtoikoljadgnebaaZO
namespace Go.Proofs.Ytoikoljadgnebaa
open Go.ChangeShapes Go.WideShapes Go.ChangeAt Go.RowKit Go.Joins

theorem open_two {H : Type} {enc : TypeId × Value → H} {W : World} {v : Value} {d : DataW H} {ps : List MemPlace} {held : Bool} {r : Reach} {base : Nat}
    (hv : Value.okWide Try.prog W r base 42 v) (h : DataW.Trod enc Try.prog W 0 (fun _ => true) held 42 v d ps) (hz : (d.weights Try.prog 42).all (· ≤ reachBytes) = true) :
    ∃ n o : ByteArray, v = .agg #[.string n, .string o] ∧ n.size ≤ 140737488351232 ∧ o.size ≤ 140737488351232 := by
  obtain ⟨v0, v1, y0, y1, m, rfl, rfl, rfl, h0, h1⟩ := open_agg2 Try.underlying42 (by kernel_rfl) (by kernel_rfl) hv h
  obtain ⟨n, e0, rfl, _⟩ := DataW.trod_string Try.underlying9 h0
  obtain ⟨o, e1, rfl, _⟩ := DataW.trod_string Try.underlying9 h1
  simp only [List.cons.injEq, and_true] at e0 e1
  subst e0 e1
  refine ⟨n, o, rfl, ?_⟩
  simp only [DataW.weights, Try.underlying42, List.map_cons, List.map_nil, DataW.weightsEach, List.all_append, List.all_cons, List.all_nil, Bool.and_eq_true, decide_eq_true_eq, and_true, Bool.and_true] at hz
  have hr : reachBytes = 140737488351232 := rfl
  have e0 := size_list n
  have e1 := size_list o
  omega
end Go.Proofs.Ytoikoljadgnebaa
