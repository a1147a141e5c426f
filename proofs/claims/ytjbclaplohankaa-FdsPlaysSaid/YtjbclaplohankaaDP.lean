/- Opening an argument of type []hostellaw05.Op. -/
import Derived.Test.YtjbclaplohankaaDO
import Derived.Test.YtjbclaplohankaaO7
namespace Go.Proofs.Ytjbclaplohankaa
open Go.ChangeShapes Go.WideShapes Go.ChangeAt Go.RowKit Go.Joins

theorem open_opl {H : Type} {enc : TypeId × Value → H} {W : World} {v : Value} {d : DataW H} {ps : List MemPlace} {held : Bool} {r : Reach} {base : Nat}
    (hv : Value.okWide Try.prog W r base 22 v) (h : DataW.Trod enc Try.prog W 0 (fun _ => true) held 22 v d ps) :
    ∃ a len cap f, v = .slice a len cap ∧ OpsAt W a len f ∧ len ≤ cap ∧ cap ≤ maxLen := by
  refine open_ops Try.underlying22 Try.underlying31 Try.underlying3 Try.underlying4 (by kernel_rfl) ?_ hv h
  intro j hj
  match j, hj with
  | 0, _ => exact ⟨_, rfl, rfl, by kernel_rfl, rfl⟩
  | 1, _ => exact ⟨_, rfl, rfl, by kernel_rfl, rfl⟩
  | 2, _ => exact ⟨_, rfl, rfl, by kernel_rfl, rfl⟩
  | 3, _ => exact ⟨_, rfl, rfl, by kernel_rfl, rfl⟩
  | 4, _ => exact ⟨_, rfl, rfl, by kernel_rfl, rfl⟩
  | 5, _ => exact ⟨_, rfl, rfl, by kernel_rfl, rfl⟩
end Go.Proofs.Ytjbclaplohankaa
