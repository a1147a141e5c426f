
/- An argument that is a slice of integers. No program is named. -/
import Derived.Test.YtaaohcpiideaaaaDoorKA
import Derived.Test.YtaaohcpiideaaaaDoorKO
namespace Go.Proofs.YtaaohcpiideaaaaDoor
open Go.ChangeShapes Go.WideShapes Go.ChangeAt Go.RowKit Go.ChangeMaps

theorem open_nums_arg {H : Type} {enc : TypeId × Value → H} {P : Program} {W : World} {t e : TypeId} {k : IntKind} {v : Value} {d : DataW H} {ps : List MemPlace} {held : Bool} {r : Reach} {base : Nat}
    (ht : P.underlying t = some (.slice e)) (he : P.underlying e = some (.int k)) (hc : P.cellsOf e = 1) (hv : Value.okWide P W r base t v)
    (h : DataW.Trod enc P W 0 (fun _ => true) held t v d ps) :
    ∃ a len cap l, v = .slice a len cap ∧ Nums W k a len l ∧ len ≤ cap ∧ cap ≤ maxLen ∧ (∀ x ∈ l, (Lit.int k x).wf = true) ∧ (∀ n, (d.weights P t).all (· ≤ n) = true → cap * P.bytesOf e ≤ n) := by
  obtain ⟨a, len, cap, rfl⟩ := okWide_slice ht hv
  exact open_nums ht he hc h
end Go.Proofs.YtaaohcpiideaaaaDoor
