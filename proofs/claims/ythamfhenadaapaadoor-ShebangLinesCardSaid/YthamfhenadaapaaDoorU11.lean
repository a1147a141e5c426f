
/- ShebangArgs' walk. -/
import Derived.Test.YthamfhenadaapaaDoorU8
import Derived.Test.YthamfhenadaapaaDoorU10
namespace Go.Proofs.YthamfhenadaapaaDoor
open Go.RowKit Go.Sort
open Go.ChangeShapes Go.WideShapes Go.ChangeAt

theorem Row.three' {w : World} {g : Nat} {E : TypeId} {a b c : Value} (h : Row w g E [a, b, c]) : w.cell? ⟨g, 0, none⟩ = some a ∧ w.cell? ⟨g, 1, none⟩ = some b ∧ w.cell? ⟨g, 2, none⟩ = some c := ⟨h.cell 0 (by simp), h.cell 1 (by simp), h.cell 2 (by simp)⟩
theorem own_at {wr : World} {base G n c k : Nat} {xs : List Value} (hox : wr.ownsRow base 9 1 (.slice (some ⟨G, 0, none⟩) n c) n xs) (hk : k < n) : (∃ u, wr.cell? ⟨G, k, none⟩ = some u) ∧ wr.frozen? ⟨G, k, none⟩ = false := by
  have hx := hox.cellAt k (by have := hox.1; omega)
  rw [List.getElem?_eq_getElem (by have := hox.1; omega)] at hx
  rcases hox.2 with ⟨h1, _⟩ | ⟨g, cap', cur, h1, _, h3, _⟩
  · cases h1
  · simp only [Value.slice.injEq, Option.some.injEq, Addr.mk.injEq, and_true, true_and] at h1
    obtain ⟨rfl, rfl⟩ := h1
    exact ⟨⟨_, hx⟩, frozen_of_row _ _ _ _ _ h3⟩

end Go.Proofs.YthamfhenadaapaaDoor
