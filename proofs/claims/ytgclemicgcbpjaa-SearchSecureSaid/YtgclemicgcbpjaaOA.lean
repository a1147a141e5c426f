/- Arrays of two integers by value, as arguments. No program is named. -/
import Derived.Test.YtgclemicgcbpjaaO6
import Derived.Test.YtgclemicgcbpjaaLF
namespace Go.Proofs.Ytgclemicgcbpjaa
open Go.ChangeShapes Go.WideShapes Go.ChangeAt Go.RowKit

theorem open_array2 {H : Type} {enc : TypeId × Value → H} {P : Program} {w : World} {r : Reach} {b0 : Nat} {held : Bool} {t e : TypeId} {k : IntKind} {v : Value} {d : DataW H} {ps : List MemPlace}
    (ht : P.underlying t = some (.array 2 e)) (he : P.underlying e = some (.int k)) (hc : P.cellsOf e = 1) (hct : P.cellsOf t = 2) (hv : Value.okWide P w r b0 t v) (h : DataW.Trod enc P w 0 (fun _ => true) held t v d ps) :
    ∃ p q, v = .agg #[.int k p, .int k q] ∧ (Lit.int k p).wf = true ∧ (Lit.int k q).wf = true := by
  unfold Value.okWide at hv
  simp only [ht] at hv
  obtain ⟨cs, rfl, hsz, _⟩ := hv
  rw [hct] at hsz
  obtain ⟨fuel, hf⟩ := h
  have hf2 : DataW.trod enc P w 0 (fun _ => true) held fuel t cs.toList = some (d, ps) := hf
  obtain ⟨xs, m, _, _, _, hxl, hx⟩ := DataW.trod_array ht hf2
  obtain ⟨a, b, rfl⟩ : ∃ a b, cs = #[a, b] := by
    obtain ⟨l⟩ := cs
    match l, hsz with
    | [a, b], _ => exact ⟨a, b, rfl⟩
  have h0 := hx 0 (by omega)
  have h1 := hx 1 (by omega)
  rw [hc] at h0 h1
  simp only [Nat.zero_mul, List.drop_zero, Nat.one_mul, List.take_succ_cons, List.take_zero, List.drop_succ_cons] at h0 h1
  rw [List.getElem?_eq_getElem (by omega)] at h0 h1
  obtain ⟨p, hp, _, wp⟩ := DataW.trod_int he h0
  obtain ⟨q, hq, _, wq⟩ := DataW.trod_int he h1
  simp only [List.cons.injEq, and_true] at hp hq
  subst hp hq
  exact ⟨p, q, rfl, wp, wq⟩
end Go.Proofs.Ytgclemicgcbpjaa
