
/- Arrays of three integers by value, as arguments. -/
import Derived.Test.YthamfhenadaapaaDoorUP
namespace Go.Proofs.YthamfhenadaapaaDoor
open Go.ChangeShapes Go.WideShapes Go.ChangeAt Go.RowKit

theorem open_array3 {H : Type} {enc : TypeId × Value → H} {P : Program} {w : World} {r : Reach} {b0 : Nat} {held : Bool} {t e : TypeId} {k : IntKind} {v : Value} {d : DataW H} {ps : List MemPlace}
    (ht : P.underlying t = some (.array 3 e)) (he : P.underlying e = some (.int k)) (hc : P.cellsOf e = 1) (hct : P.cellsOf t = 3) (hv : Value.okWide P w r b0 t v) (h : DataW.Trod enc P w 0 (fun _ => true) held t v d ps) :
    ∃ p q s, v = .agg #[.int k p, .int k q, .int k s] := by
  unfold Value.okWide at hv
  simp only [ht] at hv
  obtain ⟨cs, rfl, hsz, _⟩ := hv
  rw [hct] at hsz
  obtain ⟨fuel, hf⟩ := h
  have hf2 : DataW.trod enc P w 0 (fun _ => true) held fuel t cs.toList = some (d, ps) := hf
  obtain ⟨xs, m, _, _, _, hxl, hx⟩ := DataW.trod_array ht hf2
  obtain ⟨a, b, c, rfl⟩ : ∃ a b c, cs = #[a, b, c] := by
    obtain ⟨l⟩ := cs
    match l, hsz with
    | [a, b, c], _ => exact ⟨a, b, c, rfl⟩
  have h0 := hx 0 (by omega)
  have h1 := hx 1 (by omega)
  have h2 := hx 2 (by omega)
  rw [hc] at h0 h1 h2
  simp only [Nat.zero_mul, List.drop_zero, Nat.one_mul, List.take_succ_cons, List.take_zero, List.drop_succ_cons, Nat.mul_one] at h0 h1 h2
  rw [List.getElem?_eq_getElem (by omega)] at h0 h1 h2
  obtain ⟨p, hp, _, wp⟩ := DataW.trod_int he h0
  obtain ⟨q, hq, _, wq⟩ := DataW.trod_int he h1
  obtain ⟨s, hs, _, ws⟩ := DataW.trod_int he h2
  simp only [List.cons.injEq, and_true] at hp hq hs
  subst hp hq hs
  exact ⟨p, q, s, rfl⟩
set_option maxRecDepth 100000 in
theorem open_byts3 {H : Type} {enc : TypeId × Value → H} {w : World} {r : Reach} {b0 : Nat} {held : Bool} {v : Value} {d : DataW H} {ps : List MemPlace} (hv : Value.okWide Tryd.prog w r b0 25 v) (h : DataW.Trod enc Tryd.prog w 0 (fun _ => true) held 25 v d ps) (hz : (d.weights Tryd.prog 25).all (· ≤ reachBytes) = true) :
    ∃ a len cap l, v = .slice a len cap ∧ Byt w a len l ∧ (a = none → len = 0 ∧ cap = 0) ∧ len ≤ 140737488351232 := by
  obtain ⟨a, len, cap, l, rfl, hB, hlc, hcm, hcw⟩ := open_bytes_arg Tryd.underlying25 Tryd.underlying5 (by kernel_rfl) hv h
  obtain ⟨a', n', c', e, _, _, hc, _⟩ := open_rows_arg (n := 0) Tryd.underlying25 hv h (small_of hz) (show 0 < Tryd.prog.cellsOf 5 by rw [show Tryd.prog.cellsOf 5 = 1 by kernel_rfl]; omega)
  cases e
  have h1 := hcw reachBytes hz
  rw [show Tryd.prog.bytesOf 5 = 1 by kernel_rfl, show reachBytes = 140737488351232 from rfl] at h1
  exact ⟨a, len, cap, l, rfl, hB, fun hn => ⟨by have := hc hn; omega, hc hn⟩, by omega⟩
end Go.Proofs.YthamfhenadaapaaDoor
