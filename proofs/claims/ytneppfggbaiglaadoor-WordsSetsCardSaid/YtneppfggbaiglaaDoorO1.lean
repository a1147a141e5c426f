/- Opening an argument of type hostellaw01.Laid. -/
import Derived.Test.YtneppfggbaiglaaDoorO
import Derived.Test.YtneppfggbaiglaaDoorRows
import Derived.Lib.SmallJoins
namespace Go.Proofs.YtneppfggbaiglaaDoor
open Go.ChangeShapes Go.WideShapes Go.ChangeAt Go.RowKit Go.Joins

theorem cellsLaid : Tryd.prog.cellsOf 32 = 4 := by kernel_rfl

theorem open_laid {H : Type} {enc : TypeId × Value → H} {W : World} {v : Value} {d : DataW H} {ps : List MemPlace} {held : Bool} {r : Reach} {base : Nat}
    (hv : Value.okWide Tryd.prog W r base 32 v) (h : DataW.Trod enc Tryd.prog W 0 (fun _ => true) held 32 v d ps) (hz : (d.weights Tryd.prog 32).all (· ≤ reachBytes) = true) :
    ∃ a len cap l p n x, v = .agg #[.slice a len cap, .int .u64 p, .int .i64 n, .int .u64 x] ∧ Byt W a len l ∧ len ≤ cap ∧ cap ≤ 140737488351232 ∧ (0 ≤ p ∧ p ≤ 18446744073709551615) ∧ (0 ≤ x ∧ x ≤ 18446744073709551615) := by
  obtain ⟨v0, v1, v2, v3, y0, y1, y2, y3, m, rfl, rfl, rfl, h0, h1, h2, h3⟩ := open_agg4 Tryd.underlying32 (by kernel_rfl) cellsLaid hv h
  have k0 := field_slice Tryd.underlying22 h0
  obtain ⟨a, len, cap, rfl⟩ := k0
  obtain ⟨a', len', cap', l, e0, hB, hlc, hcm, hwt⟩ := open_bytes (e := 5) Tryd.underlying22 Tryd.underlying5 (by kernel_rfl) ⟨m, h0⟩
  cases e0
  obtain ⟨p, e1, _, w1⟩ := DataW.trod_int Tryd.underlying23 h1
  obtain ⟨n, e2, _, w2⟩ := DataW.trod_int Tryd.underlying3 h2
  obtain ⟨x, e3, _, w3⟩ := DataW.trod_int Tryd.underlying23 h3
  simp only [List.cons.injEq, and_true] at e1 e2 e3
  subst e1 e2 e3
  refine ⟨a, len, cap, l, p, n, x, rfl, hB, hlc, ?_, bounds_u64 w1, bounds_u64 w3⟩
  simp only [DataW.weights, Tryd.underlying32, List.map_cons, List.map_nil, DataW.weightsEach, List.all_append, Bool.and_eq_true] at hz
  have := hwt _ hz.1
  have hby : Tryd.prog.bytesOf 5 = 1 := by kernel_rfl
  rw [hby] at this
  have hr : reachBytes = 140737488351232 := rfl
  omega
end Go.Proofs.YtneppfggbaiglaaDoor
