
/- Opening arguments of types api.Creds and api.Meta. -/
import Derived.Test.YtfaohejdaabalaaGreatDoorKO
import Derived.Test.YtfaohejdaabalaaGreatDoorVm
import Derived.Test.YtfaohejdaabalaaGreatDoorKA
namespace Go.Proofs.YtfaohejdaabalaaGreatDoor
open Go.ChangeShapes Go.WideShapes Go.ChangeAt Go.RowKit Go.Joins

theorem own : ownKnob Tryz.prog.godebug = none := by kernel_rfl
theorem laidOut : laidOutB Tryz.prog = true := by kernel_rfl

set_option maxRecDepth 100000 in
theorem open_meta {H : Type} {enc : TypeId × Value → H} {W : World} {v : Value} {d : DataW H} {ps : List MemPlace} {held : Bool} {r : Reach} {base : Nat}
    (hv : Value.okWide Tryz.prog W r base 89 v) (h : DataW.Trod enc Tryz.prog W 0 (fun _ => true) held 89 v d ps) :
    ∃ k m u g z, v = nodeV k m u g z ∧ (0 ≤ k ∧ k ≤ 255) ∧ (0 ≤ m ∧ m ≤ 65535) ∧ (0 ≤ u ∧ u ≤ 4294967295) ∧ (0 ≤ g ∧ g ≤ 4294967295) := by
  obtain ⟨v0, v1, v2, v3, v4, y0, y1, y2, y3, y4, m, rfl, h0, h1, h2, h3, h4⟩ := open_five Tryz.underlying89 ⟨rfl, rfl, rfl, rfl, rfl⟩ ⟨by kernel_rfl, by kernel_rfl, by kernel_rfl, by kernel_rfl, by kernel_rfl⟩ (by kernel_rfl) hv h
  obtain ⟨u, e0, _, w0⟩ := DataW.trod_int Tryz.underlying5 h0
  obtain ⟨e, e1, _, w1⟩ := DataW.trod_int Tryz.underlying39 h1
  obtain ⟨s, e2, _, w2⟩ := DataW.trod_int Tryz.underlying41 h2
  obtain ⟨g, e3, _, w3⟩ := DataW.trod_int Tryz.underlying41 h3
  obtain ⟨z, e4, _, w4⟩ := DataW.trod_int Tryz.underlying3 h4
  simp only [List.cons.injEq, and_true] at e0 e1 e2 e3 e4
  subst e0 e1 e2 e3 e4
  exact ⟨u, e, s, g, z, rfl, bounds_u8 w0, bounds_u16 w1, bounds_u32 w2, bounds_u32 w3⟩
end Go.Proofs.YtfaohejdaabalaaGreatDoor
