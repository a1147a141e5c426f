
/- Opening arguments of types hostellaw07.Op and []hostellaw07.Op. -/
import Derived.Test.YtllkeeeajlgkpaaDoorJO
import Derived.Test.YtllkeeeajlgkpaaDoorKO
import Derived.Test.YtllkeeeajlgkpaaDoorKA
namespace Go.Proofs.YtllkeeeajlgkpaaDoor
open Go.ChangeShapes Go.WideShapes Go.ChangeAt Go.RowKit Go.Joins Go.Sort

/-- A call on a pool. -/
structure OP where
  kind : Int
  f : Int
  off : Int
  n : Int
  ba : Option Addr
  bn : Nat
  bc : Nat
  bl : List Int
instance : Inhabited OP := ⟨⟨0, 0, 0, 0, none, 0, 0, []⟩⟩
abbrev opV (x : OP) : Value := .agg #[.int .i64 x.kind, .int .i64 x.f, .int .i64 x.off, .int .i64 x.n, .slice x.ba x.bn x.bc]
def opC (x : OP) : List Value := [.int .i64 x.kind, .int .i64 x.f, .int .i64 x.off, .int .i64 x.n, .slice x.ba x.bn x.bc]
/-- Its bytes lie in memory. -/
structure OPok (w : World) (x : OP) : Prop where
  by8 : Nums w .u8 x.ba x.bn x.bl
  le : x.bn ≤ x.bc
  mx : x.bc ≤ maxLen
  nil : x.ba = none → x.bc = 0
theorem OPok.below {w w' : World} {x : OP} (h : OPok w x) (hb : Below w.heap.size w w') : OPok w' x := ⟨h.by8.below' hb, h.le, h.mx, h.nil⟩
def opAt (w : World) (b o : Nat) (x : OP) : Prop :=
  w.cell? ⟨b, o, none⟩ = some (.int .i64 x.kind) ∧ w.cell? ⟨b, o + 1, none⟩ = some (.int .i64 x.f) ∧ w.cell? ⟨b, o + 2, none⟩ = some (.int .i64 x.off) ∧ w.cell? ⟨b, o + 3, none⟩ = some (.int .i64 x.n) ∧ w.cell? ⟨b, o + 4, none⟩ = some (.slice x.ba x.bn x.bc)
theorem opAt.below {w w' : World} {b o : Nat} {x : OP} (h : opAt w b o x) (hb : Below w.heap.size w w') : opAt w' b o x := ⟨keepC hb h.1, keepC hb h.2.1, keepC hb h.2.2.1, keepC hb h.2.2.2.1, keepC hb h.2.2.2.2⟩
def OpsIn (w : World) (a : Option Addr) (len : Nat) (f : Nat → OP) : Prop := ∀ i, i < len → OPok w (f i) ∧ ∃ b off, a = some ⟨b, off, none⟩ ∧ opAt w b (off + i * 5) (f i)
theorem OpsIn.below {w w' : World} {a : Option Addr} {len : Nat} {f : Nat → OP} (h : OpsIn w a len f) (hb : Below w.heap.size w w') : OpsIn w' a len f := fun i hi => by
  obtain ⟨hk, b, off, e, hc⟩ := h i hi
  exact ⟨hk.below hb, b, off, e, hc.below hb⟩

theorem nums_nil {H : Type} {enc : TypeId × Value → H} {P : Program} {W : World} {t e : TypeId} {k : IntKind} {d : DataW H} {ps : List MemPlace} {held : Bool} {a : Option Addr} {len cap : Nat}
    (ht : P.underlying t = some (.slice e)) (he : P.underlying e = some (.int k)) (hc : P.cellsOf e = 1) (h : ∃ fuel, DataW.trod enc P W 0 (fun _ => true) held fuel t [.slice a len cap] = some (d, ps)) : a = none → cap = 0 := nil_ints ht he hc h

theorem open_op {H : Type} {enc : TypeId × Value → H} {W : World} {v : Value} {d : DataW H} {ps : List MemPlace} {held : Bool} {r : Reach} {base : Nat}
    (hv : Value.okWide Tryd.prog W r base 32 v) (h : DataW.Trod enc Tryd.prog W 0 (fun _ => true) held 32 v d ps) : ∃ x, v = opV x ∧ OPok W x := by
  obtain ⟨v0, v1, v2, v3, v4, y0, y1, y2, y3, y4, n, rfl, h0, h1, h2, h3, h4⟩ := open_five Tryd.underlying32 ⟨rfl, rfl, rfl, rfl, rfl⟩ ⟨by kernel_rfl, by kernel_rfl, by kernel_rfl, by kernel_rfl, by kernel_rfl⟩ (by kernel_rfl) hv h
  obtain ⟨x0, e0, _, w0⟩ := DataW.trod_int Tryd.underlying3 h0
  obtain ⟨x1, e1, _, w1⟩ := DataW.trod_int Tryd.underlying3 h1
  obtain ⟨x2, e2, _, w2⟩ := DataW.trod_int Tryd.underlying3 h2
  obtain ⟨x3, e3, _, w3⟩ := DataW.trod_int Tryd.underlying3 h3
  simp only [List.cons.injEq, and_true] at e0 e1 e2 e3
  subst e0 e1 e2 e3
  obtain ⟨a, len, cap, l, rfl, hN, hlc, hm, _, _⟩ := open_nums Tryd.underlying30 Tryd.underlying5 (by kernel_rfl) ⟨n, h4⟩
  exact ⟨⟨x0, x1, x2, x3, a, len, cap, l⟩, rfl, hN, hlc, hm, nums_nil Tryd.underlying30 Tryd.underlying5 (by kernel_rfl) ⟨n, h4⟩⟩

theorem open_opls {H : Type} {enc : TypeId × Value → H} {W : World} {v : Value} {d : DataW H} {ps : List MemPlace} {held : Bool} {r : Reach} {base : Nat}
    (hv : Value.okWide Tryd.prog W r base 22 v) (h : DataW.Trod enc Tryd.prog W 0 (fun _ => true) held 22 v d ps) :
    ∃ a len cap f, v = .slice a len cap ∧ OpsIn W a len f ∧ len ≤ cap ∧ cap ≤ maxLen := by
  obtain ⟨a, len, cap, rfl⟩ := okWide_slice Tryd.underlying22 hv
  obtain ⟨fuel, hf0⟩ := h
  have hC : Tryd.prog.cellsOf 32 = 5 := by kernel_rfl
  rcases Go.Deep.open_slice Tryd.underlying22 hf0 with ⟨hcs, _⟩ | ⟨a', len', cap', m, n, D, Pl, hcs, _, hl, hm, hmm, _, hx⟩
  · simp only [Value.cells, List.cons.injEq, and_true] at hcs
    cases hcs
    exact ⟨none, 0, 0, fun _ => default, rfl, fun i hi => by omega, Nat.le_refl _, by simp [maxLen]⟩
  · simp only [Value.cells, List.cons.injEq, and_true] at hcs
    cases hcs
    simp only [if_true] at hmm
    have key : ∀ i, i < len → ∃ x : OP, OPok W x ∧ ∃ b off, a' = ⟨b, off, none⟩ ∧ opAt W b (off + i * 5) x := by
      intro i hi
      obtain ⟨cs', hc, ht'⟩ := hx i (by omega)
      rw [hC] at hc
      obtain ⟨_, hlen, hat⟩ := World.cells?_some hc
      obtain ⟨ys, n', _, _, _, hyl, hg⟩ := DataW.trod_struct Tryd.underlying32 ht'
      have hyl' : ys.length = 5 := hyl
      have c3 : Tryd.prog.cellsOf 3 = 1 := by kernel_rfl
      have c4 : Tryd.prog.cellsOf 30 = 1 := by kernel_rfl
      obtain ⟨e0, e1, e2, e3, e4, rfl⟩ : ∃ e0 e1 e2 e3 e4, cs' = [e0, e1, e2, e3, e4] := by
        match cs', hlen with
        | [e0, e1, e2, e3, e4], _ => exact ⟨_, _, _, _, _, rfl⟩
      have z0 : DataW.trod enc Tryd.prog W 0 (fun _ => true) held n' 3 (([e0, e1, e2, e3, e4].drop 0).take (Tryd.prog.cellsOf 3)) = ys[0]? := hg 0 _ rfl
      have z1 : DataW.trod enc Tryd.prog W 0 (fun _ => true) held n' 3 (([e0, e1, e2, e3, e4].drop 1).take (Tryd.prog.cellsOf 3)) = ys[1]? := hg 1 _ rfl
      have z2 : DataW.trod enc Tryd.prog W 0 (fun _ => true) held n' 3 (([e0, e1, e2, e3, e4].drop 2).take (Tryd.prog.cellsOf 3)) = ys[2]? := hg 2 _ rfl
      have z3 : DataW.trod enc Tryd.prog W 0 (fun _ => true) held n' 3 (([e0, e1, e2, e3, e4].drop 3).take (Tryd.prog.cellsOf 3)) = ys[3]? := hg 3 _ rfl
      have z4 : DataW.trod enc Tryd.prog W 0 (fun _ => true) held n' 30 (([e0, e1, e2, e3, e4].drop 4).take (Tryd.prog.cellsOf 30)) = ys[4]? := hg 4 _ rfl
      rw [c3, List.getElem?_eq_getElem (by omega)] at z0 z1 z2 z3
      rw [c4, List.getElem?_eq_getElem (by omega)] at z4
      obtain ⟨x0, q0, _, w0⟩ := DataW.trod_int Tryd.underlying3 (show DataW.trod enc Tryd.prog W 0 (fun _ => true) held n' 3 [e0] = some _ from z0)
      obtain ⟨x1, q1, _, w1⟩ := DataW.trod_int Tryd.underlying3 (show DataW.trod enc Tryd.prog W 0 (fun _ => true) held n' 3 [e1] = some _ from z1)
      obtain ⟨x2, q2, _, w2⟩ := DataW.trod_int Tryd.underlying3 (show DataW.trod enc Tryd.prog W 0 (fun _ => true) held n' 3 [e2] = some _ from z2)
      obtain ⟨x3, q3, _, w3⟩ := DataW.trod_int Tryd.underlying3 (show DataW.trod enc Tryd.prog W 0 (fun _ => true) held n' 3 [e3] = some _ from z3)
      have hz4 : ∃ fuel, DataW.trod enc Tryd.prog W 0 (fun _ => true) held fuel 30 [e4] = some (ys[4].1, ys[4].2) := ⟨n', z4⟩
      obtain ⟨ba, bn, bc, bl, rfl, hN, hlc, hbm, _, _⟩ := open_nums Tryd.underlying30 Tryd.underlying5 (by kernel_rfl) hz4
      have hnil := nums_nil Tryd.underlying30 Tryd.underlying5 (by kernel_rfl) hz4
      simp only [List.cons.injEq, and_true] at q0 q1 q2 q3
      subst q0 q1 q2 q3
      have h0 := hat 0 (by omega)
      have h1 := hat 1 (by omega)
      have h2 := hat 2 (by omega)
      have h3 := hat 3 (by omega)
      have h4 := hat 4 (by omega)
      simp only [List.getElem?_cons_zero, List.getElem?_cons_succ] at h0 h1 h2 h3 h4
      obtain ⟨b, off, spot⟩ := a'
      have hsp : spot = none := by
        have hz := (hx 0 (by omega))
        obtain ⟨cs0, hc0, _⟩ := hz
        rw [hC] at hc0
        obtain ⟨_, hlen0, hat0⟩ := World.cells?_some hc0
        have := hat0 0 (by omega)
        rw [List.getElem?_eq_getElem (by omega)] at this
        have h9 := spot_none this
        simpa [Addr.add] using h9
      subst hsp
      have ad : ∀ k, ((Addr.mk b off none).add (i * 5)).add k = ⟨b, off + i * 5 + k, none⟩ := by
        intro k
        unfold Addr.add
        by_cases e1 : i * 5 = 0 <;> by_cases e2 : k = 0 <;> simp [e1, e2]
      rw [ad] at h0 h1 h2 h3 h4
      exact ⟨⟨x0, x1, x2, x3, ba, bn, bc, bl⟩, ⟨hN, hlc, hbm, hnil⟩, b, off, rfl, h0, h1, h2, h3, h4⟩
    obtain ⟨f, hff⟩ := pick_fun key
    refine ⟨some a', len, cap, f, rfl, fun i hi => ?_, hl, hm⟩
    obtain ⟨hk, b, off, e1, hc⟩ := hff i hi
    exact ⟨hk, b, off, by rw [e1], hc⟩
end Go.Proofs.YtllkeeeajlgkpaaDoor
