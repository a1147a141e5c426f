/- Opening an argument of type []hostellaw10.Change. -/
import Derived.Test.YtcafmhhfnleanaaIO
namespace Go.Proofs.Ytcafmhhfnleanaa
open Go.ChangeShapes Go.WideShapes Go.ChangeAt Go.RowKit Go.Joins Go.Sort

/-- The changes of a slice lie in memory. -/
def ChgAt (w : World) (a : Option Addr) (len : Nat) (f : Nat → Int × RG) : Prop := ∀ i, i < len → RGok (f i).2 ∧ ∃ b off, a = some ⟨b, off, none⟩ ∧ w.cell? ⟨b, off + i * 6, none⟩ = some (.int .i64 (f i).1) ∧ rgCells w b (off + i * 6 + 1) (f i).2

theorem open_changes {H : Type} {enc : TypeId × Value → H} {W : World} {v : Value} {d : DataW H} {ps : List MemPlace} {held : Bool} {r : Reach} {base : Nat}
    (hv : Value.okWide Try.prog W r base 47 v) (h : DataW.Trod enc Try.prog W 0 (fun _ => true) held 47 v d ps) :
    ∃ a len cap f, v = .slice a len cap ∧ ChgAt W a len f ∧ len ≤ cap ∧ cap ≤ maxLen := by
  obtain ⟨a, len, cap, rfl⟩ := okWide_slice Try.underlying47 hv
  obtain ⟨fuel, hf0⟩ := h
  have hC : Try.prog.cellsOf 49 = 6 := by kernel_rfl
  rcases Go.Deep.open_slice Try.underlying47 hf0 with ⟨hcs, _⟩ | ⟨a', len', cap', m, n, D, Pl, hcs, _, hl, hm, hmm, _, hx⟩
  · simp only [Value.cells, List.cons.injEq, and_true] at hcs
    cases hcs
    exact ⟨none, 0, 0, fun _ => (0, rg0), rfl, fun i hi => by omega, Nat.le_refl _, by simp [maxLen]⟩
  · simp only [Value.cells, List.cons.injEq, and_true] at hcs
    cases hcs
    simp only [if_true] at hmm
    have key : ∀ i, i < len → ∃ x : Int × RG, RGok x.2 ∧ ∃ b off, a' = ⟨b, off, none⟩ ∧ W.cell? ⟨b, off + i * 6, none⟩ = some (.int .i64 x.1) ∧ rgCells W b (off + i * 6 + 1) x.2 := by
      intro i hi
      obtain ⟨cs', hc, ht'⟩ := hx i (by omega)
      rw [hC] at hc
      obtain ⟨_, hlen, hat⟩ := World.cells?_some hc
      obtain ⟨ys, n', _, _, _, hyl, hg⟩ := DataW.trod_struct Try.underlying49 ht'
      have hyl' : ys.length = 2 := hyl
      have c8 : Try.prog.cellsOf 23 = 1 := by kernel_rfl
      have c1 : Try.prog.cellsOf 5 = 1 := by kernel_rfl
      have c3 : Try.prog.cellsOf 3 = 1 := by kernel_rfl
      have c5 : Try.prog.cellsOf 25 = 5 := by kernel_rfl
      obtain ⟨e0, e1, e2, e3, e4, e5, rfl⟩ : ∃ e0 e1 e2 e3 e4 e5, cs' = [e0, e1, e2, e3, e4, e5] := by
        match cs', hlen with
        | [e0, e1, e2, e3, e4, e5], _ => exact ⟨_, _, _, _, _, _, rfl⟩
      have g0 : DataW.trod enc Try.prog W 0 (fun _ => true) held n' 3 (([e0, e1, e2, e3, e4, e5].drop 0).take (Try.prog.cellsOf 3)) = ys[0]? := hg 0 _ rfl
      have g1 : DataW.trod enc Try.prog W 0 (fun _ => true) held n' 25 (([e0, e1, e2, e3, e4, e5].drop 1).take (Try.prog.cellsOf 25)) = ys[1]? := hg 1 _ rfl
      rw [c3, List.getElem?_eq_getElem (by omega)] at g0
      rw [c5, List.getElem?_eq_getElem (by omega)] at g1
      obtain ⟨x0, q0, _, w0⟩ := DataW.trod_int Try.underlying3 (show DataW.trod enc Try.prog W 0 (fun _ => true) held n' 3 [e0] = some _ from g0)
      obtain ⟨zs, n2, _, _, _, hzl, hz⟩ := DataW.trod_struct Try.underlying25 (show DataW.trod enc Try.prog W 0 (fun _ => true) held n' 25 [e1, e2, e3, e4, e5] = some _ from g1)
      have hzl' : zs.length = 5 := hzl
      have z0 : DataW.trod enc Try.prog W 0 (fun _ => true) held n2 23 (([e1, e2, e3, e4, e5].drop 0).take (Try.prog.cellsOf 23)) = zs[0]? := hz 0 _ rfl
      have z1 : DataW.trod enc Try.prog W 0 (fun _ => true) held n2 23 (([e1, e2, e3, e4, e5].drop 1).take (Try.prog.cellsOf 23)) = zs[1]? := hz 1 _ rfl
      have z2 : DataW.trod enc Try.prog W 0 (fun _ => true) held n2 5 (([e1, e2, e3, e4, e5].drop 2).take (Try.prog.cellsOf 5)) = zs[2]? := hz 2 _ rfl
      have z3 : DataW.trod enc Try.prog W 0 (fun _ => true) held n2 3 (([e1, e2, e3, e4, e5].drop 3).take (Try.prog.cellsOf 3)) = zs[3]? := hz 3 _ rfl
      have z4 : DataW.trod enc Try.prog W 0 (fun _ => true) held n2 23 (([e1, e2, e3, e4, e5].drop 4).take (Try.prog.cellsOf 23)) = zs[4]? := hz 4 _ rfl
      rw [c8, List.getElem?_eq_getElem (by omega)] at z0 z1 z4
      rw [c1, List.getElem?_eq_getElem (by omega)] at z2
      rw [c3, List.getElem?_eq_getElem (by omega)] at z3
      obtain ⟨x1, q1, _, w1⟩ := DataW.trod_int Try.underlying23 (show DataW.trod enc Try.prog W 0 (fun _ => true) held n2 23 [e1] = some _ from z0)
      obtain ⟨x2, q2, _, w2⟩ := DataW.trod_int Try.underlying23 (show DataW.trod enc Try.prog W 0 (fun _ => true) held n2 23 [e2] = some _ from z1)
      obtain ⟨x3, q3, _, w3⟩ := DataW.trod_int Try.underlying5 (show DataW.trod enc Try.prog W 0 (fun _ => true) held n2 5 [e3] = some _ from z2)
      obtain ⟨x4, q4, _, w4⟩ := DataW.trod_int Try.underlying3 (show DataW.trod enc Try.prog W 0 (fun _ => true) held n2 3 [e4] = some _ from z3)
      obtain ⟨x5, q5, _, w5⟩ := DataW.trod_int Try.underlying23 (show DataW.trod enc Try.prog W 0 (fun _ => true) held n2 23 [e5] = some _ from z4)
      simp only [List.cons.injEq, and_true] at q0 q1 q2 q3 q4 q5
      subst q0 q1 q2 q3 q4 q5
      have h0 := hat 0 (by omega)
      have h1 := hat 1 (by omega)
      have h2 := hat 2 (by omega)
      have h3 := hat 3 (by omega)
      have h4 := hat 4 (by omega)
      have h5 := hat 5 (by omega)
      simp only [List.getElem?_cons_zero, List.getElem?_cons_succ] at h0 h1 h2 h3 h4 h5
      obtain ⟨b, off, spot⟩ := a'
      have hsp : spot = none := by
        have hz := (hx 0 (by omega))
        obtain ⟨cs0, hc0, _⟩ := hz
        rw [hC] at hc0
        obtain ⟨_, hlen0, hat0⟩ := World.cells?_some hc0
        have := hat0 0 (by omega)
        rw [List.getElem?_eq_getElem (by omega)] at this
        have h9 := spot_none this
        simpa [Addr.add] using h9
      subst hsp
      have ad : ∀ k, ((Addr.mk b off none).add (i * 6)).add k = ⟨b, off + i * 6 + k, none⟩ := by
        intro k
        unfold Addr.add
        by_cases e1 : i * 6 = 0 <;> by_cases e2 : k = 0 <;> simp [e1, e2]
      rw [ad] at h0 h1 h2 h3 h4 h5
      exact ⟨(x0, ⟨x1, x2, x3, x4, x5⟩), rgok_of w1 w2 w3 w4 w5, b, off, rfl, h0, h1, h2, h3, h4, h5⟩
    have : Inhabited (Int × RG) := ⟨(0, rg0)⟩
    obtain ⟨f, hff⟩ := pick_fun key
    refine ⟨some a', len, cap, f, rfl, fun i hi => ?_, hl, hm⟩
    obtain ⟨hk, b, off, e1, hc⟩ := hff i hi
    exact ⟨hk, b, off, by rw [e1], hc⟩
end Go.Proofs.Ytcafmhhfnleanaa
