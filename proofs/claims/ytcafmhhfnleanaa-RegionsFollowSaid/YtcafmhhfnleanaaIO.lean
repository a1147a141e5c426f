/- Opening arguments of types []api.Region and api.Region. -/
import Derived.Test.YtcafmhhfnleanaaRows
import Derived.Test.YtcafmhhfnleanaaI0
import Derived.Test.YtcafmhhfnleanaaO5
import Derived.Test.YtcafmhhfnleanaaO7
import Derived.Deep.Slices
namespace Go.Proofs.Ytcafmhhfnleanaa
open Go.ChangeShapes Go.WideShapes Go.ChangeAt Go.RowKit Go.Joins Go.Sort

theorem own : ownKnob Try.prog.godebug = none := by kernel_rfl
theorem laidOut : laidOutB Try.prog = true := by kernel_rfl

theorem rgok_of {f t p i o : Int} (h0 : (Lit.int .u64 f).wf = true) (h1 : (Lit.int .u64 t).wf = true) (h2 : (Lit.int .u8 p).wf = true) (h3 : (Lit.int .i64 i).wf = true) (h4 : (Lit.int .u64 o).wf = true) : RGok ⟨f, t, p, i, o⟩ :=
  ⟨(bounds_u64 h0).1, (bounds_u64 h0).2, (bounds_u64 h1).1, (bounds_u64 h1).2, (bounds_u8 h2).1, (bounds_u8 h2).2, (bounds_i64 h3).1, (bounds_i64 h3).2, (bounds_u64 h4).1, (bounds_u64 h4).2⟩

theorem open_reg {H : Type} {enc : TypeId × Value → H} {W : World} {v : Value} {d : DataW H} {ps : List MemPlace} {held : Bool} {r : Reach} {base : Nat}
    (hv : Value.okWide Try.prog W r base 25 v) (h : DataW.Trod enc Try.prog W 0 (fun _ => true) held 25 v d ps) : ∃ x, v = rgV x ∧ RGok x := by
  obtain ⟨v0, v1, v2, v3, v4, y0, y1, y2, y3, y4, n, rfl, h0, h1, h2, h3, h4⟩ := open_five Try.underlying25 ⟨rfl, rfl, rfl, rfl, rfl⟩ ⟨by kernel_rfl, by kernel_rfl, by kernel_rfl, by kernel_rfl, by kernel_rfl⟩ (by kernel_rfl) hv h
  obtain ⟨x0, e0, _, w0⟩ := DataW.trod_int Try.underlying23 h0
  obtain ⟨x1, e1, _, w1⟩ := DataW.trod_int Try.underlying23 h1
  obtain ⟨x2, e2, _, w2⟩ := DataW.trod_int Try.underlying5 h2
  obtain ⟨x3, e3, _, w3⟩ := DataW.trod_int Try.underlying3 h3
  obtain ⟨x4, e4, _, w4⟩ := DataW.trod_int Try.underlying23 h4
  simp only [List.cons.injEq, and_true] at e0 e1 e2 e3 e4
  subst e0 e1 e2 e3 e4
  exact ⟨⟨x0, x1, x2, x3, x4⟩, rfl, rgok_of w0 w1 w2 w3 w4⟩

theorem open_regs {H : Type} {enc : TypeId × Value → H} {W : World} {v : Value} {d : DataW H} {ps : List MemPlace} {held : Bool} {r : Reach} {base : Nat}
    (hv : Value.okWide Try.prog W r base 22 v) (h : DataW.Trod enc Try.prog W 0 (fun _ => true) held 22 v d ps) :
    ∃ a len cap l, v = .slice a len cap ∧ Rgs W a len l ∧ (a = none → cap = 0) ∧ (∀ x ∈ l, RGok x) ∧ len ≤ cap ∧ cap ≤ maxLen := by
  obtain ⟨a, len, cap, rfl⟩ := okWide_slice Try.underlying22 hv
  obtain ⟨fuel, hf0⟩ := h
  have hC : Try.prog.cellsOf 25 = 5 := by kernel_rfl
  rcases Go.Deep.open_slice Try.underlying22 hf0 with ⟨hcs, _⟩ | ⟨a', len', cap', m, n, D, Pl, hcs, _, hl, hm, hmm, _, hx⟩
  · simp only [Value.cells, List.cons.injEq, and_true] at hcs
    cases hcs
    exact ⟨none, 0, 0, [], rfl, Rgs.nil _ _, fun _ => rfl, fun x hx => by simp at hx, Nat.le_refl _, by simp [maxLen]⟩
  · simp only [Value.cells, List.cons.injEq, and_true] at hcs
    cases hcs
    simp only [if_true] at hmm
    have key : ∀ i, i < len → ∃ x : RG, RGok x ∧ ∃ b off, a' = ⟨b, off, none⟩ ∧ rgCells W b (off + i * 5) x := by
      intro i hi
      obtain ⟨cs', hc, ht'⟩ := hx i (by omega)
      rw [hC] at hc
      obtain ⟨_, hlen, hat⟩ := World.cells?_some hc
      obtain ⟨ys, n', _, _, _, hyl, hg⟩ := DataW.trod_struct Try.underlying25 ht'
      have one : ∀ j (hj : j < cs'.length), (cs'.drop j).take 1 = [cs'[j]] := by
        intro j hj
        rw [List.drop_eq_getElem_cons hj]
        rfl
      have num : ∀ (j : Nat) (k : IntKind) (T : TypeId), j < 5 → Try.prog.underlying T = some (.int k) → (∀ y, ys[j]? = some y → ∃ n, DataW.trod enc Try.prog W 0 (fun _ => true) held n T ((cs'.drop j).take 1) = some y) → j < ys.length → ∃ x : Int, (Lit.int k x).wf = true ∧ W.cell? ((a'.add (i * 5)).add j) = some (.int k x) := by
        intro j k T hj hT hy hjl
        obtain ⟨n, h1⟩ := hy _ (List.getElem?_eq_getElem hjl)
        rw [one j (by omega)] at h1
        obtain ⟨x, e1, _, wx⟩ := DataW.trod_int hT h1
        refine ⟨x, wx, ?_⟩
        rw [hat j (by omega), List.getElem?_eq_getElem (by omega)]
        simp only [List.cons.injEq, and_true] at e1
        rw [e1]
      have hyl' : ys.length = 5 := hyl
      have c8 : Try.prog.cellsOf 23 = 1 := by kernel_rfl
      have c1 : Try.prog.cellsOf 5 = 1 := by kernel_rfl
      have c3 : Try.prog.cellsOf 3 = 1 := by kernel_rfl
      obtain ⟨x0, w0, h0⟩ := num 0 .u64 23 (by omega) Try.underlying23 (fun y hy => ⟨n', by have h : DataW.trod enc Try.prog W 0 (fun _ => true) held n' 23 ((cs'.drop 0).take (Try.prog.cellsOf 23)) = ys[0]? := hg 0 _ rfl; rw [c8, hy] at h; exact h⟩) (by omega)
      obtain ⟨x1, w1, h1⟩ := num 1 .u64 23 (by omega) Try.underlying23 (fun y hy => ⟨n', by have h : DataW.trod enc Try.prog W 0 (fun _ => true) held n' 23 ((cs'.drop 1).take (Try.prog.cellsOf 23)) = ys[1]? := hg 1 _ rfl; rw [c8, hy] at h; exact h⟩) (by omega)
      obtain ⟨x2, w2, h2⟩ := num 2 .u8 5 (by omega) Try.underlying5 (fun y hy => ⟨n', by have h : DataW.trod enc Try.prog W 0 (fun _ => true) held n' 5 ((cs'.drop 2).take (Try.prog.cellsOf 5)) = ys[2]? := hg 2 _ rfl; rw [c1, hy] at h; exact h⟩) (by omega)
      obtain ⟨x3, w3, h3⟩ := num 3 .i64 3 (by omega) Try.underlying3 (fun y hy => ⟨n', by have h : DataW.trod enc Try.prog W 0 (fun _ => true) held n' 3 ((cs'.drop 3).take (Try.prog.cellsOf 3)) = ys[3]? := hg 3 _ rfl; rw [c3, hy] at h; exact h⟩) (by omega)
      obtain ⟨x4, w4, h4⟩ := num 4 .u64 23 (by omega) Try.underlying23 (fun y hy => ⟨n', by have h : DataW.trod enc Try.prog W 0 (fun _ => true) held n' 23 ((cs'.drop 4).take (Try.prog.cellsOf 23)) = ys[4]? := hg 4 _ rfl; rw [c8, hy] at h; exact h⟩) (by omega)
      obtain ⟨b, off, spot⟩ := a'
      have hsp : spot = none := by
        have hz := (hx 0 (by omega))
        obtain ⟨cs0, hc0, _⟩ := hz
        rw [hC] at hc0
        obtain ⟨_, hlen0, hat0⟩ := World.cells?_some hc0
        have := hat0 0 (by omega)
        rw [List.getElem?_eq_getElem (by omega)] at this
        have h9 := spot_none this
        simpa [Addr.add] using h9
      subst hsp
      have ad : ∀ k, ((Addr.mk b off none).add (i * 5)).add k = ⟨b, off + i * 5 + k, none⟩ := by
        intro k
        unfold Addr.add
        by_cases e1 : i * 5 = 0 <;> by_cases e2 : k = 0 <;> simp [e1, e2]
      rw [ad] at h0 h1 h2 h3 h4
      exact ⟨⟨x0, x1, x2, x3, x4⟩, rgok_of w0 w1 w2 w3 w4, b, off, rfl, h0, h1, h2, h3, h4⟩
    obtain ⟨f, hff⟩ := pick_fun key
    refine ⟨some a', len, cap, (List.range len).map f, rfl, ⟨by simp, fun i hi => ?_⟩, (fun h => by cases h), fun x hx => ?_, hl, hm⟩
    · have hi' : i < len := by simpa using hi
      obtain ⟨_, b, off, e1, hc⟩ := hff i hi'
      exact ⟨b, off, by rw [e1], by simpa using hc⟩
    · obtain ⟨i, hi, rfl⟩ := List.mem_map.1 hx
      exact (hff i (List.mem_range.1 hi)).1
end Go.Proofs.Ytcafmhhfnleanaa
