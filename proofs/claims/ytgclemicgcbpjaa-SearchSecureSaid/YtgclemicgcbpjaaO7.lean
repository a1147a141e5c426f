/- Slices of structs of five ints and a bool, as arguments. No program is named. -/
import Derived.Test.YtgclemicgcbpjaaO6
import Derived.Test.YtgclemicgcbpjaaQ
import Derived.Deep.Slices
namespace Go.Proofs.Ytgclemicgcbpjaa
open Go.ChangeShapes Go.WideShapes Go.ChangeAt Go.RowKit Go.Joins Go.Sort

abbrev OpL := Int × Int × Int × Int × Int × Bool
def opCells (w : World) (b o : Nat) (x : OpL) : Prop :=
  w.cell? ⟨b, o, none⟩ = some (.int .i64 x.1) ∧ w.cell? ⟨b, o + 1, none⟩ = some (.int .i64 x.2.1) ∧ w.cell? ⟨b, o + 2, none⟩ = some (.int .i64 x.2.2.1) ∧ w.cell? ⟨b, o + 3, none⟩ = some (.int .i64 x.2.2.2.1) ∧ w.cell? ⟨b, o + 4, none⟩ = some (.int .i64 x.2.2.2.2.1) ∧ w.cell? ⟨b, o + 5, none⟩ = some (.bool x.2.2.2.2.2)
/-- The ops of a slice lie in memory. -/
def OpsAt (w : World) (a : Option Addr) (len : Nat) (f : Nat → OpL) : Prop := ∀ i, i < len → ∃ b off, a = some ⟨b, off, none⟩ ∧ opCells w b (off + i * 6) (f i)

theorem opCells.below {w w' : World} {b o : Nat} {x : OpL} (h : opCells w b o x) (hb : Below w.heap.size w w') : opCells w' b o x :=
  ⟨keepC hb h.1, keepC hb h.2.1, keepC hb h.2.2.1, keepC hb h.2.2.2.1, keepC hb h.2.2.2.2.1, keepC hb h.2.2.2.2.2⟩
theorem OpsAt.below {w w' : World} {a : Option Addr} {len : Nat} {f : Nat → OpL} (h : OpsAt w a len f) (hb : Below w.heap.size w w') : OpsAt w' a len f := fun i hi => by
  obtain ⟨b, off, e, hc⟩ := h i hi
  exact ⟨b, off, e, hc.below hb⟩

theorem spot_none {w : World} {a : Addr} {v : Value} (h : w.cell? a = some v) : a.spot = none := by
  unfold World.cell? at h
  split at h
  · cases hs : a.spot with
    | none => rfl
    | some s => rw [hs] at h; simp at h
  · cases h

theorem pick_fun {α : Type} [Inhabited α] {n : Nat} {p : Nat → α → Prop} (h : ∀ i, i < n → ∃ x, p i x) : ∃ f : Nat → α, ∀ i, i < n → p i (f i) :=
  ⟨fun i => if hi : i < n then Classical.choose (h i hi) else default, fun i hi => by simp only [hi, dite_true]; exact Classical.choose_spec (h i hi)⟩

theorem open_ops {H : Type} {enc : TypeId × Value → H} {P : Program} {W : World} {t e ti tb : TypeId} {fs : Array Field} {v : Value} {d : DataW H} {ps : List MemPlace} {held : Bool} {r : Reach} {base : Nat}
    (ht : P.underlying t = some (.slice e)) (he : P.underlying e = some (.struct fs)) (hti : P.underlying ti = some (.int .i64)) (htb : P.underlying tb = some .bool) (hC : P.cellsOf e = 6)
    (hf : ∀ j, j < 6 → ∃ f : Field, fs[j]? = some f ∧ f.offset = j ∧ P.cellsOf f.type = 1 ∧ f.type = if j < 5 then ti else tb)
    (hv : Value.okWide P W r base t v) (h : DataW.Trod enc P W 0 (fun _ => true) held t v d ps) :
    ∃ a len cap f, v = .slice a len cap ∧ OpsAt W a len f ∧ len ≤ cap ∧ cap ≤ maxLen := by
  obtain ⟨a, len, cap, rfl⟩ := okWide_slice ht hv
  obtain ⟨fuel, hf0⟩ := h
  rcases Go.Deep.open_slice ht hf0 with ⟨hcs, _⟩ | ⟨a', len', cap', m, n, D, Pl, hcs, _, hl, hm, hmm, _, hx⟩
  · simp only [Value.cells, List.cons.injEq, and_true] at hcs
    cases hcs
    exact ⟨none, 0, 0, fun _ => default, rfl, fun i hi => by omega, Nat.le_refl _, by simp [maxLen]⟩
  · simp only [Value.cells, List.cons.injEq, and_true] at hcs
    cases hcs
    simp only [if_true] at hmm
    have key : ∀ i, i < len → ∃ x : OpL, ∃ b off, a' = ⟨b, off, none⟩ ∧ opCells W b (off + i * 6) x := by
      intro i hi
      obtain ⟨cs', hc, ht'⟩ := hx i (by omega)
      rw [hC] at hc
      obtain ⟨_, hlen, hat⟩ := World.cells?_some hc
      obtain ⟨ys, n', _, _, _, hyl, hg⟩ := DataW.trod_struct he ht'
      have one : ∀ j (hj : j < cs'.length), (cs'.drop j).take 1 = [cs'[j]] := by
        intro j hj
        rw [List.drop_eq_getElem_cons hj]
        rfl
      have num : ∀ j, j < 5 → ∃ x : Int, W.cell? ((a'.add (i * 6)).add j) = some (.int .i64 x) := by
        intro j hj
        obtain ⟨f, hfj, ho, hk, hty⟩ := hf j (by omega)
        have h1 := hg j f hfj
        rw [ho, hk, one j (by omega), hty, if_pos hj] at h1
        have hyj : j < ys.length := by rw [hyl]; exact (Array.getElem?_eq_some_iff.1 hfj).1
        rw [List.getElem?_eq_getElem hyj] at h1
        obtain ⟨x, e1, _, _⟩ := DataW.trod_int hti h1
        refine ⟨x, ?_⟩
        rw [hat j (by omega), List.getElem?_eq_getElem (by omega)]
        simp only [List.cons.injEq, and_true] at e1
        rw [e1]
      have boo : ∃ x : Bool, W.cell? ((a'.add (i * 6)).add 5) = some (.bool x) := by
        obtain ⟨f, hfj, ho, hk, hty⟩ := hf 5 (by omega)
        have h1 := hg 5 f hfj
        rw [ho, hk, one 5 (by omega), hty, if_neg (by omega)] at h1
        have hyj : 5 < ys.length := by rw [hyl]; exact (Array.getElem?_eq_some_iff.1 hfj).1
        rw [List.getElem?_eq_getElem hyj] at h1
        obtain ⟨x, e1, _⟩ := DataW.trod_bool htb h1
        refine ⟨x, ?_⟩
        rw [hat 5 (by omega), List.getElem?_eq_getElem (by omega)]
        simp only [List.cons.injEq, and_true] at e1
        rw [e1]
      obtain ⟨x0, h0⟩ := num 0 (by omega)
      obtain ⟨x1, h1⟩ := num 1 (by omega)
      obtain ⟨x2, h2⟩ := num 2 (by omega)
      obtain ⟨x3, h3⟩ := num 3 (by omega)
      obtain ⟨x4, h4⟩ := num 4 (by omega)
      obtain ⟨x5, h5⟩ := boo
      obtain ⟨b, off, spot⟩ := a'
      have hsp : spot = none := by
        have hz := (hx 0 (by omega))
        obtain ⟨cs0, hc0, _⟩ := hz
        rw [hC] at hc0
        obtain ⟨_, hlen0, hat0⟩ := World.cells?_some hc0
        have := hat0 0 (by omega)
        rw [List.getElem?_eq_getElem (by omega)] at this
        have h9 := spot_none this
        simpa [Addr.add] using h9
      subst hsp
      have ad : ∀ k, ((Addr.mk b off none).add (i * 6)).add k = ⟨b, off + i * 6 + k, none⟩ := by
        intro k
        unfold Addr.add
        by_cases e1 : i * 6 = 0 <;> by_cases e2 : k = 0 <;> simp [e1, e2]
      rw [ad] at h0 h1 h2 h3 h4 h5
      exact ⟨(x0, x1, x2, x3, x4, x5), b, off, rfl, h0, h1, h2, h3, h4, h5⟩
    obtain ⟨f, hff⟩ := pick_fun key
    refine ⟨some a', len, cap, f, rfl, fun i hi => ?_, hl, hm⟩
    obtain ⟨b, off, e1, hc⟩ := hff i hi
    exact ⟨b, off, by rw [e1], hc⟩
end Go.Proofs.Ytgclemicgcbpjaa
