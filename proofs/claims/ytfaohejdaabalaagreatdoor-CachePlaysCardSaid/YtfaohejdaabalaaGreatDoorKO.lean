
/- Merged: O O5 O6 O7 LF OA. -/
import Derived.Test.YtfaohejdaabalaaGreatDoorKA
import Derived.Lib.SmallJoins
import Derived.Deep.Slices
import Derived.SizedLaws
namespace Go.Proofs.YtfaohejdaabalaaGreatDoor
open Go.ChangeShapes Go.WideShapes Go.ChangeAt Go.RowKit Go.ChangeMaps

theorem lits_len (k : IntKind) (l : List Int) {H : Type} : (lits (H := H) k l).length = l.length := by simp [lits]

theorem open_bytes {H : Type} {enc : TypeId × Value → H} {P : Program} {W : World} {t e : TypeId} {v : Value} {d : DataW H} {ps : List MemPlace} {held : Bool}
    (ht : P.underlying t = some (.slice e)) (he : P.underlying e = some (.int .u8)) (hc : P.cellsOf e = 1)
    (h : ∃ fuel, DataW.trod enc P W 0 (fun _ => true) held fuel t [v] = some (d, ps)) :
    ∃ a len cap l, v = .slice a len cap ∧ Byt W a len l ∧ len ≤ cap ∧ cap ≤ maxLen ∧ (∀ n, (d.weights P t).all (· ≤ n) = true → cap * P.bytesOf e ≤ n) := by
  obtain ⟨fuel, hf⟩ := h
  rcases open_ints ht he hc hf with ⟨hcs, hx⟩ | ⟨a, len, cap, zs, hcs, _, hl, hm, hz, hx, hcell, hwz⟩
  · simp only [List.cons.injEq, and_true] at hcs
    subst hcs
    exact ⟨none, 0, 0, [], rfl, Byt.nil _ _, Nat.le_refl _, by simp [maxLen], fun n _ => by simp⟩
  · simp only [List.cons.injEq, and_true] at hcs
    subst hcs
    simp only [if_true] at hz
    have hlen : (zs.take len).length = len := by simp; omega
    refine ⟨some a, len, cap, (zs.take len).map (fun z => UInt8.ofNat z.toNat), rfl, ⟨by simp; omega, fun i hi => ?_⟩, hl, hm, fun n hn => ?_⟩
    · have hi' : i < len := by simp at hi; omega
      have h1 := hcell i (by omega)
      have hzi : zs.getD i 0 = zs[i]'(by omega) := by rw [List.getD_eq_getElem?_getD, List.getElem?_eq_getElem (by omega)]; rfl
      have hw := bounds_u8 (hwz (zs[i]'(by omega)) (List.getElem_mem _))
      have hval : (((zs.take len).map (fun z => UInt8.ofNat z.toNat))[i]'hi).toNat = (zs[i]'(by omega)).toNat := by
        simp only [List.getElem_map, List.getElem_take, UInt8.toNat_ofNat']
        omega
      rw [hzi] at h1
      obtain ⟨b, off, spot⟩ := a
      have hs : spot = none ∨ i ≠ 0 := by
        by_cases e0 : i = 0
        · left
          subst e0
          simp only [Addr.add, if_true] at h1
          unfold World.cell? at h1
          split at h1
          · cases spot with
            | none => rfl
            | some s => simp at h1
          · cases h1
        · exact .inr e0
      have h0 := hcell 0 (by omega)
      have hsp : spot = none := by
        simp only [Addr.add, if_true] at h0
        unfold World.cell? at h0
        split at h0
        · cases spot with
          | none => rfl
          | some s => simp at h0
        · cases h0
      subst hsp
      refine ⟨b, off, rfl, ?_⟩
      have e2 : (Addr.mk b off none).add i = ⟨b, off + i, none⟩ := by
        unfold Addr.add
        split
        · subst_vars; simp
        · rfl
      rw [e2] at h1
      rw [h1, hval]
      congr 2
      omega
    · simp only [Prod.mk.injEq] at hx
      obtain ⟨rfl, _⟩ := hx
      simp only [DataW.weights, ht, lits_len, List.all_cons, Bool.and_eq_true, decide_eq_true_eq, List.length_take, List.length_drop] at hn
      have h3 := hn.1
      have e3 : min len zs.length + (zs.length - len) = cap := by omega
      rw [e3] at h3
      exact h3

/-- An argument that is a slice of bytes. -/
theorem open_bytes_arg {H : Type} {enc : TypeId × Value → H} {P : Program} {W : World} {t e : TypeId} {v : Value} {d : DataW H} {ps : List MemPlace} {held : Bool} {r : Reach} {base : Nat}
    (ht : P.underlying t = some (.slice e)) (he : P.underlying e = some (.int .u8)) (hc : P.cellsOf e = 1) (hv : Value.okWide P W r base t v)
    (h : DataW.Trod enc P W 0 (fun _ => true) held t v d ps) :
    ∃ a len cap l, v = .slice a len cap ∧ Byt W a len l ∧ len ≤ cap ∧ cap ≤ maxLen ∧ (∀ n, (d.weights P t).all (· ≤ n) = true → cap * P.bytesOf e ≤ n) := by
  obtain ⟨a, len, cap, rfl⟩ := okWide_slice ht hv
  exact open_bytes ht he hc h

/-- A field's cell that reads as a slice is one. -/
theorem field_slice {H : Type} {enc : TypeId × Value → H} {P : Program} {W : World} {t e : TypeId} {v : Value} {y : DataW H × List MemPlace} {sp : Nat → Bool} {held : Bool} {m : Nat}
    (ht : P.underlying t = some (.slice e)) (h : DataW.trod enc P W 0 sp held m t [v] = some y) : ∃ a len cap, v = .slice a len cap := by
  rcases DataW.trod_slice ht h with ⟨h0, _⟩ | ⟨a, len, cap, elems, rest, n, _, h0, _⟩
  · simp only [List.cons.injEq, and_true] at h0
    exact ⟨_, _, _, h0⟩
  · simp only [List.cons.injEq, and_true] at h0
    exact ⟨_, _, _, h0⟩
end Go.Proofs.YtfaohejdaabalaaGreatDoor
namespace Go.Proofs.YtfaohejdaabalaaGreatDoor
open Go.ChangeShapes Go.WideShapes Go.ChangeAt Go.RowKit Go.Joins

theorem five_cells {α : Type} {cs : Array α} (h : cs.size = 5) : ∃ c0 c1 c2 c3 c4, cs = #[c0, c1, c2, c3, c4] := by
  obtain ⟨l⟩ := cs
  match l, h with
  | [c0, c1, c2, c3, c4], _ => exact ⟨c0, c1, c2, c3, c4, rfl⟩

theorem open_five {H : Type} {enc : TypeId × Value → H} {P : Program} {w : World} {base : Nat} {spare : Nat → Bool} {held : Bool} {r : Reach} {b0 : Nat} {t : TypeId} {f0 f1 f2 f3 f4 : Field} {v : Value} {d : DataW H} {p : List MemPlace}
    (hs : P.underlying t = some (.struct #[f0, f1, f2, f3, f4])) (ho : f0.offset = 0 ∧ f1.offset = 1 ∧ f2.offset = 2 ∧ f3.offset = 3 ∧ f4.offset = 4)
    (hk : P.cellsOf f0.type = 1 ∧ P.cellsOf f1.type = 1 ∧ P.cellsOf f2.type = 1 ∧ P.cellsOf f3.type = 1 ∧ P.cellsOf f4.type = 1) (hC : P.cellsOf t = 5)
    (hv : Value.okWide P w r b0 t v) (h : DataW.Trod enc P w base spare held t v d p) :
    ∃ (v0 v1 v2 v3 v4 : Value) (y0 y1 y2 y3 y4 : DataW H × List MemPlace) (n : Nat), v = .agg #[v0, v1, v2, v3, v4] ∧
      DataW.trod enc P w base spare held n f0.type [v0] = some y0 ∧ DataW.trod enc P w base spare held n f1.type [v1] = some y1 ∧ DataW.trod enc P w base spare held n f2.type [v2] = some y2 ∧ DataW.trod enc P w base spare held n f3.type [v3] = some y3 ∧ DataW.trod enc P w base spare held n f4.type [v4] = some y4 := by
  obtain ⟨cs, rfl, hsz⟩ := okWide_struct hs hv
  obtain ⟨c0, c1, c2, c3, c4, rfl⟩ := five_cells (hsz.trans hC)
  obtain ⟨fuel, hf⟩ := h
  obtain ⟨xs, n, _, _, hl, hlen, hx⟩ := DataW.trod_struct hs hf
  obtain ⟨o0, o1, o2, o3, o4⟩ := ho
  obtain ⟨k0, k1, k2, k3, k4⟩ := hk
  match xs, hlen with
  | [y0, y1, y2, y3, y4], _ =>
    have h0 := hx 0 f0 rfl
    have h1 := hx 1 f1 rfl
    have h2 := hx 2 f2 rfl
    have h3 := hx 3 f3 rfl
    have h4 := hx 4 f4 rfl
    exact ⟨c0, c1, c2, c3, c4, y0, y1, y2, y3, y4, n, rfl, by simpa [Value.cells, o0, k0] using h0, by simpa [Value.cells, o1, k1] using h1, by simpa [Value.cells, o2, k2] using h2, by simpa [Value.cells, o3, k3] using h3, by simpa [Value.cells, o4, k4] using h4⟩

theorem nil_ints {H : Type} {enc : TypeId × Value → H} {P : Program} {W : World} {t e : TypeId} {k : IntKind} {d : DataW H} {ps : List MemPlace} {held : Bool} {a : Option Addr} {len cap : Nat}
    (ht : P.underlying t = some (.slice e)) (he : P.underlying e = some (.int k)) (hc : P.cellsOf e = 1)
    (h : ∃ fuel, DataW.trod enc P W 0 (fun _ => true) held fuel t [.slice a len cap] = some (d, ps)) (ha : a = none) : cap = 0 := by
  obtain ⟨fuel, hf⟩ := h
  rcases open_ints ht he hc hf with ⟨hcs, hx⟩ | ⟨a, len, cap, zs, hcs, _⟩
  · simp only [List.cons.injEq, and_true, Value.slice.injEq] at hcs
    exact hcs.2.2
  · simp only [List.cons.injEq, and_true, Value.slice.injEq] at hcs
    rw [ha] at hcs
    cases hcs.1
end Go.Proofs.YtfaohejdaabalaaGreatDoor
namespace Go.Proofs.YtfaohejdaabalaaGreatDoor
open Go.ChangeShapes Go.WideShapes Go.ChangeAt Go.RowKit Go.Joins

theorem six_cells {α : Type} {cs : Array α} (h : cs.size = 6) : ∃ c0 c1 c2 c3 c4 c5, cs = #[c0, c1, c2, c3, c4, c5] := by
  obtain ⟨l⟩ := cs
  match l, h with
  | [c0, c1, c2, c3, c4, c5], _ => exact ⟨c0, c1, c2, c3, c4, c5, rfl⟩

theorem open_six {H : Type} {enc : TypeId × Value → H} {P : Program} {w : World} {base : Nat} {spare : Nat → Bool} {held : Bool} {r : Reach} {b0 : Nat} {t : TypeId} {f0 f1 f2 f3 f4 f5 : Field} {v : Value} {d : DataW H} {p : List MemPlace}
    (hs : P.underlying t = some (.struct #[f0, f1, f2, f3, f4, f5])) (ho : f0.offset = 0 ∧ f1.offset = 1 ∧ f2.offset = 2 ∧ f3.offset = 3 ∧ f4.offset = 4 ∧ f5.offset = 5)
    (hk : P.cellsOf f0.type = 1 ∧ P.cellsOf f1.type = 1 ∧ P.cellsOf f2.type = 1 ∧ P.cellsOf f3.type = 1 ∧ P.cellsOf f4.type = 1 ∧ P.cellsOf f5.type = 1) (hC : P.cellsOf t = 6)
    (hv : Value.okWide P w r b0 t v) (h : DataW.Trod enc P w base spare held t v d p) :
    ∃ (v0 v1 v2 v3 v4 v5 : Value) (y0 y1 y2 y3 y4 y5 : DataW H × List MemPlace) (n : Nat), v = .agg #[v0, v1, v2, v3, v4, v5] ∧
      DataW.trod enc P w base spare held n f0.type [v0] = some y0 ∧ DataW.trod enc P w base spare held n f1.type [v1] = some y1 ∧ DataW.trod enc P w base spare held n f2.type [v2] = some y2 ∧ DataW.trod enc P w base spare held n f3.type [v3] = some y3 ∧ DataW.trod enc P w base spare held n f4.type [v4] = some y4 ∧ DataW.trod enc P w base spare held n f5.type [v5] = some y5 := by
  obtain ⟨cs, rfl, hsz⟩ := okWide_struct hs hv
  obtain ⟨c0, c1, c2, c3, c4, c5, rfl⟩ := six_cells (hsz.trans hC)
  obtain ⟨fuel, hf⟩ := h
  obtain ⟨xs, n, _, _, hl, hlen, hx⟩ := DataW.trod_struct hs hf
  obtain ⟨o0, o1, o2, o3, o4, o5⟩ := ho
  obtain ⟨k0, k1, k2, k3, k4, k5⟩ := hk
  match xs, hlen with
  | [y0, y1, y2, y3, y4, y5], _ =>
    have h0 := hx 0 f0 rfl
    have h1 := hx 1 f1 rfl
    have h2 := hx 2 f2 rfl
    have h3 := hx 3 f3 rfl
    have h4 := hx 4 f4 rfl
    have h5 := hx 5 f5 rfl
    exact ⟨c0, c1, c2, c3, c4, c5, y0, y1, y2, y3, y4, y5, n, rfl, by simpa [Value.cells, o0, k0] using h0, by simpa [Value.cells, o1, k1] using h1, by simpa [Value.cells, o2, k2] using h2, by simpa [Value.cells, o3, k3] using h3, by simpa [Value.cells, o4, k4] using h4, by simpa [Value.cells, o5, k5] using h5⟩
end Go.Proofs.YtfaohejdaabalaaGreatDoor
namespace Go.Proofs.YtfaohejdaabalaaGreatDoor
open Go.ChangeShapes Go.WideShapes Go.ChangeAt Go.RowKit Go.Joins Go.Sort

abbrev OpL := Int × Int × Int × Int × Int × Bool
def opCells (w : World) (b o : Nat) (x : OpL) : Prop :=
  w.cell? ⟨b, o, none⟩ = some (.int .i64 x.1) ∧ w.cell? ⟨b, o + 1, none⟩ = some (.int .i64 x.2.1) ∧ w.cell? ⟨b, o + 2, none⟩ = some (.int .i64 x.2.2.1) ∧ w.cell? ⟨b, o + 3, none⟩ = some (.int .i64 x.2.2.2.1) ∧ w.cell? ⟨b, o + 4, none⟩ = some (.int .i64 x.2.2.2.2.1) ∧ w.cell? ⟨b, o + 5, none⟩ = some (.bool x.2.2.2.2.2)
/-- The ops of a slice lie in memory. -/
def OpsAt (w : World) (a : Option Addr) (len : Nat) (f : Nat → OpL) : Prop := ∀ i, i < len → ∃ b off, a = some ⟨b, off, none⟩ ∧ opCells w b (off + i * 6) (f i)

theorem opCells.below {w w' : World} {b o : Nat} {x : OpL} (h : opCells w b o x) (hb : Below w.heap.size w w') : opCells w' b o x :=
  ⟨keepC hb h.1, keepC hb h.2.1, keepC hb h.2.2.1, keepC hb h.2.2.2.1, keepC hb h.2.2.2.2.1, keepC hb h.2.2.2.2.2⟩
theorem OpsAt.below {w w' : World} {a : Option Addr} {len : Nat} {f : Nat → OpL} (h : OpsAt w a len f) (hb : Below w.heap.size w w') : OpsAt w' a len f := fun i hi => by
  obtain ⟨b, off, e, hc⟩ := h i hi
  exact ⟨b, off, e, hc.below hb⟩

theorem spot_none {w : World} {a : Addr} {v : Value} (h : w.cell? a = some v) : a.spot = none := by
  unfold World.cell? at h
  split at h
  · cases hs : a.spot with
    | none => rfl
    | some s => rw [hs] at h; simp at h
  · cases h

theorem pick_fun {α : Type} [Inhabited α] {n : Nat} {p : Nat → α → Prop} (h : ∀ i, i < n → ∃ x, p i x) : ∃ f : Nat → α, ∀ i, i < n → p i (f i) :=
  ⟨fun i => if hi : i < n then Classical.choose (h i hi) else default, fun i hi => by simp only [hi, dite_true]; exact Classical.choose_spec (h i hi)⟩

theorem open_ops {H : Type} {enc : TypeId × Value → H} {P : Program} {W : World} {t e ti tb : TypeId} {fs : Array Field} {v : Value} {d : DataW H} {ps : List MemPlace} {held : Bool} {r : Reach} {base : Nat}
    (ht : P.underlying t = some (.slice e)) (he : P.underlying e = some (.struct fs)) (hti : P.underlying ti = some (.int .i64)) (htb : P.underlying tb = some .bool) (hC : P.cellsOf e = 6)
    (hf : ∀ j, j < 6 → ∃ f : Field, fs[j]? = some f ∧ f.offset = j ∧ P.cellsOf f.type = 1 ∧ f.type = if j < 5 then ti else tb)
    (hv : Value.okWide P W r base t v) (h : DataW.Trod enc P W 0 (fun _ => true) held t v d ps) :
    ∃ a len cap f, v = .slice a len cap ∧ OpsAt W a len f ∧ len ≤ cap ∧ cap ≤ maxLen := by
  obtain ⟨a, len, cap, rfl⟩ := okWide_slice ht hv
  obtain ⟨fuel, hf0⟩ := h
  rcases Go.Deep.open_slice ht hf0 with ⟨hcs, _⟩ | ⟨a', len', cap', m, n, D, Pl, hcs, _, hl, hm, hmm, _, hx⟩
  · simp only [Value.cells, List.cons.injEq, and_true] at hcs
    cases hcs
    exact ⟨none, 0, 0, fun _ => default, rfl, fun i hi => by omega, Nat.le_refl _, by simp [maxLen]⟩
  · simp only [Value.cells, List.cons.injEq, and_true] at hcs
    cases hcs
    simp only [if_true] at hmm
    have key : ∀ i, i < len → ∃ x : OpL, ∃ b off, a' = ⟨b, off, none⟩ ∧ opCells W b (off + i * 6) x := by
      intro i hi
      obtain ⟨cs', hc, ht'⟩ := hx i (by omega)
      rw [hC] at hc
      obtain ⟨_, hlen, hat⟩ := World.cells?_some hc
      obtain ⟨ys, n', _, _, _, hyl, hg⟩ := DataW.trod_struct he ht'
      have one : ∀ j (hj : j < cs'.length), (cs'.drop j).take 1 = [cs'[j]] := by
        intro j hj
        rw [List.drop_eq_getElem_cons hj]
        rfl
      have num : ∀ j, j < 5 → ∃ x : Int, W.cell? ((a'.add (i * 6)).add j) = some (.int .i64 x) := by
        intro j hj
        obtain ⟨f, hfj, ho, hk, hty⟩ := hf j (by omega)
        have h1 := hg j f hfj
        rw [ho, hk, one j (by omega), hty, if_pos hj] at h1
        have hyj : j < ys.length := by rw [hyl]; exact (Array.getElem?_eq_some_iff.1 hfj).1
        rw [List.getElem?_eq_getElem hyj] at h1
        obtain ⟨x, e1, _, _⟩ := DataW.trod_int hti h1
        refine ⟨x, ?_⟩
        rw [hat j (by omega), List.getElem?_eq_getElem (by omega)]
        simp only [List.cons.injEq, and_true] at e1
        rw [e1]
      have boo : ∃ x : Bool, W.cell? ((a'.add (i * 6)).add 5) = some (.bool x) := by
        obtain ⟨f, hfj, ho, hk, hty⟩ := hf 5 (by omega)
        have h1 := hg 5 f hfj
        rw [ho, hk, one 5 (by omega), hty, if_neg (by omega)] at h1
        have hyj : 5 < ys.length := by rw [hyl]; exact (Array.getElem?_eq_some_iff.1 hfj).1
        rw [List.getElem?_eq_getElem hyj] at h1
        obtain ⟨x, e1, _⟩ := DataW.trod_bool htb h1
        refine ⟨x, ?_⟩
        rw [hat 5 (by omega), List.getElem?_eq_getElem (by omega)]
        simp only [List.cons.injEq, and_true] at e1
        rw [e1]
      obtain ⟨x0, h0⟩ := num 0 (by omega)
      obtain ⟨x1, h1⟩ := num 1 (by omega)
      obtain ⟨x2, h2⟩ := num 2 (by omega)
      obtain ⟨x3, h3⟩ := num 3 (by omega)
      obtain ⟨x4, h4⟩ := num 4 (by omega)
      obtain ⟨x5, h5⟩ := boo
      obtain ⟨b, off, spot⟩ := a'
      have hsp : spot = none := by
        have hz := (hx 0 (by omega))
        obtain ⟨cs0, hc0, _⟩ := hz
        rw [hC] at hc0
        obtain ⟨_, hlen0, hat0⟩ := World.cells?_some hc0
        have := hat0 0 (by omega)
        rw [List.getElem?_eq_getElem (by omega)] at this
        have h9 := spot_none this
        simpa [Addr.add] using h9
      subst hsp
      have ad : ∀ k, ((Addr.mk b off none).add (i * 6)).add k = ⟨b, off + i * 6 + k, none⟩ := by
        intro k
        unfold Addr.add
        by_cases e1 : i * 6 = 0 <;> by_cases e2 : k = 0 <;> simp [e1, e2]
      rw [ad] at h0 h1 h2 h3 h4 h5
      exact ⟨(x0, x1, x2, x3, x4, x5), b, off, rfl, h0, h1, h2, h3, h4, h5⟩
    obtain ⟨f, hff⟩ := pick_fun key
    refine ⟨some a', len, cap, f, rfl, fun i hi => ?_, hl, hm⟩
    obtain ⟨b, off, e1, hc⟩ := hff i hi
    exact ⟨b, off, by rw [e1], hc⟩
end Go.Proofs.YtfaohejdaabalaaGreatDoor
namespace Go.Proofs.YtfaohejdaabalaaGreatDoor
open Go.ChangeShapes Go.WideShapes Go.ChangeAt Go.RowKit Go.Joins Go.Sort

/-- All that a datum weighs is at most N. -/
def Small {H : Type} (P : Program) (N : Nat) (t : TypeId) (d : DataW H) : Prop := ∀ n ∈ d.weights P t, n ≤ N
theorem small_of {H : Type} {P : Program} {t : TypeId} {d : DataW H} (h : (d.weights P t).all (· ≤ reachBytes) = true) : Small P reachBytes t d := fun n hn => by
  have := List.all_eq_true.1 h n hn
  simpa using this
theorem weightsAll_mem {H : Type} {P : Program} {e : TypeId} : ∀ {l : List (DataW H)} {d : DataW H}, d ∈ l → ∀ n ∈ d.weights P e, n ∈ DataW.weightsAll P e l
  | [], _, h, _, _ => by simp at h
  | x :: l, d, h, n, hn => by
    simp only [DataW.weightsAll, List.mem_append]
    rcases List.mem_cons.1 h with rfl | h
    · exact .inl hn
    · exact .inr (weightsAll_mem h n hn)

/-- The cells of a type that are no structs: where each lies, and its type. -/
def leaves (P : Program) : Nat → TypeId → List (Nat × TypeId)
  | 0, t => [(0, t)]
  | n + 1, t => match P.underlying t with
    | some (.struct fs) => fs.toList.flatMap fun f => ((leaves P n f.type).filter fun p => decide (p.1 + P.cellsOf p.2 ≤ P.cellsOf f.type)).map fun p => (f.offset + p.1, p.2)
    | _ => [(0, t)]

section
variable {H : Type} {enc : TypeId × Value → H} {P : Program} {w : World} {base : Nat} {spare : Nat → Bool} {held : Bool}

theorem trod_leaf {N : Nat} : ∀ (n : Nat) {fuel : Nat} {t : TypeId} {cs : List Value} {x : DataW H × List MemPlace} (_ : DataW.trod enc P w base spare held fuel t cs = some x) (_ : Small P N t x.1) (_ : cs.length ≤ P.cellsOf t) (p : Nat × TypeId) (_ : p ∈ leaves P n t),
    ∃ m y, DataW.trod enc P w base spare held m p.2 ((cs.drop p.1).take (P.cellsOf p.2)) = some y ∧ Small P N p.2 y.1
  | 0, fuel, t, cs, x, h, hw, hl, p, hp => by
    simp only [leaves, List.mem_singleton] at hp
    subst hp
    exact ⟨fuel, x, by simpa [List.take_of_length_le hl] using h, hw⟩
  | n + 1, fuel, t, cs, x, h, hw, hl, p, hp => by
    by_cases hs : ∃ fs, P.underlying t = some (.struct fs)
    · obtain ⟨fs, ht⟩ := hs
      simp only [leaves, ht] at hp
      obtain ⟨f, hf, hp2⟩ := List.mem_flatMap.1 hp
      obtain ⟨q, hq, rfl⟩ := List.mem_map.1 hp2
      obtain ⟨hq1, hq2⟩ := List.mem_filter.1 hq
      have hq3 : q.1 + P.cellsOf q.2 ≤ P.cellsOf f.type := of_decide_eq_true hq2
      obtain ⟨xs, m, _, rfl, hcl, hxl, hx⟩ := DataW.trod_struct ht h
      obtain ⟨i, hi, he⟩ := List.getElem_of_mem hf
      have hi2 : fs[i]? = some f := by rw [← he]; simp at hi; simp [hi]
      have hgx := hx i f hi2
      have hix : i < xs.length := by simp at hi; omega
      rw [List.getElem?_eq_getElem hix] at hgx
      have hsm : Small P N f.type xs[i].1 := by
        intro n' hn'
        apply hw
        simp only [DataW.weights, ht]
        exact DataW.weights_mem_each (j := i) (t := f.type) (d := xs[i].1) (by rw [List.getElem?_map]; simp [hi2]) (by rw [List.getElem?_map, List.getElem?_eq_getElem hix]; rfl) n' hn'
      obtain ⟨m2, y, hy, hy2⟩ := trod_leaf n hgx hsm (List.length_take_le _ _) q hq1
      refine ⟨m2, y, ?_, hy2⟩
      rw [List.drop_take, List.drop_drop, List.take_take] at hy
      rw [show min (P.cellsOf q.2) (P.cellsOf f.type - q.1) = P.cellsOf q.2 by omega] at hy
      exact hy
    · have : leaves P (n + 1) t = [(0, t)] := by
        unfold leaves
        split
        · rename_i fs h2; exact absurd ⟨fs, h2⟩ hs
        · rfl
      rw [this, List.mem_singleton] at hp
      subst hp
      exact ⟨fuel, x, by simpa [List.take_of_length_le hl] using h, hw⟩

/-- A leaf of one cell. -/
theorem trod_leaf1 {N n : Nat} {fuel : Nat} {t : TypeId} {cs : List Value} {x : DataW H × List MemPlace} (h : DataW.trod enc P w base spare held fuel t cs = some x) (hw : Small P N t x.1) (hl : cs.length ≤ P.cellsOf t) {o : Nat} {u : TypeId} (hp : (o, u) ∈ leaves P n t) (hc : P.cellsOf u = 1) (ho : o < cs.length) :
    ∃ m y, DataW.trod enc P w base spare held m u [cs[o]] = some y ∧ Small P N u y.1 := by
  obtain ⟨m, y, hy, hy2⟩ := trod_leaf n h hw hl _ hp
  refine ⟨m, y, ?_, hy2⟩
  simp only [hc] at hy
  rw [List.drop_eq_getElem_cons ho] at hy
  exact hy

/-- A struct by value. -/
theorem open_agg {N n : Nat} {r : Reach} {b0 : Nat} {t : TypeId} {fs : Array Field} {v : Value} {d : DataW H} {ps : List MemPlace} (ht : P.underlying t = some (.struct fs)) (hv : Value.okWide P w r b0 t v) (h : DataW.Trod enc P w base spare held t v d ps) (hw : Small P N t d) :
    ∃ cs : Array Value, v = .agg cs ∧ cs.size = P.cellsOf t ∧ ∀ o u, (o, u) ∈ leaves P n t → P.cellsOf u = 1 → ∀ ho : o < cs.size, ∃ m y, DataW.trod enc P w base spare held m u [cs[o]] = some y ∧ Small P N u y.1 := by
  obtain ⟨cs, rfl, hsz⟩ := okWide_struct ht hv
  obtain ⟨fuel, hf⟩ := h
  refine ⟨cs, rfl, hsz, fun o u hp hc ho => ?_⟩
  have hf2 : DataW.trod enc P w base spare held fuel t cs.toList = some (d, ps) := hf
  have := trod_leaf1 hf2 hw (by simp [hsz]) hp hc (by simpa using ho)
  simpa using this

/-- A slice of structs: each element's leaves lie where they should. -/
theorem open_rows {N n : Nat} {fuel : Nat} {t e : TypeId} {v : Value} {x : DataW H × List MemPlace} (ht : P.underlying t = some (.slice e)) (hf : DataW.trod enc P w base (fun _ => true) held fuel t [v] = some x) (hw : Small P N t x.1) (hpos : 0 < P.cellsOf e) :
    ∃ a len cap, v = .slice a len cap ∧ len ≤ cap ∧ cap ≤ maxLen ∧ (a = none → cap = 0) ∧ cap * P.bytesOf e ≤ N ∧
      ∀ i, i < len → ∃ b off, a = some ⟨b, off, none⟩ ∧ ∀ o u, (o, u) ∈ leaves P n e → P.cellsOf u = 1 → o < P.cellsOf e → ∃ val m y, w.cell? ⟨b, off + i * P.cellsOf e + o, none⟩ = some val ∧ DataW.trod enc P w base (fun _ => true) held m u [val] = some y ∧ Small P N u y.1 := by
  rcases Go.Deep.open_slice ht hf with ⟨hcs, _⟩ | ⟨a', len', cap', m, n', D, Pl, hcs, _, hl, hm, hmm, hxx, hx⟩
  · simp only [List.cons.injEq, and_true] at hcs
    exact ⟨none, 0, 0, hcs, Nat.le_refl _, by simp [maxLen], fun _ => rfl, by simp, fun i hi => by omega⟩
  · simp only [List.cons.injEq, and_true] at hcs
    simp only [if_true] at hmm
    subst hmm
    refine ⟨some a', len', m, hcs, hl, hm, (fun h => by cases h), ?_, fun i hi => ?_⟩
    · have := hw ((((List.range len').map D).length + ((List.range (m - len')).map fun j => D (len' + j)).length) * P.bytesOf e) (by rw [hxx]; simp only [DataW.weights, ht]; exact List.mem_cons_self ..)
      simp only [List.length_map, List.length_range] at this
      rwa [show len' + (m - len') = m by omega] at this
    · obtain ⟨cs', hc, ht'⟩ := hx i (by omega)
      obtain ⟨_, hlen, hat⟩ := World.cells?_some hc
      have hsD : Small P N e (D i) := by
        intro q hq
        apply hw
        rw [hxx]
        simp only [DataW.weights, ht, List.mem_cons, List.mem_append]
        exact .inr (.inl (weightsAll_mem (List.mem_map.2 ⟨i, List.mem_range.2 hi, rfl⟩) q hq))
      obtain ⟨b, off, spot⟩ := a'
      have hsp : spot = none := by
        obtain ⟨cs0, hc0, _⟩ := hx 0 (by omega)
        obtain ⟨_, hlen0, hat0⟩ := World.cells?_some hc0
        have h0 := hat0 0 hpos
        rw [List.getElem?_eq_getElem (by omega)] at h0
        have h9 := spot_none h0
        simpa [Addr.add] using h9
      subst hsp
      refine ⟨b, off, rfl, fun o u hp hcu ho => ?_⟩
      obtain ⟨m2, y, hy, hy2⟩ := trod_leaf1 ht' hsD (by omega) hp hcu (by omega)
      refine ⟨cs'[o], m2, y, ?_, hy, hy2⟩
      have ad : ((Addr.mk b off none).add (i * P.cellsOf e)).add o = ⟨b, off + i * P.cellsOf e + o, none⟩ := by
        unfold Addr.add
        by_cases e1 : i * P.cellsOf e = 0 <;> by_cases e2 : o = 0 <;> simp [e1, e2]
      have h1 := hat o ho
      rw [ad, List.getElem?_eq_getElem (by omega)] at h1
      exact h1
theorem open_rows_arg {N n : Nat} {r : Reach} {b0 : Nat} {t e : TypeId} {v : Value} {d : DataW H} {ps : List MemPlace} (ht : P.underlying t = some (.slice e)) (hv : Value.okWide P w r b0 t v) (h : DataW.Trod enc P w base (fun _ => true) held t v d ps) (hw : Small P N t d) (hpos : 0 < P.cellsOf e) :
    ∃ a len cap, v = .slice a len cap ∧ len ≤ cap ∧ cap ≤ maxLen ∧ (a = none → cap = 0) ∧ cap * P.bytesOf e ≤ N ∧
      ∀ i, i < len → ∃ b off, a = some ⟨b, off, none⟩ ∧ ∀ o u, (o, u) ∈ leaves P n e → P.cellsOf u = 1 → o < P.cellsOf e → ∃ val m y, w.cell? ⟨b, off + i * P.cellsOf e + o, none⟩ = some val ∧ DataW.trod enc P w base (fun _ => true) held m u [val] = some y ∧ Small P N u y.1 := by
  obtain ⟨a, len, cap, rfl⟩ := okWide_slice ht hv
  obtain ⟨fuel, hf⟩ := h
  exact open_rows ht hf hw hpos
end
end Go.Proofs.YtfaohejdaabalaaGreatDoor
namespace Go.Proofs.YtfaohejdaabalaaGreatDoor
open Go.ChangeShapes Go.WideShapes Go.ChangeAt Go.RowKit

theorem open_array2 {H : Type} {enc : TypeId × Value → H} {P : Program} {w : World} {r : Reach} {b0 : Nat} {held : Bool} {t e : TypeId} {k : IntKind} {v : Value} {d : DataW H} {ps : List MemPlace}
    (ht : P.underlying t = some (.array 2 e)) (he : P.underlying e = some (.int k)) (hc : P.cellsOf e = 1) (hct : P.cellsOf t = 2) (hv : Value.okWide P w r b0 t v) (h : DataW.Trod enc P w 0 (fun _ => true) held t v d ps) :
    ∃ p q, v = .agg #[.int k p, .int k q] ∧ (Lit.int k p).wf = true ∧ (Lit.int k q).wf = true := by
  unfold Value.okWide at hv
  simp only [ht] at hv
  obtain ⟨cs, rfl, hsz, _⟩ := hv
  rw [hct] at hsz
  obtain ⟨fuel, hf⟩ := h
  have hf2 : DataW.trod enc P w 0 (fun _ => true) held fuel t cs.toList = some (d, ps) := hf
  obtain ⟨xs, m, _, _, _, hxl, hx⟩ := DataW.trod_array ht hf2
  obtain ⟨a, b, rfl⟩ : ∃ a b, cs = #[a, b] := by
    obtain ⟨l⟩ := cs
    match l, hsz with
    | [a, b], _ => exact ⟨a, b, rfl⟩
  have h0 := hx 0 (by omega)
  have h1 := hx 1 (by omega)
  rw [hc] at h0 h1
  simp only [Nat.zero_mul, List.drop_zero, Nat.one_mul, List.take_succ_cons, List.take_zero, List.drop_succ_cons] at h0 h1
  rw [List.getElem?_eq_getElem (by omega)] at h0 h1
  obtain ⟨p, hp, _, wp⟩ := DataW.trod_int he h0
  obtain ⟨q, hq, _, wq⟩ := DataW.trod_int he h1
  simp only [List.cons.injEq, and_true] at hp hq
  subst hp hq
  exact ⟨p, q, rfl, wp, wq⟩
end Go.Proofs.YtfaohejdaabalaaGreatDoor
