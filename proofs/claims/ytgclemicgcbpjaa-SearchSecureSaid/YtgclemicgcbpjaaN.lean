/- Slices of integers of any kind that lie in memory. No program is named. -/
import Derived.Test.YtgclemicgcbpjaaB
import Derived.Test.YtgclemicgcbpjaaF
namespace Go.Proofs.Ytgclemicgcbpjaa
open Go.ChangeShapes Go.WideShapes Go.ChangeAt Go.RowKit

/-- A slice of integers that lies in memory: its numbers are l. -/
structure Nums (w : World) (k : IntKind) (a : Option Addr) (len : Nat) (l : List Int) : Prop where
  hlen : l.length = len
  cell : ∀ i (h : i < l.length), ∃ b off, a = some ⟨b, off, none⟩ ∧ w.cell? ⟨b, off + i, none⟩ = some (.int k l[i])

theorem Nums.some_of {w : World} {k : IntKind} {a : Option Addr} {len : Nat} {l : List Int} (h : Nums w k a len l) (hl : 0 < l.length) :
    ∃ b off, a = some ⟨b, off, none⟩ ∧ ∀ i (h : i < l.length), w.cell? ⟨b, off + i, none⟩ = some (.int k l[i]) := by
  obtain ⟨b, off, rfl, _⟩ := h.cell 0 hl
  refine ⟨b, off, rfl, fun i hi => ?_⟩
  obtain ⟨b', off', e, hc⟩ := h.cell i hi
  cases e
  exact hc

theorem Nums.nil (w : World) (k : IntKind) (a : Option Addr) : Nums w k a 0 [] := ⟨rfl, fun i h => by simp at h⟩

theorem Nums.below' {w w' : World} {k : IntKind} {a : Option Addr} {len : Nat} {l : List Int} (h : Nums w k a len l) (hb : Below w.heap.size w w') : Nums w' k a len l :=
  ⟨h.hlen, fun i hi => by
    obtain ⟨b, off, e, hc⟩ := h.cell i hi
    refine ⟨b, off, e, ?_⟩
    have := World.block_lt_of_cell? w _ hc
    rw [hb.cell this]
    exact hc⟩

theorem Row.nums {w : World} {k : IntKind} {g : Nat} {E : TypeId} {l : List Int} {n : Nat} {rest : List Value} (h : Row w g E (l.map (Value.int k) ++ rest)) (hn : l.length = n) : Nums w k (some ⟨g, 0, none⟩) n l :=
  ⟨hn, fun i hi => ⟨g, 0, rfl, by
    rw [Nat.zero_add, h.cell i (by simp; omega), List.getElem_append_left (by simpa using hi)]
    simp⟩⟩

theorem own_nums {w : World} {base n : Nat} {E : TypeId} {k : IntKind} {v : Value} {l : List Int} (h : w.ownsRow base E 1 v n (l.map (Value.int k))) : ∃ a cap, v = .slice a n cap ∧ Nums w k a n l := by
  have hl : l.length = n := by have := h.1; simpa using this
  rcases h.2 with ⟨rfl, h0⟩ | ⟨g, cap, cur, rfl, hb, hg, hnc, hcm, hcs, htake⟩
  · subst h0
    obtain rfl := List.length_eq_zero_iff.1 hl
    exact ⟨none, 0, rfl, Nums.nil _ _ _⟩
  · refine ⟨some ⟨g, 0, none⟩, cap, rfl, ⟨hl, fun i hi => ⟨g, 0, rfl, ?_⟩⟩⟩
    have hc := h.cellAt i (by omega)
    rw [Nat.zero_add, hc]
    simp [hi]

theorem lits_length (k : IntKind) (l : List Int) {H : Type} : (lits (H := H) k l).length = l.length := by simp [lits]

/-- A field or argument that is a slice of integers. -/
theorem open_nums {H : Type} {enc : TypeId × Value → H} {P : Program} {W : World} {t e : TypeId} {k : IntKind} {v : Value} {d : DataW H} {ps : List MemPlace} {held : Bool}
    (ht : P.underlying t = some (.slice e)) (he : P.underlying e = some (.int k)) (hc : P.cellsOf e = 1)
    (h : ∃ fuel, DataW.trod enc P W 0 (fun _ => true) held fuel t [v] = some (d, ps)) :
    ∃ a len cap l, v = .slice a len cap ∧ Nums W k a len l ∧ len ≤ cap ∧ cap ≤ maxLen ∧ (∀ x ∈ l, (Lit.int k x).wf = true) ∧ (∀ n, (d.weights P t).all (· ≤ n) = true → cap * P.bytesOf e ≤ n) := by
  obtain ⟨fuel, hf⟩ := h
  rcases open_ints ht he hc hf with ⟨hcs, hx⟩ | ⟨a, len, cap, zs, hcs, _, hl, hm, hz, hx, hcell, hwz⟩
  · simp only [List.cons.injEq, and_true] at hcs
    subst hcs
    exact ⟨none, 0, 0, [], rfl, Nums.nil _ _ _, Nat.le_refl _, by simp [maxLen], fun x hx => by simp at hx, fun n _ => by simp⟩
  · simp only [List.cons.injEq, and_true] at hcs
    subst hcs
    simp only [if_true] at hz
    refine ⟨some a, len, cap, zs.take len, rfl, ⟨by simp; omega, fun i hi => ?_⟩, hl, hm, fun x hx => hwz x (List.mem_of_mem_take hx), fun n hn => ?_⟩
    · have hi' : i < len := by simp at hi; omega
      have h1 := hcell i (by omega)
      have h0 := hcell 0 (by omega)
      have hzi : zs.getD i 0 = zs[i]'(by omega) := by rw [List.getD_eq_getElem?_getD, List.getElem?_eq_getElem (by omega)]; rfl
      rw [hzi] at h1
      obtain ⟨b, off, spot⟩ := a
      have hsp : spot = none := by
        simp only [Addr.add, if_true] at h0
        unfold World.cell? at h0
        split at h0
        · cases spot with
          | none => rfl
          | some s => simp at h0
        · cases h0
      subst hsp
      refine ⟨b, off, rfl, ?_⟩
      have e2 : (Addr.mk b off none).add i = ⟨b, off + i, none⟩ := by
        unfold Addr.add
        split
        · subst_vars; simp
        · rfl
      rw [e2] at h1
      rw [h1]
      simp
    · simp only [Prod.mk.injEq] at hx
      obtain ⟨rfl, _⟩ := hx
      simp only [DataW.weights, ht, lits_length, List.all_cons, Bool.and_eq_true, decide_eq_true_eq, List.length_take, List.length_drop] at hn
      have h3 := hn.1
      have e3 : min len zs.length + (zs.length - len) = cap := by omega
      rw [e3] at h3
      exact h3

theorem Nums.news {w : World} {k : IntKind} {ad : Addr} {len : Nat} {l : List Int} (h : Nums w k (some ad) len l) : ∀ j u, (l.map (Value.int k))[j]? = some u → w.cell? (ad.add j) = some u := by
  intro j u hj
  obtain ⟨hj1, rfl⟩ := List.getElem?_eq_some_iff.1 hj
  have hj2 : j < l.length := by simpa using hj1
  obtain ⟨b, off, e, hc⟩ := h.cell j hj2
  cases e
  unfold Addr.add
  by_cases e0 : j = 0
  · subst e0; simpa using hc
  · simpa [e0] using hc
theorem nums_one (k : IntKind) (l : List Int) : ∀ u ∈ l.map (Value.int k), u.oneCell' = true := by
  intro u hu
  obtain ⟨x, _, rfl⟩ := List.mem_map.1 hu
  rfl
theorem bal {w : World} (o : Obj) : Below w.heap.size w (w.alloc o) := (Below.refl _ w).alloc (Nat.le_refl _) o

/-- A cell that is there stays. -/
theorem keepC {w w' : World} {a : Addr} {v : Value} (hb : Below w.heap.size w w') (h : w.cell? a = some v) : w'.cell? a = some v := (hb.cell (World.block_lt_of_cell? w _ h)).trans h

theorem bdl {w w' : World} (h : Below w.drew.heap.size w.drew w') : Below w.heap.size w w' := ⟨h.os, h.tape, h.output, h.size, h.block⟩
theorem bdlN {w w' : World} {n : Nat} (h : Below (w.drewN n).heap.size (w.drewN n) w') : Below w.heap.size w w' := ⟨h.os, h.tape, h.output, h.size, h.block⟩
end Go.Proofs.Ytgclemicgcbpjaa
