/- Slices of one-cell elements of any kind that lie in memory. No program is named. -/
import Derived.Test.YtgclemicgcbpjaaB3
import Derived.Test.YtgclemicgcbpjaaQ
namespace Go.Proofs.Ytgclemicgcbpjaa
open Go.ChangeShapes Go.WideShapes Go.ChangeAt Go.RowKit Go.Sort

structure Cel (w : World) (a : Option Addr) (len : Nat) (cs : List Value) : Prop where
  hlen : cs.length = len
  cell : ∀ i (h : i < cs.length), ∃ b off, a = some ⟨b, off, none⟩ ∧ w.cell? ⟨b, off + i, none⟩ = some cs[i]

theorem Cel.some_of {w : World} {a : Option Addr} {len : Nat} {cs : List Value} (h : Cel w a len cs) (hl : 0 < cs.length) :
    ∃ b off, a = some ⟨b, off, none⟩ ∧ ∀ i (h : i < cs.length), w.cell? ⟨b, off + i, none⟩ = some cs[i] := by
  obtain ⟨b, off, rfl, _⟩ := h.cell 0 hl
  refine ⟨b, off, rfl, fun i hi => ?_⟩
  obtain ⟨b', off', e, hc⟩ := h.cell i hi
  cases e
  exact hc
theorem Cel.nil (w : World) (a : Option Addr) : Cel w a 0 [] := ⟨rfl, fun i h => by simp at h⟩
theorem Cel.below' {w w' : World} {a : Option Addr} {len : Nat} {cs : List Value} (h : Cel w a len cs) (hb : Below w.heap.size w w') : Cel w' a len cs :=
  ⟨h.hlen, fun i hi => by
    obtain ⟨b, off, e, hc⟩ := h.cell i hi
    exact ⟨b, off, e, keepC hb hc⟩⟩
theorem Cel.rg {w : World} {a : Option Addr} {len : Nat} {cs : List Value} (h : Cel w a len cs) (d : Nat) (os : Array Obj) : Cel (rg w d os) a len cs := h.below' (rg_below w d os)
theorem Cel.news {w : World} {ad : Addr} {len : Nat} {cs : List Value} (h : Cel w (some ad) len cs) : ∀ j u, cs[j]? = some u → w.cell? (ad.add j) = some u := by
  intro j u hj
  obtain ⟨hj1, rfl⟩ := List.getElem?_eq_some_iff.1 hj
  obtain ⟨b, off, e, hc⟩ := h.cell j hj1
  cases e
  unfold Addr.add
  by_cases e0 : j = 0
  · subst e0; simpa using hc
  · simpa [e0] using hc
theorem Cel.prefix {w : World} {a : Option Addr} {len n : Nat} {cs : List Value} (h : Cel w a len cs) (hn : n ≤ len) : Cel w a n (cs.take n) :=
  ⟨by have := h.hlen; simp; omega, fun i hi => by
    have hi' : i < cs.length := by simp at hi; omega
    obtain ⟨b, off, e, hc⟩ := h.cell i hi'
    exact ⟨b, off, e, by rw [hc]; simp⟩⟩

theorem own_cel {w : World} {base n : Nat} {E : TypeId} {v : Value} {cs : List Value} (h : w.ownsRow base E 1 v n cs) : ∃ a cap, v = .slice a n cap ∧ Cel w a n cs ∧ (a = none → cap = 0) ∧ n ≤ cap ∧ cap ≤ maxLen := by
  have hl : cs.length = n := by have := h.1; simpa using this
  rcases h.2 with ⟨rfl, h0⟩ | ⟨g, cap, cur, rfl, hb, hg, hnc, hcm, hcs, htake⟩
  · subst h0
    obtain rfl := List.length_eq_zero_iff.1 hl
    exact ⟨none, 0, rfl, Cel.nil _ _, fun _ => rfl, Nat.le_refl _, by simp [maxLen]⟩
  · refine ⟨some ⟨g, 0, none⟩, cap, rfl, ⟨hl, fun i hi => ⟨g, 0, rfl, ?_⟩⟩, (fun h => by cases h), hnc, hcm⟩
    have hc := h.cellAt i (by omega)
    rw [Nat.zero_add, hc]
    simp [hi]
/-- The same, with the block. -/
theorem own_cel2 {w : World} {base n : Nat} {E : TypeId} {v : Value} {cs : List Value} (h : w.ownsRow base E 1 v n cs) : ∃ a cap, v = .slice a n cap ∧ Cel w a n cs ∧ (a = none → cap = 0 ∧ n = 0) ∧ n ≤ cap ∧ cap ≤ maxLen ∧ ∀ b, a = some b → ∃ G, b = ⟨G, 0, none⟩ ∧ base ≤ G ∧ G < w.heap.size := by
  have hl : cs.length = n := by have := h.1; simpa using this
  rcases h.2 with ⟨rfl, h0⟩ | ⟨g, cap, cur, rfl, hb, hg, hnc, hcm, hcs, htake⟩
  · subst h0
    obtain rfl := List.length_eq_zero_iff.1 hl
    exact ⟨none, 0, rfl, Cel.nil _ _, fun _ => ⟨rfl, rfl⟩, Nat.le_refl _, by simp [maxLen], fun b h => by cases h⟩
  · refine ⟨some ⟨g, 0, none⟩, cap, rfl, ⟨hl, fun i hi => ⟨g, 0, rfl, ?_⟩⟩, (fun h => by cases h), hnc, hcm, fun b hb' => ?_⟩
    · have hc := h.cellAt i (by omega)
      rw [Nat.zero_add, hc]
      simp [hi]
    · cases hb'
      exact ⟨g, rfl, hb, (Array.getElem?_eq_some_iff.1 hg).1⟩

/-- A slice's own block is none where it is nil or empty of block. -/
theorem own_nil_of {w : World} {base : Nat} {E : TypeId} : w.ownsRow base E 1 (.slice none 0 0) 0 [] := World.ownsRow_nil _ _ _ _

/-- A world behind W, of which nothing that was there has turned. -/
def St (W w : World) : Prop := Below W.heap.size W w
theorem St.refl (W : World) : St W W := Below.refl _ _
theorem St.drew (W : World) : St W W.drew := (Below.refl _ W).drew
theorem St.step {W w w' : World} (h : St W w) (hb : Below w.heap.size w w') : St W w' := bthen h hb
theorem St.cell {W w : World} {a : Addr} {v : Value} (h : W.cell? a = some v) (hs : St W w) : w.cell? a = some v := keepC hs h
theorem St.cel {W w : World} {a : Option Addr} {len : Nat} {cs : List Value} (h : Cel W a len cs) (hs : St W w) : Cel w a len cs := h.below' hs
end Go.Proofs.Ytgclemicgcbpjaa
