
/- What stands while one block turns. No program is named. -/
import Derived.Test.YtkkadknijjninaaDoorAP
namespace Go.Proofs.YtkkadknijjninaaDoor
open Go.RowKit Go.Sort

structure X1 (w w' : World) (r : Nat) : Prop where
  os : w'.os = w.os
  tape : w'.tape = w.tape
  output : w'.output = w.output
  size : w.heap.size ≤ w'.heap.size
  block : ∀ k, k < w.heap.size → k ≠ r → w'.heap[k]? = w.heap[k]?

theorem X1.refl (w : World) (r : Nat) : X1 w w r := ⟨rfl, rfl, rfl, Nat.le_refl _, fun _ _ _ => rfl⟩
theorem X1.trans {a b c : World} {r : Nat} (h : X1 a b r) (k : X1 b c r) : X1 a c r :=
  ⟨k.os.trans h.os, k.tape.trans h.tape, k.output.trans h.output, Nat.le_trans h.size k.size, fun i hi hr => (k.block i (Nat.lt_of_lt_of_le hi h.size) hr).trans (h.block i hi hr)⟩
theorem X1.of {w w' : World} (r : Nat) (h : Below w.heap.size w w') : X1 w w' r := ⟨h.os, h.tape, h.output, h.size, fun k hk _ => h.block k hk⟩
theorem X1.drewN {w w' : World} {r : Nat} (h : X1 w w' r) (n : Nat) : X1 w (w'.drewN n) r := ⟨h.os, h.tape, h.output, h.size, h.block⟩
theorem X1.drew {w w' : World} {r : Nat} (h : X1 w w' r) : X1 w w'.drew r := ⟨h.os, h.tape, h.output, h.size, h.block⟩
theorem X1.set {w w' : World} {r : Nat} (h : X1 w w' r) (o : Nat) (u : Value) : X1 w (w'.setCell ⟨r, o, none⟩ u) r := by
  have hs : (w'.setCell ⟨r, o, none⟩ u).heap.size = w'.heap.size := by simp [World.setCell]
  exact ⟨h.os, h.tape, h.output, by rw [hs]; exact h.size, fun k hk hr => by rw [heap_setCell_other w' _ k u (by simpa using hr)]; exact h.block k hk hr⟩
/-- A store into a newer block. -/
theorem X1.setNew {w w' : World} {r : Nat} (h : X1 w w' r) {g : Nat} (hg : w.heap.size ≤ g) (o : Nat) (u : Value) : X1 w (w'.setCell ⟨g, o, none⟩ u) r := by
  have hs : (w'.setCell ⟨g, o, none⟩ u).heap.size = w'.heap.size := by simp [World.setCell]
  exact ⟨h.os, h.tape, h.output, by rw [hs]; exact h.size, fun k hk hr => by rw [heap_setCell_other w' _ k u (by simp only [ne_eq]; omega)]; exact h.block k hk hr⟩
theorem X1.alloc {w w' : World} {r : Nat} (h : X1 w w' r) (o : Obj) : X1 w (w'.alloc o) r := h.trans (X1.of r (bal o))
theorem X1.then {w w1 w2 : World} {r : Nat} (h : X1 w w1 r) (k : Below w.heap.size w1 w2) : X1 w w2 r :=
  ⟨k.os.trans h.os, k.tape.trans h.tape, k.output.trans h.output, Nat.le_trans h.size k.size, fun i hi hr => (k.block i hi).trans (h.block i hi hr)⟩
theorem X1.below {w w' : World} {r B : Nat} (h : X1 w w' r) (hr : B ≤ r) (hB : B ≤ w.heap.size) : Below B w w' :=
  ⟨h.os, h.tape, h.output, h.size, fun k hk => h.block k (by omega) (by omega)⟩
theorem X1.row {w w' : World} {r g : Nat} {E : TypeId} {cs : List Value} (h : X1 w w' r) (hR : Row w g E cs) (hne : g ≠ r) : Row w' g E cs := ⟨by rw [h.block g hR.lt hne]; exact hR.heap⟩
theorem X1.own {w w' : World} {r base e size n : Nat} {v : Value} {xs : List Value} (h : X1 w w' r) (ho : w.ownsRow base e size v n xs) (hne : some r ≠ v.ownBlock) : w'.ownsRow base e size v n xs := by
  refine ⟨ho.1, ?_⟩
  rcases ho.2 with hn | ⟨g, cap, cur, hv, hb, hg, r'⟩
  · exact .inl hn
  · refine .inr ⟨g, cap, cur, hv, hb, ?_, r'⟩
    have hgr : g ≠ r := by rintro rfl; rw [hv] at hne; exact hne rfl
    rw [h.block g (Array.getElem?_eq_some_iff.1 hg).1 hgr]
    exact hg
theorem X1.cel {w w' : World} {r len : Nat} {a : Option Addr} {cs : List Value} (h : X1 w w' r) (hc : Cel w a len cs) (hne : ∀ b, a = some b → b.block ≠ r) : Cel w' a len cs :=
  ⟨hc.hlen, fun i hi => by
    obtain ⟨b, off, e, h1⟩ := hc.cell i hi
    refine ⟨b, off, e, ?_⟩
    have hlt := World.block_lt_of_cell? w _ h1
    have := h.block b hlt (by have := hne _ e; exact this)
    unfold World.cell? at h1 ⊢
    rw [this]; exact h1⟩
/-- Where a row of one type lies no row of another lies. -/
theorem own_ne_row {w : World} {base e size n b T : Nat} {v : Value} {xs cs : List Value} (h : w.ownsRow base e size v n xs) (hr : Row w b T cs) (hT : T ≠ e) : some b ≠ v.ownBlock := by
  rcases h.2 with ⟨h1, _⟩ | ⟨g, cap, cur, rfl, hb, hg, _⟩
  · rw [h1]; exact fun e => by cases e
  · intro e1
    simp only [Value.ownBlock, Option.some.injEq] at e1
    subst e1
    have := hr.heap
    rw [hg] at this
    simp at this
    exact hT this.2.symm
theorem own_hd2 {w : World} {base e size n : Nat} {v : Value} {xs : List Value} (h : w.ownsRow base e size v n xs) : ∃ a c, v = .slice a n c := by
  rcases h.2 with ⟨h1, h0⟩ | ⟨g, cap, cur, rfl, _⟩
  · exact ⟨none, 0, by rw [h1, h0]⟩
  · exact ⟨_, _, rfl⟩
theorem row_grown {w w' : World} {base e size n g T : Nat} {v : Value} {xs cs : List Value} (h : Row w g T cs) (hown : w.ownsRow base e size v n xs) (hT : T ≠ e) (hg : w.grownBy w' v.ownBlock) : Row w' g T cs := h.grown hg (own_ne_row hown h hT)
end Go.Proofs.YtkkadknijjninaaDoor
