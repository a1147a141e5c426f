
/- What stands while two blocks turn. No program is named. -/
import Derived.Test.YtcbkikioapdbbaaDoorX1
namespace Go.Proofs.YtcbkikioapdbbaaDoor
open Go.RowKit Go.Sort

structure X2 (w w' : World) (r s : Nat) : Prop where
  os : w'.os = w.os
  tape : w'.tape = w.tape
  output : w'.output = w.output
  size : w.heap.size ≤ w'.heap.size
  block : ∀ k, k < w.heap.size → k ≠ r → k ≠ s → w'.heap[k]? = w.heap[k]?

theorem X2.refl (w : World) (r s : Nat) : X2 w w r s := ⟨rfl, rfl, rfl, Nat.le_refl _, fun _ _ _ _ => rfl⟩
theorem X2.trans {a b c : World} {r s : Nat} (h : X2 a b r s) (k : X2 b c r s) : X2 a c r s :=
  ⟨k.os.trans h.os, k.tape.trans h.tape, k.output.trans h.output, Nat.le_trans h.size k.size, fun i hi hr hs => (k.block i (Nat.lt_of_lt_of_le hi h.size) hr hs).trans (h.block i hi hr hs)⟩
theorem X2.of {w w' : World} (r s : Nat) (h : Below w.heap.size w w') : X2 w w' r s := ⟨h.os, h.tape, h.output, h.size, fun k hk _ _ => h.block k hk⟩
theorem X2.drew {w w' : World} {r s : Nat} (h : X2 w w' r s) : X2 w w'.drew r s := ⟨h.os, h.tape, h.output, h.size, h.block⟩
theorem X2.drewN {w w' : World} {r s : Nat} (h : X2 w w' r s) (n : Nat) : X2 w (w'.drewN n) r s := ⟨h.os, h.tape, h.output, h.size, h.block⟩
theorem X2.set {w w' : World} {r s g : Nat} (h : X2 w w' r s) (hg : g = r ∨ g = s ∨ w.heap.size ≤ g) (o : Nat) (u : Value) : X2 w (w'.setCell ⟨g, o, none⟩ u) r s := by
  have hs : (w'.setCell ⟨g, o, none⟩ u).heap.size = w'.heap.size := by simp [World.setCell]
  exact ⟨h.os, h.tape, h.output, by rw [hs]; exact h.size, fun k hk hr hs => by rw [heap_setCell_other w' _ k u (by simp only [ne_eq]; omega)]; exact h.block k hk hr hs⟩
theorem X2.setRow {w w' : World} {r s g : Nat} (h : X2 w w' r s) (hg : g = r ∨ g = s ∨ w.heap.size ≤ g) (cs : Array Value) : X2 w (w'.setRow g cs) r s := by
  have hs : (w'.setRow g cs).heap.size = w'.heap.size := by simp [World.setRow]
  exact ⟨h.os, h.tape, h.output, by rw [hs]; exact h.size, fun k hk hr hs => by rw [setRow_other w' g k cs (by omega)]; exact h.block k hk hr hs⟩
theorem X2.alloc {w w' : World} {r s : Nat} (h : X2 w w' r s) (o : Obj) : X2 w (w'.alloc o) r s := h.trans (X2.of r s (bal o))
theorem X2.then {w w1 w2 : World} {r s : Nat} (h : X2 w w1 r s) (k : Below w.heap.size w1 w2) : X2 w w2 r s :=
  ⟨k.os.trans h.os, k.tape.trans h.tape, k.output.trans h.output, Nat.le_trans h.size k.size, fun i hi hr hs => (k.block i hi).trans (h.block i hi hr hs)⟩
theorem X2.below {w w' : World} {r s B : Nat} (h : X2 w w' r s) (hr : B ≤ r) (hs : B ≤ s) (hB : B ≤ w.heap.size) : Below B w w' :=
  ⟨h.os, h.tape, h.output, h.size, fun k hk => h.block k (by omega) (by omega) (by omega)⟩
theorem X2.row {w w' : World} {r s g : Nat} {E : TypeId} {cs : List Value} (h : X2 w w' r s) (hR : Row w g E cs) (h1 : g ≠ r) (h2 : g ≠ s) : Row w' g E cs := ⟨by rw [h.block g hR.lt h1 h2]; exact hR.heap⟩
theorem X2.own {w w' : World} {r s base e size n : Nat} {v : Value} {xs : List Value} (h : X2 w w' r s) (ho : w.ownsRow base e size v n xs) (h1 : some r ≠ v.ownBlock) (h2 : some s ≠ v.ownBlock) : w'.ownsRow base e size v n xs := by
  refine ⟨ho.1, ?_⟩
  rcases ho.2 with hn | ⟨g, cap, cur, hv, hb, hg, r'⟩
  · exact .inl hn
  · refine .inr ⟨g, cap, cur, hv, hb, ?_, r'⟩
    have hgr : g ≠ r := by rintro rfl; rw [hv] at h1; exact h1 rfl
    have hgs : g ≠ s := by rintro rfl; rw [hv] at h2; exact h2 rfl
    rw [h.block g (Array.getElem?_eq_some_iff.1 hg).1 hgr hgs]
    exact hg
/-- Rows of two types are apart. -/
theorem rows_ne2 {w : World} {g h E T : Nat} {cs ds : List Value} (a : Row w g E cs) (b : Row w h T ds) (hne : E ≠ T) : g ≠ h := by
  rintro rfl
  have h1 := a.heap
  rw [b.heap] at h1
  simp at h1
  exact hne h1.2.symm
theorem Row.set1 {w : World} {g : Nat} {E : TypeId} {v : Value} (h : Row w g E [v]) (u : Value) : Row (w.setCell ⟨g, 0, none⟩ u) g E [u] := h.set 0 u
end Go.Proofs.YtcbkikioapdbbaaDoor
