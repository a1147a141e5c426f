
/- All blocks but those of a set stand. No program is named. -/
import Derived.Test.YtfaohejdaabalaaGreatDoorKJ
namespace Go.Proofs.YtfaohejdaabalaaGreatDoor
open Go.RowKit Go.Sort

/-- All blocks but those that S names stand. -/
structure EX (S : Nat → Prop) (w w' : World) : Prop where
  os : w'.os = w.os
  tape : w'.tape = w.tape
  output : w'.output = w.output
  size : w.heap.size ≤ w'.heap.size
  block : ∀ k, k < w.heap.size → ¬ S k → w'.heap[k]? = w.heap[k]?
section
variable {w w' w2 : World} {S T : Nat → Prop}
theorem EX.refl (w : World) : EX S w w := ⟨rfl, rfl, rfl, Nat.le_refl _, fun _ _ _ => rfl⟩
theorem EX.trans (h : EX S w w') (k : EX S w' w2) : EX S w w2 :=
  ⟨k.os.trans h.os, k.tape.trans h.tape, k.output.trans h.output, Nat.le_trans h.size k.size, fun j hj h1 => (k.block j (Nat.lt_of_lt_of_le hj h.size) h1).trans (h.block j hj h1)⟩
theorem EX.mono (h : EX S w w') (hS : ∀ k, k < w.heap.size → S k → T k) : EX T w w' := ⟨h.os, h.tape, h.output, h.size, fun k hk hn => h.block k hk (fun e => hn (hS k hk e))⟩
theorem EX.of_below (h : Below w.heap.size w w') : EX S w w' := ⟨h.os, h.tape, h.output, h.size, fun k hk _ => h.block k hk⟩
theorem EX.of_ex {a b : Nat} (h : Ex w w' a b) (ha : S a) (hb : S b) : EX S w w' := ⟨h.os, h.tape, h.output, h.size, fun k hk hn => h.block k hk (fun e => hn (e ▸ ha)) (fun e => hn (e ▸ hb))⟩
theorem EX.of_grown {row : Option Nat} (h : w.grownBy w' row) (hr : ∀ k, row = some k → k < w.heap.size → S k) : EX S w w' := ⟨h.os, h.tape, h.output, h.size, fun k hk hn => h.block k hk (fun e => hn (hr k e.symm hk))⟩
theorem EX.below {B : Nat} {w0 : World} (h : EX S w w') (hb : Below B w0 w) (hS : ∀ k, S k → B ≤ k) (hB : B ≤ w.heap.size) : Below B w0 w' :=
  hb.trans ⟨h.os, h.tape, h.output, h.size, fun k hk => h.block k (by omega) (fun e => by have := hS k e; omega)⟩
theorem EX.drewN (h : EX S w w') (n : Nat) : EX S w (w'.drewN n) := h.trans (EX.of_below (bdN (Below.refl _ _) n))
theorem EX.drew (h : EX S w w') : EX S w w'.drew := h.trans ⟨rfl, rfl, rfl, Nat.le_refl _, fun _ _ _ => rfl⟩
theorem EX.alloc (h : EX S w w') (o : Obj) : EX S w (w'.alloc o) := h.trans (EX.of_below (bal o))
theorem EX.set (h : EX S w w') {g : Nat} (hg : S g ∨ w.heap.size ≤ g) (o : Nat) (u : Value) : EX S w (w'.setCell ⟨g, o, none⟩ u) :=
  ⟨h.os, h.tape, h.output, by simpa using h.size, fun k hk hn => by
    rw [heap_setCell_other w' _ k u (by rintro rfl; rcases hg with e | e; (· exact hn e); (· omega))]
    exact h.block k hk hn⟩
theorem EX.row {g : Nat} {E : TypeId} {cs : List Value} (h : EX S w w') (hr : Row w g E cs) (h1 : ¬ S g) : Row w' g E cs := ⟨by rw [h.block g hr.lt h1]; exact hr.heap⟩
theorem EX.cell {x : Addr} {v : Value} (h : EX S w w') (hc : w.cell? x = some v) (h1 : ¬ S x.block) : w'.cell? x = some v := by
  have hl := World.block_lt_of_cell? w x hc
  unfold World.cell? at hc ⊢
  rw [h.block _ hl h1]
  exact hc
theorem EX.own {base E size n : Nat} {v : Value} {xs : List Value} (h : EX S w w') (ho : w.ownsRow base E size v n xs) (h1 : ∀ g, v.ownBlock = some g → ¬ S g) : w'.ownsRow base E size v n xs := by
  refine ⟨ho.1, ?_⟩
  rcases ho.2 with hn | ⟨g, cap, cur, rfl, hb, hg, r⟩
  · exact .inl hn
  · exact .inr ⟨g, cap, cur, rfl, hb, by rw [h.block g (Array.getElem?_eq_some_iff.1 hg).1 (h1 g rfl)]; exact hg, r⟩
theorem EX.cel {ad : Option Addr} {len : Nat} {l : List Value} (h : EX S w w') (hb : Cel w ad len l) (hn : ∀ x, ad = some x → ¬ S x.block) : Cel w' ad len l :=
  ⟨hb.hlen, fun i hi => by
    obtain ⟨g, off, e, hc⟩ := hb.cell i hi
    exact ⟨g, off, e, h.cell hc (show ¬ S g from hn _ e)⟩⟩
end
end Go.Proofs.YtfaohejdaabalaaGreatDoor
