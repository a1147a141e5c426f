
/- Ranges over functions whose rounds know that what is told is a prefix of what the iterator tells. -/
import Derived.Test.YtkkadknijjninaaDoorRF
namespace Go.Proofs.YtkkadknijjninaaDoor
open Go.RowKit Go.Shelf

/-- An iterator that yields a list, writes but one block of cells (or none), and asks of each round what Kp says. -/
def SeqIn {α : Type} (P : Program) (gf : Nat) (lb : Array Value) (encs : α → Array Value) (row : Option Nat) (Kp : World → World → Prop) (S Sp : List α → Prop) (w : World) : Prop :=
  ∀ (l : Nat) (J Jx : List α → World → Prop) (W : World), Below w.heap.size w W → (∀ s A B, J s A → A.grownBy B row → J s B) → (∀ s A B, Jx s A → A.grownBy B row → Jx s B) →
    (∀ pre x W1, J pre W1 → Sp (pre ++ [x]) → YieldAt Wd 7 P l (encs x) W1 fun e W' => (e = .returned (.bool true) ∧ J (pre ++ [x]) W' ∧ Kp W1 W') ∨ (e = .returned (.bool false) ∧ Jx (pre ++ [x]) W')) →
    J [] W → CallsIn Wd 8 P gf (#[.func (.yield l) #[] #[]] ++ lb) W fun e W' => (∃ v, e = .returned v) ∧ ((∃ xs, S xs ∧ J xs W') ∨ ∃ pre, Sp pre ∧ Jx pre W')

theorem wp_range_in {α : Type} {P : Program} {g : Operand} {ps : Array Tmp} {assign body : Code} {Q : Exit → Act → World → Prop} {a : Act} {w : World} {gf : Nat} {lb : Array Value}
    (hg : a.eval g = .func (.func gf) #[] lb) (eg : ∀ args w, (callFunc gf args).run P w = .ok (.enter gf args) w)
    {encs : α → Array Value} {row : Option Nat} {Kp : World → World → Prop} {S Sp : List α → Prop} (hseq : SeqIn P gf lb encs row Kp S Sp w) (hrow : ∀ r, row = some r → r < w.heap.size)
    (hKt : ∀ A B C, Kp A B → Kp B C → Kp A C) (hKb : ∀ (W : World) (l : Nat) (o' : Obj), w.heap.size ≤ l → l < W.heap.size → Kp W (W.putObj l o')) (hps : ∀ x, (encs x).size = ps.size)
    (I : List α → World → Prop) (Ix : Code → List α → World → Prop) (Ax : α → Act → World → Prop) (hI : OwnFrom w.heap.size I) (hIx : ∀ c, OwnFrom w.heap.size (Ix c)) (hIr : ∀ s A B, I s A → A.grownBy B row → I s B) (hIxr : ∀ c s A B, Ix c s A → A.grownBy B row → Ix c s B)
    (hAx : ∀ x a', OwnFrom w.heap.size (fun _ : Unit => Ax x a')) (h0 : I [] w)
    (hassign : ∀ (l : Nat) (pre : List α) (x : α) (W : World) (K : Act → World → Prop), I pre W → Sp (pre ++ [x]) → (∀ a' W', KeepsFrom w.heap.size W W' → Kp W W' → I pre W' → Ax x a' W' → K a' W') →
      assign.wpIn (Wd.inRound l) 7 P (Exit.then K (fun _ _ _ => False)) { tmps := (ps.zip (encs x)).foldl (fun t (q, v) => t.setIfInBounds q v) a.tmps, defers := [] } W)
    (hbody : ∀ (l : Nat) (pre : List α) (x : α) (a' : Act) (W : World), I pre W → Ax x a' W → Sp (pre ++ [x]) → body.wpIn (Wd.inRound l) 7 P (ownPostG w.heap.size Kp I Ix (pre ++ [x]) W) a' W)
    (hdone : ∀ (xs : List α) (W : World), S xs → I xs W → W.heap[w.heap.size]? = some (.deferred (some [])) → Q .normal { a with defers := { target := .collected w.heap.size, args := #[] } :: a.defers } W)
    (hstop : ∀ (c : Code) (pre : List α) (W : World), Sp pre → Ix c pre W → W.heap[w.heap.size]? = some (.deferred (some [])) → c.wp P Q { a with defers := { target := .collected w.heap.size, args := #[] } :: a.defers } W) :
    (Code.rangeFunc g ps assign body).wp P Q a w := by
  refine wp_range_raw hg eg fun p hp1 hp2 hp3 hp4 hp5 => ?_
  subst hp2 hp3 hp4
  generalize hM : w.heap.size = M at *
  have keep : ∀ (A B : World) (k : Nat) (o : Obj), A.grownBy B row → M ≤ k → A.heap[k]? = some o → B.heap[k]? = some o := by
    intro A B k o hgr hk ho
    exact (hgr.block k (Array.getElem?_eq_some_iff.1 ho).1 (fun e => by have := hrow k e.symm; omega)).trans ho
  have lt_of : ∀ {A : World} {k : Nat} {o : Obj}, A.heap[k]? = some o → k < A.heap.size := fun h => (Array.getElem?_eq_some_iff.1 h).1
  let dd : Obj := .deferred (some [])
  have hpost := fun (W3 : World) (o : Obj) (hD : W3.heap[M]? = some dd) (hL : M + 1 < W3.heap.size) => (⟨World.putObj_heap_same hL, (World.putObj_heap_other (by omega)).trans hD⟩ : (W3.putObj (M + 1) o).heap[M + 1]? = some o ∧ (W3.putObj (M + 1) o).heap[M]? = some dd)
  refine (hseq (M + 1) (fun s W => I s W ∧ W.heap[M + 1]? = some (p.obj .ready none) ∧ W.heap[M]? = some dd) (fun s W => ∃ c, Ix c s W ∧ W.heap[M + 1]? = some (p.obj .done (some c)) ∧ W.heap[M]? = some dd) _ ?_ ?_ ?_ ?_ ?_).mono ?_
  · have h1 : Below w.heap.size w (w.alloc dd) := (Below.refl _ w).alloc (Nat.le_refl _) _
    exact h1.alloc (o := p.obj .ready none) h1.size
  · intro s A B hs hgr
    exact ⟨hIr _ _ _ hs.1 hgr, keep _ _ _ _ hgr (by omega) hs.2.1, keep _ _ _ _ hgr (by omega) hs.2.2⟩
  · rintro s A B ⟨c, hs⟩ hgr
    exact ⟨c, hIxr _ _ _ _ hs.1 hgr, keep _ _ _ _ hgr (by omega) hs.2.1, keep _ _ _ _ hgr (by omega) hs.2.2⟩
  · rintro pre x W0 ⟨hi0, hl0, hd0⟩ hN
    refine yield_round2 (A := fun a1 W1 => KeepsFrom M W0 W1 ∧ Kp W0 W1 ∧ I pre W1 ∧ Ax x a1 W1) hl0 (hps x) (fun K hK => by rw [hp1]; exact hassign _ pre x W0 K hi0 hN (fun a1 W1 h1 h2 h3 h4 => hK a1 W1 ⟨h1, h2, h3, h4⟩)) ?_
    rintro a1 W1 ⟨hk1, hkp1, hi, hax⟩
    have hl := hk1.same _ _ (by omega) hl0 rfl
    have hd := hk1.same _ _ (Nat.le_refl _) hd0 rfl
    obtain ⟨hl2, hd2⟩ := hpost W1 (p.obj .busy none) hd (lt_of hl)
    refine ⟨hl, wpIn_mono (hbody (M + 1) pre x a1 _ (hI.putObj _ hi (by omega) hl rfl) ((hAx x a1).putObj (s := ()) _ hax (by omega) hl rfl) hN) ?_⟩
    have kept : ∀ W3, KeepsFrom M (W1.putObj (M + 1) (p.obj .busy none)) W3 → W3.heap[M + 1]? = some (p.obj .busy none) ∧ W3.heap[M]? = some dd := fun W3 hk => ⟨hk.same _ _ (by omega) hl2 rfl, hk.same _ _ (Nat.le_refl _) hd2 rfl⟩
    have out : ∀ (c : Code) (W3 : World), KeepsFrom M (W1.putObj (M + 1) (p.obj .busy none)) W3 → Ix c (pre ++ [x]) W3 → W3.heap[M + 1]? = some (p.obj .busy none) ∧ ∃ c', Ix c' (pre ++ [x]) (W3.putObj (M + 1) (p.obj .done (some c))) ∧ (W3.putObj (M + 1) (p.obj .done (some c))).heap[M + 1]? = some (p.obj .done (some c')) ∧ (W3.putObj (M + 1) (p.obj .done (some c))).heap[M]? = some dd := by
      intro c W3 hk hx
      obtain ⟨k1, k2⟩ := kept W3 hk
      obtain ⟨q1, q2⟩ := hpost W3 (p.obj .done (some c)) k2 (lt_of k1)
      exact ⟨k1, c, (hIx c).putObj _ hx (by omega) k1 rfl, q1, q2⟩
    intro e a3 W3 hp
    cases e with
    | normal =>
      obtain ⟨hk, hkp, hi3⟩ := hp
      obtain ⟨k1, k2⟩ := kept W3 hk
      obtain ⟨q1, q2⟩ := hpost W3 (p.obj .ready none) k2 (lt_of k1)
      exact ⟨k1, .inl ⟨rfl, ⟨hI.putObj _ hi3 (by omega) k1 rfl, q1, q2⟩, hKt _ _ _ hkp1 (hKt _ _ _ (hKt _ _ _ (hKb _ _ _ (by omega) (lt_of hl)) hkp) (hKb _ _ _ (by omega) (lt_of k1)))⟩⟩
    | ret => obtain ⟨k1, hx⟩ := out .ret W3 hp.1 hp.2; exact ⟨k1, .inr ⟨rfl, hx⟩⟩
    | exit id => obtain ⟨k1, hx⟩ := out (.exit id) W3 hp.1 hp.2; exact ⟨k1, .inr ⟨rfl, hx⟩⟩
    | goto t => obtain ⟨k1, hx⟩ := out (.goto t) W3 hp.1 hp.2; exact ⟨k1, .inr ⟨rfl, hx⟩⟩
    | panic ch => exact hp.elim
    | outgrown => exact hp.elim
  · refine ⟨hI.alloc _ (hI.alloc _ h0), ?_, ?_⟩
    · have := World.alloc_heap_new (w.alloc dd) (p.obj .ready none)
      rwa [World.size_alloc, hM] at this
    · have h1 := World.alloc_heap_new w dd
      rw [hM] at h1
      have h2 := (Below.refl (w.alloc dd).heap.size (w.alloc dd)).alloc (Nat.le_refl _) (p.obj .ready none)
      rw [h2.block M (by rw [World.size_alloc]; omega)]
      exact h1
  · rintro e W2 ⟨hv, ⟨xs, hS, hi, hl, hd⟩ | ⟨pre, hS, c, hi, hl, hd⟩⟩
    · obtain ⟨q1, q2⟩ := hpost W2 (p.obj .exhausted none) hd (lt_of hl)
      exact ⟨hv, .ready, none, by simp, hl, hdone xs _ hS (hI.putObj _ hi (by omega) hl rfl) q2⟩
    · obtain ⟨q1, q2⟩ := hpost W2 (p.obj .exhausted (some c)) hd (lt_of hl)
      exact ⟨hv, .done, some c, by simp, hl, hstop c pre _ hS ((hIx c).putObj _ hi (by omega) hl rfl) q2⟩
end Go.Proofs.YtkkadknijjninaaDoor
