
/- A range over a function whose iterator writes one block of cells of its own: the statement's law, at the wide fence. No program is named. -/
import Derived.RangeFuncNested
import Derived.RangeFuncBound
import Derived.RangeFuncCalls
import Derived.RangeFuncLeaves
import Derived.RangeFuncBox
import Derived.Shelf.Abstract
import Derived.Shelf.RegionOpen
import Derived.WalkKit
import Derived.OwnWalkIn
import Derived.TacticsInMore
import Derived.LoopNIn
import Derived.LoopIn
import Derived.Test.YtkkadknijjninaaDoorKA
namespace Go.Proofs.YtkkadknijjninaaDoor
open Go.RowKit Go.Shelf

/-- The parts of a loop's record that never turn. -/
structure Lp where
  fn : FuncId
  tmps : Array Value
  ps : Array Tmp
  assign : Code
  body : Code
  D : Nat
def Lp.obj (p : Lp) (st : LoopState) (pe : Option Code) : Obj := .loop { state := st, pending := pe, fn := p.fn, tmps := p.tmps, params := p.ps, assign := p.assign, body := p.body, defers := p.D }

abbrev Wd : Fence := Fence.wide
theorem wd_round : Fence.round Wd = none := rfl

/-- How a round is left: what its end makes of the record. -/
def Left (p : Lp) (l : Nat) (R : Ending → World → Prop) (e : Exit) (_ : Act) (W : World) : Prop :=
  W.heap[l]? = some (p.obj .busy none) ∧
  match e with
  | .normal => R (.returned (.bool true)) (W.putObj l (p.obj .ready none))
  | .ret => R (.returned (.bool false)) (W.putObj l (p.obj .done (some .ret)))
  | .exit id => R (.returned (.bool false)) (W.putObj l (p.obj .done (some (.exit id))))
  | .goto t => R (.returned (.bool false)) (W.putObj l (p.obj .done (some (.goto t))))
  | .panic _ => False
  | .outgrown => False

theorem yield_round {P : Program} {m l : Nat} {p : Lp} {W : World} {args : Array Value} {a1 : Act} {R : Ending → World → Prop} (h : W.heap[l]? = some (p.obj .ready none)) (hs : args.size = p.ps.size)
    (has : ∀ K : Act → World → Prop, K a1 W → p.assign.wpIn (Wd.inRound l) m P (Exit.then K (fun _ _ _ => False)) { tmps := (p.ps.zip args).foldl (fun t (q, v) => t.setIfInBounds q v) p.tmps, defers := [] } W)
    (hbody : p.body.wpIn (Wd.inRound l) m P (Left p l R) a1 (W.putObj l (p.obj .busy none))) : YieldAt Wd m P l args W R := by
  have hy := run_yield (P := P) (args := args) (r := { state := .ready, pending := none, fn := p.fn, tmps := p.tmps, params := p.ps, assign := p.assign, body := p.body, defers := p.D }) h hs
  refine ⟨p.fn, _, p.assign, p.body, hy, roundIn_of_wpIn trivial (has _ ⟨_, run_beginRound h rfl, ?_⟩)⟩
  refine wpIn_mono hbody ?_
  intro e a W3 hp
  obtain ⟨hl, hq⟩ := hp
  cases e with
  | normal => exact ⟨_, _, run_endRound none hl, hq⟩
  | ret => exact ⟨_, _, run_endRound (some .ret) hl, hq⟩
  | exit id => exact ⟨_, _, run_endRound (some (.exit id)) hl, hq⟩
  | goto t => exact ⟨_, _, run_endRound (some (.goto t)) hl, hq⟩
  | panic ch => exact hq.elim
  | outgrown => exact hq.elim

/-- What the function that is ranged over must come to: the record not busy; the jump that a round has left. -/
def Behind (P : Program) (p : Lp) (l : Nat) (Q : Exit → Act → World → Prop) (a : Act) (e : Ending) (W : World) : Prop :=
  (∃ v, e = .returned v) ∧ ∃ st jump, st ≠ .busy ∧ W.heap[l]? = some (p.obj st jump) ∧
    match jump with
    | none => Q .normal a (W.putObj l (p.obj .exhausted none))
    | some c => c.wp P Q a (W.putObj l (p.obj .exhausted (some c)))

theorem wp_range_raw {P : Program} {g : Operand} {ps : Array Tmp} {assign body : Code} {Q : Exit → Act → World → Prop} {a : Act} {w : World} {gf : Nat} {lb : Array Value}
    (hg : a.eval g = .func (.func gf) #[] lb) (eg : ∀ args w, (callFunc gf args).run P w = .ok (.enter gf args) w)
    (h : ∀ p : Lp, p.tmps = a.tmps → p.ps = ps → p.assign = assign → p.body = body → p.D = w.heap.size →
      CallsIn Wd 8 P gf (#[.func (.yield (w.heap.size + 1)) #[] #[]] ++ lb) ((w.alloc (.deferred (some []))).alloc (p.obj .ready none)) (Behind P p (w.heap.size + 1) Q { a with defers := { target := .collected w.heap.size, args := #[] } :: a.defers })) :
    (Code.rangeFunc g ps assign body).wp P Q a w := by
  refine (wpIn_wide (n := 9)).1 (wpIn_rangeFunc fun fn _ => ?_)
  have hc := h ⟨fn, a.tmps, ps, assign, body, w.heap.size⟩ rfl rfl rfl rfl rfl
  generalize hp : (Lp.mk fn a.tmps ps assign body w.heap.size) = p at hc
  generalize hW : (w.alloc (.deferred (some []))).alloc (p.obj .ready none) = W1 at hc
  have he : (Instr.enterLoop fn a.tmps ps assign body none).run P w = .ok (w.heap.size + 1, [{ target := .collected w.heap.size, args := #[] }]) W1 := by
    rw [← hW, ← hp]; exact run_enterLoop_outer _ _ _ _ _
  have h1 : (resolve a.eval (rangeCall g (w.heap.size + 1)) 0).run P W1 = .ok { target := .fn (.func gf) lb, args := #[.func (.yield (w.heap.size + 1)) #[] #[]] } W1 := by
    simp only [resolve, hg]
    simp [go_sem]
  have h2 : (invoke (.fn (.func gf) lb) #[.func (.yield (w.heap.size + 1)) #[] #[]]).run P W1 = .ok (.enter gf (#[.func (.yield (w.heap.size + 1)) #[] #[]] ++ lb)) W1 := by
    simp [invoke, go_sem, eg]
  have key : CallsIn Wd 8 P gf (#[.func (.yield (w.heap.size + 1)) #[] #[]] ++ lb) W1 (rangePost Wd 9 P (w.heap.size + 1) Q { a with defers := [{ target := .collected w.heap.size, args := #[] }] ++ a.defers }) := by
    refine hc.mono ?_
    rintro e W ⟨⟨v, rfl⟩, st, jump, hst, hl, hq⟩
    rw [← hp] at hl hq
    cases jump with
    | none => exact ⟨none, _, run_endLoop hl hst, hq⟩
    | some c => exact ⟨some c, _, run_endLoop hl hst, wpIn_wide.2 hq⟩
  clear hc hp hW
  exact ⟨_, _, _, _, _, _, _, _, he, h1, fun _ _ => trivial, h2, fun _ => by omega, key⟩

/-- An iterator that yields a list, writes but one block of cells (or none), and asks of each round what Kp says. -/
def SeqMine {α : Type} (P : Program) (gf : Nat) (lb : Array Value) (encs : α → Array Value) (row : Option Nat) (Kp : World → World → Prop) (S Sp : List α → Prop) (N : Nat) (w : World) : Prop :=
  ∀ (l : Nat) (J Jx : List α → World → Prop) (W : World), Below w.heap.size w W → (∀ s A B, J s A → A.grownBy B row → J s B) → (∀ s A B, Jx s A → A.grownBy B row → Jx s B) →
    (∀ pre x W1, J pre W1 → pre.length < N → YieldAt Wd 7 P l (encs x) W1 fun e W' => (e = .returned (.bool true) ∧ J (pre ++ [x]) W' ∧ Kp W1 W') ∨ (e = .returned (.bool false) ∧ Jx (pre ++ [x]) W')) →
    J [] W → CallsIn Wd 8 P gf (#[.func (.yield l) #[] #[]] ++ lb) W fun e W' => (∃ v, e = .returned v) ∧ ((∃ xs, S xs ∧ J xs W') ∨ ∃ pre, Sp pre ∧ Jx pre W')

/-- The law: I between two rounds, Ix where a round has left by a jump. -/
theorem wp_range_mine {α : Type} {P : Program} {g : Operand} {ps : Array Tmp} {assign body : Code} {Q : Exit → Act → World → Prop} {a : Act} {w : World} {gf : Nat} {lb : Array Value}
    (hg : a.eval g = .func (.func gf) #[] lb) (eg : ∀ args w, (callFunc gf args).run P w = .ok (.enter gf args) w)
    {encs : α → Array Value} {row : Option Nat} {Kp : World → World → Prop} {S Sp : List α → Prop} {N : Nat} (hseq : SeqMine P gf lb encs row Kp S Sp N w) (hrow : ∀ r, row = some r → r < w.heap.size)
    (hKt : ∀ A B C, Kp A B → Kp B C → Kp A C) (hKb : ∀ (W : World) (l : Nat) (o' : Obj), w.heap.size ≤ l → l < W.heap.size → Kp W (W.putObj l o')) (hps : ∀ x, (encs x).size = ps.size)
    (I : List α → World → Prop) (Ix : Code → List α → World → Prop) (hI : OwnFrom w.heap.size I) (hIx : ∀ c, OwnFrom w.heap.size (Ix c)) (hIr : ∀ s A B, I s A → A.grownBy B row → I s B) (hIxr : ∀ c s A B, Ix c s A → A.grownBy B row → Ix c s B)
    (h0 : I [] w) (a1 : α → Act)
    (hassign : ∀ (l : Nat) (x : α) (W : World) (K : Act → World → Prop), K (a1 x) W → assign.wpIn (Wd.inRound l) 7 P (Exit.then K (fun _ _ _ => False)) { tmps := (ps.zip (encs x)).foldl (fun t (q, v) => t.setIfInBounds q v) a.tmps, defers := [] } W)
    (hbody : ∀ (l : Nat) (pre : List α) (x : α) (W : World), I pre W → pre.length < N → body.wpIn (Wd.inRound l) 7 P (ownPostG w.heap.size Kp I Ix (pre ++ [x]) W) (a1 x) W)
    (hdone : ∀ (xs : List α) (W : World), S xs → I xs W → W.heap[w.heap.size]? = some (.deferred (some [])) → Q .normal { a with defers := { target := .collected w.heap.size, args := #[] } :: a.defers } W)
    (hstop : ∀ (c : Code) (pre : List α) (W : World), Sp pre → Ix c pre W → W.heap[w.heap.size]? = some (.deferred (some [])) → c.wp P Q { a with defers := { target := .collected w.heap.size, args := #[] } :: a.defers } W) :
    (Code.rangeFunc g ps assign body).wp P Q a w := by
  refine wp_range_raw hg eg fun p hp1 hp2 hp3 hp4 hp5 => ?_
  subst hp2 hp3 hp4
  generalize hM : w.heap.size = M at *
  -- the two blocks of the statement's own
  have keep : ∀ (A B : World) (k : Nat) (o : Obj), A.grownBy B row → M ≤ k → A.heap[k]? = some o → B.heap[k]? = some o := by
    intro A B k o hgr hk ho
    exact (hgr.block k (Array.getElem?_eq_some_iff.1 ho).1 (fun e => by have := hrow k e.symm; omega)).trans ho
  have lt_of : ∀ {A : World} {k : Nat} {o : Obj}, A.heap[k]? = some o → k < A.heap.size := fun h => (Array.getElem?_eq_some_iff.1 h).1
  let dd : Obj := .deferred (some [])
  have hpost := fun (W3 : World) (o : Obj) (hD : W3.heap[M]? = some dd) (hL : M + 1 < W3.heap.size) => (⟨World.putObj_heap_same hL, (World.putObj_heap_other (by omega)).trans hD⟩ : (W3.putObj (M + 1) o).heap[M + 1]? = some o ∧ (W3.putObj (M + 1) o).heap[M]? = some dd)
  refine (hseq (M + 1) (fun s W => I s W ∧ W.heap[M + 1]? = some (p.obj .ready none) ∧ W.heap[M]? = some dd) (fun s W => ∃ c, Ix c s W ∧ W.heap[M + 1]? = some (p.obj .done (some c)) ∧ W.heap[M]? = some dd) _ ?_ ?_ ?_ ?_ ?_).mono ?_
  · have h1 : Below w.heap.size w (w.alloc dd) := (Below.refl _ w).alloc (Nat.le_refl _) _
    exact h1.alloc (o := p.obj .ready none) h1.size
  · intro s A B hs hgr
    exact ⟨hIr _ _ _ hs.1 hgr, keep _ _ _ _ hgr (by omega) hs.2.1, keep _ _ _ _ hgr (by omega) hs.2.2⟩
  · rintro s A B ⟨c, hs⟩ hgr
    exact ⟨c, hIxr _ _ _ _ hs.1 hgr, keep _ _ _ _ hgr (by omega) hs.2.1, keep _ _ _ _ hgr (by omega) hs.2.2⟩
  · rintro pre x W1 ⟨hi, hl, hd⟩ hN
    refine yield_round hl (hps x) (fun K hK => by rw [hp1]; exact hassign _ x W1 K hK) ?_
    obtain ⟨hl2, hd2⟩ := hpost W1 (p.obj .busy none) hd (lt_of hl)
    refine wpIn_mono (hbody (M + 1) pre x _ (hI.putObj _ hi (by omega) hl rfl) hN) ?_
    have kept : ∀ W3, KeepsFrom M (W1.putObj (M + 1) (p.obj .busy none)) W3 → W3.heap[M + 1]? = some (p.obj .busy none) ∧ W3.heap[M]? = some dd := fun W3 hk => ⟨hk.same _ _ (by omega) hl2 rfl, hk.same _ _ (Nat.le_refl _) hd2 rfl⟩
    have out : ∀ (c : Code) (W3 : World), KeepsFrom M (W1.putObj (M + 1) (p.obj .busy none)) W3 → Ix c (pre ++ [x]) W3 → W3.heap[M + 1]? = some (p.obj .busy none) ∧ ∃ c', Ix c' (pre ++ [x]) (W3.putObj (M + 1) (p.obj .done (some c))) ∧ (W3.putObj (M + 1) (p.obj .done (some c))).heap[M + 1]? = some (p.obj .done (some c')) ∧ (W3.putObj (M + 1) (p.obj .done (some c))).heap[M]? = some dd := by
      intro c W3 hk hx
      obtain ⟨k1, k2⟩ := kept W3 hk
      obtain ⟨q1, q2⟩ := hpost W3 (p.obj .done (some c)) k2 (lt_of k1)
      exact ⟨k1, c, (hIx c).putObj _ hx (by omega) k1 rfl, q1, q2⟩
    intro e a3 W3 hp
    cases e with
    | normal =>
      obtain ⟨hk, hkp, hi3⟩ := hp
      obtain ⟨k1, k2⟩ := kept W3 hk
      obtain ⟨q1, q2⟩ := hpost W3 (p.obj .ready none) k2 (lt_of k1)
      exact ⟨k1, .inl ⟨rfl, ⟨hI.putObj _ hi3 (by omega) k1 rfl, q1, q2⟩, hKt _ _ _ (hKt _ _ _ (hKb _ _ _ (by omega) (lt_of hl)) hkp) (hKb _ _ _ (by omega) (lt_of k1))⟩⟩
    | ret => obtain ⟨k1, hx⟩ := out .ret W3 hp.1 hp.2; exact ⟨k1, .inr ⟨rfl, hx⟩⟩
    | exit id => obtain ⟨k1, hx⟩ := out (.exit id) W3 hp.1 hp.2; exact ⟨k1, .inr ⟨rfl, hx⟩⟩
    | goto t => obtain ⟨k1, hx⟩ := out (.goto t) W3 hp.1 hp.2; exact ⟨k1, .inr ⟨rfl, hx⟩⟩
    | panic ch => exact hp.elim
    | outgrown => exact hp.elim
  · refine ⟨hI.alloc _ (hI.alloc _ h0), ?_, ?_⟩
    · have := World.alloc_heap_new (w.alloc dd) (p.obj .ready none)
      rwa [World.size_alloc, hM] at this
    · have h1 := World.alloc_heap_new w dd
      rw [hM] at h1
      have h2 := (Below.refl (w.alloc dd).heap.size (w.alloc dd)).alloc (Nat.le_refl _) (p.obj .ready none)
      rw [h2.block M (by rw [World.size_alloc]; omega)]
      exact h1
  · rintro e W2 ⟨hv, ⟨xs, hS, hi, hl, hd⟩ | ⟨pre, hS, c, hi, hl, hd⟩⟩
    · obtain ⟨q1, q2⟩ := hpost W2 (p.obj .exhausted none) hd (lt_of hl)
      exact ⟨hv, .ready, none, by simp, hl, hdone xs _ hS (hI.putObj _ hi (by omega) hl rfl) q2⟩
    · obtain ⟨q1, q2⟩ := hpost W2 (p.obj .exhausted (some c)) hd (lt_of hl)
      exact ⟨hv, .done, some c, by simp, hl, hstop c pre _ hS ((hIx c).putObj _ hi (by omega) hl rfl) q2⟩

/-- The same where the assignment to the loop's variables makes boxes. -/
theorem yield_round2 {P : Program} {m l : Nat} {p : Lp} {W : World} {args : Array Value} {A : Act → World → Prop} {R : Ending → World → Prop} (h : W.heap[l]? = some (p.obj .ready none)) (hs : args.size = p.ps.size)
    (has : ∀ K : Act → World → Prop, (∀ a1 W1, A a1 W1 → K a1 W1) → p.assign.wpIn (Wd.inRound l) m P (Exit.then K (fun _ _ _ => False)) { tmps := (p.ps.zip args).foldl (fun t (q, v) => t.setIfInBounds q v) p.tmps, defers := [] } W)
    (hbody : ∀ a1 W1, A a1 W1 → W1.heap[l]? = some (p.obj .ready none) ∧ p.body.wpIn (Wd.inRound l) m P (Left p l R) a1 (W1.putObj l (p.obj .busy none))) : YieldAt Wd m P l args W R := by
  have hy := run_yield (P := P) (args := args) (r := { state := .ready, pending := none, fn := p.fn, tmps := p.tmps, params := p.ps, assign := p.assign, body := p.body, defers := p.D }) h hs
  refine ⟨p.fn, _, p.assign, p.body, hy, roundIn_of_wpIn trivial (has _ fun a1 W1 hA => ?_)⟩
  obtain ⟨hl1, hb1⟩ := hbody a1 W1 hA
  refine ⟨_, run_beginRound hl1 rfl, wpIn_mono hb1 ?_⟩
  intro e a W3 hp
  obtain ⟨hl, hq⟩ := hp
  cases e with
  | normal => exact ⟨_, _, run_endRound none hl, hq⟩
  | ret => exact ⟨_, _, run_endRound (some .ret) hl, hq⟩
  | exit id => exact ⟨_, _, run_endRound (some (.exit id)) hl, hq⟩
  | goto t => exact ⟨_, _, run_endRound (some (.goto t)) hl, hq⟩
  | panic ch => exact hq.elim
  | outgrown => exact hq.elim

theorem wp_range_boxed {α : Type} {P : Program} {g : Operand} {ps : Array Tmp} {assign body : Code} {Q : Exit → Act → World → Prop} {a : Act} {w : World} {gf : Nat} {lb : Array Value}
    (hg : a.eval g = .func (.func gf) #[] lb) (eg : ∀ args w, (callFunc gf args).run P w = .ok (.enter gf args) w)
    {encs : α → Array Value} {row : Option Nat} {Kp : World → World → Prop} {S Sp : List α → Prop} {N : Nat} (hseq : SeqMine P gf lb encs row Kp S Sp N w) (hrow : ∀ r, row = some r → r < w.heap.size)
    (hKt : ∀ A B C, Kp A B → Kp B C → Kp A C) (hKb : ∀ (W : World) (l : Nat) (o' : Obj), w.heap.size ≤ l → l < W.heap.size → Kp W (W.putObj l o')) (hps : ∀ x, (encs x).size = ps.size)
    (I : List α → World → Prop) (Ix : Code → List α → World → Prop) (Ax : α → Act → World → Prop) (hI : OwnFrom w.heap.size I) (hIx : ∀ c, OwnFrom w.heap.size (Ix c)) (hIr : ∀ s A B, I s A → A.grownBy B row → I s B) (hIxr : ∀ c s A B, Ix c s A → A.grownBy B row → Ix c s B)
    (hAx : ∀ x a', OwnFrom w.heap.size (fun _ : Unit => Ax x a')) (h0 : I [] w)
    (hassign : ∀ (l : Nat) (pre : List α) (x : α) (W : World) (K : Act → World → Prop), I pre W → pre.length < N → (∀ a' W', KeepsFrom w.heap.size W W' → Kp W W' → I pre W' → Ax x a' W' → K a' W') →
      assign.wpIn (Wd.inRound l) 7 P (Exit.then K (fun _ _ _ => False)) { tmps := (ps.zip (encs x)).foldl (fun t (q, v) => t.setIfInBounds q v) a.tmps, defers := [] } W)
    (hbody : ∀ (l : Nat) (pre : List α) (x : α) (a' : Act) (W : World), I pre W → Ax x a' W → pre.length < N → body.wpIn (Wd.inRound l) 7 P (ownPostG w.heap.size Kp I Ix (pre ++ [x]) W) a' W)
    (hdone : ∀ (xs : List α) (W : World), S xs → I xs W → W.heap[w.heap.size]? = some (.deferred (some [])) → Q .normal { a with defers := { target := .collected w.heap.size, args := #[] } :: a.defers } W)
    (hstop : ∀ (c : Code) (pre : List α) (W : World), Sp pre → Ix c pre W → W.heap[w.heap.size]? = some (.deferred (some [])) → c.wp P Q { a with defers := { target := .collected w.heap.size, args := #[] } :: a.defers } W) :
    (Code.rangeFunc g ps assign body).wp P Q a w := by
  refine wp_range_raw hg eg fun p hp1 hp2 hp3 hp4 hp5 => ?_
  subst hp2 hp3 hp4
  generalize hM : w.heap.size = M at *
  have keep : ∀ (A B : World) (k : Nat) (o : Obj), A.grownBy B row → M ≤ k → A.heap[k]? = some o → B.heap[k]? = some o := by
    intro A B k o hgr hk ho
    exact (hgr.block k (Array.getElem?_eq_some_iff.1 ho).1 (fun e => by have := hrow k e.symm; omega)).trans ho
  have lt_of : ∀ {A : World} {k : Nat} {o : Obj}, A.heap[k]? = some o → k < A.heap.size := fun h => (Array.getElem?_eq_some_iff.1 h).1
  let dd : Obj := .deferred (some [])
  have hpost := fun (W3 : World) (o : Obj) (hD : W3.heap[M]? = some dd) (hL : M + 1 < W3.heap.size) => (⟨World.putObj_heap_same hL, (World.putObj_heap_other (by omega)).trans hD⟩ : (W3.putObj (M + 1) o).heap[M + 1]? = some o ∧ (W3.putObj (M + 1) o).heap[M]? = some dd)
  refine (hseq (M + 1) (fun s W => I s W ∧ W.heap[M + 1]? = some (p.obj .ready none) ∧ W.heap[M]? = some dd) (fun s W => ∃ c, Ix c s W ∧ W.heap[M + 1]? = some (p.obj .done (some c)) ∧ W.heap[M]? = some dd) _ ?_ ?_ ?_ ?_ ?_).mono ?_
  · have h1 : Below w.heap.size w (w.alloc dd) := (Below.refl _ w).alloc (Nat.le_refl _) _
    exact h1.alloc (o := p.obj .ready none) h1.size
  · intro s A B hs hgr
    exact ⟨hIr _ _ _ hs.1 hgr, keep _ _ _ _ hgr (by omega) hs.2.1, keep _ _ _ _ hgr (by omega) hs.2.2⟩
  · rintro s A B ⟨c, hs⟩ hgr
    exact ⟨c, hIxr _ _ _ _ hs.1 hgr, keep _ _ _ _ hgr (by omega) hs.2.1, keep _ _ _ _ hgr (by omega) hs.2.2⟩
  · rintro pre x W0 ⟨hi0, hl0, hd0⟩ hN
    refine yield_round2 (A := fun a1 W1 => KeepsFrom M W0 W1 ∧ Kp W0 W1 ∧ I pre W1 ∧ Ax x a1 W1) hl0 (hps x) (fun K hK => by rw [hp1]; exact hassign _ pre x W0 K hi0 hN (fun a1 W1 h1 h2 h3 h4 => hK a1 W1 ⟨h1, h2, h3, h4⟩)) ?_
    rintro a1 W1 ⟨hk1, hkp1, hi, hax⟩
    have hl := hk1.same _ _ (by omega) hl0 rfl
    have hd := hk1.same _ _ (Nat.le_refl _) hd0 rfl
    obtain ⟨hl2, hd2⟩ := hpost W1 (p.obj .busy none) hd (lt_of hl)
    refine ⟨hl, wpIn_mono (hbody (M + 1) pre x a1 _ (hI.putObj _ hi (by omega) hl rfl) ((hAx x a1).putObj (s := ()) _ hax (by omega) hl rfl) hN) ?_⟩
    have kept : ∀ W3, KeepsFrom M (W1.putObj (M + 1) (p.obj .busy none)) W3 → W3.heap[M + 1]? = some (p.obj .busy none) ∧ W3.heap[M]? = some dd := fun W3 hk => ⟨hk.same _ _ (by omega) hl2 rfl, hk.same _ _ (Nat.le_refl _) hd2 rfl⟩
    have out : ∀ (c : Code) (W3 : World), KeepsFrom M (W1.putObj (M + 1) (p.obj .busy none)) W3 → Ix c (pre ++ [x]) W3 → W3.heap[M + 1]? = some (p.obj .busy none) ∧ ∃ c', Ix c' (pre ++ [x]) (W3.putObj (M + 1) (p.obj .done (some c))) ∧ (W3.putObj (M + 1) (p.obj .done (some c))).heap[M + 1]? = some (p.obj .done (some c')) ∧ (W3.putObj (M + 1) (p.obj .done (some c))).heap[M]? = some dd := by
      intro c W3 hk hx
      obtain ⟨k1, k2⟩ := kept W3 hk
      obtain ⟨q1, q2⟩ := hpost W3 (p.obj .done (some c)) k2 (lt_of k1)
      exact ⟨k1, c, (hIx c).putObj _ hx (by omega) k1 rfl, q1, q2⟩
    intro e a3 W3 hp
    cases e with
    | normal =>
      obtain ⟨hk, hkp, hi3⟩ := hp
      obtain ⟨k1, k2⟩ := kept W3 hk
      obtain ⟨q1, q2⟩ := hpost W3 (p.obj .ready none) k2 (lt_of k1)
      exact ⟨k1, .inl ⟨rfl, ⟨hI.putObj _ hi3 (by omega) k1 rfl, q1, q2⟩, hKt _ _ _ hkp1 (hKt _ _ _ (hKt _ _ _ (hKb _ _ _ (by omega) (lt_of hl)) hkp) (hKb _ _ _ (by omega) (lt_of k1)))⟩⟩
    | ret => obtain ⟨k1, hx⟩ := out .ret W3 hp.1 hp.2; exact ⟨k1, .inr ⟨rfl, hx⟩⟩
    | exit id => obtain ⟨k1, hx⟩ := out (.exit id) W3 hp.1 hp.2; exact ⟨k1, .inr ⟨rfl, hx⟩⟩
    | goto t => obtain ⟨k1, hx⟩ := out (.goto t) W3 hp.1 hp.2; exact ⟨k1, .inr ⟨rfl, hx⟩⟩
    | panic ch => exact hp.elim
    | outgrown => exact hp.elim
  · refine ⟨hI.alloc _ (hI.alloc _ h0), ?_, ?_⟩
    · have := World.alloc_heap_new (w.alloc dd) (p.obj .ready none)
      rwa [World.size_alloc, hM] at this
    · have h1 := World.alloc_heap_new w dd
      rw [hM] at h1
      have h2 := (Below.refl (w.alloc dd).heap.size (w.alloc dd)).alloc (Nat.le_refl _) (p.obj .ready none)
      rw [h2.block M (by rw [World.size_alloc]; omega)]
      exact h1
  · rintro e W2 ⟨hv, ⟨xs, hS, hi, hl, hd⟩ | ⟨pre, hS, c, hi, hl, hd⟩⟩
    · obtain ⟨q1, q2⟩ := hpost W2 (p.obj .exhausted none) hd (lt_of hl)
      exact ⟨hv, .ready, none, by simp, hl, hdone xs _ hS (hI.putObj _ hi (by omega) hl rfl) q2⟩
    · obtain ⟨q1, q2⟩ := hpost W2 (p.obj .exhausted (some c)) hd (lt_of hl)
      exact ⟨hv, .done, some c, by simp, hl, hstop c pre _ hS ((hIx c).putObj _ hi (by omega) hl rfl) q2⟩
end Go.Proofs.YtkkadknijjninaaDoor
