/- FdsPlays: pairs of tables in a slice. -/
import Derived.Test.YtjbclaplohankaaDV
import Derived.IntWalk
namespace Go.Proofs.Ytjbclaplohankaa
open Go.RowKit Go.Sort

structure PR where
  b : Nat
  p : Nat
  q : Nat
  c : Nat
  ss : List SL
def pc (P : Nat → PR) (n : Nat) : List Value := (List.range n).flatMap fun i => [.pointer (some ⟨(P i).b, 0, none⟩), .pointer (some ⟨(P i).p, 0, none⟩)]
theorem pc_succ (P : Nat → PR) (n : Nat) : pc P (n + 1) = pc P n ++ [.pointer (some ⟨(P n).b, 0, none⟩), .pointer (some ⟨(P n).p, 0, none⟩)] := by
  unfold pc
  rw [List.range_succ, List.flatMap_append]
  rfl
theorem pc_len (P : Nat → PR) (n : Nat) : (pc P n).length = n * 2 := by
  induction n with
  | zero => rfl
  | succ n ih => rw [pc_succ, List.length_append, ih]; simp; omega
theorem pc_at (P : Nat → PR) (n k : Nat) (h : k < n) : (pc P n)[k * 2]? = some (.pointer (some ⟨(P k).b, 0, none⟩)) ∧ (pc P n)[k * 2 + 1]? = some (.pointer (some ⟨(P k).p, 0, none⟩)) := by
  induction n with
  | zero => omega
  | succ n ih =>
    rw [pc_succ]
    by_cases e : k < n
    · have hl := pc_len P n
      rw [List.getElem?_append_left (by omega), List.getElem?_append_left (by omega)]
      exact ih e
    · obtain rfl : k = n := by omega
      have hl := pc_len P k
      rw [List.getElem?_append_right (by omega), List.getElem?_append_right (by omega), hl, Nat.sub_self, Nat.add_sub_cancel_left]
      exact ⟨rfl, rfl⟩
theorem pc_congr (P P' : Nat → PR) (n : Nat) (h : ∀ i < n, (P i).b = (P' i).b ∧ (P i).p = (P' i).p) : pc P n = pc P' n := by
  induction n with
  | zero => rfl
  | succ n ih =>
    rw [pc_succ, pc_succ, ih (fun i hi => h i (by omega)), (h n (by omega)).1, (h n (by omega)).2]

/-- The tables of the first n pairs are apart, and as they should be. -/
structure PI (base : Nat) (w : World) (n : Nat) (P : Nat → PR) : Prop where
  tab : ∀ i, i < n → Tab w (P i).b 50 (P i).ss
  ref : ∀ i, i < n → RTab w (P i).p (P i).q (P i).c (P i).ss
  low : ∀ i, i < n → base ≤ (P i).b ∧ base ≤ (P i).q
  apart : ∀ i j, i < n → j < n → i ≠ j → (P i).b ≠ (P j).b ∧ (P i).q ≠ (P j).q

theorem rows_ne {w : World} {g h : Nat} {E F : TypeId} {cs ds : List Value} (hg : Row w g E cs) (hh : Row w h F ds) (hne : E ≠ F) : g ≠ h := by
  rintro rfl
  have := hg.heap.symm.trans hh.heap
  simp only [Option.some.injEq, Obj.cells.injEq] at this
  exact hne this.2.1
theorem tab_ref {w : World} {b p q c : Nat} {ss ts : List SL} (h : Tab w b 50 ss) (r : RTab w p q c ts) : p ≠ b ∧ q ≠ b := by
  obtain ⟨rest, hr⟩ := r.tab.row
  exact ⟨rows_ne r.ptr h.row (by decide), rows_ne hr h.row (by decide)⟩
theorem ref_ref {w : World} {p q c p' q' c' : Nat} {ss ts : List SL} (h : RTab w p q c ss) (r : RTab w p' q' c' ts) : p ≠ q' := by
  obtain ⟨rest, hr⟩ := r.tab.row
  exact rows_ne h.ptr hr (by decide)
theorem row_two {w w' : World} {g b q : Nat} {E : TypeId} {cs : List Value} (h : Row w g E cs) (ht : Two w w' b q) (h1 : g ≠ b) (h2 : g ≠ q) : Row w' g E cs := ⟨by rw [ht.block g h.lt h1 h2]; exact h.heap⟩

theorem PI.below {base n : Nat} {w w' : World} {P : Nat → PR} (h : PI base w n P) (hb : Below w.heap.size w w') : PI base w' n P :=
  ⟨fun i hi => (h.tab i hi).below hb, fun i hi => (h.ref i hi).below hb, h.low, h.apart⟩
theorem PI.grown {base n g : Nat} {w w' : World} {P : Nat → PR} {cs : List Value} (h : PI base w n P) (hg : w.grownBy w' (some g)) (ho : Row w g 28 cs) : PI base w' n P :=
  ⟨fun i hi => tab_grown (h.tab i hi) hg (rows_ne (h.tab i hi).row ho (by decide)), fun i hi => by
    obtain ⟨rest, hr⟩ := (h.ref i hi).tab.row
    exact (h.ref i hi).grown hg (rows_ne (h.ref i hi).ptr ho (by decide)) (rows_ne hr ho (by decide)), h.low, h.apart⟩
/-- One pair has moved. -/
theorem PI.two {base n j : Nat} {w w' : World} {P : Nat → PR} {ss : List SL} (h : PI base w n P) (hj : j < n) (ht : Two w w' (P j).b (P j).q) (h1 : Tab w' (P j).b 50 ss) (h2 : RTab w' (P j).p (P j).q (P j).c ss) :
    PI base w' n (fun i => if i = j then { P j with ss := ss } else P i) := by
  refine ⟨fun i hi => ?_, fun i hi => ?_, fun i hi => ?_, fun i k hi hk hne => ?_⟩
  · by_cases e : i = j
    · subst e; simpa using h1
    · simp only [if_neg e]
      exact ⟨row_two (h.tab i hi).row ht (h.apart i j hi hj e).1 (Ne.symm (tab_ref (h.tab i hi) (h.ref j hj)).2), (h.tab i hi).len⟩
  · by_cases e : i = j
    · subst e; simpa using h2
    · simp only [if_neg e]
      obtain ⟨rest, hr⟩ := (h.ref i hi).tab.row
      have t := tab_ref (h.tab j hj) (h.ref i hi)
      exact ⟨row_two (h.ref i hi).ptr ht t.1 (ref_ref (h.ref i hi) (h.ref j hj)), ⟨⟨rest, row_two hr ht t.2 (h.apart i j hi hj e).2⟩, (h.ref i hi).tab.len⟩, (h.ref i hi).ne⟩
  · by_cases e : i = j
    · subst e; simpa using h.low i hi
    · simpa [e] using h.low i hi
  · by_cases e : i = j
    · subst e
      simp only [if_true, if_neg (Ne.symm hne)]
      exact h.apart i k hi hk hne
    · by_cases e2 : k = j
      · subst e2
        simp only [if_true, if_neg e]
        exact h.apart i k hi hk hne
      · simp only [if_neg e, if_neg e2]
        exact h.apart i k hi hk hne
/-- One pair more, of new tables. -/
theorem PI.more {base n : Nat} {w w' : World} {P : Nat → PR} {r : PR} (h : PI base w n P) (hb : Below w.heap.size w w') (h1 : Tab w' r.b 50 r.ss) (h2 : RTab w' r.p r.q r.c r.ss) (n1 : w.heap.size ≤ r.b) (n2 : w.heap.size ≤ r.q) (hs : base ≤ w.heap.size) :
    PI base w' (n + 1) (fun i => if i = n then r else P i) := by
  have hlt : ∀ i, i < n → (P i).b < w.heap.size ∧ (P i).q < w.heap.size := fun i hi => ⟨(h.tab i hi).row.lt, (h.ref i hi).tab.lt⟩
  refine ⟨fun i hi => ?_, fun i hi => ?_, fun i hi => ?_, fun i k hi hk hne => ?_⟩
  · by_cases e : i = n
    · subst e; simpa using h1
    · simp only [if_neg e]; exact (h.tab i (by omega)).below hb
  · by_cases e : i = n
    · subst e; simpa using h2
    · simp only [if_neg e]; exact (h.ref i (by omega)).below hb
  · by_cases e : i = n
    · subst e; simp only [if_true]; exact ⟨by omega, by omega⟩
    · simp only [if_neg e]; exact h.low i (by omega)
  · by_cases e : i = n
    · subst e
      have := hlt k (by omega)
      simp only [if_true, if_neg (Ne.symm hne)]
      exact ⟨by omega, by omega⟩
    · by_cases e2 : k = n
      · subst e2
        have := hlt i (by omega)
        simp only [if_true, if_neg e]
        exact ⟨by omega, by omega⟩
      · simp only [if_neg e, if_neg e2]
        exact h.apart i k (by omega) (by omega) hne

/-- The slice's own row as a row, and its cells. -/
theorem own_pairs {w : World} {base n : Nat} {v : Value} {P : Nat → PR} (h : w.ownsRow base 28 2 v n (pc P n)) (hn : 0 < n) : ∃ g c, v = .slice (some ⟨g, 0, none⟩) n c ∧ (∃ cs, Row w g 28 cs) ∧ g < w.heap.size ∧ n ≤ c ∧ c ≤ maxLen ∧ base ≤ g ∧
    ∀ k, k < n → w.cell? ⟨g, k * 2, none⟩ = some (.pointer (some ⟨(P k).b, 0, none⟩)) ∧ w.cell? ⟨g, k * 2 + 1, none⟩ = some (.pointer (some ⟨(P k).p, 0, none⟩)) := by
  rcases h.2 with ⟨_, h0⟩ | ⟨g, cap, cur, rfl, hb, hg, hnc, hm, hs, ht⟩
  · omega
  · have hr : Row w g 28 cur.toList := ⟨by simpa using hg⟩
    refine ⟨g, cap, rfl, ⟨_, hr⟩, hr.lt, hnc, hm, hb, fun k hk => ?_⟩
    have ha := pc_at P n k hk
    rw [← ht] at ha
    rw [hr.cell', hr.cell']
    refine ⟨?_, ?_⟩
    · have := ha.1
      rw [List.getElem?_take] at this
      split at this
      · exact this
      · cases this
    · have := ha.2
      rw [List.getElem?_take] at this
      split at this
      · exact this
      · cases this
theorem idx_ok (x : Int) (n : Nat) (h0 : 0 < n) (h6 : n ≤ 6) : ∃ j : Nat, j < n ∧ (wrap64 (x.tmod n + n)).tmod n = (j : Int) := by
  have hl : -(n : Int) < x.tmod n ∧ x.tmod n < n := by
    constructor
    · exact Int.lt_tmod_of_pos x (by omega)
    · exact Int.tmod_lt_of_pos x (by omega)
  have hw : wrap64 (x.tmod n + n) = x.tmod n + n := Go.IntWalk.wrap64_in _ (by omega)
  rw [hw]
  have h1 := Int.tmod_lt_of_pos (x.tmod n + n) (b := n) (by omega)
  have h2 := Int.tmod_nonneg (a := x.tmod n + n) n (by omega)
  obtain ⟨j, hj⟩ := Int.eq_ofNat_of_zero_le h2
  exact ⟨j, by omega, hj⟩

theorem own_two {w w' : World} {base n b q : Nat} {v : Value} {xs : List Value} (h : w.ownsRow base 28 2 v n xs) (ht : Two w w' b q) (h1 : v.ownBlock ≠ some b) (h2 : v.ownBlock ≠ some q) : w'.ownsRow base 28 2 v n xs := by
  refine ⟨h.1, ?_⟩
  rcases h.2 with hn | ⟨g, cap, cur, rfl, hb, hg, r⟩
  · exact .inl hn
  · refine .inr ⟨g, cap, cur, rfl, hb, ?_, r⟩
    rw [ht.block g (Array.getElem?_eq_some_iff.1 hg).1 (by intro e; apply h1; rw [e]; rfl) (by intro e; apply h2; rw [e]; rfl)]
    exact hg
theorem below_two {B b q : Nat} {w0 w w' : World} (h : Below B w0 w) (ht : Two w w' b q) (hs : B ≤ w.heap.size) (h1 : B ≤ b) (h2 : B ≤ q) : Below B w0 w' :=
  ⟨ht.os.trans h.os, ht.tape.trans h.tape, ht.output.trans h.output, Nat.le_trans h.size ht.size, fun k hk => by rw [ht.block k (Nat.lt_of_lt_of_le hk hs) (by omega) (by omega)]; exact h.block k hk⟩
/-- A step of one pair, all that hangs on it. -/
theorem pair_step {base n j : Nat} {w0 w w' : World} {P : Nat → PR} {v : Value} {ss : List SL} (hn : 0 < n) (hp : PI base w n P) (ho : w.ownsRow base 28 2 v n (pc P n)) (hb : Below base w0 w) (hs : base ≤ w.heap.size) (hj : j < n)
    (ht : Two w w' (P j).b (P j).q) (h1 : Tab w' (P j).b 50 ss) (h2 : RTab w' (P j).p (P j).q (P j).c ss) :
    ∃ P', PI base w' n P' ∧ w'.ownsRow base 28 2 v n (pc P' n) ∧ Below base w0 w' := by
  refine ⟨_, hp.two hj ht h1 h2, ?_, below_two hb ht hs (hp.low j hj).1 (hp.low j hj).2⟩
  obtain ⟨g, c, rfl, ⟨cs, hrow⟩, _⟩ := own_pairs ho hn
  obtain ⟨rest, hq⟩ := (hp.ref j hj).tab.row
  have e := own_two ho ht (by
    intro e; cases e
    exact rows_ne hrow (hp.tab j hj).row (by decide) rfl) (by
    intro e; cases e
    exact rows_ne hrow hq (by decide) rfl)
  have hc : pc P n = pc (fun i => if i = j then { P j with ss := ss } else P i) n := pc_congr _ _ _ (fun i hi => by
    by_cases e2 : i = j
    · subst e2; simp
    · simp [e2])
  rwa [hc] at e
end Go.Proofs.Ytjbclaplohankaa
