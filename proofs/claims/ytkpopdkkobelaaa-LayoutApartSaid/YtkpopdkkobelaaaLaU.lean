
/- Layout, plain: all objects placed first, then what meets what. -/
import Derived.Test.YtkpopdkkobelaaaLa9
namespace Go.Proofs.Ytkpopdkkobelaaa
open Go.RowKit

def plAll : List LO → Nat → Int → List LO
  | [], _, _ => []
  | x :: r, i, lib => placedL x (decide (i = 0)) lib :: plAll r (i + 1) (if 0 < i then (exOf (placedL x (decide (i = 0)) lib)).2 + 4096 else lib)
def plEnd : List LO → Nat → Int → Int
  | [], _, lib => lib
  | x :: r, i, lib => plEnd r (i + 1) (if 0 < i then (exOf (placedL x (decide (i = 0)) lib)).2 + 4096 else lib)
theorem plAll_len : ∀ (xs : List LO) (i : Nat) (lib : Int), (plAll xs i lib).length = xs.length
  | [], _, _ => rfl
  | x :: r, i, lib => by rw [plAll, List.length_cons, plAll_len r, List.length_cons]
theorem plAll_snoc : ∀ (xs : List LO) (i : Nat) (lib : Int) (x : LO), plAll (xs ++ [x]) i lib = plAll xs i lib ++ [placedL x (decide (i + xs.length = 0)) (plEnd xs i lib)]
  | [], i, lib, x => by simp [plAll, plEnd]
  | y :: r, i, lib, x => by
    rw [List.cons_append, plAll, plAll_snoc r, plAll, plEnd, List.cons_append, List.length_cons]
    have : decide (i + 1 + r.length = 0) = decide (i + (r.length + 1) = 0) := by rw [decide_eq_decide]; omega
    rw [this]
theorem plEnd_snoc : ∀ (xs : List LO) (i : Nat) (lib : Int) (x : LO), plEnd (xs ++ [x]) i lib = if 0 < i + xs.length then (exOf (placedL x (decide (i + xs.length = 0)) (plEnd xs i lib))).2 + 4096 else plEnd xs i lib
  | [], i, lib, x => by simp [plEnd]
  | y :: r, i, lib, x => by
    rw [List.cons_append, plEnd, plEnd_snoc r, plEnd, List.length_cons]
    have : decide (i + 1 + r.length = 0) = decide (i + (r.length + 1) = 0) := by rw [decide_eq_decide]; omega
    rw [this]
    have h : (0 < i + 1 + r.length) = (0 < i + (r.length + 1)) := by rw [propext_iff]; omega
    simp only [h]
/-- Does one of the stretches meet one ahead of it, or the stack? -/
def hitAll : List EX → List EX → Bool
  | _, [] => false
  | tk, e :: r => (stackX :: tk).any (meetB e) || hitAll (tk ++ [e]) r
theorem basGo_eq : ∀ (xs : List LO) (i : Nat) (lib : Int) (tk : List EX) (out : List LO), basGo xs i lib tk out = if hitAll tk ((plAll xs i lib).map exOf) = true then none else some (out ++ plAll xs i lib)
  | [], i, lib, tk, out => by simp [basGo, plAll, hitAll]
  | x :: r, i, lib, tk, out => by
    rw [plAll, List.map_cons, hitAll]
    cases h : (stackX :: tk).any (meetB (exOf (placedL x (decide (i = 0)) lib)))
    · rw [basGo_go rfl h, basGo_eq r, Bool.false_or, List.append_assoc]
      rfl
    · rw [basGo_hit rfl h, Bool.true_or, if_pos rfl]
theorem hitAll_at : ∀ (es tk : List EX) (i : Nat) (h : i < es.length), (stackX :: (tk ++ es.take i)).any (meetB es[i]) = true → hitAll tk es = true
  | [], _, i, h, _ => by simp at h
  | e :: r, tk, 0, _, hh => by
    rw [hitAll]
    simp only [List.take_zero, List.append_nil, List.getElem_cons_zero] at hh
    rw [hh, Bool.true_or]
  | e :: r, tk, i + 1, h, hh => by
    rw [hitAll, hitAll_at r (tk ++ [e]) i (by simpa using h), Bool.or_true]
    rw [List.append_assoc]
    simpa using hh
theorem hitAll_no : ∀ (es tk : List EX), (∀ i (h : i < es.length), (stackX :: (tk ++ es.take i)).any (meetB es[i]) = false) → hitAll tk es = false
  | [], _, _ => rfl
  | e :: r, tk, hh => by
    have h0 := hh 0 (by simp)
    simp only [List.take_zero, List.append_nil, List.getElem_cons_zero] at h0
    rw [hitAll, h0, Bool.false_or]
    refine hitAll_no r _ fun i hi => ?_
    have := hh (i + 1) (by simpa using hi)
    rw [List.append_assoc]
    simpa using this
/-- A placed object differs from what came in its base alone. -/
theorem placedL_is (x : LO) (m : Bool) (lib : Int) : ∃ b, placedL x m lib = { x with base := b } := by
  unfold placedL atL
  by_cases h : m = false
  · rw [if_pos h]; exact ⟨_, rfl⟩
  · rw [if_neg h]
    by_cases h3 : x.typ = 3
    · rw [if_pos h3]; exact ⟨_, rfl⟩
    · rw [if_neg h3]; exact ⟨_, rfl⟩
theorem plEnd_le {w : World} (xs : List LO) : ∀ (i : Nat) (lib : Int) (n : Nat), (∀ x ∈ xs, LOk w x) → (∀ j (h : j < xs.length), rtAt xs[j] (i + j) = true) → n + xs.length ≤ 8 → 139637976727552 ≤ lib → lib ≤ 139637976727552 + (n : Int) * 4294971392 → 139637976727552 ≤ plEnd xs i lib ∧ plEnd xs i lib ≤ 139637976727552 + ((n : Int) + (xs.length : Int)) * 4294971392 := by
  induction xs with
  | nil =>
    intro i lib n _ _ _ h0 h1
    rw [plEnd, List.length_nil]
    exact ⟨h0, by omega⟩
  | cons x r ih =>
    intro i lib n hx hr hn h0 h1
    have hr0 := hr 0 (by simp)
    simp only [List.getElem_cons_zero, Nat.add_zero] at hr0
    unfold rtAt rtO at hr0
    rw [Bool.and_eq_true, Bool.or_eq_true, decide_eq_true_eq, decide_eq_true_eq] at hr0
    rw [List.length_cons] at hn
    have hp := placed_ok (hx x (List.mem_cons_self ..)) hr0.1 (decide (i = 0)) lib (fun hm => by
      rcases hr0.2 with h | h
      · rw [decide_eq_false_iff_not] at hm; exact absurd h hm
      · exact h) h0 (by omega)
    have hp2 := hp.2.2.2.2.2
    rw [plEnd, List.length_cons]
    obtain ⟨lib', hl'⟩ : ∃ l', l' = (if 0 < i then (exOf (placedL x (decide (i = 0)) lib)).2 + 4096 else lib) := ⟨_, rfl⟩
    have hb : 139637976727552 ≤ lib' ∧ lib' ≤ 139637976727552 + ((n + 1 : Nat) : Int) * 4294971392 := by
      by_cases hi : 0 < i
      · rw [if_pos hi] at hl'
        have := hp2 (decide_eq_false (by omega))
        omega
      · rw [if_neg hi] at hl'
        omega
    rw [← hl']
    have := ih (i + 1) lib' (n + 1) (fun y hy => hx y (List.mem_cons_of_mem _ hy)) (fun j hj => by
      have := hr (j + 1) (by simpa using hj)
      simp only [List.getElem_cons_succ] at this
      rw [show i + 1 + j = i + (j + 1) by omega]
      exact this) (by omega) hb.1 hb.2
    refine ⟨this.1, ?_⟩
    have h2 := this.2
    push_cast at h2 ⊢
    omega
end Go.Proofs.Ytkpopdkkobelaaa
