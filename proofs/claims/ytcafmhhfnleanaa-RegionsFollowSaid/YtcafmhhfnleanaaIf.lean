/- RegionsLowest: what Gap's answer is, in plain words. -/
import Derived.Test.YtcafmhhfnleanaaIc
namespace Go.Proofs.Ytcafmhhfnleanaa
open Go.RowKit Go.Sort

def meetB (size t : Int) (x : RG) : Bool := decide (x.fr < t + size) && decide (t < x.to)
theorem gapStep_ge (size a : Int) (x : RG) : a ≤ gapStep size a x := by unfold gapStep; split <;> omega
theorem gapAt_ge (l : List RG) (size low : Int) : low ≤ gapAt l size low := by
  induction l generalizing low with
  | nil => exact Int.le_refl _
  | cons x l ih =>
    have h1 := gapStep_ge size low x
    have h2 := ih (gapStep size low x)
    exact Int.le_trans h1 h2
theorem gapAt_or (l : List RG) (size low : Int) : gapAt l size low = low ∨ ∃ y ∈ l, gapAt l size low = y.to := by
  induction l generalizing low with
  | nil => exact .inl rfl
  | cons x l ih =>
    have e : gapAt (x :: l) size low = gapAt l size (gapStep size low x) := rfl
    rw [e]
    rcases ih (gapStep size low x) with h | ⟨y, hy, h⟩
    · rw [h]
      unfold gapStep
      split
      · exact .inr ⟨x, List.mem_cons_self .., rfl⟩
      · exact .inl rfl
    · exact .inr ⟨y, List.mem_cons_of_mem _ hy, h⟩
theorem gapAt_free (l : List RG) (size low : Int) (hs : 0 < size) (hp : l.Pairwise fun x y => x.to ≤ y.fr) (hf : ∀ x ∈ l, x.fr < x.to) : ∀ x ∈ l, gapAt l size low + size ≤ x.fr ∨ x.to ≤ gapAt l size low := by
  induction l generalizing low with
  | nil => intro x hx; cases hx
  | cons z l ih =>
    have e : gapAt (z :: l) size low = gapAt l size (gapStep size low z) := rfl
    rw [e]
    have hp' := List.pairwise_cons.1 hp
    intro x hx
    rcases List.mem_cons.1 hx with rfl | hx
    · have hg := gapAt_ge l size (gapStep size low x)
      by_cases h1 : low < x.to ∧ (x.fr < low ∨ x.fr - low < size)
      · rw [show gapStep size low x = x.to by unfold gapStep; rw [if_pos h1]] at *
        exact .inr hg
      · rw [show gapStep size low x = low by unfold gapStep; rw [if_neg h1]] at *
        rcases gapAt_or l size low with h | ⟨y, hy, h⟩
        · rw [h]
          by_cases h2 : low < x.to
          · left; omega
          · right; omega
        · have h3 := hp'.1 y hy
          have h4 := hf y (List.mem_cons_of_mem _ hy)
          right
          omega
    · exact ih (gapStep size low z) hp'.2 (fun y hy => hf y (List.mem_cons_of_mem _ hy)) x hx
theorem gapAt_meets (l : List RG) (size low t : Int) (h1 : low ≤ t) (h2 : t < gapAt l size low) (hs : 0 < size) : ∃ x ∈ l, meetB size t x = true := by
  induction l generalizing low with
  | nil => exact absurd h2 (by show ¬ t < low; omega)
  | cons x l ih =>
    have e : gapAt (x :: l) size low = gapAt l size (gapStep size low x) := rfl
    rw [e] at h2
    by_cases h3 : gapStep size low x ≤ t
    · obtain ⟨y, hy, h4⟩ := ih _ h3 h2
      exact ⟨y, List.mem_cons_of_mem _ hy, h4⟩
    · refine ⟨x, List.mem_cons_self .., ?_⟩
      unfold gapStep at h3
      split at h3
      · unfold meetB; simp; omega
      · omega
theorem gapAt_page (l : List RG) (size low : Int) (hl : low % 4096 = 0) (hf : ∀ x ∈ l, x.to % 4096 = 0) : gapAt l size low % 4096 = 0 := by
  rcases gapAt_or l size low with h | ⟨y, hy, h⟩
  · rw [h]; exact hl
  · rw [h]; exact hf y hy
theorem right_pair {l : List RG} (h : rightB l = true) : l.Pairwise fun x y => x.to ≤ y.fr := by
  rw [List.pairwise_iff_getElem]
  intro i j hi hj hij
  exact right_sorted h i j hij hj

/-- What is known of an answer that is no error. -/
structure Low (l : List RG) (size low a : Int) : Prop where
  ge : low ≤ a
  page : a % 4096 = 0
  s0 : 0 < size
  s1 : size ≤ 140737488355328
  fit : a ≤ 140737488355328 - size
  free : ∀ x ∈ l, a + size ≤ x.fr ∨ x.to ≤ a
  meets : ∀ t, low ≤ t → t < a → ∃ x ∈ l, meetB size t x = true
theorem low_of {l : List RG} {size low : Int} (h : gapE l size low = 0) (s0 : 0 ≤ size) (l0 : 0 ≤ low) : Low l size low (gapV l size low) := by
  have hv : gapV l size low = gapAt l size low := by unfold gapV; rw [if_pos h]
  rw [hv]
  unfold gapE at h
  cases hb : gapBad l size low
  · rw [hb] at h
    cases hf : gapFull (gapAt l size low) size
    · unfold gapBad pg at hb
      simp only [Bool.or_eq_false_iff, Bool.not_eq_false', beq_iff_eq, beq_eq_false_iff_ne] at hb
      obtain ⟨q1, q2, q3, q4⟩ := hb
      unfold gapFull at hf
      simp only [Bool.or_eq_false_iff, decide_eq_false_iff_not] at hf
      have hs : 0 < size := by omega
      have hg := gapAt_ge l size low
      refine ⟨hg, gapAt_page l size low q4 (fun x hx => ?_), hs, by omega, by omega, gapAt_free l size low hs (right_pair q1) (fun x hx => ?_), fun t h1 h2 => gapAt_meets l size low t h1 h2 hs⟩
      · obtain ⟨i, hi, rfl⟩ := List.getElem_of_mem hx
        exact (may_parts (right_may q1 i hi)).2.2.2.2
      · obtain ⟨i, hi, rfl⟩ := List.getElem_of_mem hx
        exact (may_parts (right_may q1 i hi)).1
    · rw [hf] at h; cases h
  · rw [hb] at h; cases h
theorem low_not {l : List RG} {size low : Int} (h : ¬ gapE l size low = 0) : gapV l size low = 0 := by unfold gapV; rw [if_neg h]
end Go.Proofs.Ytcafmhhfnleanaa
