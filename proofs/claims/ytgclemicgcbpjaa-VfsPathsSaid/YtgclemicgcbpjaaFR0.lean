/- vfs, plain: who is not refused is led where root is led. -/
import Derived.Test.YtgclemicgcbpjaaF5
namespace Go.Proofs.Ytgclemicgcbpjaa
open Go.RowKit Go.Sort

def rootC : CR := ⟨0, 0, 0, 0, none, 0, 0, []⟩
theorem root_may {x : ND} (h : x.kind = 2) : mayX rootC x = true := by
  unfold mayX mayB mayE
  rw [h, if_neg (by decide), if_pos (show rootC.e = 0 from rfl)]
  simp
theorem root_stepN {c : CR} {x : ND} {p : BL} (h : ¬ (stepN c x p).1 = 5) : stepN rootC x p = stepN c x p := by
  by_cases h2 : x.kind = 2
  · have hr := root_may h2
    by_cases hm : mayX c x = false
    · rw [stepN_2 h2 hm] at h; exact absurd rfl h
    · have hm := eq_true_of_ne_false hm
      by_cases h3 : p = dotdot
      · rw [stepN_3 h2 hm h3, stepN_3 h2 hr h3]
      · cases h4 : lookI x.names p with
        | none => rw [stepN_4 h2 hm h3 h4, stepN_4 h2 hr h3 h4]
        | some j => rw [stepN_5 h2 hm h3 h4, stepN_5 h2 hr h3 h4]
  · rw [stepN_1 h2, stepN_1 h2]
theorem root_stepN5 {x : ND} {p : BL} : ¬ (stepN rootC x p).1 = 5 := by
  by_cases h2 : x.kind = 2
  · have hr := root_may h2
    by_cases h3 : p = dotdot
    · rw [stepN_3 h2 hr h3]; simp
    · cases h4 : lookI x.names p with
      | none => rw [stepN_4 h2 hr h3 h4]; simp
      | some j => rw [stepN_5 h2 hr h3 h4]; simp
  · rw [stepN_1 h2]; simp
theorem root_step {L : List ND} {c : CR} {i : Nat} {p : BL} (h : ¬ (stepL L c i p).1 = 5) : stepL L rootC i p = stepL L c i p := root_stepN h
theorem root_step5 {L : List ND} {i : Nat} {p : BL} : ¬ (stepL L rootC i p).1 = 5 := root_stepN5
theorem root_follow {L : List ND} {c : CR} {last : Bool} : ∀ {links at_ : Nat} {left : List BL}, ¬ (followL L c last links at_ left).1 = 5 → followL L rootC last links at_ left = followL L c last links at_ left := by
  intro links at_ left
  fun_induction followL L c last links at_ left with
  | case1 links at_ => intro _; rw [followL_nil]
  | case2 links at_ p rest h1 h2 ih =>
    intro h
    have e := root_step (L := L) (c := c) (i := at_) (p := p) (by rw [h1]; decide)
    rw [followL, e, if_pos h1, if_pos h2]
    exact ih h
  | case3 links at_ p rest h1 h2 h3 =>
    intro h
    have e := root_step (L := L) (c := c) (i := at_) (p := p) (by rw [h1]; decide)
    rw [followL, e, if_pos h1, if_neg h2, dif_pos h3]
  | case4 links at_ p rest h1 h2 h3 ih =>
    intro h
    have e := root_step (L := L) (c := c) (i := at_) (p := p) (by rw [h1]; decide)
    rw [followL, e, if_pos h1, if_neg h2, dif_neg h3]
    exact ih h
  | case5 links at_ p rest h1 =>
    intro h
    have e := root_step (L := L) (c := c) (i := at_) (p := p) h
    rw [followL, e, if_neg h1]
theorem root_follow5 {L : List ND} {last : Bool} : ∀ {links at_ : Nat} {left : List BL}, ¬ (followL L rootC last links at_ left).1 = 5 := by
  intro links at_ left
  fun_induction followL L rootC last links at_ left with
  | case1 links at_ => simp
  | case2 links at_ p rest h1 h2 ih => exact ih
  | case3 links at_ p rest h1 h2 h3 => simp
  | case4 links at_ p rest h1 h2 h3 ih => exact ih
  | case5 links at_ p rest h1 => exact root_step5
theorem chk5 (p : BL) : ¬ chkE p = 5 := by
  unfold chkE
  split
  · decide
  · split
    · decide
    · split
      · decide
      · split <;> decide
theorem root_walk5 {L : List ND} {from_ : Int} {p : BL} {last : Bool} : ¬ (walkL L rootC from_ p last).2 = 5 := by
  have hf := @root_follow5 L (last || tailB p) 0 (if rootF p = true then 0 else from_.toNat) (partsF p)
  have hc := chk5 p
  unfold walkL
  generalize followL L rootC (last || tailB p) 0 (if rootF p = true then 0 else from_.toNat) (partsF p) = r at *
  by_cases h1 : 0 ≤ from_ ∧ from_ < (L.length : Int) ∧ (L.getD from_.toNat default).kind = 2
  · rw [if_pos h1]
    by_cases h2 : chkE p = 0
    · rw [if_pos h2]
      by_cases h3 : r.1 = 0
      · rw [if_pos h3]
        by_cases h4 : tailB p = true ∧ (L.getD r.2 default).kind ≠ 2
        · rw [if_pos h4]; simp
        · rw [if_neg h4]; simp
      · rw [if_neg h3]; exact hf
    · rw [if_neg h2]; exact hc
  · rw [if_neg h1]; simp
theorem root_walk {L : List ND} {c : CR} {from_ : Int} {p : BL} {last : Bool} : walkL L c from_ p last = (0, 5) ∨ walkL L c from_ p last = walkL L rootC from_ p last := by
  by_cases h5 : (followL L c (last || tailB p) 0 (if rootF p = true then 0 else from_.toNat) (partsF p)).1 = 5
  · by_cases h1 : 0 ≤ from_ ∧ from_ < (L.length : Int) ∧ (L.getD from_.toNat default).kind = 2
    · by_cases h2 : chkE p = 0
      · left
        unfold walkL
        rw [if_pos h1, if_pos h2, h5, if_neg (by decide)]
      · right
        rw [walkL_chk h1 h2, walkL_chk h1 h2]
    · right
      rw [walkL_from h1, walkL_from h1]
  · right
    unfold walkL
    rw [root_follow h5]
end Go.Proofs.Ytgclemicgcbpjaa
