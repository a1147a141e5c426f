
/- vfs: Walk. -/
import Derived.Test.YtfaohejdaabalaaGreatDoorKF
namespace Go.Proofs.YtfaohejdaabalaaGreatDoor
open Go.RowKit Go.Sort

theorem follow_in {L : List ND} (hf : Fine L) {c : CR} {last : Bool} : ∀ {links at_ : Nat} {left : List BL} {nx : Nat}, followL L c last links at_ left = (0, nx) → at_ < L.length → nx < L.length := by
  intro links at_ left
  fun_induction followL L c last links at_ left with
  | case1 links at_ => intro nx h hi; cases h; exact hi
  | case2 links at_ p rest h1 h2 ih =>
    intro nx h hi
    refine ih h (step_in hf hi (c := c) (p := p) ?_)
    rw [← h1]
  | case3 => intro nx h hi; cases h
  | case4 links at_ p rest h1 h2 h3 ih =>
    intro nx h hi
    refine ih h ?_
    split
    · exact hf.pos
    · exact hi
  | case5 links at_ p rest h1 => intro nx h hi; exact absurd (congrArg Prod.fst h) h1

def walkL (L : List ND) (c : CR) (from_ : Int) (p : BL) (last : Bool) : Int × Int :=
  if 0 ≤ from_ ∧ from_ < (L.length : Int) ∧ (L.getD from_.toNat default).kind = 2 then
    if chkE p = 0 then
      if (followL L c (last || tailB p) 0 (if rootF p = true then 0 else from_.toNat) (partsF p)).1 = 0 then
        if tailB p = true ∧ (L.getD (followL L c (last || tailB p) 0 (if rootF p = true then 0 else from_.toNat) (partsF p)).2 default).kind ≠ 2 then (0, 8)
        else (((followL L c (last || tailB p) 0 (if rootF p = true then 0 else from_.toNat) (partsF p)).2 : Nat), 0)
      else (0, (followL L c (last || tailB p) 0 (if rootF p = true then 0 else from_.toNat) (partsF p)).1)
    else (0, chkE p)
  else (0, 1)
def walkV (r : Int × Int) : Value := .tuple #[.int .i64 r.1, .int .i64 r.2]
section
variable {L : List ND} {c : CR} {from_ : Int} {p : BL} {last : Bool} {st nx : Nat} {er : Int}
theorem walkL_from (h : ¬ (0 ≤ from_ ∧ from_ < (L.length : Int) ∧ (L.getD from_.toNat default).kind = 2)) : walkL L c from_ p last = (0, 1) := by unfold walkL; rw [if_neg h]
theorem walkL_chk (h : 0 ≤ from_ ∧ from_ < (L.length : Int) ∧ (L.getD from_.toNat default).kind = 2) (h2 : ¬ chkE p = 0) : walkL L c from_ p last = (0, chkE p) := by unfold walkL; rw [if_pos h, if_neg h2]
theorem walkL_bad (h : 0 ≤ from_ ∧ from_ < (L.length : Int) ∧ (L.getD from_.toNat default).kind = 2) (h2 : chkE p = 0) (h3 : (if rootF p = true then 0 else from_.toNat) = st) (h4 : followL L c (last || tailB p) 0 st (partsF p) = (er, nx)) (h5 : ¬ er = 0) : walkL L c from_ p last = (0, er) := by
  unfold walkL; rw [if_pos h, if_pos h2, h3, h4, if_neg h5]
theorem walkL_ok (h : 0 ≤ from_ ∧ from_ < (L.length : Int) ∧ (L.getD from_.toNat default).kind = 2) (h2 : chkE p = 0) (h3 : (if rootF p = true then 0 else from_.toNat) = st) (h4 : followL L c (last || tailB p) 0 st (partsF p) = (0, nx)) (h5 : tailB p = false ∨ (L.getD nx default).kind = 2) : walkL L c from_ p last = (((nx : Nat) : Int), 0) := by
  unfold walkL; rw [if_pos h, if_pos h2, h3, h4, if_pos rfl, if_neg]
  rintro ⟨h6, h7⟩
  rcases h5 with h5 | h5
  · rw [h5] at h6; cases h6
  · exact h7 h5
theorem walkL_notdir (h : 0 ≤ from_ ∧ from_ < (L.length : Int) ∧ (L.getD from_.toNat default).kind = 2) (h2 : chkE p = 0) (h3 : (if rootF p = true then 0 else from_.toNat) = st) (h4 : followL L c (last || tailB p) 0 st (partsF p) = (0, nx)) (h5 : tailB p = true) (h6 : ¬ (L.getD nx default).kind = 2) : walkL L c from_ p last = (0, 8) := by
  unfold walkL; rw [if_pos h, if_pos h2, h3, h4, if_pos rfl, if_pos ⟨h5, h6⟩]
end

end Go.Proofs.YtfaohejdaabalaaGreatDoor
