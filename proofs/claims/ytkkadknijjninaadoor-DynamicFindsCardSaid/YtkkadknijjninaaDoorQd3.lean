
/- What a table that is right finds. Plain. -/
import Derived.Test.YtkkadknijjninaaDoorQd1
namespace Go.Proofs.YtkkadknijjninaaDoor
open Go.RowKit Go.Sort Go.Shelf Go.WideMaps Go.Maps

theorem look_no {o : OBJ} {x : BL} (h : (lookO o x).2 = false) : (lookO o x).1 = 0 := by
  unfold lookO at *
  split at h
  · rfl
  · cases h
theorem look_yes {o : OBJ} {x : BL} (hok : OBok o) (h : (lookO o x).2 = true) : ∃ i, ∃ hi : i < o.sy.length, (lookO o x).1 = (i : Int) ∧ o.sy[i].name = x := by
  unfold lookO at *
  split at h
  · cases h
  · rename_i y hy
    have hm := linksL_mem (s := x) (fun z hz => (hok.cu z hz).1) (fun z hz => (hok.bu z hz).1) y (List.mem_of_find?_eq_some hy)
    have hf := List.find?_some hy
    unfold lookF at hf
    have hcs := hok.cs
    obtain ⟨i, hi⟩ : ∃ i : Nat, y - 1 = (i : Int) := ⟨(y - 1).toNat, by omega⟩
    have hl : i < o.sy.length := by omega
    rw [hi, Int.toNat_natCast, sy_at hl] at hf
    exact ⟨i, hl, hi, of_decide_eq_true hf⟩
theorem right_look {o : OBJ} {x : BL} {i : Nat} (hr : rightR (.inr o) = true) (hx : ¬ x = []) (hi : i < o.sy.length) (hn : o.sy[i].name = x) : (lookO o x).2 = true := by
  have h0 : (List.range o.sy.length).all (rightQ o) = true := hr
  rw [List.all_eq_true] at h0
  have h1 := h0 i (List.mem_range.2 hi)
  unfold rightQ at h1
  rw [sy_at hi, hn, decide_eq_false hx, Bool.false_or] at h1
  unfold leadsB at h1
  rw [Bool.and_eq_true] at h1
  have hm : ((i : Int) + 1) ∈ (linksL o.bs o.cs x).1 := List.contains_iff_mem.1 h1.1
  unfold lookO
  cases hf : (linksL o.bs o.cs x).1.find? (lookF o x) with
  | some y => rfl
  | none =>
    rw [List.find?_eq_none] at hf
    have := hf _ hm
    unfold lookF at this
    rw [show ((i : Int) + 1 - 1).toNat = i by omega, sy_at hi, hn] at this
    simp at this
/-- Does a symbol among the first k have the name? -/
def thereB (o : OBJ) (x : BL) (k : Nat) : Bool := (o.sy.take k).any fun s => decide (s.name = x)
theorem there_succ {o : OBJ} {x : BL} {k : Nat} (h : k < o.sy.length) : thereB o x (k + 1) = (thereB o x k || decide (o.sy[k].name = x)) := by
  unfold thereB
  rw [List.take_succ_eq_append_getElem h, List.any_append]
  simp
theorem finds_eq {o : OBJ} {x : BL} (hok : OBok o) (hr : rightR (.inr o) = true) (hx : ¬ x = []) : (lookO o x).2 = thereB o x o.sy.length := by
  unfold thereB
  rw [List.take_length, Bool.eq_iff_iff, List.any_eq_true]
  constructor
  · intro h
    obtain ⟨i, hi, _, hn⟩ := look_yes hok h
    exact ⟨o.sy[i], List.getElem_mem hi, decide_eq_true hn⟩
  · rintro ⟨s, hs, hn⟩
    obtain ⟨i, hi, rfl⟩ := List.mem_iff_getElem.1 hs
    exact right_look hr hx hi (of_decide_eq_true hn)
end Go.Proofs.YtkkadknijjninaaDoor
