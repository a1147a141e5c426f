
/- A list of the call's own, sorted. No program is named. -/
import Derived.Test.YtfaohejdaabalaaGreatDoorKA
import Derived.Shelf.SlSortCmp.WholeK
namespace Go.Proofs.YtfaohejdaabalaaGreatDoor
open Go.RowKit Go.Sort Go.Shelf

theorem flat_len2 {α : Type} (enc : α → List Value) (k : Nat) (hk : ∀ x, (enc x).length = k) (l : List α) : (l.map enc).flatten.length = l.length * k := by
  induction l with
  | nil => simp
  | cons x l ih => rw [List.map_cons, List.flatten_cons, List.length_append, hk, ih, List.length_cons, Nat.succ_mul, Nat.add_comm]
section
variable {α : Type} [Inhabited α]
theorem flatK_at (enc : α → List Value) (k : Nat) (hk : ∀ x, (enc x).length = k) : ∀ (l : List α) (t : Nat) (ht : t < l.length * k), (l.map enc).flatten[t]? = some ((enc l[t / k]!)[t % k]!)
  | [], t, ht => by simp at ht
  | x :: l, t, ht => by
    have k0 : 0 < k := by
      rcases Nat.eq_zero_or_pos k with h | h
      · subst h; simp at ht
      · exact h
    rw [List.map_cons, List.flatten_cons]
    by_cases c : t < k
    · rw [List.getElem?_append_left (by rw [hk]; exact c), Nat.div_eq_of_lt c, Nat.mod_eq_of_lt c]
      have h1 : t < (enc x).length := by rw [hk]; exact c
      rw [List.getElem?_eq_getElem h1]
      simp [h1]
    · obtain ⟨u, rfl⟩ : ∃ u, t = k + u := ⟨t - k, by omega⟩
      have hu : u < l.length * k := by
        rw [List.length_cons, Nat.succ_mul] at ht
        omega
      rw [List.getElem?_append_right (by rw [hk]; omega), hk, Nat.add_sub_cancel_left, flatK_at enc k hk l u hu, Nat.add_div_left _ k0, Nat.add_mod_left]
      simp
/-- The row that is sorted holds its cells. -/
theorem own_holds {w : World} {base E k : Nat} {enc : α → List Value} (hk : ∀ x, (enc x).length = k) {l : List α} {v : Value} (h : w.ownsRow base E k v l.length (l.map enc).flatten) {g cap : Nat} (e : v = .slice (some ⟨g, 0, none⟩) l.length cap) : HoldsK enc k w g 0 l.toArray ∧ g < w.heap.size := by
  rcases h.2 with ⟨h1, _⟩ | ⟨g', cap', cur, h1, hb, hg, hnc, hcm, hcs, htake⟩
  · rw [h1] at e; cases e
  · rw [h1] at e
    cases e
    refine ⟨fun j hj => ?_, (Array.getElem?_eq_some_iff.1 hg).1⟩
    rw [size_flatK, List.size_toArray] at hj
    rw [Nat.zero_add]
    have h2 := flatK_at enc k hk l j hj
    rw [← htake, List.getElem?_take, if_pos hj] at h2
    rw [get_flatK _ _ _ _ (by rw [List.size_toArray]; exact hj)]
    refine ⟨?_, frozen_of_row w g j cur E hg⟩
    rw [World.cell?]
    simp only [hg]
    simp only [Array.getElem?_toList] at h2
    simpa using h2
/-- .. and behind the sort it is the row of what was sorted. -/
theorem own_sorted {w w' : World} {base E k : Nat} {enc : α → List Value} (hk : ∀ x, (enc x).length = k) {l l' : List α} {v : Value} (h : w.ownsRow base E k v l.length (l.map enc).flatten) {g cap : Nat} (e : v = .slice (some ⟨g, 0, none⟩) l.length cap) (hl : l'.length = l.length) {n : Nat} {os : Array Obj}
    (hw : w' = sortWorldK enc k w g 0 n l'.toArray os) : w'.ownsRow base E k v l'.length (l'.map enc).flatten ∧ w.grownBy w' (some g) := by
  rcases h.2 with ⟨h1, _⟩ | ⟨g', cap', cur, h1, hb, hg, hnc, hcm, hcs, htake⟩
  · rw [h1] at e; cases e
  · rw [h1] at e
    cases e
    have hgl := (Array.getElem?_eq_some_iff.1 hg).1
    have hheap : ∀ j, j < w.heap.size → w'.heap[j]? = if g = j then (w.heap[j]?).map (onCells (putCells id 0 (flatK enc k l'.toArray))) else w.heap[j]? := by
      intro j hj
      rw [hw]
      unfold sortWorldK
      rw [heap_grow_old _ _ (by rw [size_putRowK]; exact hj)]
      unfold putRowK putRow mapBlock
      simp only [Array.getElem?_modify]
      rfl
    refine ⟨⟨flat_len2 enc k hk l', .inr ⟨g, cap, putCells id 0 (flatK enc k l'.toArray) cur, by rw [h1, hl], hb, ?_, by omega, hcm, by unfold putCells; rw [Array.size_mapIdx]; exact hcs, ?_⟩⟩, ⟨by rw [hw]; rfl, by rw [hw]; rfl, by rw [hw]; rfl, ?_, fun j hj hne => ?_⟩⟩
    · rw [hheap g hgl, if_pos rfl, hg]
      rfl
    · have hcz : l'.length * k ≤ cur.size := by rw [hcs, hl]; exact Nat.mul_le_mul_right k hnc
      refine List.ext_getElem? fun t => ?_
      rw [List.getElem?_take]
      by_cases ht : t < l'.length * k
      · rw [if_pos ht, flatK_at enc k hk l' t ht, Array.getElem?_toList]
        unfold putCells
        rw [Array.getElem?_mapIdx, Array.getElem?_eq_getElem (by omega), Option.map_some, if_pos ⟨Nat.zero_le _, by rw [size_flatK, List.size_toArray]; omega⟩, Nat.sub_zero, get_flatK _ _ _ _ (by rw [List.size_toArray]; exact ht)]
        simp
      · rw [if_neg ht, List.getElem?_eq_none (by rw [flat_len2 enc k hk]; omega)]
    · rw [hw]
      unfold sortWorldK grow
      simp only [Array.size_append, size_putRowK]
      show w.heap.size ≤ w.heap.size + _
      omega
    · rw [hheap j hj, if_neg (fun e => hne (by rw [e]))]
end
end Go.Proofs.YtfaohejdaabalaaGreatDoor
