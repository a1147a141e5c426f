
/- TableWords, plain: how many words are not zero. -/
import Derived.Test.YtncikcllhjhjmaaGreatDoorGu4
namespace Go.Proofs.YtncikcllhjhjmaaGreatDoor
open Go.RowKit Go.Sort

/-- The nodes, each with what stands in its words. -/
def nkT : Nat → Tr → List (Nat × (Nat → Tr))
  | k + 1, .nd f kids => (f, kids) :: (List.range 512).flatMap fun i => nkT k (kids i)
  | _, _ => []
def nzN (kids : Nat → Tr) : Nat := (List.range 512).countP fun i => decide (wdT (kids i) ≠ 0)
theorem sum_add (a b : Nat → Nat) : ∀ l : List Nat, (l.map fun i => a i + b i).sum = (l.map a).sum + (l.map b).sum
  | [] => rfl
  | i :: l => by
    simp only [List.map_cons, List.sum_cons, sum_add a b l]
    omega
theorem count_sum (q : Nat → Bool) : ∀ l : List Nat, l.countP q = (l.map fun i => if q i = true then 1 else 0).sum
  | [] => rfl
  | i :: l => by
    rw [List.countP_cons, count_sum q l, List.map_cons, List.sum_cons]
    omega
theorem len_flat {α : Type} (g : Nat → List α) : ∀ l : List Nat, (l.flatMap g).length = (l.map fun i => (g i).length).sum
  | [] => rfl
  | i :: l => by rw [List.flatMap_cons, List.length_append, len_flat g l, List.map_cons, List.sum_cons]
theorem sum_flat {α : Type} (u : α → Nat) (g : Nat → List α) : ∀ l : List Nat, ((l.flatMap g).map u).sum = (l.map fun i => ((g i).map u).sum).sum
  | [] => rfl
  | i :: l => by rw [List.flatMap_cons, List.map_append, List.sum_append, sum_flat u g l, List.map_cons, List.sum_cons]
theorem map_flat {α β : Type} (u : α → β) (g : Nat → List α) : ∀ l : List Nat, (l.flatMap g).map u = l.flatMap fun i => (g i).map u
  | [] => rfl
  | i :: l => by rw [List.flatMap_cons, List.map_append, map_flat u g l, List.flatMap_cons]
theorem nk_fst : ∀ (k : Nat) (t : Tr), (nkT k t).map (·.1) = nodesT k t
  | 0, .no => rfl
  | 0, .lf _ _ _ => rfl
  | 0, .nd _ _ => rfl
  | _ + 1, .no => rfl
  | _ + 1, .lf _ _ _ => rfl
  | k + 1, .nd f kids => by
    show f :: ((List.range 512).flatMap fun i => nkT k (kids i)).map (·.1) = f :: (List.range 512).flatMap fun i => nodesT k (kids i)
    rw [map_flat]
    congr 2
    funext i
    exact nk_fst k _
theorem wdT_zero (t : Tr) : wdT t ≠ 0 ↔ isNo t = false := by
  cases t with
  | no => simp [wdT, isNo]
  | lf a q b => exact ⟨fun _ => rfl, fun _ => by show a * 4096 + 1 + 2 * q + (if b then 16 else 0) ≠ 0; omega⟩
  | nd g kk => exact ⟨fun _ => rfl, fun _ => by show g * 4096 + 1 ≠ 0; omega⟩
theorem nk_sum : ∀ (k : Nat) (t : Tr), Shp k t → ((nkT k t).map fun x => nzN x.2).sum + (if isNo t = true then 0 else 1) = (nodesT k t).length + (lfT k t).length
  | 0, .no, _ => rfl
  | 0, .lf _ _ _, _ => rfl
  | 0, .nd _ _, h => h.elim
  | _ + 1, .no, _ => rfl
  | _ + 1, .lf _ _ _, h => h.elim
  | k + 1, .nd f kids, H => by
    have e1 : ((nkT (k + 1) (.nd f kids)).map fun x => nzN x.2).sum = nzN kids + ((List.range 512).map fun i => ((nkT k (kids i)).map fun x => nzN x.2).sum).sum := by
      show (nzN kids :: ((List.range 512).flatMap fun i => nkT k (kids i)).map fun x => nzN x.2).sum = _
      rw [List.sum_cons, sum_flat]
    have e2 : (nodesT (k + 1) (.nd f kids)).length = 1 + ((List.range 512).map fun i => (nodesT k (kids i)).length).sum := by
      show (f :: (List.range 512).flatMap fun i => nodesT k (kids i)).length = _
      rw [List.length_cons, len_flat]
      omega
    have e3 : (lfT (k + 1) (.nd f kids)).length = ((List.range 512).map fun i => (lfT k (kids i)).length).sum := by
      show ((List.range 512).flatMap fun i => lfT k (kids i)).length = _
      rw [len_flat]
    have e4 : nzN kids = ((List.range 512).map fun i => if isNo (kids i) = true then 0 else 1).sum := by
      unfold nzN
      rw [count_sum]
      refine congrArg List.sum (List.map_congr_left fun i _ => ?_)
      cases hn : isNo (kids i) with
      | true => simp [show wdT (kids i) = 0 from Classical.byContradiction fun h => by rw [(wdT_zero _).1 h] at hn; cases hn]
      | false => simp [(wdT_zero _).2 hn]
    have e5 : ((List.range 512).map fun i => ((nkT k (kids i)).map fun x => nzN x.2).sum + (if isNo (kids i) = true then 0 else 1)).sum = ((List.range 512).map fun i => (nodesT k (kids i)).length + (lfT k (kids i)).length).sum := by
      exact congrArg List.sum (List.map_congr_left fun i hi => nk_sum k (kids i) (H i (List.mem_range.1 hi)))
    rw [sum_add, sum_add] at e5
    rw [e1, e2, e3, e4]
    rw [if_neg (show ¬ isNo (.nd f kids) = true by simp [isNo])]
    omega
/-- The words of the nodes that are told are the words in memory. -/
theorem nk_words {fs : List FR} : ∀ (k : Nat) (t : Tr), Holds fs k t → ∀ x ∈ nkT k t, ∀ i, i < 512 → WdAt fs x.1 i (wdT (x.2 i))
  | 0, .no, _, x, hx, _, _ => by cases hx
  | 0, .lf _ _ _, _, x, hx, _, _ => by cases hx
  | 0, .nd _ _, _, x, hx, _, _ => by cases hx
  | _ + 1, .no, _, x, hx, _, _ => by cases hx
  | _ + 1, .lf _ _ _, _, x, hx, _, _ => by cases hx
  | k + 1, .nd f kids, H, x, hx, i, hi => by
    rcases List.mem_cons.1 hx with rfl | h
    · exact (H i hi).1
    · obtain ⟨j, hj, hy⟩ := List.mem_flatMap.1 h
      exact nk_words k (kids j) (H j (List.mem_range.1 hj)).2 x hy i hi
end Go.Proofs.YtncikcllhjhjmaaGreatDoor
