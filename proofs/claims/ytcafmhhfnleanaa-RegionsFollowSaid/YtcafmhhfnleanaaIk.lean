/- Regions: the two ways to lay one over others come to the same. No walk. -/
import Derived.Test.YtcafmhhfnleanaaIi
import Derived.Test.YtcafmhhfnleanaaI5
namespace Go.Proofs.Ytcafmhhfnleanaa
open Go.RowKit Go.Sort

theorem wu_in (a : Int) (h0 : 0 ≤ a) (h1 : a ≤ 18446744073709551615) : IntKind.u64.wrap a = a := IntWalk.u64_in a ⟨h0, h1⟩
theorem not_rg0 {x : RG} (h : x.to ≠ 0) : eqR x rg0 = false := by
  unfold eqR rg0
  have : (x.to == 0) = false := by simpa using h
  simp [this]
theorem eqR_rg0 : eqR rg0 rg0 = true := rfl
/-- What a region may be, in numbers. -/
structure Good (x : RG) : Prop where
  f0 : 0 ≤ x.fr
  lt : x.fr < x.to
  up : x.to ≤ 140737488355328
  o0 : 0 ≤ x.off
  o1 : x.off ≤ 18446744073709551615
theorem good_of {x : RG} (h : mayB x = true) (hk : RGok x) : Good x := ⟨hk.f0, (may_parts h).1, (may_parts h).2.1, hk.o0, hk.o1⟩

theorem piece_id (x : RG) (f t : Int) (hx : Good x) (hf : 0 ≤ f) :
    piece x f t id = if mn t x.to ≤ mx f x.fr then [] else [⟨mx f x.fr, mn t x.to, x.pr, x.ino, if (x.ino != -1) = true then IntKind.u64.wrap (x.off + IntKind.u64.wrap (mx f x.fr - x.fr)) else x.off⟩] := by
  have hm : 0 ≤ mx f x.fr := by
    unfold mx
    split
    · exact hx.f0
    · exact hf
  unfold piece partR
  by_cases h : mn t x.to ≤ mx f x.fr
  · simp only [if_pos h, eqR_rg0, if_true]
  · simp only [if_neg h]
    rw [not_rg0 (by simp only; omega)]
    simp only [id, Bool.false_eq_true, if_false]
    rw [not_rg0 (by simp only; omega)]
    simp
theorem piece_none (x : RG) (f t : Int) : piece x f t noneR = [] := by
  unfold piece noneR
  split
  · rfl
  · simp [eqR_rg0]
theorem off_same (x : RG) (hx : Good x) : (if (x.ino != -1) = true then IntKind.u64.wrap (x.off + IntKind.u64.wrap (x.fr - x.fr)) else x.off) = x.off := by
  have h0 : IntKind.u64.wrap (x.fr - x.fr) = 0 := by rw [Int.sub_self]; exact wu_in 0 (by omega) (by omega)
  rw [h0, Int.add_zero, wu_in _ hx.o0 hx.o1]
  simp
theorem mx_l {a b : Int} (h : b ≤ a) : mx a b = a := by unfold mx; rw [if_neg (by omega)]
theorem mx_r {a b : Int} (h : a ≤ b) : mx a b = b := by unfold mx; split <;> omega
theorem mn_l {a b : Int} (h : a ≤ b) : mn a b = a := by unfold mn; rw [if_neg (by omega)]
theorem mn_r {a b : Int} (h : b ≤ a) : mn a b = b := by unfold mn; split <;> omega

theorem pieces_wo (x : RG) (f t : Int) (hx : Good x) (hf : 0 ≤ f) (hft : f < t) (ht : t ≤ 140737488355328) : pieces x f t noneR = woP x f t := by
  have h1 := hx.f0
  have h2 := hx.lt
  have h3 := hx.up
  have ho := off_same x hx
  unfold pieces woP
  rw [piece_none, piece_id x 0 f hx (by omega), piece_id x t _ hx (by omega), mx_r (a := 0) h1, mn_r (a := 140737488355328) h3]
  rw [List.nil_append]
  by_cases c1 : x.to ≤ f
  · rw [mn_r (a := f) (b := x.to) c1, mx_l (a := t) (b := x.fr) (by omega), if_neg (show ¬ x.to ≤ x.fr by omega), if_pos (show x.to ≤ t by omega), if_pos (show x.to ≤ f ∨ t ≤ x.fr from .inl c1)]
    simp only [ho]
    rfl
  · rw [mn_l (a := f) (b := x.to) (by omega)]
    by_cases c2 : t ≤ x.fr
    · rw [mx_r (a := t) (b := x.fr) c2, if_pos (show f ≤ x.fr by omega), if_neg (show ¬ x.to ≤ x.fr by omega), if_pos (show x.to ≤ f ∨ t ≤ x.fr from .inr c2)]
      simp only [ho]
      rfl
    · rw [mx_l (a := t) (b := x.fr) (by omega), if_neg (show ¬ (x.to ≤ f ∨ t ≤ x.fr) by omega)]
      congr 1
      · by_cases c3 : x.fr < f
        · rw [if_neg (show ¬ f ≤ x.fr by omega), if_pos c3]
          rfl
        · rw [if_pos (show f ≤ x.fr by omega), if_neg c3]
      · by_cases c3 : t < x.to
        · rw [if_neg (show ¬ x.to ≤ t by omega), if_pos c3]
          rfl
        · rw [if_pos (show x.to ≤ t by omega), if_neg c3]
theorem flatMap_same {α β : Type} {f g : α → List β} {l : List α} (h : ∀ x ∈ l, f x = g x) : l.flatMap f = l.flatMap g := by
  induction l with
  | nil => rfl
  | cons x l ih => rw [List.flatMap_cons, List.flatMap_cons, h x (List.mem_cons_self ..), ih (fun y hy => h y (List.mem_cons_of_mem _ hy))]
theorem run_wo (l : List RG) (f t : Int) (hl : ∀ x ∈ l, Good x) (hf : 0 ≤ f) (hft : f < t) (ht : t ≤ 140737488355328) : runR l f t noneR = woR l f t :=
  flatMap_same fun x hx => pieces_wo x f t (hl x hx) hf hft ht
/-- What is left lies ahead or behind. -/
theorem wo_apart (l : List RG) (f t : Int) (hl : ∀ x ∈ l, Good x) (hft : f < t) : ∀ y ∈ woR l f t, y.fr < y.to ∧ (y.to ≤ f ∨ t ≤ y.fr) := by
  intro y hy
  obtain ⟨x, hx, h⟩ := List.mem_flatMap.1 hy
  have hg := (hl x hx).lt
  unfold woP at h
  split at h
  · simp only [List.mem_singleton] at h
    subst h
    exact ⟨hg, by assumption⟩
  · rcases List.mem_append.1 h with h | h
    · split at h
      · simp only [List.mem_singleton] at h
        subst h
        simp only [partW]
        exact ⟨by assumption, .inl (Int.le_refl _)⟩
      · cases h
    · split at h
      · simp only [List.mem_singleton] at h
        subst h
        simp only [partW]
        exact ⟨by assumption, .inr (Int.le_refl _)⟩
      · cases h
theorem ins_srt (r : RG) (hr : r.fr < r.to) : ∀ l : List RG, (∀ y ∈ l, y.fr < y.to ∧ (y.to ≤ r.fr ∨ r.to ≤ y.fr)) → insR r l = srtR r l := by
  intro l
  induction l with
  | nil => intro _; rfl
  | cons x l ih =>
    intro h
    have hx := h x (List.mem_cons_self ..)
    unfold insR srtR
    rw [ih (fun y hy => h y (List.mem_cons_of_mem _ hy))]
    by_cases c : r.to ≤ x.fr
    · rw [if_pos c, if_pos (by omega)]
    · rw [if_neg c, if_neg (by omega)]
theorem good_list {l : List RG} (h : rightB l = true) (hok : ∀ x ∈ l, RGok x) : ∀ x ∈ l, Good x := by
  intro x hx
  obtain ⟨i, hi, rfl⟩ := List.getElem_of_mem hx
  exact good_of (right_may h i hi) (hok _ hx)
/-- The two answers are one. -/
theorem put_same {l : List RG} {r : RG} (h : rightB l = true) (hm : mayB r = true) (hok : ∀ x ∈ l, RGok x) (hr : RGok r) : putR l r = joinR (srtR r (woR l r.fr r.to)) := by
  have hg := good_of hm hr
  have hl := good_list h hok
  unfold putR
  rw [run_wo l r.fr r.to hl hg.f0 hg.lt hg.up, ins_srt r hg.lt _ (wo_apart l r.fr r.to hl hg.lt)]
end Go.Proofs.Ytcafmhhfnleanaa
