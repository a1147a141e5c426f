/- RegionsFollow: what each address has. No walk. -/
import Derived.Test.YtcafmhhfnleanaaIs
namespace Go.Proofs.Ytcafmhhfnleanaa
open Go.RowKit Go.Sort

/-- What an address of a region has. -/
def valR (x : RG) (a : Int) : RG := ⟨0, 0, x.pr, x.ino, if (x.ino != -1) = true then IntKind.u64.wrap (x.off + IntKind.u64.wrap (a - x.fr)) else x.off⟩
def atR (l : List RG) (a : Int) : Option RG := (findR l a).map fun x => valR x a
/-- Regions one behind the other. -/
def Apart (l : List RG) : Prop := l.Pairwise (fun x y => x.to ≤ y.fr) ∧ ∀ x ∈ l, x.fr < x.to
theorem find_mem {l : List RG} {a : Int} {x : RG} (h : findR l a = some x) : x ∈ l ∧ hits a x = true := ⟨List.mem_of_find?_eq_some h, List.find?_some h⟩
theorem find_apart {l : List RG} (hl : Apart l) {a : Int} {x : RG} (hx : x ∈ l) (h : hits a x = true) : findR l a = some x := by
  induction l with
  | nil => cases hx
  | cons y l ih =>
    have hp := List.pairwise_cons.1 hl.1
    unfold findR
    rw [List.find?_cons]
    rcases List.mem_cons.1 hx with rfl | hx'
    · rw [h]
    · have h1 := hp.1 x hx'
      have hy : hits a y = false := by
        unfold hits at h ⊢
        simp only [Bool.and_eq_true, decide_eq_true_eq] at h
        simp only [Bool.and_eq_false_iff, decide_eq_false_iff_not]
        right; omega
      rw [hy]
      exact ih ⟨hp.2, fun z hz => hl.2 z (List.mem_cons_of_mem _ hz)⟩ hx'
theorem find_no {l : List RG} {a : Int} (h : ∀ x ∈ l, hits a x = false) : findR l a = none := by
  unfold findR
  rw [List.find?_eq_none]
  intro x hx
  rw [h x hx]
  simp
theorem hits_iff (a : Int) (x : RG) : hits a x = true ↔ x.fr ≤ a ∧ a < x.to := by unfold hits; simp
theorem val_part (x : RG) (f t a : Int) : valR (partW x f t) a = valR x a := by
  unfold valR partW
  by_cases h : (x.ino != -1) = true
  · simp only [h, if_true]
    congr 1
    simp only [wu_def]
    omega
  · simp only [h]
    rfl
/-- Lists that have the same, address by address. -/
theorem at_same {l m : List RG} (hl : Apart l) (hm : Apart m) (a : Int) (h1 : ∀ x ∈ l, hits a x = true → ∃ y ∈ m, hits a y = true ∧ valR y a = valR x a) (h2 : ∀ y ∈ m, hits a y = true → ∃ x ∈ l, hits a x = true) : atR m a = atR l a := by
  unfold atR
  cases hf : findR l a with
  | some x =>
    obtain ⟨hx, hh⟩ := find_mem hf
    obtain ⟨y, hy, hy2, hv⟩ := h1 x hx hh
    rw [find_apart hm hy hy2]
    simp [hv]
  | none =>
    cases hg : findR m a with
    | none => rfl
    | some y =>
      obtain ⟨hy, hh⟩ := find_mem hg
      obtain ⟨x, hx, hx2⟩ := h2 y hy hh
      rw [find_apart hl hx hx2] at hf
      cases hf
theorem wo_parts {x p : RG} {f t : Int} (hp : p ∈ woP x f t) : (p = x ∧ (x.to ≤ f ∨ t ≤ x.fr)) ∨ (p = partW x x.fr f ∧ x.fr < f ∧ f < x.to) ∨ (p = partW x t x.to ∧ t < x.to ∧ x.fr < t) := by
  unfold woP at hp
  split at hp
  · rename_i h
    exact .inl ⟨by simpa using hp, h⟩
  · rename_i h
    rcases List.mem_append.1 hp with hp | hp
    · split at hp
      · rename_i h2
        exact .inr (.inl ⟨by simpa using hp, h2, by omega⟩)
      · cases hp
    · split at hp
      · rename_i h2
        exact .inr (.inr ⟨by simpa using hp, h2, by omega⟩)
      · cases hp
theorem wo_apart2 {l : List RG} (hl : Apart l) (f t : Int) (hft : f < t) : Apart (woR l f t) := by
  refine ⟨?_, fun p hp => ?_⟩
  · unfold woR
    rw [List.pairwise_flatMap]
    refine ⟨fun x hx => ?_, ?_⟩
    · unfold woP
      split
      · simp
      · rw [List.pairwise_append]
        refine ⟨by split <;> simp, by split <;> simp, fun a ha b hb => ?_⟩
        split at ha
        · split at hb
          · simp only [List.mem_singleton] at ha hb
            subst ha hb
            simp only [partW]
            omega
          · cases hb
        · cases ha
    · refine hl.1.imp_of_mem ?_
      intro x y hx hy hxy a ha b hb
      have h1 := hl.2 x hx
      have h2 := hl.2 y hy
      rcases wo_parts ha with ⟨rfl, _⟩ | ⟨rfl, _, _⟩ | ⟨rfl, _, _⟩ <;> rcases wo_parts hb with ⟨rfl, _⟩ | ⟨rfl, _, _⟩ | ⟨rfl, _, _⟩ <;> (try simp only [partW]) <;> omega
  · obtain ⟨x, hx, h⟩ := List.mem_flatMap.1 hp
    have h1 := hl.2 x hx
    rcases wo_parts h with ⟨rfl, _⟩ | ⟨rfl, _, _⟩ | ⟨rfl, _, _⟩ <;> (try simp only [partW]) <;> omega
/-- What is taken away is gone, all else is as it was. -/
theorem at_wo_in {l : List RG} (f t a : Int) (h1 : f ≤ a) (h2 : a < t) : atR (woR l f t) a = none := by
  unfold atR
  rw [find_no]
  · rfl
  · intro p hp
    obtain ⟨x, hx, h⟩ := List.mem_flatMap.1 hp
    have : ¬ hits a p = true := by
      rw [hits_iff]
      rcases wo_parts h with ⟨rfl, _⟩ | ⟨rfl, _, _⟩ | ⟨rfl, _, _⟩ <;> (try simp only [partW]) <;> omega
    simpa using this
theorem at_wo_out {l : List RG} (hl : Apart l) (f t a : Int) (hft : f < t) (h : a < f ∨ t ≤ a) : atR (woR l f t) a = atR l a := by
  refine at_same hl (wo_apart2 hl f t hft) a (fun x hx hh => ?_) (fun p hp hh => ?_)
  · rw [hits_iff] at hh
    have hw : ∀ p ∈ woP x f t, p ∈ woR l f t := fun p hp => List.mem_flatMap.2 ⟨x, hx, hp⟩
    by_cases c : x.to ≤ f ∨ t ≤ x.fr
    · exact ⟨x, hw x (by unfold woP; rw [if_pos c]; simp), (hits_iff _ _).2 hh, rfl⟩
    · rcases h with h | h
      · refine ⟨partW x x.fr f, hw _ (by unfold woP; rw [if_neg c, if_pos (by omega)]; simp), (hits_iff _ _).2 ?_, val_part x _ _ a⟩
        simp only [partW]; omega
      · refine ⟨partW x t x.to, hw _ (by unfold woP; rw [if_neg c, if_pos (show t < x.to by omega)]; simp), (hits_iff _ _).2 ?_, val_part x _ _ a⟩
        simp only [partW]; omega
  · obtain ⟨x, hx, hp2⟩ := List.mem_flatMap.1 hp
    rw [hits_iff] at hh
    refine ⟨x, hx, (hits_iff _ _).2 ?_⟩
    rcases wo_parts hp2 with ⟨rfl, _⟩ | ⟨rfl, _, _⟩ | ⟨rfl, _, _⟩ <;> (try simp only [partW] at hh) <;> omega
end Go.Proofs.Ytcafmhhfnleanaa
