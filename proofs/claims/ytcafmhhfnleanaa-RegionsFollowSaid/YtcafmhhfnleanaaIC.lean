/- RegionsFollow: the three changes, address by address. No walk. -/
import Derived.Test.YtcafmhhfnleanaaIB
namespace Go.Proofs.Ytcafmhhfnleanaa
open Go.RowKit Go.Sort

/-- What a list must be: right, its numbers fit. -/
def Now (l : List RG) : Prop := rightB l = true ∧ ∀ x ∈ l, RGok x
theorem now_nil : Now [] := ⟨by kernel_rfl, fun x hx => by cases hx⟩

theorem put_says {l : List RG} {r : RG} (hl : Now l) (hr : RGok r) (h : putE l r = 0) : Now (putL l r) ∧ ∀ a, atR (putL l r) a = if r.fr ≤ a ∧ a < r.to then some (valR r a) else atR l a := by
  obtain ⟨h1, hok⟩ := hl
  unfold putE at h
  cases hm : mayB r
  · rw [hm, Bool.and_false] at h; cases h
  · rw [h1, hm] at h
    simp only [Bool.and_self, if_true] at h
    obtain ⟨h2, h3⟩ := few_zero h
    have e : putL l r = joinR (srtR r (woR l r.fr r.to)) := by
      unfold putL
      rw [h1, hm]
      simp only [Bool.and_self, if_true]
      rw [h3, put_same h1 hm hok hr]
    rw [put_same h1 hm hok hr] at h2
    rw [e]
    have hp := (may_iff r).1 hm
    have ha := apart_right h1
    have hw := wo_apart2 ha r.fr r.to hp.2.2.1
    have hsep := fun y hy => (wo_apart l r.fr r.to (good_list h1 hok) hp.2.2.1 y hy).2
    have hf := fine_wo (fine_right h1 hok) r.fr r.to hp.1 hp.2.1
    have j := joined_right (apart_srt hw hp.2.2.1 hsep) (fun x hx => by
      rw [mem_srt] at hx
      rcases hx with rfl | hx
      · exact ⟨hm, hr⟩
      · exact hf x hx) h2
    refine ⟨⟨j.1, j.2.1⟩, fun a => ?_⟩
    rw [j.2.2 a]
    by_cases c : r.fr ≤ a ∧ a < r.to
    · rw [if_pos c]
      exact at_srt_in hw hp.2.2.1 hsep a c.1 c.2
    · rw [if_neg c, at_srt_out hw hp.2.2.1 hsep a (by omega)]
      exact at_wo_out ha r.fr r.to a hp.2.2.1 (by omega)
theorem cut_says {l : List RG} {f t : Int} (hl : Now l) (f0 : 0 ≤ f) (h : cutE l f t = 0) : Now (cutL l f t) ∧ ∀ a, atR (cutL l f t) a = if f ≤ a ∧ a < t then none else atR l a := by
  obtain ⟨h1, hok⟩ := hl
  unfold cutE at h
  cases hs : strB f t
  · rw [hs, Bool.and_false] at h; cases h
  · rw [h1, hs] at h
    simp only [Bool.and_self, if_true] at h
    have hp := str_parts hs
    have ha := apart_right h1
    rw [run_wo l f t (good_list h1 hok) f0 hp.1 hp.2.1] at h
    obtain ⟨h2, h3⟩ := few_zero h
    have e : cutL l f t = joinR (woR l f t) := by
      unfold cutL
      rw [h1, hs]
      simp only [Bool.and_self, if_true]
      rw [run_wo l f t (good_list h1 hok) f0 hp.1 hp.2.1, h3]
    rw [e]
    have j := joined_right (wo_apart2 ha f t hp.1) (fine_wo (fine_right h1 hok) f t hp.2.2.1 hp.2.2.2) h2
    refine ⟨⟨j.1, j.2.1⟩, fun a => ?_⟩
    rw [j.2.2 a]
    by_cases c : f ≤ a ∧ a < t
    · rw [if_pos c]; exact at_wo_in f t a c.1 c.2
    · rw [if_neg c]; exact at_wo_out ha f t a hp.1 (by omega)
/-- Who comes to the end has met all on the way. -/
theorem cfar_has (l : List RG) (t : Int) : ∀ f a : Int, f ≤ a → a < t → a < cfar l t f → findR l a ≠ none := by
  induction l with
  | nil => intro f a h1 _ h3; exact absurd h3 (by show ¬ a < f; omega)
  | cons x l ih =>
    intro f a h1 h2 h3
    have e : cfar (x :: l) t f = cfar l t (cstep t f x) := rfl
    rw [e] at h3
    unfold findR
    rw [List.find?_cons]
    cases hh : hits a x
    · have hh' : ¬ (x.fr ≤ a ∧ a < x.to) := by rw [← hits_iff, hh]; simp
      refine ih (cstep t f x) a ?_ h2 h3
      unfold cstep
      split <;> omega
    · simp
theorem pro_says {l : List RG} {f t q : Int} (hl : Now l) (f0 : 0 ≤ f) (q0 : 0 ≤ q) (h : proE l f t q = 0) : Now (proL l f t q) ∧ (∀ a, atR (proL l f t q) a = if f ≤ a ∧ a < t then (atR l a).map (protR q) else atR l a) ∧ ∀ a, f ≤ a → a < t → atR l a ≠ none := by
  obtain ⟨h1, hok⟩ := hl
  unfold proE at h
  cases hs : strB f t
  · rw [hs, Bool.and_false] at h; cases h
  · by_cases h7 : q ≤ 7
    · cases hc : covB l f t
      · rw [h1, hs, decide_eq_true h7, hc] at h; cases h
      · rw [h1, hs, decide_eq_true h7, hc] at h
        simp only [Bool.and_self, if_true] at h
        have hp := str_parts hs
        have ha := apart_right h1
        have hg := good_list h1 hok
        obtain ⟨h2, h3⟩ := few_zero h
        have e : proL l f t q = joinR (runR l f t (protR q)) := by
          unfold proL
          rw [h1, hs, decide_eq_true h7, hc]
          simp only [Bool.and_self, if_true]
          rw [h3]
        rw [e]
        have j := joined_right (run_apart ha f t (protR q) (fun y => ⟨rfl, rfl⟩) hp.1) (fine_run (fine_right h1 hok) f t q f0 hp.2.2.1 hp.2.2.2 hp.1 hp.2.1 q0 h7) h2
        refine ⟨⟨j.1, j.2.1⟩, fun a => ?_, fun a c1 c2 => ?_⟩
        · rw [j.2.2 a]
          by_cases c : f ≤ a ∧ a < t
          · rw [if_pos c]; exact at_prot_in ha hg f t q a f0 hp.1 hp.2.1 c.1 c.2
          · rw [if_neg c]; exact at_prot_out ha hg f t q a f0 hp.1 hp.2.1 (by omega)
        · unfold covB at hc
          simp only [decide_eq_true_eq] at hc
          have := cfar_has l t f a c1 c2 (by omega)
          unfold atR
          cases hx : findR l a with
          | none => exact absurd hx this
          | some x => simp
    · rw [decide_eq_false h7, Bool.and_false] at h; cases h
theorem say_no {l : List RG} {r : RG} (h : putE l r ≠ 0) : putL l r = [] := by
  unfold putE at h
  unfold putL
  split
  · rename_i h1
    rw [if_pos h1] at h
    unfold fewE at h
    unfold fewL
    split
    · rfl
    · rename_i h2; rw [if_neg h2] at h; exact absurd rfl h
  · rfl
theorem few_no {l : List RG} (h : fewE l ≠ 0) : fewL l = [] := by
  unfold fewE at h
  unfold fewL
  split
  · rfl
  · rename_i h2; rw [if_neg h2] at h; exact absurd rfl h
theorem cut_no {l : List RG} {f t : Int} (h : cutE l f t ≠ 0) : cutL l f t = [] := by
  unfold cutE at h
  unfold cutL
  split
  · rename_i h1; rw [if_pos h1] at h; exact few_no h
  · rfl
theorem pro_no {l : List RG} {f t q : Int} (h : proE l f t q ≠ 0) : proL l f t q = [] := by
  unfold proE at h
  unfold proL
  split
  · rename_i h1
    rw [if_pos h1] at h
    split
    · rename_i h2; rw [if_pos h2] at h; exact few_no h
    · rfl
  · rfl
end Go.Proofs.Ytcafmhhfnleanaa
