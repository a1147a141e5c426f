/- RegionsFollow: each answer may be the regions of an address space. No walk. -/
import Derived.Test.YtcafmhhfnleanaaIA
namespace Go.Proofs.Ytcafmhhfnleanaa
open Go.RowKit Go.Sort

theorem nj_at {l : List RG} (h : NJ l) : ∀ (k : Nat) (hk : k + 1 < l.length), joinB l[k] l[k + 1] = false := by
  induction l with
  | nil => intro k hk; simp at hk
  | cons x l ih =>
    intro k hk
    cases l with
    | nil => simp at hk
    | cons y l =>
      cases k with
      | zero => exact h.1
      | succ k => exact ih h.2 k (by simpa using hk)
theorem right_from {l : List RG} (hl : l.length ≤ 64) (hf : ∀ x ∈ l, Fine x) (ha : Apart l) (hn : NJ l) : rightB l = true := by
  refine right_yes l hl (fun j hj => ?_)
  cases j with
  | zero => rw [okAt_zero l hj]; exact (hf _ (List.getElem_mem hj)).1
  | succ k =>
    have h1 := List.pairwise_iff_getElem.1 ha.1 k (k + 1) (by omega) hj (by omega)
    rw [okAt_succ l k hj, (hf _ (List.getElem_mem hj)).1, nj_at hn k hj, show decide (l[k + 1].fr < l[k].to) = false from decide_eq_false (by omega)]
    rfl
theorem apart_right {l : List RG} (h : rightB l = true) : Apart l := right_pairs h
theorem fine_right {l : List RG} (h : rightB l = true) (hok : ∀ x ∈ l, RGok x) : ∀ x ∈ l, Fine x := by
  intro x hx
  obtain ⟨i, hi, rfl⟩ := List.getElem_of_mem hx
  exact ⟨right_may h i hi, hok _ hx⟩
theorem fine_wo {l : List RG} (hf : ∀ x ∈ l, Fine x) (f t : Int) (h1 : f % 4096 = 0) (h2 : t % 4096 = 0) : ∀ p ∈ woR l f t, Fine p := by
  intro p hp
  obtain ⟨x, hx, h⟩ := List.mem_flatMap.1 hp
  have hx' := hf x hx
  have hm := (may_iff x).1 hx'.1
  rcases wo_parts h with ⟨rfl, _⟩ | ⟨rfl, h3, h4⟩ | ⟨rfl, h3, h4⟩
  · exact hx'
  · exact fine_part hx' _ _ hm.1 h1 (by omega) h3 (by omega)
  · exact fine_part hx' _ _ h2 hm.2.1 (by omega) h3 (by omega)
theorem fine_mid {x : RG} (hx : Fine x) (f t q : Int) (h1 : f % 4096 = 0) (h2 : t % 4096 = 0) (hft : f < t) (h3 : f < x.to) (h4 : x.fr < t) (q0 : 0 ≤ q) (q7 : q ≤ 7) : Fine (midR x f t q) := by
  have hm := (may_iff x).1 hx.1
  have e1 : mx x.fr f % 4096 = 0 := by unfold mx; split <;> omega
  have e2 : mn x.to t % 4096 = 0 := by unfold mn; split <;> omega
  have hp := fine_part hx (mx x.fr f) (mn x.to t) e1 e2 (by unfold mx; split <;> omega) (by unfold mx mn; split <;> split <;> omega) (by unfold mn; split <;> omega)
  obtain ⟨hm2, hk⟩ := hp
  obtain ⟨m1, m2, m3, m4, m5, m6⟩ := (may_iff _).1 hm2
  exact ⟨(may_iff _).2 ⟨m1, m2, m3, m4, q7, m6⟩, ⟨hk.f0, hk.f1, hk.t0, hk.t1, q0, by show q ≤ 255; omega, hk.i0, hk.i1, hk.o0, hk.o1⟩⟩
theorem fine_run {l : List RG} (hf : ∀ x ∈ l, Fine x) (f t q : Int) (h0 : 0 ≤ f) (h1 : f % 4096 = 0) (h2 : t % 4096 = 0) (hft : f < t) (ht : t ≤ 140737488355328) (q0 : 0 ≤ q) (q7 : q ≤ 7) : ∀ p ∈ runR l f t (protR q), Fine p := by
  intro p hp
  obtain ⟨x, hx, h⟩ := List.mem_flatMap.1 hp
  rcases prot_parts (fine_good (hf x hx)) h0 hft ht h with h3 | ⟨rfl, h3, h4⟩
  · exact fine_wo hf f t h1 h2 p (List.mem_flatMap.2 ⟨x, hx, h3⟩)
  · exact fine_mid (hf x hx) f t q h1 h2 hft h3 h4 q0 q7
theorem noff_fine {l : List RG} (h : ∀ x ∈ l, Fine x) : NoOff l := fun x hx hi => fine_noff (h x hx) hi
/-- What joining leaves of regions that are fine and apart. -/
theorem joined_right {l : List RG} (ha : Apart l) (hf : ∀ x ∈ l, Fine x) (hn : (joinR l).length ≤ 64) : rightB (joinR l) = true ∧ (∀ x ∈ joinR l, RGok x) ∧ ∀ a, atR (joinR l) a = atR l a := by
  have h1 := joins_fine l [] (fun x hx => by cases hx) hf trivial
  have h2 := fun a => at_joinR ha (noff_fine hf) a
  exact ⟨right_from hn h1.1 (h2 0).2.1 h1.2, fun x hx => (h1.1 x hx).2, fun a => (h2 a).1⟩
theorem few_zero {l : List RG} (h : fewE l = 0) : l.length ≤ 64 ∧ fewL l = l := by
  unfold fewE at h
  split at h
  · cases h
  · exact ⟨by omega, (few_neg (by omega)).2⟩
end Go.Proofs.Ytcafmhhfnleanaa
