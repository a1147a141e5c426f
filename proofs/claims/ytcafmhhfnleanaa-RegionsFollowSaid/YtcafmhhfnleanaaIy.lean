/- RegionsFollow: what was laid, what was turned. No walk. -/
import Derived.Test.YtcafmhhfnleanaaIx
namespace Go.Proofs.Ytcafmhhfnleanaa
open Go.RowKit Go.Sort

theorem mem_srt (r x : RG) (L : List RG) : x ∈ srtR r L ↔ x = r ∨ x ∈ L := by
  induction L with
  | nil => simp [srtR]
  | cons y L ih =>
    unfold srtR
    split
    · simp
    · simp only [List.mem_cons, ih]
      constructor
      · rintro (h | h | h)
        · exact .inr (.inl h)
        · exact .inl h
        · exact .inr (.inr h)
      · rintro (h | h | h)
        · exact .inr (.inl h)
        · exact .inl h
        · exact .inr (.inr h)
theorem apart_srt {r : RG} {L : List RG} (hL : Apart L) (hr : r.fr < r.to) (h : ∀ y ∈ L, y.to ≤ r.fr ∨ r.to ≤ y.fr) : Apart (srtR r L) := by
  refine ⟨?_, fun x hx => ?_⟩
  · induction L with
    | nil => simp [srtR]
    | cons y L ih =>
      have hp := List.pairwise_cons.1 hL.1
      have hy := hL.2 y (List.mem_cons_self ..)
      have h0 := h y (List.mem_cons_self ..)
      unfold srtR
      by_cases c : r.fr < y.fr
      · rw [if_pos c, List.pairwise_cons]
        refine ⟨fun z hz => ?_, hL.1⟩
        rcases List.mem_cons.1 hz with rfl | hz
        · omega
        · have := hp.1 z hz
          omega
      · rw [if_neg c, List.pairwise_cons]
        refine ⟨fun z hz => ?_, ih ⟨hp.2, fun z hz => hL.2 z (List.mem_cons_of_mem _ hz)⟩ (fun z hz => h z (List.mem_cons_of_mem _ hz))⟩
        rw [mem_srt] at hz
        rcases hz with rfl | hz
        · omega
        · exact hp.1 z hz
  · rw [mem_srt] at hx
    rcases hx with rfl | hx
    · exact hr
    · exact hL.2 x hx
/-- What is laid is there, all else is as it was. -/
theorem at_srt_in {r : RG} {L : List RG} (hL : Apart L) (hr : r.fr < r.to) (h : ∀ y ∈ L, y.to ≤ r.fr ∨ r.to ≤ y.fr) (a : Int) (h1 : r.fr ≤ a) (h2 : a < r.to) : atR (srtR r L) a = some (valR r a) := by
  unfold atR
  rw [find_apart (apart_srt hL hr h) ((mem_srt r r L).2 (.inl rfl)) ((hits_iff _ _).2 ⟨h1, h2⟩)]
  rfl
theorem at_srt_out {r : RG} {L : List RG} (hL : Apart L) (hr : r.fr < r.to) (h : ∀ y ∈ L, y.to ≤ r.fr ∨ r.to ≤ y.fr) (a : Int) (h1 : a < r.fr ∨ r.to ≤ a) : atR (srtR r L) a = atR L a := by
  refine at_same hL (apart_srt hL hr h) a (fun x hx hh => ⟨x, (mem_srt _ _ _).2 (.inr hx), hh, rfl⟩) (fun y hy hh => ?_)
  rw [mem_srt] at hy
  rcases hy with rfl | hy
  · rw [hits_iff] at hh; omega
  · exact ⟨y, hy, hh⟩
/-- The parts of a region, one turned. -/
theorem prot_parts {x p : RG} {f t q : Int} (hx : Good x) (hf : 0 ≤ f) (hft : f < t) (ht : t ≤ 140737488355328) (hp : p ∈ pieces x f t (protR q)) : p ∈ woP x f t ∨ (p = midR x f t q ∧ f < x.to ∧ x.fr < t) := by
  obtain ⟨c1, c2⟩ := pieces_prot x f t q hx hf hft ht
  by_cases h : x.to ≤ f ∨ t ≤ x.fr
  · obtain ⟨e1, e2⟩ := c1 h
    rw [e1] at hp
    rw [e2]
    exact .inl hp
  · obtain ⟨A, B, e1, e2, _, _⟩ := c2 h
    rw [e1] at hp
    rw [e2]
    rcases List.mem_append.1 hp with h1 | h1
    · exact .inl (List.mem_append_left _ h1)
    · rcases List.mem_append.1 h1 with h2 | h2
      · exact .inr ⟨by simpa using h2, by omega, by omega⟩
      · exact .inl (List.mem_append_right _ h2)
theorem prot_has {x p : RG} {f t q : Int} (hx : Good x) (hf : 0 ≤ f) (hft : f < t) (ht : t ≤ 140737488355328) (hp : p ∈ woP x f t ∨ (p = midR x f t q ∧ f < x.to ∧ x.fr < t)) : p ∈ pieces x f t (protR q) := by
  obtain ⟨c1, c2⟩ := pieces_prot x f t q hx hf hft ht
  by_cases h : x.to ≤ f ∨ t ≤ x.fr
  · obtain ⟨e1, e2⟩ := c1 h
    rw [e2] at hp
    rw [e1]
    rcases hp with hp | ⟨_, h1, h2⟩
    · exact hp
    · omega
  · obtain ⟨A, B, e1, e2, _, _⟩ := c2 h
    rw [e2] at hp
    rw [e1]
    rcases hp with hp | ⟨rfl, _, _⟩
    · rcases List.mem_append.1 hp with h1 | h1
      · exact List.mem_append_left _ h1
      · exact List.mem_append_right _ (List.mem_append_right _ h1)
    · exact List.mem_append_right _ (List.mem_append_left _ (by simp))
theorem val_mid (x : RG) (f t q a : Int) : valR (midR x f t q) a = protR q (valR x a) := by
  have := val_part x (mx x.fr f) (mn x.to t) a
  unfold midR protR
  unfold valR at this ⊢
  simp only [partW, RG.mk.injEq, true_and] at this ⊢
  exact this
end Go.Proofs.Ytcafmhhfnleanaa
