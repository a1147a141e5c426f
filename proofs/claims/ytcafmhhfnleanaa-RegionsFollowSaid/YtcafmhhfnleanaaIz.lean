/- RegionsFollow: what Protect leaves, address by address. No walk. -/
import Derived.Test.YtcafmhhfnleanaaIy
namespace Go.Proofs.Ytcafmhhfnleanaa
open Go.RowKit Go.Sort

theorem piece_bd {x p : RG} {f t : Int} {g : RG → RG} (hg : ∀ y, (g y).fr = y.fr ∧ (g y).to = y.to) (hp : p ∈ piece x f t g) : f ≤ p.fr ∧ x.fr ≤ p.fr ∧ p.to ≤ t ∧ p.to ≤ x.to ∧ p.fr < p.to := by
  unfold piece at hp
  split at hp
  · cases hp
  · rename_i h0
    split at hp
    · cases hp
    · simp only [List.mem_singleton] at hp
      subst hp
      rw [(hg _).1, (hg _).2]
      unfold partR at h0 ⊢
      split
      · rename_i h1
        rw [if_pos h1, eqR_rg0] at h0
        exact absurd rfl h0
      · rename_i h1
        simp only
        unfold mx mn at *
        split <;> split <;> simp_all <;> omega
theorem piece_pw (x : RG) (f t : Int) (g : RG → RG) : (piece x f t g).Pairwise fun a b => a.to ≤ b.fr := by
  unfold piece
  split
  · exact List.Pairwise.nil
  · split
    · exact List.Pairwise.nil
    · exact List.pairwise_singleton _ _
theorem run_apart {l : List RG} (hl : Apart l) (f t : Int) (g : RG → RG) (hg : ∀ y, (g y).fr = y.fr ∧ (g y).to = y.to) (hft : f < t) : Apart (runR l f t g) := by
  have hid : ∀ y : RG, (id y).fr = y.fr ∧ (id y).to = y.to := fun y => ⟨rfl, rfl⟩
  have key : ∀ x p, p ∈ pieces x f t g → x.fr ≤ p.fr ∧ p.to ≤ x.to ∧ p.fr < p.to := by
    intro x p hp
    unfold pieces at hp
    rcases List.mem_append.1 hp with h | h
    · have := piece_bd hid h; omega
    · rcases List.mem_append.1 h with h | h
      · have := piece_bd hg h; omega
      · have := piece_bd hid h; omega
  refine ⟨?_, fun p hp => ?_⟩
  · unfold runR
    rw [List.pairwise_flatMap]
    refine ⟨fun x hx => ?_, ?_⟩
    · unfold pieces
      rw [List.pairwise_append]
      refine ⟨piece_pw _ _ _ _, ?_, fun a ha b hb => ?_⟩
      · rw [List.pairwise_append]
        refine ⟨piece_pw _ _ _ _, piece_pw _ _ _ _, fun a ha b hb => ?_⟩
        have h1 := piece_bd hg ha
        have h2 := piece_bd hid hb
        omega
      · have h1 := piece_bd hid ha
        rcases List.mem_append.1 hb with hb | hb
        · have h2 := piece_bd hg hb; omega
        · have h2 := piece_bd hid hb; omega
    · refine hl.1.imp_of_mem ?_
      intro x y hx hy hxy a ha b hb
      have h1 := key x a ha
      have h2 := key y b hb
      omega
  · obtain ⟨x, hx, h⟩ := List.mem_flatMap.1 hp
    exact (key x p h).2.2
/-- Where nothing is turned all is as it was. -/
theorem at_prot_out {l : List RG} (hl : Apart l) (hg : ∀ x ∈ l, Good x) (f t q a : Int) (hf : 0 ≤ f) (hft : f < t) (ht : t ≤ 140737488355328) (h : a < f ∨ t ≤ a) : atR (runR l f t (protR q)) a = atR l a := by
  rw [← at_wo_out hl f t a hft h]
  refine at_same (wo_apart2 hl f t hft) (run_apart hl f t (protR q) (fun y => ⟨rfl, rfl⟩) hft) a (fun p hp hh => ?_) (fun p hp hh => ?_)
  · obtain ⟨x, hx, hp2⟩ := List.mem_flatMap.1 hp
    exact ⟨p, List.mem_flatMap.2 ⟨x, hx, prot_has (hg x hx) hf hft ht (.inl hp2)⟩, hh, rfl⟩
  · obtain ⟨x, hx, hp2⟩ := List.mem_flatMap.1 hp
    rcases prot_parts (hg x hx) hf hft ht hp2 with h1 | ⟨rfl, h1, h2⟩
    · exact ⟨p, List.mem_flatMap.2 ⟨x, hx, h1⟩, hh⟩
    · rw [hits_iff, mid_fr, mid_to] at hh
      exfalso
      unfold mx mn at hh
      split at hh <;> split at hh <;> omega
/-- Where it is turned, just that. -/
theorem at_prot_in {l : List RG} (hl : Apart l) (hg : ∀ x ∈ l, Good x) (f t q a : Int) (hf : 0 ≤ f) (hft : f < t) (ht : t ≤ 140737488355328) (h1 : f ≤ a) (h2 : a < t) : atR (runR l f t (protR q)) a = (atR l a).map (protR q) := by
  have hA := run_apart hl f t (protR q) (fun y => ⟨rfl, rfl⟩) hft
  unfold atR
  cases hx : findR l a with
  | some x =>
    obtain ⟨hm, hh⟩ := find_mem hx
    rw [hits_iff] at hh
    have hp : midR x f t q ∈ runR l f t (protR q) := List.mem_flatMap.2 ⟨x, hm, prot_has (hg x hm) hf hft ht (.inr ⟨rfl, by omega, by omega⟩)⟩
    have hh2 : hits a (midR x f t q) = true := by
      rw [hits_iff, mid_fr, mid_to]
      unfold mx mn
      split <;> split <;> omega
    rw [find_apart hA hp hh2]
    simp only [Option.map_some]
    rw [val_mid]
  | none =>
    rw [find_no]
    · rfl
    · intro p hp
      obtain ⟨x, hx2, hp2⟩ := List.mem_flatMap.1 hp
      have hn : ¬ hits a x = true := fun hh => by
        rw [find_apart hl hx2 hh] at hx
        cases hx
      rw [hits_iff] at hn
      have : ¬ hits a p = true := by
        rw [hits_iff]
        have hxl := hl.2 x hx2
        rcases prot_parts (hg x hx2) hf hft ht hp2 with h3 | ⟨rfl, h3, h4⟩
        · rcases wo_parts h3 with ⟨rfl, _⟩ | ⟨rfl, _, _⟩ | ⟨rfl, _, _⟩ <;> (try simp only [partW]) <;> omega
        · rw [mid_fr, mid_to]
          unfold mx mn
          split <;> split <;> omega
      simpa using this
end Go.Proofs.Ytcafmhhfnleanaa
