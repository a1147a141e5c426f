/- Regions: what is turned, both ways. No walk. -/
import Derived.Test.YtcafmhhfnleanaaIr
import Derived.Test.YtcafmhhfnleanaaIq
namespace Go.Proofs.Ytcafmhhfnleanaa
open Go.RowKit Go.Sort

theorem srt_skip (m : RG) (P L : List RG) (h : ∀ p ∈ P, ¬ m.fr < p.fr) : srtR m (P ++ L) = P ++ srtR m L := by
  induction P with
  | nil => rfl
  | cons p P ih =>
    show srtR m (p :: (P ++ L)) = _
    rw [srtR, if_neg (h p (List.mem_cons_self ..)), ih (fun q hq => h q (List.mem_cons_of_mem _ hq))]
    rfl
theorem srt_front (m : RG) (L : List RG) (h : ∀ p ∈ L, m.fr < p.fr) : srtR m L = m :: L := by
  cases L with
  | nil => rfl
  | cons p L => rw [srtR, if_pos (h p (List.mem_cons_self ..))]
theorem mx_comm (a b : Int) : mx a b = mx b a := by unfold mx; split <;> split <;> omega
theorem mn_comm (a b : Int) : mn a b = mn b a := by unfold mn; split <;> split <;> omega
theorem mid_fr (x : RG) (f t q : Int) : (midR x f t q).fr = mx x.fr f := rfl
theorem mid_to (x : RG) (f t q : Int) : (midR x f t q).to = mn x.to t := rfl
theorem piece_prot (x : RG) (f t q : Int) (hx : Good x) (hf : 0 ≤ f) (h1 : f < x.to) (h2 : x.fr < t) (h3 : f < t) : piece x f t (protR q) = [midR x f t q] := by
  have ha := hx.f0
  have hb := hx.lt
  have h4 : mx f x.fr < mn t x.to := by unfold mx mn; split <;> split <;> omega
  have h5 : 0 ≤ mx f x.fr := by unfold mx; split <;> omega
  have e : partR x f t = partW x (mx x.fr f) (mn x.to t) := by
    unfold partR
    rw [if_neg (by omega), mx_comm f x.fr, mn_comm t x.to]
    rfl
  have n1 : (partW x (mx x.fr f) (mn x.to t)).to ≠ 0 := by
    show mn x.to t ≠ 0
    rw [mn_comm]
    omega
  unfold piece
  rw [e, not_rg0 n1]
  simp only [Bool.false_eq_true, if_false]
  rw [not_rg0 (x := protR q (partW x (mx x.fr f) (mn x.to t))) n1]
  rfl
theorem piece_out (x : RG) (f t q : Int) (h : x.to ≤ f ∨ t ≤ x.fr) : piece x f t (protR q) = [] := by
  have h4 : mn t x.to ≤ mx f x.fr := by unfold mx mn; split <;> split <;> omega
  unfold piece partR
  rw [if_pos h4, eqR_rg0]
  rfl
/-- The pieces, with what is turned between. -/
theorem pieces_prot (x : RG) (f t q : Int) (hx : Good x) (hf : 0 ≤ f) (hft : f < t) (ht : t ≤ 140737488355328) :
    (x.to ≤ f ∨ t ≤ x.fr → pieces x f t (protR q) = [x] ∧ woP x f t = [x]) ∧
    (¬ (x.to ≤ f ∨ t ≤ x.fr) → ∃ A B : List RG, pieces x f t (protR q) = A ++ ([midR x f t q] ++ B) ∧ woP x f t = A ++ B ∧ (∀ p ∈ A, p.fr = x.fr ∧ x.fr < f) ∧ (∀ p ∈ B, p.fr = t)) := by
  have hw := pieces_wo x f t hx hf hft ht
  have e : pieces x f t noneR = piece x 0 f id ++ piece x t 140737488355328 id := by unfold pieces; rw [piece_none, List.nil_append]
  rw [e] at hw
  constructor
  · intro h
    have hwo : woP x f t = [x] := by unfold woP; rw [if_pos h]
    refine ⟨?_, hwo⟩
    unfold pieces
    rw [piece_out x f t q h, List.nil_append, hw, hwo]
  · intro h
    refine ⟨piece x 0 f id, piece x t 140737488355328 id, ?_, hw.symm, ?_, ?_⟩
    · unfold pieces
      rw [piece_prot x f t q hx hf (by omega) (by omega) hft]
    · intro p hp
      rw [piece_id x 0 f hx (by omega), mx_r (a := 0) hx.f0, mn_l (a := f) (b := x.to) (by omega)] at hp
      split at hp
      · cases hp
      · simp only [List.mem_singleton] at hp
        subst hp
        exact ⟨rfl, by omega⟩
    · intro p hp
      rw [piece_id x t _ hx (by omega), mx_l (a := t) (b := x.fr) (by omega)] at hp
      split at hp
      · cases hp
      · simp only [List.mem_singleton] at hp
        subst hp
        rfl
theorem mid_skip (l : List RG) (f t q : Int) (P : List RG) (hP : ∀ p ∈ P, ∀ x ∈ l, p.fr ≤ x.fr) : ∀ L, midAll l f t q (P ++ L) = P ++ midAll l f t q L := by
  induction l with
  | nil => intro L; rfl
  | cons x l ih =>
    intro L
    have e : midStep f t q (P ++ L) x = P ++ midStep f t q L x := by
      unfold midStep
      split
      · rfl
      · rw [srt_skip]
        intro p hp
        have h1 := hP p hp x (List.mem_cons_self ..)
        rw [mid_fr]
        unfold mx
        split <;> omega
    show midAll l f t q (midStep f t q (P ++ L) x) = P ++ midAll l f t q (midStep f t q L x)
    rw [e]
    exact ih (fun p hp y hy => hP p hp y (List.mem_cons_of_mem _ hy)) _
theorem wo_low (l : List RG) (f t B : Int) (hl : ∀ x ∈ l, B ≤ x.fr) : ∀ y ∈ woR l f t, B ≤ y.fr := by
  intro y hy
  obtain ⟨x, hx, h⟩ := List.mem_flatMap.1 hy
  have hb := hl x hx
  unfold woP at h
  split at h
  · simp only [List.mem_singleton] at h
    subst h
    exact hb
  · rcases List.mem_append.1 h with h | h
    · split at h
      · simp only [List.mem_singleton] at h
        subst h
        exact hb
      · cases h
    · split at h
      · simp only [List.mem_singleton] at h
        subst h
        show B ≤ t
        omega
      · cases h
theorem run_mid (f t q : Int) (hf : 0 ≤ f) (hft : f < t) (ht : t ≤ 140737488355328) : ∀ l : List RG, (∀ x ∈ l, Good x) → l.Pairwise (fun x y => x.to ≤ y.fr) → midAll l f t q (woR l f t) = runR l f t (protR q) := by
  intro l
  induction l with
  | nil => intro _ _; rfl
  | cons x l ih =>
    intro hg hp
    have hp' := List.pairwise_cons.1 hp
    have hx := hg x (List.mem_cons_self ..)
    have hxl := hx.lt
    have ih' := ih (fun y hy => hg y (List.mem_cons_of_mem _ hy)) hp'.2
    have ew : woR (x :: l) f t = woP x f t ++ woR l f t := rfl
    have er : runR (x :: l) f t (protR q) = pieces x f t (protR q) ++ runR l f t (protR q) := rfl
    have hlow := wo_low l f t x.to hp'.1
    obtain ⟨c1, c2⟩ := pieces_prot x f t q hx hf hft ht
    rw [ew, er]
    show midAll l f t q (midStep f t q (woP x f t ++ woR l f t) x) = _
    by_cases h : x.to ≤ f ∨ t ≤ x.fr
    · obtain ⟨e1, e2⟩ := c1 h
      rw [show midStep f t q (woP x f t ++ woR l f t) x = woP x f t ++ woR l f t by unfold midStep; rw [if_pos h], e1, e2, mid_skip, ih']
      intro p hp1 y hy
      simp only [List.mem_singleton] at hp1
      subst hp1
      have := hp'.1 y hy
      omega
    · obtain ⟨A, B, e1, e2, hA, hB⟩ := c2 h
      have hm1 : x.fr ≤ mx x.fr f ∧ f ≤ mx x.fr f ∧ mx x.fr f < t ∧ mx x.fr f < x.to := by unfold mx; split <;> omega
      have es : midStep f t q (woP x f t ++ woR l f t) x = (A ++ ([midR x f t q] ++ B)) ++ woR l f t := by
        unfold midStep
        rw [if_neg h, e2, List.append_assoc, srt_skip, srt_front]
        · simp
        · intro p hp1
          rw [mid_fr]
          rcases List.mem_append.1 hp1 with h1 | h1
          · rw [hB p h1]; exact hm1.2.2.1
          · have := hlow p h1; omega
        · intro p hp1
          rw [mid_fr]
          have := hA p hp1
          omega
      rw [es, e1, mid_skip, ih']
      intro p hp1 y hy
      have hy1 := hp'.1 y hy
      rcases List.mem_append.1 hp1 with h1 | h1
      · have := (hA p h1).1; omega
      · rcases List.mem_append.1 h1 with h2 | h2
        · simp only [List.mem_singleton] at h2
          subst h2
          rw [mid_fr]
          omega
        · have hx2 := hB p h2
          have : p ∈ woP x f t := by rw [e2]; exact List.mem_append_right _ h2
          unfold woP at this
          rw [if_neg h] at this
          rcases List.mem_append.1 this with h3 | h3
          · split at h3
            · simp only [List.mem_singleton] at h3
              subst h3
              simp only [partW] at hx2 ⊢
              omega
            · cases h3
          · split at h3
            · omega
            · cases h3

theorem cut_same {l : List RG} (hok : ∀ x ∈ l, RGok x) (f t : Int) (f0 : 0 ≤ f) : cutE l f t = rcutE l f t ∧ cutL l f t = rcutL l f t := by
  unfold cutE cutL rcutE rcutL
  cases hq : rightB l
  · exact ⟨rfl, rfl⟩
  · cases hs : strB f t
    · exact ⟨rfl, rfl⟩
    · have hp := str_parts hs
      simp only [Bool.and_self, if_true]
      rw [run_wo l f t (good_list hq hok) f0 hp.1 hp.2.1, wo_id hq hok f t hp.1]
      exact ⟨rfl, rfl⟩
theorem pro_same {l : List RG} (hok : ∀ x ∈ l, RGok x) (f t q : Int) (f0 : 0 ≤ f) : proE l f t q = rproE l f t q ∧ proL l f t q = rproL l f t q := by
  unfold proE proL rproE rproL
  cases hq : rightB l
  · exact ⟨rfl, rfl⟩
  · cases hs : strB f t
    · exact ⟨rfl, rfl⟩
    · have hp := str_parts hs
      rw [run_mid f t q f0 hp.1 hp.2.1 l (good_list hq hok) (right_pw hq |>.imp fun h => h.1)]
      exact ⟨rfl, rfl⟩
end Go.Proofs.Ytcafmhhfnleanaa
