/- RegionsFollow: neighbours that are joined have what they had. No walk. -/
import Derived.Test.YtcafmhhfnleanaaIw
namespace Go.Proofs.Ytcafmhhfnleanaa
open Go.RowKit Go.Sort

def NoOff (l : List RG) : Prop := ∀ x ∈ l, x.ino = -1 → x.off = 0
theorem val_joined (z r : RG) (a : Int) (h : joinB z r = true) (hr : r.ino = -1 → r.off = 0) (hz : z.ino = -1 → z.off = 0) : valR (withTo z r.to) a = valR r a ∧ r.fr = z.to := by
  unfold joinB at h
  simp only [Bool.and_eq_true, Bool.or_eq_true, beq_iff_eq] at h
  obtain ⟨⟨⟨h1, h2⟩, h3⟩, h4⟩ := h
  refine ⟨?_, h1.symm⟩
  unfold valR withTo
  simp only
  by_cases hi : z.ino = -1
  · have hi' : r.ino = -1 := by rw [← h3]; exact hi
    rw [hz hi, hr hi', hi, hi', h2]
    rfl
  · have e1 : (z.ino != -1) = true := by simpa using hi
    have e2 : (r.ino != -1) = true := by rw [← h3]; exact e1
    have h5 : r.off = wU (z.off + wU (z.to - z.fr)) := by
      rcases h4 with h4 | h4
      · exact absurd h4 hi
      · exact h4
    rw [e1, e2, h2, h3, h5, ← h1]
    unfold wU
    simp only [if_true, wu_def]
    congr 1
    omega
theorem apart_join {init rest : List RG} {z r : RG} (h : Apart ((init ++ [z]) ++ r :: rest)) (hj : r.fr = z.to) : Apart ((init ++ [withTo z r.to]) ++ rest) := by
  obtain ⟨h1, h2⟩ := h
  rw [List.append_assoc, List.pairwise_append] at h1
  obtain ⟨p1, p2, p3⟩ := h1
  simp only [List.singleton_append, List.pairwise_cons] at p2
  obtain ⟨q1, q2, q3⟩ := p2
  have hz := h2 z (by simp)
  have hr := h2 r (by simp)
  refine ⟨?_, fun x hx => ?_⟩
  · rw [List.append_assoc, List.pairwise_append]
    refine ⟨p1, ?_, fun a ha b hb => ?_⟩
    · simp only [List.singleton_append, List.pairwise_cons]
      exact ⟨fun b hb => q2 b hb, q3⟩
    · simp only [List.singleton_append, List.mem_cons] at hb
      rcases hb with rfl | hb
      · exact p3 a ha z (by simp)
      · exact p3 a ha b (by simp [hb])
  · simp only [List.mem_append, List.mem_singleton] at hx
    rcases hx with (hx | rfl) | hx
    · exact h2 x (by simp [hx])
    · show z.fr < r.to
      omega
    · exact h2 x (by simp [hx])
theorem at_join1 {init rest : List RG} {z r : RG} (h : Apart ((init ++ [z]) ++ r :: rest)) (hj : joinB z r = true) (hn : NoOff ((init ++ [z]) ++ r :: rest)) (a : Int) : atR ((init ++ [withTo z r.to]) ++ rest) a = atR ((init ++ [z]) ++ r :: rest) a := by
  obtain ⟨hv, hf⟩ := val_joined z r a hj (hn r (by simp)) (hn z (by simp))
  have hz := h.2 z (by simp)
  have hr := h.2 r (by simp)
  refine at_same h (apart_join h hf) a (fun x hx hh => ?_) (fun y hy hh => ?_)
  · simp only [List.mem_append, List.mem_cons, List.not_mem_nil, or_false] at hx
    rcases hx with (hx | rfl) | rfl | hx
    · exact ⟨x, by simp [hx], hh, rfl⟩
    · rw [hits_iff] at hh
      exact ⟨withTo x r.to, by simp, (hits_iff _ _).2 (by simp only [withTo]; omega), rfl⟩
    · rw [hits_iff] at hh
      exact ⟨withTo z x.to, by simp, (hits_iff _ _).2 (by simp only [withTo]; omega), hv⟩
    · exact ⟨x, by simp [hx], hh, rfl⟩
  · simp only [List.mem_append, List.mem_singleton] at hy
    rcases hy with (hy | rfl) | hy
    · exact ⟨y, by simp [hy], hh⟩
    · rw [hits_iff] at hh
      simp only [withTo] at hh
      by_cases c : a < z.to
      · exact ⟨z, by simp, (hits_iff _ _).2 ⟨hh.1, c⟩⟩
      · exact ⟨r, by simp, (hits_iff _ _).2 ⟨by omega, hh.2⟩⟩
    · exact ⟨y, by simp [hy], hh⟩
theorem at_joins (l : List RG) (a : Int) : ∀ out : List RG, Apart (out ++ l) → NoOff (out ++ l) → atR (l.foldl joinStep out) a = atR (out ++ l) a ∧ Apart (l.foldl joinStep out) ∧ NoOff (l.foldl joinStep out) := by
  induction l with
  | nil => intro out h1 h2; rw [List.append_nil] at *; exact ⟨rfl, h1, h2⟩
  | cons x l ih =>
    intro out h1 h2
    rw [List.foldl_cons]
    rcases List.eq_nil_or_concat out with rfl | ⟨init, z, rfl⟩
    · exact ih [x] h1 h2
    · rw [List.concat_eq_append] at *
      rw [joinStep_some]
      cases hj : joinB z x
      · simp only [Bool.false_eq_true, if_false]
        have e : ((init ++ [z]) ++ [x]) ++ l = (init ++ [z]) ++ x :: l := by simp
        have := ih ((init ++ [z]) ++ [x]) (by rw [e]; exact h1) (by rw [e]; exact h2)
        rwa [e] at this
      · simp only [if_true]
        have hf := (val_joined z x a hj (h2 x (by simp)) (h2 z (by simp))).2
        obtain ⟨g1, g2, g3⟩ := ih (init ++ [withTo z x.to]) (apart_join h1 hf) (fun y hy hi => by
          simp only [List.mem_append, List.mem_singleton] at hy
          rcases hy with (hy | rfl) | hy
          · exact h2 y (by simp [hy]) hi
          · exact h2 z (by simp) hi
          · exact h2 y (by simp [hy]) hi)
        exact ⟨g1.trans (at_join1 h1 hj h2 a), g2, g3⟩
theorem at_joinR {l : List RG} (h : Apart l) (hn : NoOff l) (a : Int) : atR (joinR l) a = atR l a ∧ Apart (joinR l) ∧ NoOff (joinR l) := at_joins l a [] h hn
end Go.Proofs.Ytcafmhhfnleanaa
