/- RegionsFollow: what joins stays a region that may be. No walk. -/
import Derived.Test.YtcafmhhfnleanaaIz
namespace Go.Proofs.Ytcafmhhfnleanaa
open Go.RowKit Go.Sort

theorem may_iff (x : RG) : mayB x = true ↔ x.fr % 4096 = 0 ∧ x.to % 4096 = 0 ∧ x.fr < x.to ∧ x.to ≤ 140737488355328 ∧ x.pr ≤ 7 ∧ ((x.ino = -1 ∧ x.off = 0) ∨ (x.ino ≠ -1 ∧ 0 ≤ x.ino ∧ x.off % 4096 = 0 ∧ x.off ≤ 281474976710656 - (x.to - x.fr))) := by
  unfold mayB offB pg
  by_cases h : x.ino = -1
  · simp only [h, beq_self_eq_true, if_true, Bool.and_eq_true, beq_iff_eq, decide_eq_true_eq]
    constructor
    · rintro ⟨⟨⟨⟨⟨h1, h2⟩, h3⟩, h4⟩, h5⟩, h6⟩
      exact ⟨h1, h2, h3, h4, h5, .inl ⟨trivial, h6⟩⟩
    · rintro ⟨h1, h2, h3, h4, h5, h6 | h6⟩
      · exact ⟨⟨⟨⟨⟨h1, h2⟩, h3⟩, h4⟩, h5⟩, h6.2⟩
      · exact absurd rfl h6.1
  · have hb : (x.ino == -1) = false := by simpa using h
    simp only [hb, Bool.false_eq_true, if_false, Bool.and_eq_true, beq_iff_eq, decide_eq_true_eq]
    constructor
    · rintro ⟨⟨⟨⟨⟨h1, h2⟩, h3⟩, h4⟩, h5⟩, ⟨h6, h7⟩, h8⟩
      exact ⟨h1, h2, h3, h4, h5, .inr ⟨h, h6, h7, h8⟩⟩
    · rintro ⟨h1, h2, h3, h4, h5, h6 | h6⟩
      · exact absurd h6.1 h
      · exact ⟨⟨⟨⟨⟨h1, h2⟩, h3⟩, h4⟩, h5⟩, ⟨h6.2.1, h6.2.2.1⟩, h6.2.2.2⟩
/-- May be, and its numbers fit. -/
def Fine (x : RG) : Prop := mayB x = true ∧ RGok x
theorem fine_good {x : RG} (h : Fine x) : Good x := good_of h.1 h.2
theorem fine_noff {x : RG} (h : Fine x) (hi : x.ino = -1) : x.off = 0 := by
  have := ((may_iff x).1 h.1).2.2.2.2.2
  rcases this with h1 | h1
  · exact h1.2
  · exact absurd hi h1.1
/-- A part of a region that is fine, cut at whole pages. -/
theorem fine_part {x : RG} (h : Fine x) (f t : Int) (hf : f % 4096 = 0) (ht : t % 4096 = 0) (h1 : x.fr ≤ f) (h2 : f < t) (h3 : t ≤ x.to) : Fine (partW x f t) := by
  obtain ⟨hm, hk⟩ := h
  have k0 := hk.f0
  have k1 := hk.o0
  have k2 := hk.o1
  obtain ⟨m1, m2, m3, m4, m5, m6⟩ := (may_iff x).1 hm
  rcases m6 with ⟨m6, m7⟩ | ⟨m6, m7, m8, m9⟩
  · have e : partW x f t = ⟨f, t, x.pr, x.ino, x.off⟩ := by unfold partW; rw [m6]; rfl
    rw [e]
    refine ⟨(may_iff _).2 ⟨hf, ht, h2, by simp only; omega, m5, .inl ⟨m6, m7⟩⟩, ?_⟩
    exact ⟨by simp only; omega, by simp only; omega, by simp only; omega, by simp only; omega, hk.p0, hk.p1, hk.i0, hk.i1, k1, k2⟩
  · have e : partW x f t = ⟨f, t, x.pr, x.ino, x.off + (f - x.fr)⟩ := by
      unfold partW
      rw [show (x.ino != -1) = true by simpa using m6, if_pos rfl, wu_in (f - x.fr) (by omega) (by omega), wu_in _ (by omega) (by omega)]
    rw [e]
    refine ⟨(may_iff _).2 ⟨hf, ht, h2, by simp only; omega, m5, .inr ⟨m6, m7, by simp only; omega, by simp only; omega⟩⟩, ?_⟩
    exact ⟨by simp only; omega, by simp only; omega, by simp only; omega, by simp only; omega, hk.p0, hk.p1, hk.i0, hk.i1, by simp only; omega, by simp only; omega⟩
theorem fine_join {z r : RG} (hz : Fine z) (hr : Fine r) (hj : joinB z r = true) : Fine (withTo z r.to) := by
  obtain ⟨zm, zk⟩ := hz
  obtain ⟨rm, rk⟩ := hr
  have k1 := zk.o0
  have k2 := zk.f0
  obtain ⟨m1, m2, m3, m4, m5, m6⟩ := (may_iff z).1 zm
  obtain ⟨n1, n2, n3, n4, n5, n6⟩ := (may_iff r).1 rm
  unfold joinB at hj
  simp only [Bool.and_eq_true, Bool.or_eq_true, beq_iff_eq] at hj
  obtain ⟨⟨⟨j1, j2⟩, j3⟩, j4⟩ := hj
  have hk : RGok (withTo z r.to) := ⟨zk.f0, zk.f1, rk.t0, rk.t1, zk.p0, zk.p1, zk.i0, zk.i1, zk.o0, zk.o1⟩
  refine ⟨(may_iff _).2 ⟨m1, n2, by simp only [withTo]; omega, n4, m5, ?_⟩, hk⟩
  rcases m6 with m6 | ⟨m6, m7, m8, m9⟩
  · exact .inl m6
  · refine .inr ⟨m6, m7, m8, ?_⟩
    have j5 : r.off = wU (z.off + wU (z.to - z.fr)) := by
      rcases j4 with h | h
      · exact absurd h m6
      · exact h
    unfold wU at j5
    rw [wu_in (z.to - z.fr) (by omega) (by omega), wu_in _ (by omega) (by omega)] at j5
    rcases n6 with ⟨n6, _⟩ | ⟨_, _, _, n9⟩
    · exact absurd (j3.trans n6) m6
    · simp only [withTo]
      omega
/-- Neighbours that do not join. -/
def NJ : List RG → Prop
  | [] => True
  | [_] => True
  | x :: y :: l => joinB x y = false ∧ NJ (y :: l)
theorem nj_app {init : List RG} {z : RG} : ∀ {l : List RG}, NJ (init ++ [z]) → NJ (z :: l) → NJ ((init ++ [z]) ++ l) := by
  induction init with
  | nil => intro l _ h; exact h
  | cons a init ih =>
    intro l h1 h2
    cases init with
    | nil => exact ⟨h1.1, h2⟩
    | cons b init => exact ⟨h1.1, ih h1.2 h2⟩
theorem nj_to {init : List RG} {z : RG} (t : Int) (h : NJ (init ++ [z])) : NJ (init ++ [withTo z t]) := by
  induction init with
  | nil => trivial
  | cons a init ih =>
    cases init with
    | nil => exact ⟨h.1, trivial⟩
    | cons b init => exact ⟨h.1, ih h.2⟩
theorem joins_fine (l : List RG) : ∀ out : List RG, (∀ x ∈ out, Fine x) → (∀ x ∈ l, Fine x) → NJ out → (∀ x ∈ l.foldl joinStep out, Fine x) ∧ NJ (l.foldl joinStep out) := by
  induction l with
  | nil => intro out h1 _ h3; exact ⟨h1, h3⟩
  | cons x l ih =>
    intro out h1 h2 h3
    have hx := h2 x (List.mem_cons_self ..)
    have h2' : ∀ y ∈ l, Fine y := fun y hy => h2 y (List.mem_cons_of_mem _ hy)
    rw [List.foldl_cons]
    rcases List.eq_nil_or_concat out with rfl | ⟨init, z, rfl⟩
    · exact ih [x] (fun y hy => by simp only [List.mem_singleton] at hy; subst hy; exact hx) h2' trivial
    · rw [List.concat_eq_append] at *
      rw [joinStep_some]
      have hz := h1 z (by simp)
      cases hj : joinB z x
      · simp only [Bool.false_eq_true, if_false]
        refine ih _ (fun y hy => ?_) h2' (nj_app h3 ⟨hj, trivial⟩)
        rcases List.mem_append.1 hy with hy | hy
        · exact h1 y hy
        · simp only [List.mem_singleton] at hy; subst hy; exact hx
      · simp only [if_true]
        refine ih _ (fun y hy => ?_) h2' (nj_to _ h3)
        rcases List.mem_append.1 hy with hy | hy
        · exact h1 y (by simp [hy])
        · simp only [List.mem_singleton] at hy; subst hy; exact fine_join hz hx hj
end Go.Proofs.Ytcafmhhfnleanaa
