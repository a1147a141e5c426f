/- vfs, plain: a node's path leads to it; a link leads where its To leads. -/
import Derived.Test.YtgclemicgcbpjaaFL0
import Derived.Test.YtgclemicgcbpjaaF5
namespace Go.Proofs.Ytgclemicgcbpjaa
open Go.RowKit Go.Sort

theorem follow_lay {L : List ND} {P : Nat → List BL} (hL : Lay L P) (c : CR) : ∀ (m i : Nat), i ≤ m → i < L.length → (L.getD i default).kind ≠ 3 →
    (∀ last k rest, followL L c last k 0 (P i ++ rest) = (5, 0)) ∨ (∀ last k rest, followL L c last k 0 (P i ++ rest) = followL L c last k i rest)
  | m, 0, _, _, _ => .inr fun last k rest => by rw [hL.zero, List.nil_append]
  | 0, i + 1, h, _, _ => by omega
  | m + 1, i + 1, h, hi, h3 => by
    obtain ⟨s1, s2, nm, s3, s4, s5⟩ := hL.step (i + 1) (by omega) hi
    rcases follow_lay hL c m (L.getD (i + 1) default).up (by omega) (by omega) (by rw [s2]; decide) with h1 | h1
    · refine .inl fun last k rest => ?_
      rw [s3, List.append_assoc]; exact h1 _ _ _
    · by_cases hm : mayX c (L.getD (L.getD (i + 1) default).up default) = false
      · refine .inl fun last k rest => ?_
        have e : stepL L c (L.getD (i + 1) default).up nm = (5, 0) := stepN_2 s2 hm
        rw [s3, List.append_assoc, h1, List.singleton_append, followL_bad (by rw [e]; decide), e]
      · have e : stepL L c (L.getD (i + 1) default).up nm = (0, i + 1) := stepN_5 s2 (eq_true_of_ne_false hm) s4 s5
        refine .inr fun last k rest => ?_
        rw [s3, List.append_assoc, h1, List.singleton_append, followL_step e (.inl h3)]
/-- With fewer links behind it, the way is the same. -/
theorem follow_less {L : List ND} {c : CR} {last : Bool} : ∀ {links at_ : Nat} {left : List BL} {k nx : Nat}, followL L c last links at_ left = (0, nx) → k ≤ links → followL L c last k at_ left = (0, nx) := by
  intro links at_ left
  fun_induction followL L c last links at_ left with
  | case1 links at_ => intro k nx h _; cases h; rw [followL_nil]
  | case2 links at_ p rest h1 h2 ih =>
    intro k nx h hk
    rw [followL, if_pos h1, if_pos h2]
    exact ih h hk
  | case3 => intro k nx h; cases h
  | case4 links at_ p rest h1 h2 h3 ih =>
    intro k nx h hk
    rw [followL, if_pos h1, if_neg h2, dif_neg (by omega)]
    exact ih h (by omega)
  | case5 links at_ p rest h1 => intro k nx h; exact absurd (congrArg Prod.fst h) h1
theorem walkL_is {L : List ND} {c : CR} {from_ : Int} {p : BL} {last : Bool} {st : Nat} (h : 0 ≤ from_ ∧ from_ < (L.length : Int) ∧ (L.getD from_.toNat default).kind = 2) (h2 : chkE p = 0) (h3 : (if rootF p = true then 0 else from_.toNat) = st) :
    walkL L c from_ p last = if (followL L c (last || tailB p) 0 st (partsF p)).1 = 0 then if tailB p = true ∧ (L.getD (followL L c (last || tailB p) 0 st (partsF p)).2 default).kind ≠ 2 then ((0 : Int), (8 : Int)) else ((((followL L c (last || tailB p) 0 st (partsF p)).2 : Nat) : Int), (0 : Int)) else ((0 : Int), (followL L c (last || tailB p) 0 st (partsF p)).1) := by
  unfold walkL
  rw [if_pos h, if_pos h2, h3]
/-- A link leads to where its To leads from its directory on. -/
theorem link_walk {L : List ND} {P : Nat → List BL} (hL : Lay L P) (c : CR) {i : Nat} (hi : i < L.length) (h3 : (L.getD i default).kind = 3) (hto : chkE (L.getD i default).to = 0) (ht : tailB (L.getD i default).to = false)
    (hw : (walkL L c 0 (L.getD i default).path true).2 = 0) :
    ∃ d : Nat, d < L.length ∧ dirL (L.getD i default).path = (L.getD d default).path ∧ walkL L c 0 (dirL (L.getD i default).path) true = ((d : Int), 0) ∧ walkL L c d (L.getD i default).to true = walkL L c 0 (L.getD i default).path true := by
  have hpos := hL.pos
  have hroot := hL.root
  have h0 : 0 < i := by
    rcases Nat.eq_zero_or_pos i with rfl | h
    · rw [hroot] at h3; cases h3
    · exact h
  obtain ⟨s1, s2, nm, s3, s4, s5⟩ := hL.step i h0 hi
  have hp := hL.path i hi
  have hG := hL.good i hi
  generalize hd : (L.getD i default).up = d at *
  rw [hp] at hw ⊢
  have hdir : dirL (pathJ (P i)) = pathJ (P d) := by rw [s3]; rw [s3] at hG; exact dirJ hG
  obtain ⟨g1, g2, g3⟩ := goodD_chk hG
  obtain ⟨q1, q2, q3⟩ := goodD_chk (hL.good d (by omega))
  rw [hdir]
  have hbase : (0 : Int) ≤ 0 ∧ (0 : Int) < (L.length : Int) ∧ (L.getD (0 : Int).toNat default).kind = 2 := ⟨by omega, by omega, hroot⟩
  have w1 := walkL_is (L := L) (c := c) (from_ := 0) (p := pathJ (P i)) (last := true) (st := 0) hbase g1 (by rw [g3]; rfl)
  have w2 := walkL_is (L := L) (c := c) (from_ := 0) (p := pathJ (P d)) (last := true) (st := 0) hbase q1 (by rw [q3]; rfl)
  have w3 := walkL_is (L := L) (c := c) (from_ := d) (p := (L.getD i default).to) (last := true) (st := if rootF (L.getD i default).to = true then 0 else d) ⟨by omega, by omega, by rw [Int.toNat_natCast]; exact s2⟩ hto (by rw [Int.toNat_natCast])
  rw [g2, s3] at w1
  rw [q2] at w2
  simp only [Bool.true_or] at w1 w2 w3
  rcases follow_lay hL c d d (Nat.le_refl _) (by omega) (by rw [s2]; decide) with h1 | h1
  · exfalso
    rw [h1, if_neg (by decide)] at w1
    rw [s3] at hw
    rw [w1] at hw
    cases hw
  · rw [h1] at w1
    have e2 := h1 true 0 []
    rw [List.append_nil, followL_nil] at e2
    rw [e2, if_pos rfl, if_neg (fun h => h.2 s2)] at w2
    refine ⟨d, by omega, (hL.path d (by omega)).symm, w2, ?_⟩
    by_cases hm : mayX c (L.getD d default) = false
    · exfalso
      have e : stepL L c d nm = (5, 0) := stepN_2 s2 hm
      rw [followL_bad (by rw [e]; decide), e, if_neg (by decide)] at w1
      rw [s3] at hw
      rw [w1] at hw
      cases hw
    · have e : stepL L c d nm = (0, i) := stepN_5 s2 (eq_true_of_ne_false hm) s4 s5
      rw [followL_link e h3 (by simp) (by omega), List.append_nil] at w1
      rw [s3] at hw ⊢
      rw [w1] at hw ⊢
      rw [w3]
      cases hf : followL L c true (0 + 1) (if rootF (L.getD i default).to = true then 0 else d) (partsF (L.getD i default).to) with
      | mk er nx =>
        rw [hf] at hw
        by_cases he : er = 0
        · subst he
          have hl := follow_less hf (Nat.zero_le _)
          rw [hl]
          simp only [if_true] at hw ⊢
          rw [ht, if_neg (by simp)]
          by_cases h8 : tailB (pathJ (P d ++ [nm])) = true ∧ (L.getD nx default).kind ≠ 2
          · rw [if_pos h8] at hw; cases hw
          · rw [if_neg h8]
        · simp only [if_neg he] at hw
          exact absurd hw he
end Go.Proofs.Ytgclemicgcbpjaa
