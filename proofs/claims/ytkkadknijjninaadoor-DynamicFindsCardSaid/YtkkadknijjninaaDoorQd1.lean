
/- What is told keeps to the limits; each text stands in the file with a byte 0 behind. Plain. -/
import Derived.Test.YtkkadknijjninaaDoorQd0
namespace Go.Proofs.YtkkadknijjninaaDoor
open Go.RowKit Go.Sort Go.Shelf Go.WideMaps Go.Maps

/-- A text stands in bytes at a place, with a 0 behind. -/
def StandsAt (t x : BL) (q : Nat) : Prop := q + x.length < t.length ∧ t.getD (q + x.length) 1 = 0 ∧ (t.drop q).take x.length = x
theorem textO_stands {t x : BL} {p : Int} (h : textO t p = some x) : ∃ q, StandsAt t x q := by
  unfold textO at h
  split at h
  · cases h
  · rename_i hp
    unfold textAt at h
    split at h
    · cases h
    · rename_i i hi
      cases h
      obtain ⟨hlt, hz, _⟩ := List.findIdx?_eq_some_iff_getElem.1 hi
      rw [List.length_drop] at hlt
      have hx : ((t.drop p.toNat).take i).length = i := by rw [List.length_take, List.length_drop]; omega
      refine ⟨p.toNat, ?_, ?_, ?_⟩
      · rw [hx]; omega
      · rw [hx, List.getD_eq_getElem?_getD, List.getElem?_eq_getElem (show p.toNat + i < t.length by omega)]
        rw [List.getElem_drop] at hz
        simpa using hz
      · rw [hx]
theorem tabO_part {l t : BL} {L : List SG} {vals : EL} (h : tabO l L vals = some t) : t = [] ∨ ∃ p n, t = (l.drop p).take n := by
  unfold tabO at h
  split at h
  · split at h
    · cases h
    · cases h
      exact .inr ⟨_, _, rfl⟩
  · cases h
    exact .inl rfl
theorem stands_within {l t x : BL} {q : Nat} (hp : t = [] ∨ ∃ p n, t = (l.drop p).take n) (h : StandsAt t x q) : withinB l x = true := by
  rcases hp with rfl | ⟨p, n, rfl⟩
  · exact absurd h.1 (by simp)
  obtain ⟨h1, h2, h3⟩ := h
  have hl : ((l.drop p).take n).length = min n (l.length - p) := by rw [List.length_take, List.length_drop]
  rw [hl] at h1
  unfold withinB
  rw [List.any_eq_true]
  refine ⟨p + q, List.mem_range.2 (by omega), ?_⟩
  unfold wiB
  rw [Bool.and_eq_true, decide_eq_true_eq, beq_iff_eq]
  constructor
  · rw [List.getD_eq_getElem?_getD, List.getElem?_take, if_pos (by omega), List.getElem?_drop] at h2
    rw [List.getD_eq_getElem?_getD, show p + q + x.length = p + (q + x.length) by omega]
    exact h2
  · rw [List.drop_take, List.take_take, show min x.length (n - q) = x.length by omega, List.drop_drop] at h3
    exact h3
def Told (l x : BL) : Prop := x = [] ∨ withinB l x = true
theorem told_of {l t x : BL} {L : List SG} {vals : EL} {p : Int} (ht : tabO l L vals = some t) (h : textO t p = some x) : Told l x := by
  obtain ⟨q, hq⟩ := textO_stands h
  exact .inr (stands_within (tabO_part ht) hq)
theorem namK_told {P : BL → Prop} {t : BL} {nd : List Int} {ts : List BL} (hP : ∀ p x, textO t p = some x → P x) (h : namK t nd = some ts) : ∀ x ∈ ts, P x := by
  rcases nd.eq_nil_or_concat with rfl | ⟨e, x, rfl⟩
  · cases h; intro x hx; cases hx
  · rw [List.concat_eq_append, namK_snoc] at h
    cases hg : namK t e with
    | none => rw [hg] at h; cases h
    | some us =>
      rw [hg] at h
      have h1 := namK_told hP hg
      have h2 : (textO t x).map (fun y => us ++ [y]) = some ts := h
      cases hx : textO t x with
      | none => rw [hx] at h2; cases h2
      | some y =>
        rw [hx] at h2
        cases h2
        intro u hu
        rcases List.mem_append.1 hu with hu | hu
        · exact h1 u hu
        · rw [List.mem_singleton] at hu
          subst hu
          exact hP _ _ hx
termination_by nd.length
decreasing_by simp_all
theorem namT_told {P : BL → Prop} {t : BL} {vals : EL} (h0 : P []) (hP : ∀ p x, textO t p = some x → P x) : ∀ {k : Nat} {s : BL × BL}, namT t vals k = some s → P s.1 ∧ P s.2
  | 0, s, h => by cases h; exact ⟨h0, h0⟩
  | k + 1, s, h => by
    rw [namT] at h
    split at h
    · cases h
    · rename_i s0 hs0
      have ih := namT_told h0 hP hs0
      generalize lk vals (if k = 0 then 14 else if k = 1 then 15 else 29) = m at h
      cases m with
      | none => cases h; exact ih
      | some p =>
        simp only at h
        cases hx : textO t p with
        | none => rw [hx] at h; cases h
        | some x =>
          rw [hx] at h
          simp only at h
          split at h
          · cases h; exact ⟨hP _ _ hx, ih.2⟩
          · cases h; exact ⟨ih.1, hP _ _ hx⟩
theorem relT_sym {l : BL} {L : List SG} {vals : EL} {t s : Int} {xs : List RLA} (h : relT l L vals t s = some xs) : ∀ r ∈ xs, 0 ≤ r.sym := by
  unfold relT at h
  split at h
  · split at h
    · cases h
    · cases h
      intro r hr
      obtain ⟨i, _, rfl⟩ := List.mem_map.1 hr
      exact wget_u
  · cases h
    intro r hr
    cases hr
theorem relO_told {l : BL} {L : List SG} {vals : EL} {rl : List RLA} (hv : ValOk vals) (h : relO l L vals = .inr rl) : rl.length ≤ 64 ∧ ∀ r ∈ rl, 0 ≤ r.sym := by
  unfold relO at h
  split at h
  · split at h
    · cases h
    · rename_i hb
      unfold relF at h
      split at h
      · cases h
      · rename_i x hx
        split at h
        · cases h
        · rename_i y hy
          cases h
          have v8 := hv.v 8
          have v2 := hv.v 2
          have h1 := relT_len hx
          have h2 := relT_len hy
          refine ⟨?_, fun r hr => ?_⟩
          · rw [List.length_append]; omega
          · rcases List.mem_append.1 hr with hr | hr
            · exact relT_sym hx r hr
            · exact relT_sym hy r hr
  · cases h
structure OBtold (l : BL) (o : OBJ) : Prop where
  nl : o.nd.length ≤ 8
  rl : o.rl.length ≤ 64
  rs : ∀ r ∈ o.rl, 0 ≤ r.sym ∧ r.sym ≤ o.sy.length
  bd : ∀ s ∈ o.sy, s.bind ≤ 2
  nd : ∀ x ∈ o.nd, Told l x
  sn : Told l o.sn
  rn : Told l o.rn
  sy : ∀ s ∈ o.sy, Told l s.name
theorem readO_told {l : BL} {L : List SG} {nd : List Int} {vals : EL} {o : OBJ} (hv : ValOk vals) (hn : nd.length ≤ 8) (h : readO l L nd vals = .inr o) : OBtold l o := by
  unfold readO at h
  split at h
  · cases h
  rename_i t ht
  unfold readB at h
  split at h
  · cases h
  rename_i s hs
  unfold readC at h
  split at h
  · cases h
  rename_i rl hrl
  unfold readD at h
  split at h
  · cases h
  rename_i n hnm
  split at h
  · cases h
  rename_i sy hsy
  unfold readE at h
  split at h
  · cases h
  rename_i hov
  cases h
  obtain ⟨r1, r2⟩ := relO_told hv hrl
  have hP : ∀ p x, textO t p = some x → Told l x := fun p x hx => told_of ht hx
  unfold namO at hnm
  split at hnm
  · cases hnm
  rename_i ts hts
  split at hnm
  · cases hnm
  rename_i s2 hs2
  cases hnm
  obtain ⟨q1, q2⟩ := namT_told (P := Told l) (.inl rfl) hP hs2
  refine ⟨by show ts.length ≤ 8; rw [namK_len hts]; exact hn, r1, fun r hr => ⟨r2 r hr, ?_⟩, fun x hx => (symS_name hsy x hx).2, fun x hx => namK_told (P := Told l) hP hts x hx, q1, q2, fun x hx => ?_⟩
  · have hh := hov
    rw [Bool.not_eq_true, List.any_eq_false] at hh
    have := hh r hr
    unfold overB at this
    simpa using this
  · obtain ⟨⟨p, hp⟩, _⟩ := symS_name hsy x hx
    exact hP _ _ hp
theorem obZ_told (l : BL) : OBtold l obZ := ⟨Nat.zero_le _, Nat.zero_le _, (fun r hr => by cases hr), (fun r hr => by cases hr), (fun r hr => by cases hr), .inl rfl, .inl rfl, (fun r hr => by cases hr)⟩
theorem parseO_told {l : BL} {sg : List SG} {o : OBJ} (hl : l.length ≤ 1000000000) (hok : ∀ s ∈ sg, SGok s) (h : parseO l sg = .inr o) : OBtold l o := by
  unfold parseO at h
  split at h
  · cases h; exact obZ_told l
  rename_i s hs
  split at h
  · cases h
  rename_i xs hxs
  unfold parseG at h
  split at h
  · cases h
  rename_i g hg
  have hx := entsL_ok hl (dynS_ok hok hs) hxs
  obtain ⟨h1, _, h3⟩ := gathR_ok (fun x hx' => (hx.2 x hx').2.2) hg
  exact readO_told h3 h1 h
/-- The errors are two. -/
theorem parseO_err {l : BL} {sg : List SG} {e : Int} (h : parseO l sg = .inl e) : e = 25 ∨ e = 12 := by
  unfold parseO at h
  split at h
  · cases h
  split at h
  · cases h; exact .inl rfl
  unfold parseG at h
  split at h
  · rename_i e' he
    cases h
    unfold gathR at he
    split at he
    · cases he; exact .inl rfl
    · split at he
      · cases he; exact .inl rfl
      · split at he
        · cases he; exact .inr rfl
        · cases he
  unfold readO at h
  split at h
  · cases h; exact .inl rfl
  unfold readB at h
  split at h
  · rename_i e' he
    cases h
    unfold symO at he
    split at he
    · split at he
      · cases he; exact .inl rfl
      · unfold symF at he
        split at he
        · cases he; exact .inr rfl
        · split at he
          · cases he
          · cases he; exact .inl rfl
    · cases he
  unfold readC at h
  split at h
  · rename_i e' he
    cases h
    unfold relO at he
    split at he
    · split at he
      · cases he; exact .inr rfl
      · unfold relF at he
        split at he
        · cases he; exact .inl rfl
        · split at he
          · cases he; exact .inl rfl
          · cases he
    · cases he; exact .inl rfl
  unfold readD at h
  split at h
  · cases h; exact .inl rfl
  split at h
  · cases h; exact .inl rfl
  unfold readE at h
  split at h
  · cases h; exact .inl rfl
  · cases h
end Go.Proofs.YtkkadknijjninaaDoor
