/- More on paths as lists of letters: what is joined, what is taken apart. No program is named. -/
import Derived.Test.YtgclemicgcbpjaaPM
namespace Go.Proofs.Ytgclemicgcbpjaa
open Go.RowKit

theorem cfold_shift (x : UInt8) (D : List BL) : ∀ (m : BL) (st : List BL × BL), m.foldl (cstep x) (D ++ st.1, st.2) = (D ++ (m.foldl (cstep x) st).1, (m.foldl (cstep x) st).2)
  | [], st => rfl
  | c :: m, st => by
    have h : cstep x (D ++ st.1, st.2) c = (D ++ (cstep x st c).1, (cstep x st c).2) := by unfold cstep; split <;> simp
    rw [List.foldl_cons, List.foldl_cons, h, cfold_shift x D m]
theorem cuts_mid (x : UInt8) (a m : BL) : cuts x (a ++ [x] ++ m) = cuts x a ++ cuts x m := by
  have h : cst x (a ++ [x] ++ m) = (cuts x a ++ (cst x m).1, (cst x m).2) := by
    have h1 : cst x (a ++ [x] ++ m) = m.foldl (cstep x) (cst x (a ++ [x])) := by unfold cst; rw [List.foldl_append]
    rw [h1, cst_hit]
    have := cfold_shift x (cuts x a) m ([], [])
    simpa [cuts, cst] using this
  unfold cuts at h ⊢
  rw [h]
  simp
theorem cuts_no {x : UInt8} {m : BL} (h : ∀ c ∈ m, c ≠ x) : cuts x m = [m] := by unfold cuts; rw [cst_no h]; rfl
theorem parts_mid (a m : BL) : partsL (a ++ [47] ++ m) = partsL a ++ partsL m := by unfold partsL; rw [cuts_mid, List.filter_append]
theorem long_mid (a m : BL) : tooLong (a ++ [47] ++ m) = (tooLong a || tooLong m) := by unfold tooLong; rw [cuts_mid, List.any_append]
theorem parts_nil : partsL [] = [] := by decide
theorem parts_dot : partsL [46] = [] := by decide

theorem chk0 (l : BL) : chkE l = 0 ↔ l ≠ [] ∧ ¬ 0 ∈ l ∧ l.length ≤ 200 ∧ tooLong l = false := by
  unfold chkE
  constructor
  · intro h
    by_cases h1 : l = []
    · rw [if_pos h1] at h; omega
    · rw [if_neg h1] at h
      by_cases h2 : 0 ∈ l
      · rw [if_pos h2] at h; omega
      · rw [if_neg h2] at h
        by_cases h3 : 200 < l.length
        · rw [if_pos h3] at h; omega
        · rw [if_neg h3] at h
          cases h4 : tooLong l
          · exact ⟨h1, h2, by omega, rfl⟩
          · rw [h4] at h; simp at h
  · rintro ⟨h1, h2, h3, h4⟩
    rw [if_neg h1, if_neg h2, if_neg (by omega), h4]
    rfl

theorem beg_app {a m : BL} (h : a ≠ []) : begB (a ++ m) = begB a := by
  unfold begB
  cases a with
  | nil => exact absurd rfl h
  | cons c a => rfl

/-- The parts of what is joined. -/
theorem joins_math {d p : BL} (hd : chkE d = 0) (hb : begB p = false) : partsL (joinL d p) = partsL d ++ partsL p ∧ begB (joinL d p) = begB d := by
  obtain ⟨h1, _⟩ := (chk0 d).1 hd
  unfold joinL
  rw [hb, decide_eq_false h1]
  simp only [Bool.or_self, Bool.false_eq_true, if_false]
  cases ht : tailB d
  · simp only [Bool.false_eq_true, if_false]
    refine ⟨parts_mid d p, ?_⟩
    rw [List.append_assoc, beg_app h1]
  · simp only [if_true]
    obtain ⟨a, rfl⟩ := (tail_iff d).1 ht
    refine ⟨?_, beg_app h1⟩
    have h2 := parts_mid a []
    rw [parts_nil, List.append_nil, List.append_nil] at h2
    rw [parts_mid, h2]
theorem join_beg {d p : BL} (hb : begB p = true) : joinL d p = p := by unfold joinL; rw [hb]; simp

theorem beg_no {m : BL} (h : ∀ c ∈ m, c ≠ 47) : begB m = false := by
  unfold begB
  cases m with
  | nil => rfl
  | cons c m => simpa using h c (by simp)

/-- A directory and a base are the path again. -/
theorem back_math (l : BL) (h : chkE l = 0) : (chkE (joinL (dirL l) (baseL l)) = 0 → partsL (joinL (dirL l) (baseL l)) = partsL l ∧ begB (joinL (dirL l) (baseL l)) = begB l) ∧ (chkE (joinL (dirL l) (baseL l)) ≠ 0 → 200 < l.length + 2) := by
  obtain ⟨h1, h2, h3, h4⟩ := (chk0 l).1 h
  rcases last_split 47 l with hn | ⟨a, m, rfl, hn⟩
  · obtain ⟨e1, e2⟩ := lastI_no hn
    have ed : dirL l = [46] := by unfold dirL; rw [e1]; rfl
    have eq : joinL (dirL l) (baseL l) = [46] ++ [47] ++ l := by
      rw [ed, e2]
      unfold joinL
      rw [beg_no hn]
      rfl
    rw [eq]
    constructor
    · intro _
      refine ⟨?_, ?_⟩
      · rw [parts_mid, parts_dot]; rfl
      · rw [beg_no hn]; rfl
    · intro hc
      rcases Nat.lt_or_ge 200 (l.length + 2) with h5 | h5
      · exact h5
      · exfalso
        apply hc
        rw [chk0]
        refine ⟨by simp, ?_, by simp; omega, ?_⟩
        · simp only [List.mem_append, List.mem_singleton]
          rintro ((h6 | h6) | h6)
          · exact absurd h6 (by decide)
          · exact absurd h6 (by decide)
          · exact h2 h6
        · rw [long_mid, h4]; rfl
  · obtain ⟨e1, e2⟩ := lastI_at (a := a) (m := m) hn
    have eb : begB m = false := beg_no hn
    by_cases ha : a = []
    · subst ha
      have ed : dirL ([] ++ [47] ++ m) = [47] := by unfold dirL; rw [e1]; rfl
      have eq : joinL (dirL ([] ++ [47] ++ m)) (baseL ([] ++ [47] ++ m)) = [] ++ [47] ++ m := by
        rw [ed, e2]
        unfold joinL
        rw [eb]
        rfl
      rw [eq]
      exact ⟨fun _ => ⟨rfl, rfl⟩, fun hc => absurd h hc⟩
    · have hal : 0 < a.length := List.length_pos_iff.2 ha
      have ed : dirL (a ++ [47] ++ m) = a := by
        unfold dirL
        rw [e1, if_neg (by omega), if_neg (by omega), List.append_assoc]
        simp
      have hj : joinL a m = if tailB a then a ++ m else a ++ [47] ++ m := by
        unfold joinL
        rw [eb, decide_eq_false ha]
        rfl
      rw [ed, e2, hj]
      cases ht : tailB a
      · simp only [Bool.false_eq_true, if_false]
        refine ⟨fun _ => ?_, fun hc => absurd h hc⟩
        simp
      · simp only [if_true]
        obtain ⟨b, rfl⟩ := (tail_iff a).1 ht
        have hp := parts_mid b []
        rw [parts_nil, List.append_nil, List.append_nil] at hp
        have hl := long_mid b []
        rw [List.append_nil, show tooLong [] = false from rfl, Bool.or_false] at hl
        have hlm := h4
        rw [long_mid, hl] at hlm
        constructor
        · intro _
          refine ⟨?_, ?_⟩
          · rw [parts_mid, parts_mid, hp]
          · rw [beg_app ha, List.append_assoc, beg_app ha]
        · intro hc
          exfalso
          apply hc
          rw [chk0]
          refine ⟨by simp, fun h6 => h2 ?_, ?_, ?_⟩
          · simp only [List.mem_append, List.mem_singleton] at h6 ⊢
            rcases h6 with (h6 | h6) | h6
            · exact .inl (.inl (.inl h6))
            · exact .inl (.inl (.inr h6))
            · exact .inr h6
          · simp only [List.length_append, List.length_singleton] at h3 ⊢; omega
          · rw [long_mid]; exact hlm

/-! What is taken apart, and joined by slashes. -/
def jn : List BL → BL
  | [] => []
  | [p] => p
  | p :: q :: r => p ++ [47] ++ jn (q :: r)
def tot (ds : List BL) : Nat := (ds.map fun p => p.length + 1).sum
theorem jn_len : ∀ ds : List BL, ds ≠ [] → (jn ds).length + 1 = tot ds
  | [], h => absurd rfl h
  | [p], _ => by simp [jn, tot]
  | p :: q :: r, _ => by
    have := jn_len (q :: r) (by simp)
    simp only [jn, tot, List.map_cons, List.sum_cons, List.length_append, List.length_singleton] at this ⊢
    omega
def gl (ds : List BL) : BL := (ds.map fun p => p ++ [47]).flatten
theorem gl_snoc (ds : List BL) (p : BL) : gl (ds ++ [p]) = gl ds ++ p ++ [47] := by simp [gl]
theorem gl_jn : ∀ ds : List BL, ds ≠ [] → gl ds = jn ds ++ [47]
  | [], h => absurd rfl h
  | [p], _ => by simp [gl, jn]
  | p :: q :: r, _ => by
    have := gl_jn (q :: r) (by simp)
    simp only [gl, List.map_cons, List.flatten_cons] at this ⊢
    rw [this]
    simp [jn]
theorem cuts_jn : ∀ ds : List BL, ds ≠ [] → (∀ p ∈ ds, ∀ c ∈ p, c ≠ 47) → cuts 47 (jn ds) = ds
  | [], h, _ => absurd rfl h
  | [p], _, hn => cuts_no (hn p (by simp))
  | p :: q :: r, _, hn => by
    rw [jn, cuts_mid, cuts_jn (q :: r) (by simp) (fun p' hp' => hn p' (List.mem_cons_of_mem _ hp')), cuts_no (hn p (by simp))]
    rfl
theorem mem_jn : ∀ (ds : List BL) (c : UInt8), c ∈ jn ds → c = 47 ∨ ∃ p ∈ ds, c ∈ p
  | [], c, h => by simp [jn] at h
  | [p], c, h => .inr ⟨p, by simp, h⟩
  | p :: q :: r, c, h => by
    simp only [jn, List.mem_append, List.mem_singleton] at h
    rcases h with (h | h) | h
    · exact .inr ⟨p, by simp, h⟩
    · exact .inl h
    · rcases mem_jn (q :: r) c h with h | ⟨p', h1, h2⟩
      · exact .inl h
      · exact .inr ⟨p', List.mem_cons_of_mem _ h1, h2⟩

theorem cfold_tot (x : UInt8) : ∀ (m : BL) (st : List BL × BL), tot (m.foldl (cstep x) st).1 + (m.foldl (cstep x) st).2.length = tot st.1 + st.2.length + m.length
  | [], st => rfl
  | c :: m, st => by
    rw [List.foldl_cons, cfold_tot x m]
    have : tot (cstep x st c).1 + (cstep x st c).2.length = tot st.1 + st.2.length + 1 := by
      unfold cstep
      split
      · simp [tot]; omega
      · simp; omega
    simp only [List.length_cons]
    omega
theorem tot_cuts (x : UInt8) (l : BL) : tot (cuts x l) = l.length + 1 := by
  have := cfold_tot x l ([], [])
  unfold cuts cst
  simp only [tot, List.map_append, List.sum_append, List.map_nil, List.sum_nil, List.length_nil, List.map_cons, List.sum_cons] at this ⊢
  omega
theorem tot_filter (f : BL → Bool) : ∀ ds : List BL, tot (ds.filter f) ≤ tot ds
  | [] => Nat.le_refl _
  | p :: ds => by
    have := tot_filter f ds
    simp only [tot, List.filter_cons, List.map_cons, List.sum_cons] at this ⊢
    split
    · simp only [List.map_cons, List.sum_cons]; omega
    · omega
theorem cfold_mem (x : UInt8) (L : BL) : ∀ (m : BL) (st : List BL × BL), (∀ c ∈ m, c ∈ L) → (∀ p ∈ st.1 ++ [st.2], ∀ c ∈ p, c ≠ x ∧ c ∈ L) → ∀ p ∈ (m.foldl (cstep x) st).1 ++ [(m.foldl (cstep x) st).2], ∀ c ∈ p, c ≠ x ∧ c ∈ L
  | [], st, _, h => h
  | d :: m, st, hm, h => by
    rw [List.foldl_cons]
    refine cfold_mem x L m _ (fun c hc => hm c (List.mem_cons_of_mem _ hc)) ?_
    unfold cstep
    split
    · intro p hp c hc
      simp only [List.mem_append, List.mem_singleton] at hp
      rcases hp with hp | hp
      · exact h p (by simpa using hp) c hc
      · subst hp; simp at hc
    · rename_i hdx
      intro p hp c hc
      simp only [List.mem_append, List.mem_singleton] at hp
      rcases hp with hp | hp
      · exact h p (by simp [hp]) c hc
      · subst hp
        rcases List.mem_append.1 hc with hc | hc
        · exact h st.2 (by simp) c hc
        · simp at hc
          subst hc
          exact ⟨hdx, hm _ (by simp)⟩
theorem cuts_mem (x : UInt8) (l : BL) : ∀ p ∈ cuts x l, ∀ c ∈ p, c ≠ x ∧ c ∈ l := by
  have := cfold_mem x l l ([], []) (fun c hc => hc) (by simp)
  exact this

/-- The parts of parts that are joined are the parts again. -/
theorem again_math (l : BL) (h : chkE l = 0) (hne : partsL l ≠ []) : chkE (jn (partsL l)) = 0 ∧ begB (jn (partsL l)) = false ∧ partsL (jn (partsL l)) = partsL l ∧ (jn (partsL l)).length ≤ 200 ∧ gl (partsL l) = jn (partsL l) ++ [47] := by
  obtain ⟨h1, h2, h3, h4⟩ := (chk0 l).1 h
  have hin : ∀ p ∈ partsL l, p ∈ cuts 47 l ∧ goodP p = true := fun p hp => by
    unfold partsL at hp
    exact List.mem_filter.1 hp
  have hns : ∀ p ∈ partsL l, ∀ c ∈ p, c ≠ 47 := fun p hp c hc => (cuts_mem 47 l p (hin p hp).1 c hc).1
  have hc := cuts_jn (partsL l) hne hns
  have hlen : (jn (partsL l)).length ≤ l.length := by
    have a1 := jn_len (partsL l) hne
    have a2 := tot_filter goodP (cuts 47 l)
    have a3 := tot_cuts 47 l
    unfold partsL at a1 ⊢
    omega
  have hp : partsL (jn (partsL l)) = partsL l := by
    show (cuts 47 (jn (partsL l))).filter goodP = partsL l
    rw [hc]
    exact List.filter_eq_self.2 fun p hp => (hin p hp).2
  have hjne : jn (partsL l) ≠ [] := by
    intro e
    rw [e] at hp
    rw [parts_nil] at hp
    exact hne hp.symm
  refine ⟨?_, ?_, hp, by omega, gl_jn _ hne⟩
  · rw [chk0]
    refine ⟨hjne, ?_, by omega, ?_⟩
    · intro h0
      rcases mem_jn _ _ h0 with h5 | ⟨p, h5, h6⟩
      · exact absurd h5 (by decide)
      · exact h2 (cuts_mem 47 l p (hin p h5).1 0 h6).2
    · unfold tooLong at h4 ⊢
      rw [hc]
      rw [List.any_eq_false] at h4 ⊢
      exact fun p hp => h4 p (hin p hp).1
  · cases hd : partsL l with
    | nil => exact absurd hd hne
    | cons p r =>
      have hpm := hin p (by rw [hd]; simp)
      have hpn : p ≠ [] := by have := hpm.2; simp [goodP] at this; exact this.1
      have hpb : begB p = false := beg_no (hns p (by rw [hd]; simp))
      cases r with
      | nil => exact hpb
      | cons q r => rw [jn, List.append_assoc, beg_app hpn]; exact hpb
end Go.Proofs.Ytgclemicgcbpjaa
