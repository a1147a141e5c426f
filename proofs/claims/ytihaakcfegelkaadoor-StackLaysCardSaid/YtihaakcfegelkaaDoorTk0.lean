
/- Stage 20, plain: what the bytes of a stack say. -/
import Derived.Test.YtihaakcfegelkaaDoorM1
namespace Go.Proofs.YtihaakcfegelkaaDoor

/-- The number of eight bytes from p on. -/
def n8 (l : List UInt8) (p : Nat) : Nat := le ((l.drop p).take 8)
def ns8 (l : List UInt8) (p : Nat) : Nat → List Nat
  | 0 => []
  | k + 1 => n8 l p :: ns8 l (p + 8) k
theorem ns8_len (l : List UInt8) (p k : Nat) : (ns8 l p k).length = k := by
  induction k generalizing p with
  | zero => rfl
  | succ k ih => simp [ns8, ih]
theorem ns8_snoc (l : List UInt8) (p k : Nat) : ns8 l p (k + 1) = ns8 l p k ++ [n8 l (p + 8 * k)] := by
  induction k generalizing p with
  | zero => rfl
  | succ k ih =>
    show n8 l p :: ns8 l (p + 8) (k + 1) = (n8 l p :: ns8 l (p + 8) k) ++ [n8 l (p + 8 * (k + 1))]
    rw [ih, List.cons_append, show p + 8 + 8 * k = p + 8 * (k + 1) by omega]
theorem n8_lt (l : List UInt8) (p : Nat) (h : p + 8 ≤ l.length) : n8 l p < 18446744073709551616 := le_take_lt l p 8 h

/-- The arguments' addresses: an error, they, and where it goes on. -/
def argsR (l : List UInt8) : Int × List Nat × Nat :=
  if l.length < 8 then (25, [], 0)
  else if 32 < n8 l 0 then (12, [], 8)
  else if l.length < 16 + 8 * n8 l 0 then (25, [], 8)
  else if n8 l (8 + 8 * n8 l 0) ≠ 0 then (25, [], 8)
  else (0, ns8 l 8 (n8 l 0), 16 + 8 * n8 l 0)
/-- The environment's, p where it reads and k how many it has: fuel 33 - k is enough. -/
def envR (l : List UInt8) : Nat → Nat → Nat → Int × List Nat × Nat
  | 0, _, _ => (25, [], 0)
  | f + 1, p, k => if l.length < p + 8 then (25, [], p) else if n8 l p = 0 then (0, [], p + 8) else if k = 32 then (12, [], p)
    else ((envR l f (p + 8) (k + 1)).1, if (envR l f (p + 8) (k + 1)).1 = 0 then n8 l p :: (envR l f (p + 8) (k + 1)).2.1 else [], (envR l f (p + 8) (k + 1)).2.2)
/-- The pairs, as envR. -/
def pairsR (l : List UInt8) : Nat → Nat → Nat → Int × List (Nat × Nat)
  | 0, _, _ => (25, [])
  | f + 1, p, k => if l.length < p + 16 then (25, []) else if n8 l p = 0 then (0, []) else if k = 17 then (12, [])
    else ((pairsR l f (p + 16) (k + 1)).1, if (pairsR l f (p + 16) (k + 1)).1 = 0 then (n8 l p, n8 l (p + 8)) :: (pairsR l f (p + 16) (k + 1)).2 else [])
/-- The text at an address. -/
def textR (l : List UInt8) (sp a : Nat) : Int × List UInt8 :=
  if a < sp ∨ l.length ≤ a - sp then (25, [])
  else match (l.drop (a - sp)).findIdx? (· == 0) with
    | none => (25, [])
    | some i => if 256 < i then (12, []) else (0, (l.drop (a - sp)).take i)
def textsR (l : List UInt8) (sp : Nat) : List Nat → Int × List (List UInt8)
  | [] => (0, [])
  | a :: as => if (textR l sp a).1 ≠ 0 then ((textR l sp a).1, []) else if (textsR l sp as).1 ≠ 0 then ((textsR l sp as).1, []) else (0, (textR l sp a).2 :: (textsR l sp as).2)
/-- What a stack says. -/
def readR (l : List UInt8) (sp : Nat) : Int × List (List UInt8) × List (List UInt8) × List (Nat × Nat) :=
  if sp % 16 ≠ 0 ∨ sp + l.length ≠ 140737488351232 then (25, [], [], [])
  else if (argsR l).1 ≠ 0 then ((argsR l).1, [], [], [])
  else if (envR l 33 (argsR l).2.2 0).1 ≠ 0 then ((envR l 33 (argsR l).2.2 0).1, [], [], [])
  else if (pairsR l 18 (envR l 33 (argsR l).2.2 0).2.2 0).1 ≠ 0 then ((pairsR l 18 (envR l 33 (argsR l).2.2 0).2.2 0).1, [], [], [])
  else if (textsR l sp (argsR l).2.1).1 ≠ 0 then ((textsR l sp (argsR l).2.1).1, [], [], [])
  else if (textsR l sp (envR l 33 (argsR l).2.2 0).2.1).1 ≠ 0 then ((textsR l sp (envR l 33 (argsR l).2.2 0).2.1).1, [], [], [])
  else (0, (textsR l sp (argsR l).2.1).2, (textsR l sp (envR l 33 (argsR l).2.2 0).2.1).2, (pairsR l 18 (envR l 33 (argsR l).2.2 0).2.2 0).2)

/-- Each error is Form or Big, and behind an error there is nothing. -/
def FB (e : Int) : Prop := e = 0 ∨ e = 25 ∨ e = 12
theorem argsR_fb (l : List UInt8) : FB (argsR l).1 ∧ (argsR l).2.1.length ≤ 32 := by
  unfold argsR FB
  by_cases c1 : l.length < 8
  · simp [c1]
  · by_cases c2 : 32 < n8 l 0
    · simp [c1, c2]
    · by_cases c3 : l.length < 16 + 8 * n8 l 0
      · simp [c1, c2, c3]
      · by_cases c4 : n8 l (8 + 8 * n8 l 0) ≠ 0
        · simp [c1, c2, c3, c4]
        · rw [if_neg c1, if_neg c2, if_neg c3, if_neg c4]
          exact ⟨.inl rfl, by rw [ns8_len]; omega⟩
theorem envR_fb (l : List UInt8) (f p k : Nat) (hk : k ≤ 32) : FB (envR l f p k).1 ∧ k + (envR l f p k).2.1.length ≤ 32 := by
  induction f generalizing p k with
  | zero => exact ⟨.inr (.inl rfl), by simpa [envR] using hk⟩
  | succ f ih =>
    unfold envR
    by_cases c1 : l.length < p + 8
    · rw [if_pos c1]; exact ⟨.inr (.inl rfl), by simpa using hk⟩
    · rw [if_neg c1]
      by_cases c2 : n8 l p = 0
      · rw [if_pos c2]; exact ⟨.inl rfl, by simpa using hk⟩
      · rw [if_neg c2]
        by_cases c3 : k = 32
        · rw [if_pos c3]; exact ⟨.inr (.inr rfl), by simpa using hk⟩
        · rw [if_neg c3]
          obtain ⟨h1, h2⟩ := ih (p + 8) (k + 1) (by omega)
          refine ⟨h1, ?_⟩
          show k + (if _ then _ else _ : List Nat).length ≤ 32
          split
          · rw [List.length_cons]; omega
          · simpa using hk
theorem pairsR_fb (l : List UInt8) (f p k : Nat) (hk : k ≤ 17) : FB (pairsR l f p k).1 ∧ k + (pairsR l f p k).2.length ≤ 17 ∧ ∀ x ∈ (pairsR l f p k).2, x.1 ≠ 0 := by
  induction f generalizing p k with
  | zero => exact ⟨.inr (.inl rfl), by simpa [pairsR] using hk, fun x hx => by simp [pairsR] at hx⟩
  | succ f ih =>
    unfold pairsR
    by_cases c1 : l.length < p + 16
    · rw [if_pos c1]; exact ⟨.inr (.inl rfl), by simpa using hk, fun x hx => by cases hx⟩
    · rw [if_neg c1]
      by_cases c2 : n8 l p = 0
      · rw [if_pos c2]; exact ⟨.inl rfl, by simpa using hk, fun x hx => by cases hx⟩
      · rw [if_neg c2]
        by_cases c3 : k = 17
        · rw [if_pos c3]; exact ⟨.inr (.inr rfl), by simpa using hk, fun x hx => by cases hx⟩
        · rw [if_neg c3]
          obtain ⟨h1, h2, h3⟩ := ih (p + 16) (k + 1) (by omega)
          refine ⟨h1, ?_, ?_⟩
          · show k + (if _ then _ else _ : List (Nat × Nat)).length ≤ 17
            split
            · rw [List.length_cons]; omega
            · simpa using hk
          · intro x hx
            replace hx : x ∈ (if _ then _ else _ : List (Nat × Nat)) := hx
            split at hx
            · rcases List.mem_cons.1 hx with rfl | hx
              · exact c2
              · exact h3 x hx
            · cases hx
/-- Does s lie in l, a nought behind it? -/
def InB (l s : List UInt8) : Prop := ∃ i, ∃ h : i + s.length < l.length, l[i + s.length] = 0 ∧ (l.drop i).take s.length = s
theorem textR_in (l : List UInt8) (sp a : Nat) : FB (textR l sp a).1 ∧ ((textR l sp a).1 = 0 → (textR l sp a).2.length ≤ 256 ∧ InB l (textR l sp a).2) := by
  unfold textR
  by_cases c1 : a < sp ∨ l.length ≤ a - sp
  · rw [if_pos c1]; exact ⟨.inr (.inl rfl), fun h => by cases h⟩
  · rw [if_neg c1]
    cases hf : (l.drop (a - sp)).findIdx? (· == 0) with
    | none => exact ⟨.inr (.inl rfl), fun h => by cases h⟩
    | some i =>
      show FB (if 256 < i then _ else _ : Int × List UInt8).1 ∧ _
      by_cases c2 : 256 < i
      · simp only [if_pos c2]
        exact ⟨.inr (.inr rfl), fun h => by cases h⟩
      · simp only [if_neg c2]
        refine ⟨.inl rfl, fun _ => ?_⟩
        obtain ⟨h1, h2, _⟩ := List.findIdx?_eq_some_iff_getElem.1 hf
        have hl : ((l.drop (a - sp)).take i).length = i := by rw [List.length_take]; omega
        refine ⟨by rw [hl]; omega, a - sp, ?_, ?_, ?_⟩
        · rw [hl]; rw [List.length_drop] at h1; omega
        · simp only [hl]
          rw [List.getElem_drop] at h2
          simpa using h2
        · rw [hl]
theorem textsR_in (l : List UInt8) (sp : Nat) (as : List Nat) : FB (textsR l sp as).1 ∧ (textsR l sp as).2.length ≤ as.length ∧ ∀ s ∈ (textsR l sp as).2, s.length ≤ 256 ∧ InB l s := by
  induction as with
  | nil => exact ⟨.inl rfl, Nat.le_refl _, fun s hs => by cases hs⟩
  | cons a as ih =>
    obtain ⟨h1, h2⟩ := textR_in l sp a
    obtain ⟨h3, h4, h5⟩ := ih
    unfold textsR
    by_cases c1 : (textR l sp a).1 ≠ 0
    · rw [if_pos c1]; exact ⟨h1, Nat.zero_le _, fun s hs => by cases hs⟩
    · rw [if_neg c1]
      by_cases c2 : (textsR l sp as).1 ≠ 0
      · rw [if_pos c2]; exact ⟨h3, Nat.zero_le _, fun s hs => by cases hs⟩
      · rw [if_neg c2]
        refine ⟨.inl rfl, by simpa using h4, fun s hs => ?_⟩
        rcases List.mem_cons.1 hs with rfl | hs
        · exact h2 (by simpa using c1)
        · exact h5 s hs

/-- What a stack tells keeps to the limits. -/
theorem readR_tells (l : List UInt8) (sp : Nat) : FB (readR l sp).1 ∧ ((readR l sp).1 ≠ 0 → (readR l sp).2 = ([], [], [])) ∧ (readR l sp).2.1.length ≤ 32 ∧ (readR l sp).2.2.1.length ≤ 32 ∧ (readR l sp).2.2.2.length ≤ 17 ∧
    (∀ s ∈ (readR l sp).2.1, s.length ≤ 256 ∧ InB l s) ∧ (∀ s ∈ (readR l sp).2.2.1, s.length ≤ 256 ∧ InB l s) ∧ (∀ x ∈ (readR l sp).2.2.2, x.1 ≠ 0) := by
  have no : ∀ e : Int, FB e → FB (e, ([] : List (List UInt8)), ([] : List (List UInt8)), ([] : List (Nat × Nat))).1 ∧ (e ≠ 0 → (([] : List (List UInt8)), ([] : List (List UInt8)), ([] : List (Nat × Nat))) = ([], [], [])) ∧ ([] : List (List UInt8)).length ≤ 32 ∧ ([] : List (List UInt8)).length ≤ 32 ∧ ([] : List (Nat × Nat)).length ≤ 17 ∧
      (∀ s ∈ ([] : List (List UInt8)), s.length ≤ 256 ∧ InB l s) ∧ (∀ s ∈ ([] : List (List UInt8)), s.length ≤ 256 ∧ InB l s) ∧ (∀ x ∈ ([] : List (Nat × Nat)), x.1 ≠ 0) :=
    fun e h => ⟨h, fun _ => rfl, by simp, by simp, by simp, fun s hs => (by cases hs), fun s hs => (by cases hs), fun x hx => (by cases hx)⟩
  unfold readR
  by_cases c1 : sp % 16 ≠ 0 ∨ sp + l.length ≠ 140737488351232
  · rw [if_pos c1]; exact no 25 (.inr (.inl rfl))
  · rw [if_neg c1]
    by_cases c2 : (argsR l).1 ≠ 0
    · rw [if_pos c2]; exact no _ (argsR_fb l).1
    · rw [if_neg c2]
      obtain ⟨e1, e2⟩ := envR_fb l 33 (argsR l).2.2 0 (by omega)
      generalize envR l 33 (argsR l).2.2 0 = E at *
      by_cases c3 : E.1 ≠ 0
      · rw [if_pos c3]; exact no _ e1
      · rw [if_neg c3]
        obtain ⟨p1, p2, p3⟩ := pairsR_fb l 18 E.2.2 0 (by omega)
        generalize pairsR l 18 E.2.2 0 = P at *
        by_cases c4 : P.1 ≠ 0
        · rw [if_pos c4]; exact no _ p1
        · rw [if_neg c4]
          obtain ⟨a1, a2, a3⟩ := textsR_in l sp (argsR l).2.1
          obtain ⟨b1, b2, b3⟩ := textsR_in l sp E.2.1
          have a4 := (argsR_fb l).2
          generalize textsR l sp (argsR l).2.1 = A at *
          generalize textsR l sp E.2.1 = B at *
          by_cases c5 : A.1 ≠ 0
          · rw [if_pos c5]; exact no _ a1
          · rw [if_neg c5]
            by_cases c6 : B.1 ≠ 0
            · rw [if_pos c6]; exact no _ b1
            · rw [if_neg c6]
              exact ⟨.inl rfl, fun h => absurd rfl h, Nat.le_trans a2 a4, by show B.2.length ≤ 32; omega, by show P.2.length ≤ 17; omega, a3, b3, p3⟩
end Go.Proofs.YtihaakcfegelkaaDoor
