
/- Stage 20, plain: what was laid is read. -/
import Derived.Test.YtihaakcfegelkaaDoorTl1
namespace Go.Proofs.YtihaakcfegelkaaDoor
open Go.RowKit

def U64 (x : Nat) : Prop := x < 18446744073709551616
theorem n8_nums (V : List Nat) (r : BL) (i : Nat) (hi : i < V.length) (h : U64 V[i]) : n8 (numsB V ++ r) (8 * i) = V[i] := by
  have e : numsB V = numsB (V.take i) ++ (leB V[i] 8 ++ numsB (V.drop (i + 1))) := by
    rw [← numsB_one, ← numsB_app, ← numsB_app, List.singleton_append, ← List.drop_eq_getElem_cons hi, List.take_append_drop]
  have hl : (numsB (V.take i)).length = 8 * i := by rw [numsB_len, List.length_take]; omega
  unfold n8
  rw [e, List.append_assoc, List.drop_append_of_le_length (by omega), List.drop_eq_nil_of_le (by omega), List.nil_append, List.append_assoc, List.take_append_of_le_length (by rw [leB_len]; exact Nat.le_refl _), List.take_of_length_le (by rw [leB_len]; exact Nat.le_refl _), le_leB]
  exact Nat.mod_eq_of_lt h
theorem n8_at {V : List Nat} {r : BL} {i p x : Nat} (hv : V[i]? = some x) (h : ∀ y ∈ V, U64 y) (hp : p = 8 * i) : n8 (numsB V ++ r) p = x := by
  obtain ⟨hi, rfl⟩ := List.getElem?_eq_some_iff.1 hv
  subst hp
  exact n8_nums V r i hi (h _ (List.getElem_mem hi))
theorem ns8_nums {V : List Nat} {r : BL} (h : ∀ y ∈ V, U64 y) : ∀ (xs : List Nat) (i p : Nat), (∀ j x, xs[j]? = some x → V[i + j]? = some x) → p = 8 * i → ns8 (numsB V ++ r) p xs.length = xs
  | [], i, p, _, _ => rfl
  | x :: xs, i, p, hv, hp => by
    show n8 (numsB V ++ r) p :: ns8 (numsB V ++ r) (p + 8) xs.length = x :: xs
    rw [n8_at (hv 0 x rfl) h hp, ns8_nums h xs (i + 1) (p + 8) (fun j y hj => by have := hv (j + 1) y hj; rwa [show i + 1 + j = i + (j + 1) by omega]) (by omega)]
theorem envR_nums {V : List Nat} {r : BL} (h : ∀ y ∈ V, U64 y) : ∀ (es : List Nat) (i p f k : Nat), (∀ j x, (es ++ [0])[j]? = some x → V[i + j]? = some x) → (∀ x ∈ es, x ≠ 0) → p = 8 * i → es.length < f → k + es.length ≤ 32 → envR (numsB V ++ r) f p k = (0, es, p + 8 * (es.length + 1))
  | [], i, p, f + 1, k, hv, _, hp, _, _ => by
    have h0 := hv 0 0 rfl
    have hi := (List.getElem?_eq_some_iff.1 h0).1
    unfold envR
    rw [if_neg (by rw [List.length_append, numsB_len]; omega), n8_at h0 h hp, if_pos rfl]
    rfl
  | e :: es, i, p, f + 1, k, hv, hz, hp, hf, hk => by
    have h0 := hv 0 e rfl
    have hi := (List.getElem?_eq_some_iff.1 h0).1
    have ih := envR_nums (r := r) h es (i + 1) (p + 8) f (k + 1) (fun j y hj => by have := hv (j + 1) y hj; rwa [show i + 1 + j = i + (j + 1) by omega]) (fun x hx => hz x (List.mem_cons_of_mem _ hx)) (by omega) (by simp at hf; omega) (by simp at hk; omega)
    unfold envR
    rw [if_neg (by rw [List.length_append, numsB_len]; omega), n8_at h0 h hp, if_neg (hz e (List.mem_cons_self ..)), if_neg (by simp at hk; omega), ih]
    simp only [if_pos, List.length_cons]
    refine Prod.ext rfl (Prod.ext rfl ?_)
    show p + 8 + 8 * (es.length + 1) = p + 8 * (es.length + 1 + 1)
    omega
theorem pairsR_nums {V : List Nat} {r : BL} (h : ∀ y ∈ V, U64 y) : ∀ (xs : List (Nat × Nat)) (i p f k : Nat), (∀ j x, (auxN xs ++ [0, 0])[j]? = some x → V[i + j]? = some x) → (∀ x ∈ xs, x.1 ≠ 0) → p = 8 * i → xs.length < f → k + xs.length ≤ 17 → pairsR (numsB V ++ r) f p k = (0, xs)
  | [], i, p, f + 1, k, hv, _, hp, _, _ => by
    have h0 := hv 0 0 rfl
    have h1 := hv 1 0 rfl
    have hi := (List.getElem?_eq_some_iff.1 h1).1
    unfold pairsR
    rw [if_neg (by rw [List.length_append, numsB_len]; omega), n8_at h0 h hp, if_pos rfl]
  | (a, b) :: xs, i, p, f + 1, k, hv, hz, hp, hf, hk => by
    have e : auxN ((a, b) :: xs) ++ [0, 0] = a :: b :: (auxN xs ++ [0, 0]) := rfl
    have h0 := hv 0 a (by rw [e]; rfl)
    have h1 := hv 1 b (by rw [e]; rfl)
    have hi := (List.getElem?_eq_some_iff.1 h1).1
    have ih := pairsR_nums (r := r) h xs (i + 2) (p + 16) f (k + 1) (fun j y hj => by have := hv (j + 2) y (by rw [e]; exact hj); rwa [show i + 2 + j = i + (j + 2) by omega]) (fun x hx => hz x (List.mem_cons_of_mem _ hx)) (by omega) (by simp at hf; omega) (by simp at hk; omega)
    unfold pairsR
    rw [if_neg (by rw [List.length_append, numsB_len]; omega), n8_at h0 h hp, n8_at h1 h (by omega), if_neg (hz (a, b) (List.mem_cons_self ..)), if_neg (by simp at hk; omega), ih]
    rfl
theorem find0 (s r : BL) (h : ¬ 0 ∈ s) : (s ++ [0] ++ r).findIdx? (· == 0) = some s.length := by
  rw [List.findIdx?_eq_some_iff_getElem]
  refine ⟨by simp, by simp, fun j hj => ?_⟩
  have e : (s ++ [0] ++ r)[j]? = some s[j] := by rw [List.append_assoc, List.getElem?_append_left hj, List.getElem?_eq_getElem hj]
  obtain ⟨h1, h2⟩ := List.getElem?_eq_some_iff.1 e
  rw [h2]
  intro hc
  have : s[j] = 0 := by simpa using hc
  exact h (by rw [← this]; exact List.getElem_mem hj)
theorem textsR_lay (sp : Nat) : ∀ (l : List BL) (pre post : BL) (p : Nat), (∀ s ∈ l, s.length ≤ 256 ∧ ¬ 0 ∈ s) → p = sp + pre.length → textsR (pre ++ (catZ l ++ post)) sp (atsL p l) = (0, l)
  | [], pre, post, p, _, _ => rfl
  | s :: l, pre, post, p, hs, hp => by
    have h1 := hs s (List.mem_cons_self ..)
    have hd : (pre ++ (catZ (s :: l) ++ post)).drop (p - sp) = s ++ [0] ++ (catZ l ++ post) := by
      rw [show p - sp = pre.length by omega, List.drop_left, catZ_cons, List.append_assoc]
    have ht : textR (pre ++ (catZ (s :: l) ++ post)) sp p = (0, s) := by
      unfold textR
      rw [if_neg (by rw [catZ_cons]; simp; omega), hd, find0 s _ h1.2]
      simp only [if_neg (show ¬ 256 < s.length by omega)]
      rw [List.append_assoc, List.take_left]
    have ih := textsR_lay sp l (pre ++ (s ++ [0])) post (p + s.length + 1) (fun t ht => hs t (List.mem_cons_of_mem _ ht)) (by simp; omega)
    have e : pre ++ (s ++ [0]) ++ (catZ l ++ post) = pre ++ (catZ (s :: l) ++ post) := by rw [catZ_cons]; simp
    rw [e] at ih
    show textsR _ sp (p :: atsL (p + s.length + 1) l) = _
    unfold textsR
    rw [ht, ih]
    rfl
theorem atsL_ge (p : Nat) (l : List BL) : ∀ x ∈ atsL p l, p ≤ x ∧ x < p + tbN l := by
  induction l generalizing p with
  | nil => intro x hx; cases hx
  | cons s r ih =>
    intro x hx
    have e : tbN (s :: r) = (s.length + 1) + tbN r := by unfold tbN; rw [List.map_cons, List.sum_cons]
    rcases List.mem_cons.1 hx with rfl | hx
    · omega
    · have := ih (p + s.length + 1) x hx
      omega
theorem chkL_texts {l : List BL} (h : chkL l = 0) : ∀ s ∈ l, s.length ≤ 256 ∧ ¬ 0 ∈ s := by
  have hs := (chkL_small h).2
  unfold chkL at h
  by_cases c1 : 32 < l.length
  · rw [if_pos c1] at h; exact absurd h (by decide)
  · rw [if_neg c1] at h
    by_cases c2 : l.any longB = true
    · rw [if_pos c2] at h; exact absurd h (by decide)
    · rw [if_neg c2] at h
      by_cases c3 : l.any has0 = true
      · rw [if_pos c3] at h; exact absurd h (by decide)
      · intro s hm
        refine ⟨hs s hm, fun h0 => c3 (List.any_eq_true.2 ⟨s, hm, ?_⟩)⟩
        unfold has0; rw [decide_eq_true h0]

/-- The pairs with the path's. -/
def auxX (aux : List (Nat × Nat)) (path : BL) : List (Nat × Nat) := aux ++ [(31, top20 - (path.length + 9))]
theorem readR_layB (argv env : List BL) (aux : List (Nat × Nat)) (path : BL) (hck : chkS argv env aux path = 0) (hN : ¬ 16384 < allN argv env aux path) (h64 : ∀ x ∈ aux, U64 x.1 ∧ U64 x.2) :
    readR (layB argv env aux path) (top20 - allN argv env aux path) = (0, argv, env, auxX aux path) := by
  obtain ⟨ca, ce, ct⟩ := chkS_0 hck
  have ta := chkL_texts ca
  have te := chkL_texts ce
  have na := (chkL_small ca).1
  have ne := (chkL_small ce).1
  obtain ⟨hp, hx, _, hk⟩ := chkT_0 ct
  have hge := allN_ge argv env aux path
  have hlen := layB_len argv env aux path
  have htl := txtB_len argv env path
  have hzl := catZ_len argv
  have h16 : allN argv env aux path % 16 = 0 := by unfold allN; omega
  obtain ⟨T, hT⟩ : ∃ T, T = (txtB argv env path).length := ⟨_, rfl⟩
  obtain ⟨N, hNN⟩ : ∃ N, N = allN argv env aux path := ⟨_, rfl⟩
  have hTN : T ≤ N := by omega
  have hN2 : N ≤ 16384 := by omega
  obtain ⟨V, hV⟩ : ∃ V, V = vecN argv env aux path := ⟨_, rfl⟩
  have hVl : V.length = numN argv env aux := by rw [hV]; exact vecN_len argv env aux path
  have hVe : V = [argv.length] ++ (atsL (top20 - T) argv ++ ([0] ++ (atsL (top20 - T + (catZ argv).length) env ++ ([0] ++ (auxN (auxX aux path) ++ [0, 0]))))) := by
    rw [hV, hT]; unfold vecN auxX; simp [auxN]
  have hm : ∀ x ∈ auxN (auxX aux path), U64 x := by
    intro x hx
    unfold auxN auxX at hx
    rw [List.mem_flatMap] at hx
    obtain ⟨y, hy, hxy⟩ := hx
    rcases List.mem_append.1 hy with hy | hy
    · simp only [List.mem_cons, List.not_mem_nil, or_false] at hxy
      rcases hxy with rfl | rfl
      · exact (h64 y hy).1
      · exact (h64 y hy).2
    · rw [List.mem_singleton.1 hy] at hxy
      simp only [List.mem_cons, List.not_mem_nil, or_false] at hxy
      unfold U64
      rcases hxy with rfl | rfl
      · decide
      · unfold top20; omega
  have hU : ∀ y ∈ V, U64 y := by
    intro y hy
    rw [hVe] at hy
    simp only [List.mem_append, List.mem_cons, List.not_mem_nil, or_false] at hy
    unfold U64
    rcases hy with rfl | hy | rfl | hy | rfl | hy | rfl | rfl
    · omega
    · have := atsL_ge _ _ y hy; unfold top20 at this; omega
    · omega
    · have := atsL_ge _ _ y hy; unfold top20 at this; omega
    · omega
    · exact hm y hy
    · omega
    · omega
  obtain ⟨R, hR⟩ : ∃ R, R = List.replicate (N - (numN argv env aux * 8 + T)) (0 : UInt8) ++ txtB argv env path := ⟨_, rfl⟩
  have hB : layB argv env aux path = numsB V ++ R := by unfold layB; rw [hV, hR, hNN, hT]
  have idx : ∀ (pre mid post : List Nat) (i : Nat), V = pre ++ (mid ++ post) → i = pre.length → ∀ j x, mid[j]? = some x → V[i + j]? = some x := by
    intro pre mid post i hv hi j x hj
    have hjl := (List.getElem?_eq_some_iff.1 hj).1
    rw [hv, hi, List.getElem?_append_right (by omega), show pre.length + j - pre.length = j by omega, List.getElem?_append_left hjl]
    exact hj
  have hA := atsL_len (top20 - T) argv
  have hE := atsL_len (top20 - T + (catZ argv).length) env
  have a1 : n8 (numsB V ++ R) 0 = argv.length := n8_at (i := 0) (by rw [hVe]; rfl) hU rfl
  have a2 : n8 (numsB V ++ R) (8 + 8 * argv.length) = 0 := n8_at (i := 1 + argv.length) (by
    have := idx ([argv.length] ++ atsL (top20 - T) argv) [0] (atsL (top20 - T + (catZ argv).length) env ++ ([0] ++ (auxN (auxX aux path) ++ [0, 0]))) (1 + argv.length) (by rw [hVe]; simp) (by simp [hA]; omega) 0 0 rfl
    exact this) hU (by omega)
  have a3 : ns8 (numsB V ++ R) 8 argv.length = atsL (top20 - T) argv := by
    have := ns8_nums (r := R) hU (atsL (top20 - T) argv) 1 8 (idx [argv.length] _ _ 1 hVe rfl) rfl
    rwa [hA] at this
  have hl : (numsB V ++ R).length = N := by rw [← hB, hlen, hNN]
  have hnum : numN argv env aux = 1 + argv.length + 1 + env.length + 1 + 2 * aux.length + 4 := rfl
  have eA : argsR (numsB V ++ R) = (0, atsL (top20 - T) argv, 16 + 8 * argv.length) := by
    unfold argsR
    rw [if_neg (by omega), a1, if_neg (by omega), if_neg (by omega), a2, if_neg (by simp), a3]
  have eE : envR (numsB V ++ R) 33 (16 + 8 * argv.length) 0 = (0, atsL (top20 - T + (catZ argv).length) env, 16 + 8 * argv.length + 8 * (env.length + 1)) := by
    have := envR_nums (r := R) hU (atsL (top20 - T + (catZ argv).length) env) (2 + argv.length) (16 + 8 * argv.length) 33 0 (idx ([argv.length] ++ (atsL (top20 - T) argv ++ [0])) _ (auxN (auxX aux path) ++ [0, 0]) (2 + argv.length) (by rw [hVe]; simp) (by simp [hA]; omega)) (fun x hx => by have := atsL_ge _ _ x hx; unfold top20 at this; omega) (by omega) (by rw [hE]; omega) (by rw [hE]; omega)
    rwa [hE] at this
  have eP : pairsR (numsB V ++ R) 18 (16 + 8 * argv.length + 8 * (env.length + 1)) 0 = (0, auxX aux path) := by
    refine pairsR_nums hU (auxX aux path) (3 + argv.length + env.length) _ 18 0 (idx ([argv.length] ++ (atsL (top20 - T) argv ++ ([0] ++ (atsL (top20 - T + (catZ argv).length) env ++ [0])))) _ [] (3 + argv.length + env.length) (by rw [hVe]; simp) (by simp [hA, hE]; omega)) (fun x hx => ?_) (by omega) (by unfold auxX; simp; omega) (by unfold auxX; simp; omega)
    unfold auxX at hx
    rcases List.mem_append.1 hx with hx | hx
    · have := (List.any_eq_false.1 hk) x hx
      unfold keyBad at this
      simp at this
      exact this.1
    · rw [List.mem_singleton.1 hx]; show (31 : Nat) ≠ 0; decide
  have hpre : (numsB V ++ List.replicate (N - (numN argv env aux * 8 + T)) (0 : UInt8)).length = N - T := by rw [List.length_append, numsB_len, hVl, List.length_replicate]; omega
  have eTA : textsR (numsB V ++ R) (top20 - N) (atsL (top20 - T) argv) = (0, argv) := by
    have := textsR_lay (top20 - N) argv (numsB V ++ List.replicate (N - (numN argv env aux * 8 + T)) 0) (catZ env ++ (path ++ [0] ++ List.replicate 8 0)) (top20 - T) ta (by rw [hpre]; unfold top20; omega)
    rw [List.append_assoc] at this
    rw [hR]
    exact this
  have eTE : textsR (numsB V ++ R) (top20 - N) (atsL (top20 - T + (catZ argv).length) env) = (0, env) := by
    have := textsR_lay (top20 - N) env (numsB V ++ (List.replicate (N - (numN argv env aux * 8 + T)) 0 ++ catZ argv)) (path ++ [0] ++ List.replicate 8 0) (top20 - T + (catZ argv).length) te (by rw [← List.append_assoc, List.length_append, hpre]; unfold top20; omega)
    rw [hR]
    unfold txtB
    rw [List.append_assoc, List.append_assoc] at this
    exact this
  rw [hB, ← hNN]
  unfold readR
  rw [if_neg (by rw [hl]; unfold top20; omega), eA]
  simp only [ne_eq, not_true_eq_false, if_false]
  rw [eE]
  simp only [ne_eq, not_true_eq_false, if_false]
  rw [eP, eTA, eTE]
  rfl
end Go.Proofs.YtihaakcfegelkaaDoor
