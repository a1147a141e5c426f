
/- Merged: FL0 FL1. -/
import Derived.Test.YtfaohejdaabalaaGreatDoorFC
import Derived.Test.YtfaohejdaabalaaGreatDoorKE
import Derived.Test.YtfaohejdaabalaaGreatDoorF5
namespace Go.Proofs.YtfaohejdaabalaaGreatDoor
open Go.RowKit Go.Sort

theorem jn_is : ∀ ds : List BL, Lib.join ds [47] = jn ds
  | [] => rfl
  | [p] => by simp [Lib.join, jn, List.intercalate]
  | p :: q :: r => by
    have := jn_is (q :: r)
    unfold Lib.join at this ⊢
    rw [jn, ← this]
    simp [List.intercalate, List.intersperse]
theorem pathJ_is (ds : List BL) : pathJ ds = 47 :: jn ds := by unfold pathJ; rw [jn_is]
theorem pathJ_len (ds : List BL) (h : ds ≠ []) : (pathJ ds).length = tot ds := by
  have := jn_len ds h
  rw [pathJ_is, List.length_cons]; omega
structure GoodD (ds : List BL) : Prop where
  each : ∀ p ∈ ds, goodP p = true ∧ p.length ≤ 32 ∧ ∀ c ∈ p, c ≠ 47 ∧ c ≠ 0
  len : (pathJ ds).length ≤ 200
theorem pathJ_mid (ds : List BL) : pathJ ds = [] ++ [47] ++ jn ds := by rw [pathJ_is]; rfl
theorem long_iff (l : BL) : tooLong l = false ↔ ∀ p ∈ cuts 47 l, p.length ≤ 32 := by
  unfold tooLong
  rw [List.any_eq_false]
  constructor
  · intro h p hp; have := h p hp; simp at this; omega
  · intro h p hp; have := h p hp; simp; omega
theorem goodD_chk {ds : List BL} (h : GoodD ds) : chkE (pathJ ds) = 0 ∧ partsF (pathJ ds) = ds ∧ rootF (pathJ ds) = true := by
  have hc : chkE (pathJ ds) = 0 := by
    by_cases he : ds = []
    · subst he; rw [pathJ_is]; decide
    · refine (chk0 _).2 ⟨by rw [pathJ_is]; simp, ?_, h.len, ?_⟩
      · rw [pathJ_is]
        intro h0
        rcases List.mem_cons.1 h0 with h1 | h1
        · cases h1
        · rcases mem_jn ds 0 h1 with h2 | ⟨p, hp, h2⟩
          · cases h2
          · exact ((h.each p hp).2.2 0 h2).2 rfl
      · rw [pathJ_mid, long_mid, show tooLong [] = false by decide, Bool.false_or]
        rw [long_iff, cuts_jn ds he (fun p hp c hcc => ((h.each p hp).2.2 c hcc).1)]
        exact fun p hp => (h.each p hp).2.1
  refine ⟨hc, ?_, ?_⟩
  · unfold partsF
    rw [if_pos hc, pathJ_mid, parts_mid, parts_nil, List.nil_append]
    by_cases he : ds = []
    · subst he; exact parts_nil
    · unfold partsL
      rw [cuts_jn ds he (fun p hp c hcc => ((h.each p hp).2.2 c hcc).1)]
      exact List.filter_eq_self.2 fun p hp => (h.each p hp).1
  · unfold rootF
    rw [decide_eq_true hc, pathJ_is]
    rfl
theorem tot_snoc (ds : List BL) (p : BL) : tot (ds ++ [p]) = tot ds + (p.length + 1) := by simp [tot]
theorem goodD_nil : GoodD [] := ⟨fun p hp => by simp at hp, by rw [pathJ_is]; decide⟩
theorem goodD_init {ds : List BL} {p : BL} (h : GoodD (ds ++ [p])) : GoodD ds := by
  refine ⟨fun q hq => h.each q (List.mem_append_left _ hq), ?_⟩
  by_cases he : ds = []
  · subst he; exact goodD_nil.len
  · have h1 := pathJ_len ds he
    have h2 := pathJ_len (ds ++ [p]) (by simp)
    have h3 := h.len
    rw [tot_snoc] at h2
    omega
theorem goodD_of {l : BL} (h : chkE l = 0) (hr : rootF l = true) : GoodD (partsF l) := by
  obtain ⟨h1, h2, h3, h4⟩ := (chk0 l).1 h
  have hp : partsF l = partsL l := by unfold partsF; rw [if_pos h]
  rw [hp]
  refine ⟨fun p hm => ?_, ?_⟩
  · unfold partsL at hm
    obtain ⟨m1, m2⟩ := List.mem_filter.1 hm
    refine ⟨m2, (long_iff l).1 h4 p m1, fun c hc => ?_⟩
    obtain ⟨c1, c2⟩ := cuts_mem 47 l p m1 c hc
    exact ⟨c1, fun e => h2 (e ▸ c2)⟩
  · by_cases he : partsL l = []
    · rw [he]; exact goodD_nil.len
    · rw [pathJ_len _ he]
      have hb : begB l = true := by
        unfold rootF at hr
        rw [Bool.and_eq_true] at hr
        exact hr.2
      obtain ⟨r, rfl⟩ : ∃ r, l = [] ++ [47] ++ r := by
        unfold begB at hb
        cases l with
        | nil => exact absurd rfl h1
        | cons c r => simp at hb; subst hb; exact ⟨r, rfl⟩
      rw [parts_mid, parts_nil, List.nil_append]
      have a2 := tot_filter goodP (cuts 47 r)
      have a3 := tot_cuts 47 r
      unfold partsL
      simp at h3
      omega
theorem goodD_inj {a b : List BL} (h1 : GoodD a) (h2 : GoodD b) (e : pathJ a = pathJ b) : a = b := by
  rw [← (goodD_chk h1).2.1, ← (goodD_chk h2).2.1, e]
theorem jn_snoc {ds : List BL} {p : BL} (h : ds ≠ []) : jn (ds ++ [p]) = jn ds ++ [47] ++ p := by
  have h1 := gl_jn (ds ++ [p]) (by simp)
  rw [gl_snoc, gl_jn ds h] at h1
  exact (List.append_cancel_right h1).symm
theorem dirJ {ds : List BL} {p : BL} (h : GoodD (ds ++ [p])) : dirL (pathJ (ds ++ [p])) = pathJ ds := by
  have hp : ∀ c ∈ p, c ≠ 47 := fun c hc => ((h.each p (by simp)).2.2 c hc).1
  by_cases he : ds = []
  · subst he
    have e : pathJ ([] ++ [p]) = [] ++ [47] ++ p := by rw [pathJ_is]; rfl
    rw [e]
    unfold dirL
    rw [(lastI_at hp).1]
    rfl
  · have e : pathJ (ds ++ [p]) = pathJ ds ++ [47] ++ p := by rw [pathJ_is, jn_snoc he, pathJ_is]; simp
    have hl : 0 < (pathJ ds).length := by rw [pathJ_is]; simp
    rw [e]
    unfold dirL
    rw [(lastI_at hp).1, if_neg (by omega), if_neg (by omega)]
    rw [Int.toNat_natCast, List.append_assoc, List.take_left]

theorem lookI_snoc (l : List (BL × Nat)) (nm : BL) (n : Nat) (q : BL) : lookI (l ++ [(nm, n)]) q = if nm = q then some n else lookI l q := by
  unfold lookI
  rw [List.reverse_append, List.reverse_singleton, List.singleton_append, List.find?_cons]
  by_cases h : nm = q
  · simp [h]
  · simp [h]
theorem lookI_none {l : List (BL × Nat)} {q : BL} (h : lookI l q = none) : ∀ x ∈ l, x.1 ≠ q := by
  unfold lookI at h
  rw [Option.map_eq_none_iff, List.find?_eq_none] at h
  intro x hx e
  exact h x (List.mem_reverse.2 hx) (decide_eq_true e)
theorem lookK_none {L : List ND} {q : BL} (h : lookK L q = none) : ∀ i, i < L.length → (L.getD i default).path ≠ q := fun i hi =>
  lookI_none h ((L.getD i default).path, i) (List.mem_map.2 ⟨i, List.mem_range.2 hi, rfl⟩)
theorem lookK_path {L : List ND} {q : BL} {j : Nat} (h : lookK L q = some j) : j < L.length ∧ (L.getD j default).path = q := by
  obtain ⟨i, hi, e⟩ := List.mem_map.1 (lookI_mem h)
  cases e
  exact ⟨List.mem_range.1 hi, rfl⟩

/-- The tree: each node's parts. -/
structure Lay (L : List ND) (P : Nat → List BL) : Prop where
  pos : 0 < L.length
  zero : P 0 = []
  root : (L.getD 0 default).kind = 2
  path : ∀ i, i < L.length → (L.getD i default).path = pathJ (P i)
  good : ∀ i, i < L.length → GoodD (P i)
  step : ∀ i, 0 < i → i < L.length → (L.getD i default).up < i ∧ (L.getD (L.getD i default).up default).kind = 2 ∧ ∃ nm, P i = P (L.getD i default).up ++ [nm] ∧ nm ≠ dotdot ∧ lookI (L.getD (L.getD i default).up default).names nm = some i
theorem lay0 : Lay [root0] (fun _ => []) := by
  refine ⟨by simp, rfl, rfl, fun i hi => ?_, fun _ _ => goodD_nil, fun i h0 hi => by simp at hi; omega⟩
  obtain rfl : i = 0 := by simp at hi; omega
  rw [pathJ_is]; rfl
/-- What is known of the node of an entry. -/
structure Of (nd : ND) (x : EN) : Prop where
  kind : nd.kind = x.kind
  to : nd.to = x.to
  data : nd.data = x.data
  right : rightK x = true
theorem addE_ok {L : List ND} {x : EN} (h : (addE L x).1 = 0) : ∃ ds j, entP x = some ds ∧ lookK L (pathJ ds) = none ∧ lookK L (pathJ ds.dropLast) = some j ∧ (L.getD j default).kind = 2 ∧ (addE L x).2 = addN L j (ds.getLastD []) (newN ds j x) := by
  cases he : entP x with
  | none => rw [addE_1 he] at h; cases h
  | some ds =>
    by_cases hd : 65536 < x.data.length
    · rw [addE_12 he hd] at h; cases h
    · cases hk : lookK L (pathJ ds) with
      | some j => rw [addE_7 he hd hk] at h; cases h
      | none =>
        cases hu : lookK L (pathJ ds.dropLast) with
        | none => rw [addE_3 he hd hk hu] at h; cases h
        | some j =>
          by_cases h2 : (L.getD j default).kind = 2
          · exact ⟨ds, j, rfl, hk, hu, h2, by rw [addE_0 he hd hk hu h2]⟩
          · rw [addE_8 he hd hk hu h2] at h; cases h
theorem lay_add {L : List ND} {P : Nat → List BL} {x : EN} (hL : Lay L P) (h : (addE L x).1 = 0) :
    ∃ P', Lay (addE L x).2 P' ∧ (∀ i, i < L.length → ∃ ns, (addE L x).2.getD i default = { L.getD i default with names := ns }) ∧ Of ((addE L x).2.getD L.length default) x := by
  obtain ⟨ds, j, he, hk, hu, h2, e⟩ := addE_ok h
  obtain ⟨rfl, hr, _, _, hch, hro, hne, hdd⟩ := entP_is he
  have hG := goodD_of hch hro
  generalize partsF x.path = ds at *
  obtain ⟨l, nm, rfl⟩ : ∃ l nm, ds = l ++ [nm] := by
    rcases ds.eq_nil_or_concat with h | ⟨l, nm, h⟩
    · exact absurd h hne
    · exact ⟨l, nm, by simpa using h⟩
  rw [List.dropLast_concat] at hu
  rw [List.getLastD_concat] at e
  obtain ⟨hj, hjp⟩ := lookK_path hu
  have hPj : P j = l := goodD_inj (hL.good j hj) (goodD_init hG) (by rw [← hL.path j hj, hjp])
  have hno := lookK_none hk
  rw [e]
  have hnm : nm ≠ dotdot := by
    unfold dotB at hdd
    rw [List.any_eq_false] at hdd
    have := hdd nm (by simp)
    simpa [dotdot] using this
  have hnew : (addN L j nm (newN (l ++ [nm]) j x)).getD L.length default = newN (l ++ [nm]) j x := addN_new ..
  have hup : ∀ i, i < L.length → ((addN L j nm (newN (l ++ [nm]) j x)).getD i default).up = (L.getD i default).up := fun i hi => by
    obtain ⟨ns, h1, _⟩ := addN_same L j nm (newN (l ++ [nm]) j x) hi; rw [h1]
  have hkd : ∀ i, i < L.length → ((addN L j nm (newN (l ++ [nm]) j x)).getD i default).kind = (L.getD i default).kind := fun i hi => by
    obtain ⟨ns, h1, _⟩ := addN_same L j nm (newN (l ++ [nm]) j x) hi; rw [h1]
  have hpa : ∀ i, i < L.length → ((addN L j nm (newN (l ++ [nm]) j x)).getD i default).path = (L.getD i default).path := fun i hi => by
    obtain ⟨ns, h1, _⟩ := addN_same L j nm (newN (l ++ [nm]) j x) hi; rw [h1]
  refine ⟨fun i => if i = L.length then l ++ [nm] else P i, ?_, fun i hi => ?_, ?_⟩
  · have hpos := hL.pos
    refine ⟨by rw [addN_len]; omega, ?_, ?_, fun i hi => ?_, fun i hi => ?_, fun i h0 hi => ?_⟩
    · rw [if_neg (by omega)]; exact hL.zero
    · rw [hkd 0 hL.pos]; exact hL.root
    · rw [addN_len] at hi
      by_cases hil : i = L.length
      · subst hil; rw [if_pos rfl, hnew]; rfl
      · rw [if_neg hil, hpa i (by omega)]; exact hL.path i (by omega)
    · rw [addN_len] at hi
      by_cases hil : i = L.length
      · subst hil; rw [if_pos rfl]; exact hG
      · rw [if_neg hil]; exact hL.good i (by omega)
    · rw [addN_len] at hi
      by_cases hil : i = L.length
      · subst hil
        have hupj : (newN (l ++ [nm]) j x).up = j := rfl
        rw [hnew, hupj]
        refine ⟨hj, by rw [hkd j hj]; exact h2, nm, by rw [if_pos rfl, if_neg (by omega), hPj], hnm, ?_⟩
        rw [addN_at L j nm _ hj]
        rw [lookI_snoc, if_pos rfl]
      · obtain ⟨s1, s2, nm', s3, s4, s5⟩ := hL.step i h0 (by omega)
        rw [hup i (by omega)]
        refine ⟨s1, by rw [hkd _ (by omega)]; exact s2, nm', by rw [if_neg hil, if_neg (by omega)]; exact s3, s4, ?_⟩
        by_cases hij : (L.getD i default).up = j
        · rw [hij, addN_at L j nm _ hj, lookI_snoc, if_neg, ← hij]
          · exact s5
          · intro e2
            apply hno i (by omega)
            rw [hL.path i (by omega), s3, hij, hPj, e2]
        · rw [addN_old L j nm _ (by omega) hij]; exact s5
  · obtain ⟨ns, h1, _⟩ := addN_same L j nm (newN (l ++ [nm]) j x) hi
    exact ⟨ns, h1⟩
  · rw [hnew]; exact ⟨rfl, rfl, rfl, hr⟩
theorem lay_new : ∀ (xs : List EN) (L : List ND) (P : Nat → List BL) (k : Nat), Lay L P → (newE L k xs).1 = 0 →
    ∃ P', Lay (newE L k xs).2.2 P' ∧ (newE L k xs).2.2.length = L.length + xs.length ∧ (∀ i, i < L.length → ∃ ns, (newE L k xs).2.2.getD i default = { L.getD i default with names := ns }) ∧ ∀ i (h : i < xs.length), Of ((newE L k xs).2.2.getD (L.length + i) default) xs[i]
  | [], L, P, k, hL, _ => ⟨P, hL, rfl, fun i _ => ⟨_, rfl⟩, fun i h => by simp at h⟩
  | x :: xs, L, P, k, hL, h => by
    by_cases hx : (addE L x).1 = 0
    · rw [newE_go hx] at h ⊢
      obtain ⟨P1, hL1, hs1, ho1⟩ := lay_add hL hx
      have hl1 := addE_len hx
      obtain ⟨P2, hL2, hl2, hs2, ho2⟩ := lay_new xs _ P1 (k + 1) hL1 h
      refine ⟨P2, hL2, by rw [hl2, hl1, List.length_cons]; omega, fun i hi => ?_, fun i hi => ?_⟩
      · obtain ⟨ns, e1⟩ := hs1 i hi
        obtain ⟨ns2, e2⟩ := hs2 i (by omega)
        exact ⟨ns2, by rw [e2, e1]⟩
      · cases i with
        | zero =>
          obtain ⟨ns, e1⟩ := hs2 L.length (by omega)
          show Of (List.getD _ L.length default) x
          rw [e1]
          exact ⟨ho1.kind, ho1.to, ho1.data, ho1.right⟩
        | succ i =>
          have := ho2 i (by simpa using hi)
          rw [hl1] at this
          rw [show L.length + (i + 1) = L.length + 1 + i by omega]
          exact this
    · rw [newE_no hx] at h; exact absurd h hx
end Go.Proofs.YtfaohejdaabalaaGreatDoor
namespace Go.Proofs.YtfaohejdaabalaaGreatDoor
open Go.RowKit Go.Sort

theorem follow_lay {L : List ND} {P : Nat → List BL} (hL : Lay L P) (c : CR) : ∀ (m i : Nat), i ≤ m → i < L.length → (L.getD i default).kind ≠ 3 →
    (∀ last k rest, followL L c last k 0 (P i ++ rest) = (5, 0)) ∨ (∀ last k rest, followL L c last k 0 (P i ++ rest) = followL L c last k i rest)
  | m, 0, _, _, _ => .inr fun last k rest => by rw [hL.zero, List.nil_append]
  | 0, i + 1, h, _, _ => by omega
  | m + 1, i + 1, h, hi, h3 => by
    obtain ⟨s1, s2, nm, s3, s4, s5⟩ := hL.step (i + 1) (by omega) hi
    rcases follow_lay hL c m (L.getD (i + 1) default).up (by omega) (by omega) (by rw [s2]; decide) with h1 | h1
    · refine .inl fun last k rest => ?_
      rw [s3, List.append_assoc]; exact h1 _ _ _
    · by_cases hm : mayX c (L.getD (L.getD (i + 1) default).up default) = false
      · refine .inl fun last k rest => ?_
        have e : stepL L c (L.getD (i + 1) default).up nm = (5, 0) := stepN_2 s2 hm
        rw [s3, List.append_assoc, h1, List.singleton_append, followL_bad (by rw [e]; decide), e]
      · have e : stepL L c (L.getD (i + 1) default).up nm = (0, i + 1) := stepN_5 s2 (eq_true_of_ne_false hm) s4 s5
        refine .inr fun last k rest => ?_
        rw [s3, List.append_assoc, h1, List.singleton_append, followL_step e (.inl h3)]
/-- With fewer links behind it, the way is the same. -/
theorem follow_less {L : List ND} {c : CR} {last : Bool} : ∀ {links at_ : Nat} {left : List BL} {k nx : Nat}, followL L c last links at_ left = (0, nx) → k ≤ links → followL L c last k at_ left = (0, nx) := by
  intro links at_ left
  fun_induction followL L c last links at_ left with
  | case1 links at_ => intro k nx h _; cases h; rw [followL_nil]
  | case2 links at_ p rest h1 h2 ih =>
    intro k nx h hk
    rw [followL, if_pos h1, if_pos h2]
    exact ih h hk
  | case3 => intro k nx h; cases h
  | case4 links at_ p rest h1 h2 h3 ih =>
    intro k nx h hk
    rw [followL, if_pos h1, if_neg h2, dif_neg (by omega)]
    exact ih h (by omega)
  | case5 links at_ p rest h1 => intro k nx h; exact absurd (congrArg Prod.fst h) h1
theorem walkL_is {L : List ND} {c : CR} {from_ : Int} {p : BL} {last : Bool} {st : Nat} (h : 0 ≤ from_ ∧ from_ < (L.length : Int) ∧ (L.getD from_.toNat default).kind = 2) (h2 : chkE p = 0) (h3 : (if rootF p = true then 0 else from_.toNat) = st) :
    walkL L c from_ p last = if (followL L c (last || tailB p) 0 st (partsF p)).1 = 0 then if tailB p = true ∧ (L.getD (followL L c (last || tailB p) 0 st (partsF p)).2 default).kind ≠ 2 then ((0 : Int), (8 : Int)) else ((((followL L c (last || tailB p) 0 st (partsF p)).2 : Nat) : Int), (0 : Int)) else ((0 : Int), (followL L c (last || tailB p) 0 st (partsF p)).1) := by
  unfold walkL
  rw [if_pos h, if_pos h2, h3]
/-- A link leads to where its To leads from its directory on. -/
theorem link_walk {L : List ND} {P : Nat → List BL} (hL : Lay L P) (c : CR) {i : Nat} (hi : i < L.length) (h3 : (L.getD i default).kind = 3) (hto : chkE (L.getD i default).to = 0) (ht : tailB (L.getD i default).to = false)
    (hw : (walkL L c 0 (L.getD i default).path true).2 = 0) :
    ∃ d : Nat, d < L.length ∧ dirL (L.getD i default).path = (L.getD d default).path ∧ walkL L c 0 (dirL (L.getD i default).path) true = ((d : Int), 0) ∧ walkL L c d (L.getD i default).to true = walkL L c 0 (L.getD i default).path true := by
  have hpos := hL.pos
  have hroot := hL.root
  have h0 : 0 < i := by
    rcases Nat.eq_zero_or_pos i with rfl | h
    · rw [hroot] at h3; cases h3
    · exact h
  obtain ⟨s1, s2, nm, s3, s4, s5⟩ := hL.step i h0 hi
  have hp := hL.path i hi
  have hG := hL.good i hi
  generalize hd : (L.getD i default).up = d at *
  rw [hp] at hw ⊢
  have hdir : dirL (pathJ (P i)) = pathJ (P d) := by rw [s3]; rw [s3] at hG; exact dirJ hG
  obtain ⟨g1, g2, g3⟩ := goodD_chk hG
  obtain ⟨q1, q2, q3⟩ := goodD_chk (hL.good d (by omega))
  rw [hdir]
  have hbase : (0 : Int) ≤ 0 ∧ (0 : Int) < (L.length : Int) ∧ (L.getD (0 : Int).toNat default).kind = 2 := ⟨by omega, by omega, hroot⟩
  have w1 := walkL_is (L := L) (c := c) (from_ := 0) (p := pathJ (P i)) (last := true) (st := 0) hbase g1 (by rw [g3]; rfl)
  have w2 := walkL_is (L := L) (c := c) (from_ := 0) (p := pathJ (P d)) (last := true) (st := 0) hbase q1 (by rw [q3]; rfl)
  have w3 := walkL_is (L := L) (c := c) (from_ := d) (p := (L.getD i default).to) (last := true) (st := if rootF (L.getD i default).to = true then 0 else d) ⟨by omega, by omega, by rw [Int.toNat_natCast]; exact s2⟩ hto (by rw [Int.toNat_natCast])
  rw [g2, s3] at w1
  rw [q2] at w2
  simp only [Bool.true_or] at w1 w2 w3
  rcases follow_lay hL c d d (Nat.le_refl _) (by omega) (by rw [s2]; decide) with h1 | h1
  · exfalso
    rw [h1, if_neg (by decide)] at w1
    rw [s3] at hw
    rw [w1] at hw
    cases hw
  · rw [h1] at w1
    have e2 := h1 true 0 []
    rw [List.append_nil, followL_nil] at e2
    rw [e2, if_pos rfl, if_neg (fun h => h.2 s2)] at w2
    refine ⟨d, by omega, (hL.path d (by omega)).symm, w2, ?_⟩
    by_cases hm : mayX c (L.getD d default) = false
    · exfalso
      have e : stepL L c d nm = (5, 0) := stepN_2 s2 hm
      rw [followL_bad (by rw [e]; decide), e, if_neg (by decide)] at w1
      rw [s3] at hw
      rw [w1] at hw
      cases hw
    · have e : stepL L c d nm = (0, i) := stepN_5 s2 (eq_true_of_ne_false hm) s4 s5
      rw [followL_link e h3 (by simp) (by omega), List.append_nil] at w1
      rw [s3] at hw ⊢
      rw [w1] at hw ⊢
      rw [w3]
      cases hf : followL L c true (0 + 1) (if rootF (L.getD i default).to = true then 0 else d) (partsF (L.getD i default).to) with
      | mk er nx =>
        rw [hf] at hw
        by_cases he : er = 0
        · subst he
          have hl := follow_less hf (Nat.zero_le _)
          rw [hl]
          simp only [if_true] at hw ⊢
          rw [ht, if_neg (by simp)]
          by_cases h8 : tailB (pathJ (P d ++ [nm])) = true ∧ (L.getD nx default).kind ≠ 2
          · rw [if_pos h8] at hw; cases hw
          · rw [if_neg h8]
        · simp only [if_neg he] at hw
          exact absurd hw he
end Go.Proofs.YtfaohejdaabalaaGreatDoor
