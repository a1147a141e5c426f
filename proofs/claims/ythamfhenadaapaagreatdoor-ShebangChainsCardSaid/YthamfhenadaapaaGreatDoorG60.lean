
/- vfs's reference, plain: the nodes by their directories and names. -/
import Derived.Test.YthamfhenadaapaaGreatDoorKL
namespace Go.Proofs.YthamfhenadaapaaGreatDoor
open Go.RowKit Go.Sort

/-- A node's parts, and its name. -/
def pr (L : List ND) (i : Nat) : List BL := partsF (L.getD i default).path
def nmL (L : List ND) (i : Nat) : BL := (pr L i).getLastD []
theorem Lay.pr {L : List ND} {P : Nat → List BL} (h : Lay L P) {i : Nat} (hi : i < L.length) : pr L i = P i := by
  unfold Go.Proofs.YthamfhenadaapaaGreatDoor.pr
  rw [h.path i hi, (goodD_chk (h.good i hi)).2.1]
/-- A name in a directory's table is a node's there. -/
def Kid (L : List ND) : Prop := ∀ d, d < L.length → ∀ nm i, lookI (L.getD d default).names nm = some i → 0 < i ∧ i < L.length ∧ (L.getD i default).up = d ∧ pr L i = pr L d ++ [nm]
theorem kid0 : Kid [root0] := by
  intro d hd nm i h
  obtain rfl : d = 0 := by simp at hd; omega
  cases h
theorem kid_add {L : List ND} {P : Nat → List BL} {x : EN} (hL : Lay L P) (hK : Kid L) (h : (addE L x).1 = 0) : Kid (addE L x).2 := by
  obtain ⟨ds, j, he, hk, hu, h2, e⟩ := addE_ok h
  obtain ⟨rfl, hr, _, _, hch, hro, hne, hdd⟩ := entP_is he
  have hG := goodD_of hch hro
  generalize partsF x.path = ds at *
  obtain ⟨l, nm, rfl⟩ : ∃ l nm, ds = l ++ [nm] := by
    rcases ds.eq_nil_or_concat with h | ⟨l, nm, h⟩
    · exact absurd h hne
    · exact ⟨l, nm, by simpa using h⟩
  rw [List.dropLast_concat] at hu
  rw [List.getLastD_concat] at e
  obtain ⟨hj, hjp⟩ := lookK_path hu
  rw [e]
  have hold : ∀ i, i < L.length → pr (addN L j nm (newN (l ++ [nm]) j x)) i = pr L i ∧ ((addN L j nm (newN (l ++ [nm]) j x)).getD i default).up = (L.getD i default).up := fun i hi => by
    obtain ⟨ns, h1, _⟩ := addN_same L j nm (newN (l ++ [nm]) j x) hi
    unfold pr
    rw [h1]; exact ⟨rfl, rfl⟩
  have hnew : (addN L j nm (newN (l ++ [nm]) j x)).getD L.length default = newN (l ++ [nm]) j x := addN_new ..
  have hpn : pr (addN L j nm (newN (l ++ [nm]) j x)) L.length = l ++ [nm] := by
    unfold pr; rw [hnew]
    show partsF (pathJ (l ++ [nm])) = _
    rw [(goodD_chk hG).2.1]
  have hpj : pr L j = l := by unfold pr; rw [hjp, (goodD_chk (goodD_init hG)).2.1]
  intro d hd q i hi
  rw [addN_len] at hd ⊢
  have fin : i < L.length → (0 < i ∧ i < L.length ∧ (L.getD i default).up = d ∧ pr L i = pr L d ++ [q]) → d < L.length → 0 < i ∧ i < L.length + 1 ∧ ((addN L j nm (newN (l ++ [nm]) j x)).getD i default).up = d ∧ pr (addN L j nm (newN (l ++ [nm]) j x)) i = pr (addN L j nm (newN (l ++ [nm]) j x)) d ++ [q] := by
    rintro h1 ⟨a1, a2, a3, a4⟩ h3
    rw [(hold i h1).1, (hold i h1).2, (hold d h3).1]
    exact ⟨a1, by omega, a3, a4⟩
  by_cases hdl : d = L.length
  · subst hdl
    rw [hnew] at hi
    cases hi
  · have hd' : d < L.length := by omega
    by_cases hdj : d = j
    · subst hdj
      rw [addN_at L d nm _ hd'] at hi
      dsimp only at hi
      rw [lookI_snoc] at hi
      by_cases hq : nm = q
      · rw [if_pos hq] at hi
        cases hi
        subst hq
        have := hL.pos
        rw [hpn, hnew, (hold d hd').1, hpj]
        exact ⟨by omega, by omega, rfl, rfl⟩
      · rw [if_neg hq] at hi
        have h9 := hK d hd' q i hi
        exact fin h9.2.1 h9 hd'
    · rw [addN_old L j nm _ hd' hdj] at hi
      have h9 := hK d hd' q i hi
      exact fin h9.2.1 h9 hd'
theorem lay_kid : ∀ (xs : List EN) (L : List ND) (P : Nat → List BL) (k : Nat), Lay L P → Kid L → (newE L k xs).1 = 0 → Kid (newE L k xs).2.2
  | [], L, P, k, hL, hK, _ => hK
  | x :: xs, L, P, k, hL, hK, h => by
    by_cases hx : (addE L x).1 = 0
    · rw [newE_go hx] at h ⊢
      obtain ⟨P1, hL1, _, _⟩ := lay_add hL hx
      exact lay_kid xs _ P1 (k + 1) hL1 (kid_add hL hK hx) h
    · rw [newE_no hx] at h; exact absurd h hx

/-- Who is a name's node in a directory, told by the nodes. -/
theorem kid_iff {L : List ND} {P : Nat → List BL} (hL : Lay L P) (hK : Kid L) {d : Nat} (hd : d < L.length) (nm : BL) (i : Nat) : lookI (L.getD d default).names nm = some i ↔ 0 < i ∧ i < L.length ∧ (L.getD i default).up = d ∧ nmL L i = nm := by
  constructor
  · intro h
    obtain ⟨h1, h2, h3, h4⟩ := hK d hd nm i h
    exact ⟨h1, h2, h3, by unfold nmL; rw [h4, List.getLastD_concat]⟩
  · rintro ⟨h1, h2, rfl, rfl⟩
    obtain ⟨s1, s2, nm, s3, s4, s5⟩ := hL.step i h1 h2
    have : nmL L i = nm := by unfold nmL; rw [hL.pr h2, s3, List.getLastD_concat]
    rw [this]; exact s5
theorem kid_none {L : List ND} {P : Nat → List BL} (hL : Lay L P) (hK : Kid L) {d : Nat} (hd : d < L.length) {nm : BL} (h : ∀ i, 0 < i → i < L.length → ¬ ((L.getD i default).up = d ∧ nmL L i = nm)) : lookI (L.getD d default).names nm = none := by
  cases e : lookI (L.getD d default).names nm with
  | none => rfl
  | some i =>
    obtain ⟨h1, h2, h3, h4⟩ := (kid_iff hL hK hd nm i).1 e
    exact absurd ⟨h3, h4⟩ (h i h1 h2)

/-- The node at some parts. -/
def atL (L : List ND) : Nat → List BL → Option Nat
  | n, [] => some n
  | n, p :: r => match lookI (L.getD n default).names p with
    | some m => atL L m r
    | none => none
theorem atL_cons (L : List ND) (n : Nat) (p : BL) (r : List BL) : atL L n (p :: r) = match lookI (L.getD n default).names p with
    | some m => atL L m r
    | none => none := by rw [atL]
theorem atL_app (L : List ND) : ∀ (a b : List BL) (n : Nat), atL L n (a ++ b) = (atL L n a).bind fun m => atL L m b
  | [], b, n => rfl
  | p :: a, b, n => by
    rw [List.cons_append, atL_cons, atL_cons]
    cases lookI (L.getD n default).names p with
    | none => rfl
    | some m => exact atL_app L a b m
theorem atL_pr {L : List ND} (hK : Kid L) : ∀ (ds : List BL) (n m : Nat), n < L.length → atL L n ds = some m → m < L.length ∧ pr L m = pr L n ++ ds
  | [], n, m, hn, h => by cases h; exact ⟨hn, by simp⟩
  | p :: r, n, m, hn, h => by
    rw [atL_cons] at h
    cases e : lookI (L.getD n default).names p with
    | none => rw [e] at h; cases h
    | some k =>
      rw [e] at h
      obtain ⟨h1, h2, h3, h4⟩ := hK n hn p k e
      obtain ⟨h5, h6⟩ := atL_pr hK r k m h2 h
      exact ⟨h5, by rw [h6, h4]; simp⟩
theorem pr_at {L : List ND} {P : Nat → List BL} (hL : Lay L P) : ∀ (m : Nat), m < L.length → atL L 0 (pr L m) = some m := by
  intro m
  induction m using Nat.strongRecOn with
  | ind m ih =>
    intro hm
    rw [hL.pr hm]
    rcases Nat.eq_zero_or_pos m with rfl | h0
    · rw [hL.zero]; rfl
    · obtain ⟨s1, s2, nm, s3, s4, s5⟩ := hL.step m h0 hm
      have := ih _ s1 (by omega)
      rw [hL.pr (by omega)] at this
      rw [s3, atL_app, this]
      simp only [Option.bind_some]
      rw [atL_cons, s5]
      rfl
theorem at_look {L : List ND} {P : Nat → List BL} (hL : Lay L P) (hK : Kid L) {ds : List BL} (hG : GoodD ds) : atL L 0 ds = lookK L (pathJ ds) := by
  cases e : lookK L (pathJ ds) with
  | some j =>
    obtain ⟨h1, h2⟩ := lookK_path e
    have : pr L j = ds := by unfold pr; rw [h2, (goodD_chk hG).2.1]
    rw [← this]
    exact pr_at hL j h1
  | none =>
    cases e2 : atL L 0 ds with
    | none => rfl
    | some m =>
      obtain ⟨h1, h2⟩ := atL_pr hK ds 0 m hL.pos e2
      rw [hL.pr hL.pos, hL.zero, List.nil_append] at h2
      refine absurd ?_ (lookK_none e m h1)
      rw [hL.path m h1, ← hL.pr h1, h2]

/-- The text of a node's path, part by part. -/
def gp (ds : List BL) : BL := (ds.map fun p => 47 :: p).flatten
theorem gp_jn : ∀ ds : List BL, ds ≠ [] → gp ds = 47 :: jn ds
  | [], h => absurd rfl h
  | [p], _ => by simp [gp, jn]
  | p :: q :: r, _ => by
    have := gp_jn (q :: r) (by simp)
    unfold gp at this ⊢
    rw [List.map_cons, List.flatten_cons, this, jn]
    simp
theorem gp_path {L : List ND} {P : Nat → List BL} (hL : Lay L P) {i : Nat} (hi : i < L.length) : (L.getD i default).path = if gp (pr L i) = [] then [47] else gp (pr L i) := by
  rw [hL.path i hi, hL.pr hi, pathJ_is]
  by_cases h : P i = []
  · rw [h]; rfl
  · rw [gp_jn _ h, if_neg (by simp)]
theorem gp_cons (p : BL) (ds : List BL) : gp (p :: ds) = 47 :: p ++ gp ds := by simp [gp]
theorem pr_up {L : List ND} {P : Nat → List BL} (hL : Lay L P) {i : Nat} (h0 : 0 < i) (hi : i < L.length) : (L.getD i default).up < i ∧ pr L i = pr L (L.getD i default).up ++ [nmL L i] := by
  obtain ⟨s1, s2, nm, s3, s4, s5⟩ := hL.step i h0 hi
  refine ⟨s1, ?_⟩
  unfold nmL
  rw [hL.pr hi, hL.pr (by omega), s3, List.getLastD_concat]
end Go.Proofs.YthamfhenadaapaaGreatDoor
