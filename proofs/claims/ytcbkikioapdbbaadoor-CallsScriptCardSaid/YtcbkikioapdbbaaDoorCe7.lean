
/- calls, plain: what is written is read; what is read is written so; what is cut is short. -/
import Derived.Test.YtcbkikioapdbbaaDoorCe4
namespace Go.Proofs.YtcbkikioapdbbaaDoor
open Go.RowKit Go.Sort

/-- A number that lies there is read. -/
theorem rdN_put {l post : BL} {p n v : Nat} (h : l.drop p = leB v n ++ post) (hp : p ≤ l.length) (hv : v < 256 ^ n) : rdN l p n = v ∧ rdP l p n = p + n ∧ rdS l p n false = false := by
  have hl : p + n ≤ l.length := by
    have := congrArg List.length h
    rw [List.length_drop, List.length_append, leB_len] at this
    omega
  unfold rdN rdP rdS
  rw [if_pos hl, if_pos hl, if_pos hl, h, List.take_append_of_le_length (by rw [leB_len]; exact Nat.le_refl _), List.take_of_length_le (by rw [leB_len]; exact Nat.le_refl _), le_leB, Nat.mod_eq_of_lt hv]
  exact ⟨rfl, rfl, rfl⟩
theorem drop_put {l a post : BL} {p : Nat} (h : l.drop p = a ++ post) : l.drop (p + a.length) = post := by
  rw [← List.drop_drop, h, List.drop_left]
/-- A text that lies there is read. -/
theorem txt_put {l t post : BL} {p : Nat} (h : l.drop p = txB t ++ post) (hp : p ≤ l.length) (ht : t.length < 65536) : txT l p false = t ∧ txP l p false = p + (txB t).length ∧ txS l p false = false := by
  unfold txB at h
  rw [List.append_assoc] at h
  obtain ⟨h1, h2, h3⟩ := rdN_put h hp ht
  have hd := drop_put h
  rw [leB_len] at hd
  have hl : p + 2 + t.length ≤ l.length := by
    have := congrArg List.length h
    rw [List.length_drop, List.length_append, List.length_append, leB_len] at this
    omega
  have hok : txOk l p false = true := by
    unfold txOk txN
    rw [h3, h2, h1]
    simpa using hl
  unfold txS
  unfold txT txP
  rw [hok, h2]
  unfold txN
  rw [h1, hd]
  refine ⟨by simp, by rw [if_pos rfl, txB_len]; omega, rfl⟩
theorem tsGo_put {l : BL} : ∀ {ds : List BL} {p : Nat} {post : BL}, l.drop p = txsB ds ++ post → p ≤ l.length → (∀ t ∈ ds, t.length < 65536) → ∀ k, k ≤ ds.length → tsGo l k p false = (ds.take k, p + (txsB (ds.take k)).length, false)
  | ds, p, post, _, _, _, 0, _ => by simp [tsGo, txsB]
  | ds, p, post, h, hp, ht, k + 1, hk => by
    have ih := tsGo_put h hp ht k (by omega)
    have hk' : k < ds.length := by omega
    have hs : txsB ds = txsB (ds.take k) ++ (txB ds[k] ++ txsB (ds.drop (k + 1))) := by
      have e1 : ds = ds.take k ++ (ds[k] :: ds.drop (k + 1)) := by rw [← List.drop_eq_getElem_cons hk', List.take_append_drop]
      exact (congrArg txsB e1).trans (by unfold txsB; rw [List.flatMap_append, List.flatMap_cons])
    have hd : l.drop (p + (txsB (ds.take k)).length) = txB ds[k] ++ (txsB (ds.drop (k + 1)) ++ post) := by
      rw [hs, List.append_assoc] at h
      have := drop_put h
      rw [this, List.append_assoc]
    have hpl : p + (txsB (ds.take k)).length ≤ l.length := by
      have := congrArg List.length h
      rw [hs, List.length_drop, List.length_append, List.length_append] at this
      omega
    obtain ⟨q1, q2, q3⟩ := txt_put hd hpl (ht _ (List.getElem_mem hk'))
    show (let z := tsGo l k p false; (z.1 ++ [txT l z.2.1 z.2.2], txP l z.2.1 z.2.2, txS l z.2.1 z.2.2)) = _
    rw [ih]
    simp only [q1, q2, q3]
    rw [txsB_take hk', List.length_append, List.take_succ_eq_append_getElem hk', Nat.add_assoc]
theorem ts_put {l post : BL} {ds : List BL} {p : Nat} (h : l.drop p = lsB ds ++ post) (hp : p ≤ l.length) (hn : ds.length < 256) (ht : ∀ t ∈ ds, t.length < 65536) : tsT l p false = ds ∧ tsP l p false = p + (lsB ds).length ∧ tsS l p false = false := by
  unfold lsB at h
  rw [List.append_assoc] at h
  obtain ⟨h1, h2, h3⟩ := rdN_put h hp (n := 1) (by omega)
  have hd := drop_put h
  rw [leB_len] at hd
  have hl : p + 1 ≤ l.length := by
    have := congrArg List.length h
    rw [List.length_drop, List.length_append, leB_len] at this
    omega
  have hg := tsGo_put hd hl ht ds.length (Nat.le_refl _)
  rw [List.take_of_length_le (Nat.le_refl _)] at hg
  unfold tsT tsP tsS
  rw [h1, h2, h3, hg]
  refine ⟨rfl, ?_, rfl⟩
  show p + 1 + _ = _
  unfold lsB
  rw [List.length_append, leB_len]
  omega
/-- A field of x laid over z. -/
def updF (z : PC) (x : CG) (f : Nat) : PC := if f = 5 then { z with path := x.path } else if f = 6 then { z with argv := x.argv } else if f = 7 then { z with env := x.env } else if f = 8 then { z with bytes := x.bytes } else setNm z f (nmN x f)
structure OkP (x : CG) (f : Nat) : Prop where
  ok : OkF x f
  path : f = 5 → x.path.length ≤ 200
  num : nmN x f < 18446744073709551616
theorem fld_put {l post : BL} {x : CG} {f p : Nat} {z : PC} (h : l.drop p = fldB x f ++ post) (hp : p ≤ l.length) (ho : OkP x f) (hz : f = 8 → z.bytes = []) : fldR l f (z, p, false) = (updF z x f, p + (fldB x f).length, false) := by
  unfold fldR updF
  by_cases h5 : f = 5
  · subst h5
    obtain ⟨q1, q2, q3⟩ := txt_put (t := x.path) h hp (by have := ho.path rfl; omega)
    rw [if_pos rfl, if_pos rfl]
    simp only [q1, q2, q3]
    rfl
  rw [if_neg h5, if_neg h5]
  by_cases h6 : f = 6
  · subst h6
    obtain ⟨q1, q2, q3⟩ := ts_put (ds := x.argv) h hp (by have := (ho.ok.argv rfl).1; omega) (fun t ht => by have := (ho.ok.argv rfl).2 t ht; omega)
    rw [if_pos rfl, if_pos rfl]
    simp only [q1, q2, q3]
    rfl
  rw [if_neg h6, if_neg h6]
  by_cases h7 : f = 7
  · subst h7
    obtain ⟨q1, q2, q3⟩ := ts_put (ds := x.env) h hp (by have := (ho.ok.env rfl).1; omega) (fun t ht => by have := (ho.ok.env rfl).2 t ht; omega)
    rw [if_pos rfl, if_pos rfl]
    simp only [q1, q2, q3]
    rfl
  rw [if_neg h7, if_neg h7]
  by_cases h8 : f = 8
  · subst h8
    obtain ⟨q1, q2, q3⟩ := txt_put (t := x.bytes) h hp (by have := ho.ok.bytes rfl; omega)
    rw [if_pos rfl, if_pos rfl]
    simp only [q1, q2, q3, hz rfl]
    rfl
  rw [if_neg h8, if_neg h8]
  have hf : f < 5 := by have := ho.ok.lt; omega
  rw [fldB_n hf] at h ⊢
  obtain ⟨q1, q2, q3⟩ := rdN_put h hp (by have := ho.num; exact this)
  simp only [q1, q2, q3, leB_len]
theorem updF_bytes (z : PC) (x : CG) (f : Nat) (h : f ≠ 8) : (updF z x f).bytes = z.bytes := by
  unfold updF
  split
  · rfl
  · split
    · rfl
    · split
      · rfl
      · first
          | rw [if_neg h]; exact (setNm_b _ _ _).1
          | exact (setNm_b _ _ _).1
theorem all_put {l : BL} {x : CG} : ∀ {fs : List Nat} {p : Nat} {post : BL} {z : PC}, l.drop p = fldsB x fs ++ post → p ≤ l.length → (∀ f ∈ fs, OkP x f) → (8 ∈ fs → z.bytes = []) → fs.Nodup → rdAll l fs (z, p, false) = (fs.foldl (fun z f => updF z x f) z, p + (fldsB x fs).length, false)
  | [], p, post, z, _, _, _, _, _ => by simp [rdAll, fldsB]
  | f :: fs, p, post, z, h, hp, ho, hz, hn => by
    have e : fldsB x (f :: fs) = fldB x f ++ fldsB x fs := by simp [fldsB]
    rw [e, List.append_assoc] at h
    have h1 := fld_put h hp (ho f (List.mem_cons_self ..)) (z := z) (fun e8 => hz (by rw [e8]; exact List.mem_cons_self ..))
    have hd := drop_put h
    have hl : p + (fldB x f).length ≤ l.length := by
      have := congrArg List.length h
      rw [List.length_drop, List.length_append] at this
      omega
    have hn2 := List.nodup_cons.1 hn
    have e2 : rdAll l (f :: fs) (z, p, false) = rdAll l fs (fldR l f (z, p, false)) := rfl
    rw [e2, h1, all_put hd hl (fun g hg => ho g (List.mem_cons_of_mem _ hg)) (fun h8 => by
      rw [updF_bytes _ _ _ (fun e => hn2.1 (by rw [e]; exact h8))]
      exact hz (List.mem_cons_of_mem _ h8)) hn2.2, e, List.length_append, List.foldl_cons, Nat.add_assoc]
theorem fsL_nodup (k : Nat) : (fsL k).Nodup := by unfold fsL; split <;> decide
theorem okP_of {x : CG} (hk : x.a < 18446744073709551616 ∧ x.b < 18446744073709551616 ∧ x.c < 18446744073709551616 ∧ x.d < 18446744073709551616 ∧ x.e < 18446744073709551616) (h : chkC x = 0) {f : Nat} (hf : f ∈ fsL x.kind) : OkP x f := by
  refine ⟨okF_of h hf, fun e5 => ?_, by unfold nmN; split <;> simp_all⟩
  have hE : ∀ {p : BL}, chkE p = 0 → p.length ≤ 200 := fun {p} hp => by
    unfold chkE at hp
    split at hp
    · rename_i h0; rw [h0]; exact Nat.zero_le _
    · split at hp
      · cases hp
      · split at hp
        · cases hp
        · omega
  subst e5
  unfold chkC at h
  split at h
  · rename_i hk
    split at h
    · cases h
    · have hc : x.kind = 1 ∨ x.kind = 2 ∨ x.kind = 3 ∨ x.kind = 4 ∨ x.kind = 5 ∨ x.kind = 6 ∨ x.kind = 7 ∨ x.kind = 8 ∨ x.kind = 9 ∨ x.kind = 10 ∨ x.kind = 11 ∨ x.kind = 12 := by omega
      rcases hc with e | e | e | e | e | e | e | e | e | e | e | e
      · rw [if_pos e] at h
        unfold chkX at h
        split at h
        · rename_i h1; exact hE h1
        · rename_i h1; exact absurd h h1
      all_goals try (exfalso; rw [e] at hf; simp [fsL] at hf; done)
      · rw [if_neg (by omega), if_neg (by omega), if_neg (by omega), if_pos e] at h
        unfold chkO at h
        split at h
        · rename_i h1; exact hE h1
        · rename_i h1; exact absurd h h1
  · cases h
theorem upd_all {x : CG} (hk : 1 ≤ x.kind ∧ x.kind ≤ 12) (hb : badF x = false) : (fsL x.kind).foldl (fun z f => updF z x f) (pc0 x.kind) = pcOf x := by
  rw [badF_9, bad9_iff] at hb
  have hc : x.kind = 1 ∨ x.kind = 2 ∨ x.kind = 3 ∨ x.kind = 4 ∨ x.kind = 5 ∨ x.kind = 6 ∨ x.kind = 7 ∨ x.kind = 8 ∨ x.kind = 9 ∨ x.kind = 10 ∨ x.kind = 11 ∨ x.kind = 12 := by omega
  obtain ⟨k, a, b, c, d, e, pa, va, vc, av, ea, ec, ev, ya, yc, yb⟩ := x
  simp only at hc hb
  rcases hc with rfl | rfl | rfl | rfl | rfl | rfl | rfl | rfl | rfl | rfl | rfl | rfl <;> simp [fsL, memF] at hb <;> simp [fsL, updF, setNm, nmN, pc0, pcOf, hb]
theorem chk_kind {x : CG} (h : chkC x = 0) : (1 ≤ x.kind ∧ x.kind ≤ 12) ∧ badF x = false := by
  unfold chkC at h
  split at h
  · rename_i hk
    refine ⟨hk, ?_⟩
    split at h
    · cases h
    · rename_i hb; simpa using hb
  · cases h
/-- What is written is read, whatever stands behind. -/
theorem readC_form {x : CG} (hk : x.a < 18446744073709551616 ∧ x.b < 18446744073709551616 ∧ x.c < 18446744073709551616 ∧ x.d < 18446744073709551616 ∧ x.e < 18446744073709551616) (h : chkC x = 0) (rest : BL) : readC (formB x ++ rest) = (pcOf x, (formB x).length, 0) := by
  obtain ⟨h12, hbad⟩ := chk_kind h
  have hkn : (UInt8.ofNat x.kind).toNat = x.kind := by simp; omega
  have e : formB x ++ rest = UInt8.ofNat x.kind :: (fldsB x (fsL x.kind) ++ rest) := by unfold formB; simp
  rw [e, readC_cons, hkn, if_pos h12, ← e]
  have hp := all_put (l := formB x ++ rest) (x := x) (fs := fsL x.kind) (p := 1) (post := rest) (z := pc0 x.kind) (by rw [e]; rfl) (by rw [e]; simp) (fun f hf => okP_of hk h hf) (fun _ => rfl) (fsL_nodup _)
  rw [hp, upd_all h12 hbad]
  have hc : chkP (pcOf x) = 0 := by rw [← chk_pc]; exact h
  simp only [hc]
  have hl : 1 + (fldsB x (fsL x.kind)).length = (formB x).length := by unfold formB; rw [List.length_append]; rfl
  rw [hl]
  rfl

/-- A number that was read lies there. -/
theorem num_back {l : BL} {p n : Nat} (h : p + n ≤ l.length) : (l.drop p).take n = leB (rdN l p n) n := by
  unfold rdN
  rw [if_pos h]
  have hl : ((l.drop p).take n).length = n := by rw [List.length_take, List.length_drop]; omega
  have := leB_le ((l.drop p).take n)
  rw [hl] at this
  exact this.symm
theorem rdS_ok {l : BL} {p n : Nat} {s : Bool} (h : rdS l p n s = false) : p + n ≤ l.length ∧ rdP l p n = p + n ∧ s = false := by
  unfold rdS at h
  split at h
  · rename_i hl
    exact ⟨hl, by unfold rdP; rw [if_pos hl], h⟩
  · cases h
theorem take_two {l a b : BL} {p m n : Nat} (h1 : (l.drop p).take m = a) (h2 : (l.drop (p + m)).take n = b) : (l.drop p).take (m + n) = a ++ b := by
  rw [List.take_add, h1, List.drop_drop, h2]
theorem txt_back {l : BL} {p : Nat} {s : Bool} (h : txS l p s = false) : p ≤ txP l p s ∧ txP l p s ≤ l.length ∧ (l.drop p).take (txP l p s - p) = txB (txT l p s) ∧ s = false ∧ txP l p s = p + (2 + (txT l p s).length) := by
  unfold txS at h
  have hok : txOk l p s = true := by simpa using h
  have hok2 := hok
  unfold txOk at hok2
  simp only [Bool.and_eq_true, Bool.not_eq_true', decide_eq_true_eq] at hok2
  obtain ⟨h1, h2, h3⟩ := rdS_ok hok2.1
  have h4 := hok2.2
  rw [h2] at h4
  have hl : ((l.drop (p + 2)).take (txN l p)).length = txN l p := by rw [List.length_take, List.length_drop]; omega
  have hT : txT l p s = (l.drop (p + 2)).take (txN l p) := by unfold txT; rw [hok, h2]; rfl
  have hP : txP l p s = p + 2 + txN l p := by unfold txP; rw [hok, h2]; rfl
  rw [hT, hP, hl]
  refine ⟨by omega, h4, ?_, h3, by omega⟩
  rw [show p + 2 + txN l p - p = 2 + txN l p by omega]
  unfold txB
  refine take_two ?_ rfl
  rw [hl]
  exact num_back h1
theorem tsGo_back {l : BL} {p : Nat} {s : Bool} : ∀ {n : Nat}, (tsGo l n p s).2.2 = false → p ≤ (tsGo l n p s).2.1 ∧ (p ≤ l.length → (tsGo l n p s).2.1 ≤ l.length) ∧ (l.drop p).take ((tsGo l n p s).2.1 - p) = txsB (tsGo l n p s).1 ∧ s = false
  | 0, h => ⟨Nat.le_refl _, fun h => h, by simp [tsGo, txsB], h⟩
  | n + 1, h => by
    have h' : txS l (tsGo l n p s).2.1 (tsGo l n p s).2.2 = false := h
    obtain ⟨q1, q2, q3, q4, _⟩ := txt_back h'
    obtain ⟨r1, r2, r3, r4⟩ := tsGo_back (n := n) q4
    show p ≤ txP l (tsGo l n p s).2.1 (tsGo l n p s).2.2 ∧ (p ≤ l.length → txP l (tsGo l n p s).2.1 (tsGo l n p s).2.2 ≤ l.length) ∧ (l.drop p).take (txP l (tsGo l n p s).2.1 (tsGo l n p s).2.2 - p) = txsB ((tsGo l n p s).1 ++ [txT l (tsGo l n p s).2.1 (tsGo l n p s).2.2]) ∧ s = false
    generalize tsGo l n p s = z at *
    refine ⟨by omega, fun _ => q2, ?_, r4⟩
    have e : txP l z.2.1 z.2.2 - p = (z.2.1 - p) + (txP l z.2.1 z.2.2 - z.2.1) := by omega
    have q3' : (l.drop (p + (z.2.1 - p))).take (txP l z.2.1 z.2.2 - z.2.1) = txB (txT l z.2.1 z.2.2) := by rw [show p + (z.2.1 - p) = z.2.1 by omega]; exact q3
    rw [e, take_two r3 q3']
    unfold txsB
    simp
theorem ts_back {l : BL} {p : Nat} {s : Bool} (h : tsS l p s = false) : p ≤ tsP l p s ∧ tsP l p s ≤ l.length ∧ (l.drop p).take (tsP l p s - p) = lsB (tsT l p s) ∧ s = false := by
  have h' : (tsGo l (rdN l p 1) (rdP l p 1) (rdS l p 1 s)).2.2 = false := h
  obtain ⟨r1, r2, r3, r4⟩ := tsGo_back h'
  obtain ⟨q1, q2, q3⟩ := rdS_ok r4
  have hlen := tsGo_len l (rdP l p 1) (rdS l p 1 s) (rdN l p 1)
  unfold tsP tsT
  rw [q2] at r1 r2 r3 hlen ⊢
  generalize tsGo l (rdN l p 1) (p + 1) (rdS l p 1 s) = z at *
  refine ⟨by omega, r2 q1, ?_, q3⟩
  have e : z.2.1 - p = 1 + (z.2.1 - (p + 1)) := by omega
  rw [e]
  unfold lsB
  refine take_two ?_ r3
  rw [hlen]
  exact num_back q1
theorem fld_back {l : BL} {f p : Nat} {z : PC} {s : Bool} (hf : f < 9) (hz : f = 8 → z.bytes = []) (h : (fldR l f (z, p, s)).2.2 = false) : s = false ∧ p ≤ (fldR l f (z, p, s)).2.1 ∧ (fldR l f (z, p, s)).2.1 ≤ l.length ∧ (l.drop p).take ((fldR l f (z, p, s)).2.1 - p) = fldB (cgOf (fldR l f (z, p, s)).1) f := by
  by_cases h5 : f = 5
  · subst h5
    obtain ⟨q1, q2, q3, q4, _⟩ := txt_back (show txS l p s = false from h)
    exact ⟨q4, q1, q2, q3⟩
  by_cases h6 : f = 6
  · subst h6
    obtain ⟨q1, q2, q3, q4⟩ := ts_back (show tsS l p s = false from h)
    exact ⟨q4, q1, q2, q3⟩
  by_cases h7 : f = 7
  · subst h7
    obtain ⟨q1, q2, q3, q4⟩ := ts_back (show tsS l p s = false from h)
    exact ⟨q4, q1, q2, q3⟩
  by_cases h8 : f = 8
  · subst h8
    obtain ⟨q1, q2, q3, q4, _⟩ := txt_back (show txS l p s = false from h)
    refine ⟨q4, q1, q2, ?_⟩
    show (l.drop p).take (txP l p s - p) = txB (z.bytes ++ txT l p s)
    rw [hz rfl]
    exact q3
  have e : fldR l f (z, p, s) = (setNm z f (rdN l p 8), rdP l p 8, rdS l p 8 s) := by
    unfold fldR
    rw [if_neg h5, if_neg h6, if_neg h7, if_neg h8]
  rw [e] at h ⊢
  obtain ⟨q1, q2, q3⟩ := rdS_ok (show rdS l p 8 s = false from h)
  have hf5 : f < 5 := by omega
  refine ⟨q3, by show p ≤ rdP l p 8; omega, by show rdP l p 8 ≤ _; omega, ?_⟩
  show (l.drop p).take (rdP l p 8 - p) = fldB (cgOf (setNm z f (rdN l p 8))) f
  rw [q2, show p + 8 - p = 8 by omega, num_back q1, fldB_n hf5]
  have hc : f = 0 ∨ f = 1 ∨ f = 2 ∨ f = 3 ∨ f = 4 := by omega
  rcases hc with rfl | rfl | rfl | rfl | rfl <;> rfl
/-- Another field's bytes stay. -/
theorem fld_keep {l : BL} {f g : Nat} {z : PC × Nat × Bool} (hf : f < 9) (hg : g < 9) (hne : g ≠ f) : fldB (cgOf (fldR l f z).1) g = fldB (cgOf z.1) g := by
  have hc : f = 0 ∨ f = 1 ∨ f = 2 ∨ f = 3 ∨ f = 4 ∨ f = 5 ∨ f = 6 ∨ f = 7 ∨ f = 8 := by omega
  have hd : g = 0 ∨ g = 1 ∨ g = 2 ∨ g = 3 ∨ g = 4 ∨ g = 5 ∨ g = 6 ∨ g = 7 ∨ g = 8 := by omega
  rcases hc with rfl | rfl | rfl | rfl | rfl | rfl | rfl | rfl | rfl <;> rcases hd with rfl | rfl | rfl | rfl | rfl | rfl | rfl | rfl | rfl <;> first | exact absurd rfl hne | rfl
theorem all_keep {l : BL} {g : Nat} (hg : g < 9) : ∀ {fs : List Nat} {z : PC × Nat × Bool}, (∀ f ∈ fs, f < 9) → g ∉ fs → fldB (cgOf (rdAll l fs z).1) g = fldB (cgOf z.1) g
  | [], _, _, _ => rfl
  | f :: fs, z, hf, hn => by
    have e : rdAll l (f :: fs) z = rdAll l fs (fldR l f z) := rfl
    rw [e, all_keep hg (fun q hq => hf q (List.mem_cons_of_mem _ hq)) (fun h => hn (List.mem_cons_of_mem _ h)), fld_keep (hf f (List.mem_cons_self ..)) hg (fun e => hn (by rw [e]; exact List.mem_cons_self ..))]
theorem rdAll_up {l : BL} : ∀ {fs : List Nat} {z : PC × Nat × Bool}, z.2.2 = true → (rdAll l fs z).2.2 = true
  | [], _, h => h
  | f :: fs, z, h => rdAll_up (fs := fs) (z := fldR l f z) (fldR_up h)
theorem fldR_y {l : BL} {f : Nat} {z : PC × Nat × Bool} (h : f ≠ 8) : (fldR l f z).1.bytes = z.1.bytes := rdAll_y l [f] z (by simpa using Ne.symm h)
theorem all_back {l : BL} : ∀ {fs : List Nat} {p : Nat} {z : PC} {s : Bool}, (∀ f ∈ fs, f < 9) → (8 ∈ fs → z.bytes = []) → fs.Nodup → (rdAll l fs (z, p, s)).2.2 = false → s = false ∧ p ≤ (rdAll l fs (z, p, s)).2.1 ∧ (p ≤ l.length → (rdAll l fs (z, p, s)).2.1 ≤ l.length) ∧ (l.drop p).take ((rdAll l fs (z, p, s)).2.1 - p) = fldsB (cgOf (rdAll l fs (z, p, s)).1) fs
  | [], p, z, s, _, _, _, h => ⟨h, Nat.le_refl _, fun h => h, by simp [rdAll, fldsB]⟩
  | f :: fs, p, z, s, hf, hz, hn, h => by
    have e : rdAll l (f :: fs) (z, p, s) = rdAll l fs (fldR l f (z, p, s)) := rfl
    rw [e] at h ⊢
    have hn2 := List.nodup_cons.1 hn
    have h1 : (fldR l f (z, p, s)).2.2 = false := by
      cases hh : (fldR l f (z, p, s)).2.2
      · rfl
      · rw [rdAll_up hh] at h; cases h
    obtain ⟨q1, q2, q3, q4⟩ := fld_back (hf f (List.mem_cons_self ..)) (fun e8 => hz (by rw [e8]; exact List.mem_cons_self ..)) h1
    have hz2 : 8 ∈ fs → (fldR l f (z, p, s)).1.bytes = [] := fun h8 => by
      rw [fldR_y (fun e => hn2.1 (by rw [e]; exact h8))]
      exact hz (List.mem_cons_of_mem _ h8)
    have hkeep := all_keep (l := l) (hf f (List.mem_cons_self ..)) (fs := fs) (z := fldR l f (z, p, s)) (fun q hq => hf q (List.mem_cons_of_mem _ hq)) hn2.1
    generalize fldR l f (z, p, s) = r at *
    obtain ⟨zr, pr, sr⟩ := r
    obtain ⟨r1, r2, r3, r4⟩ := all_back (l := l) (fs := fs) (p := pr) (z := zr) (s := sr) (fun q hq => hf q (List.mem_cons_of_mem _ hq)) hz2 hn2.2 h
    generalize rdAll l fs (zr, pr, sr) = t at *
    have q2 : p ≤ pr := q2
    refine ⟨q1, by omega, fun _ => r3 q3, ?_⟩
    have e2 : t.2.1 - p = (pr - p) + (t.2.1 - pr) := by omega
    have r4' : (l.drop (p + (pr - p))).take (t.2.1 - pr) = fldsB (cgOf t.1) fs := by rw [show p + (pr - p) = pr by omega]; exact r4
    rw [e2, take_two q4 r4', ← hkeep]
    unfold fldsB
    simp
theorem fsL_lt (k : Nat) : ∀ f ∈ fsL k, f < 9 := fsL_lt9 k
theorem rdAll_kind (l : BL) : ∀ (fs : List Nat) (z : PC × Nat × Bool), (rdAll l fs z).1.kind = z.1.kind
  | [], _ => rfl
  | f :: fs, z => (rdAll_kind l fs (fldR l f z)).trans (fldR_b l f z).2.2
/-- What is read is written so. -/
theorem form_readC {l : BL} (h : (readC l).2.2 = 0) : 1 ≤ (readC l).2.1 ∧ (readC l).2.1 ≤ l.length ∧ chkP (readC l).1 = 0 ∧ formB (cgOf (readC l).1) = l.take (readC l).2.1 := by
  cases l with
  | nil => cases h
  | cons c lt =>
    rw [readC_cons] at h ⊢
    split at h
    · rename_i hk
      rw [if_pos hk]
      split at h
      · cases h
      · rename_i hs
        rw [if_neg hs]
        have hs : (rdAll (c :: lt) (fsL c.toNat) (pc0 c.toNat, 1, false)).2.2 = false := by simpa using hs
        split at h
        · rename_i hc
          rw [if_pos hc]
          obtain ⟨_, q2, q3, q4⟩ := all_back (l := c :: lt) (fs := fsL c.toNat) (p := 1) (z := pc0 c.toNat) (s := false) (fsL_lt _) (fun _ => rfl) (fsL_nodup _) hs
          have hkd := rdAll_kind (c :: lt) (fsL c.toNat) (pc0 c.toNat, 1, false)
          generalize rdAll (c :: lt) (fsL c.toNat) (pc0 c.toNat, 1, false) = t at *
          refine ⟨q2, q3 (by simp), hc, ?_⟩
          have hkd : t.1.kind = c.toNat := hkd
          unfold formB
          show [UInt8.ofNat t.1.kind] ++ fldsB (cgOf t.1) (fsL t.1.kind) = _
          rw [hkd, ← q4]
          have e : t.2.1 = 1 + (t.2.1 - 1) := by omega
          have e2 : (c :: lt).take t.2.1 = [c] ++ ((c :: lt).drop 1).take (t.2.1 - 1) := by
            conv => lhs; rw [e]
            rw [List.take_add]
            rfl
          rw [e2]
          simp
        · exact absurd h (by simp_all)
    · cases h
/-- A longer list says the same, where a shorter one said all. -/
theorem num_more {l : BL} {c p n : Nat} {s : Bool} (h : rdS (l.take c) p n s = false) : rdN l p n = rdN (l.take c) p n ∧ rdP l p n = rdP (l.take c) p n ∧ rdS l p n s = false := by
  obtain ⟨h1, h2, h3⟩ := rdS_ok h
  have hl : p + n ≤ c ∧ p + n ≤ l.length := by rw [List.length_take] at h1; omega
  unfold rdN rdP rdS
  rw [if_pos h1, if_pos h1, if_pos hl.2, if_pos hl.2, if_pos hl.2]
  refine ⟨?_, rfl, h3⟩
  congr 1
  rw [List.drop_take, List.take_take, Nat.min_eq_left (by omega)]
theorem txt_more {l : BL} {c p : Nat} {s : Bool} (h : txS (l.take c) p s = false) : txT l p s = txT (l.take c) p s ∧ txP l p s = txP (l.take c) p s ∧ txS l p s = false := by
  unfold txS at h
  have hok : txOk (l.take c) p s = true := by simpa using h
  have hok2 := hok
  unfold txOk at hok2
  simp only [Bool.and_eq_true, Bool.not_eq_true', decide_eq_true_eq] at hok2
  obtain ⟨n1, n2, n3⟩ := num_more hok2.1
  have hlen : (l.take c).length ≤ l.length := by rw [List.length_take]; omega
  have hlc : (l.take c).length ≤ c := by rw [List.length_take]; omega
  have h4 := hok2.2
  have hokl : txOk l p s = true := by
    unfold txOk txN
    rw [n3, n2, n1]
    unfold txN at h4
    simp
    omega
  unfold txS
  unfold txT txP
  rw [hok, hokl, n2]
  unfold txN at h4 ⊢
  rw [n1]
  refine ⟨?_, rfl, rfl⟩
  rw [if_pos rfl, if_pos rfl, List.drop_take, List.take_take, Nat.min_eq_left (by omega)]
theorem tsGo_more {l : BL} {c p : Nat} {s : Bool} : ∀ {n : Nat}, (tsGo (l.take c) n p s).2.2 = false → tsGo l n p s = tsGo (l.take c) n p s
  | 0, _ => rfl
  | n + 1, h => by
    have h' : txS (l.take c) (tsGo (l.take c) n p s).2.1 (tsGo (l.take c) n p s).2.2 = false := h
    have ih := tsGo_more (n := n) (txt_back h').2.2.2.1
    obtain ⟨q1, q2, q3⟩ := txt_more h'
    show (let z := tsGo l n p s; (z.1 ++ [txT l z.2.1 z.2.2], txP l z.2.1 z.2.2, txS l z.2.1 z.2.2)) = (let z := tsGo (l.take c) n p s; (z.1 ++ [txT (l.take c) z.2.1 z.2.2], txP (l.take c) z.2.1 z.2.2, txS (l.take c) z.2.1 z.2.2))
    rw [ih]
    simp only [q1, q2, q3, h']
theorem ts_more {l : BL} {c p : Nat} {s : Bool} (h : tsS (l.take c) p s = false) : tsT l p s = tsT (l.take c) p s ∧ tsP l p s = tsP (l.take c) p s ∧ tsS l p s = tsS (l.take c) p s := by
  have h' : (tsGo (l.take c) (rdN (l.take c) p 1) (rdP (l.take c) p 1) (rdS (l.take c) p 1 s)).2.2 = false := h
  have r4 := (tsGo_back h').2.2.2
  obtain ⟨n1, n2, n3⟩ := num_more r4
  have e := tsGo_more h'
  unfold tsT tsP tsS
  rw [n1, n2, n3]
  rw [r4] at e ⊢
  rw [e]
  exact ⟨rfl, rfl, rfl⟩
theorem fld_more {l : BL} {c f : Nat} {z : PC × Nat × Bool} (h : (fldR (l.take c) f z).2.2 = false) : fldR l f z = fldR (l.take c) f z := by
  by_cases h5 : f = 5
  · subst h5
    have h : txS (l.take c) z.2.1 z.2.2 = false := h
    obtain ⟨q1, q2, q3⟩ := txt_more h
    show ({ z.1 with path := txT l z.2.1 z.2.2 }, txP l z.2.1 z.2.2, txS l z.2.1 z.2.2) = ({ z.1 with path := txT (l.take c) z.2.1 z.2.2 }, txP (l.take c) z.2.1 z.2.2, txS (l.take c) z.2.1 z.2.2)
    rw [q1, q2, q3, h]
  by_cases h6 : f = 6
  · subst h6
    have h : tsS (l.take c) z.2.1 z.2.2 = false := h
    obtain ⟨q1, q2, q3⟩ := ts_more h
    show ({ z.1 with argv := tsT l z.2.1 z.2.2 }, tsP l z.2.1 z.2.2, tsS l z.2.1 z.2.2) = ({ z.1 with argv := tsT (l.take c) z.2.1 z.2.2 }, tsP (l.take c) z.2.1 z.2.2, tsS (l.take c) z.2.1 z.2.2)
    rw [q1, q2, q3]
  by_cases h7 : f = 7
  · subst h7
    have h : tsS (l.take c) z.2.1 z.2.2 = false := h
    obtain ⟨q1, q2, q3⟩ := ts_more h
    show ({ z.1 with env := tsT l z.2.1 z.2.2 }, tsP l z.2.1 z.2.2, tsS l z.2.1 z.2.2) = ({ z.1 with env := tsT (l.take c) z.2.1 z.2.2 }, tsP (l.take c) z.2.1 z.2.2, tsS (l.take c) z.2.1 z.2.2)
    rw [q1, q2, q3]
  by_cases h8 : f = 8
  · subst h8
    have h : txS (l.take c) z.2.1 z.2.2 = false := h
    obtain ⟨q1, q2, q3⟩ := txt_more h
    show ({ z.1 with bytes := z.1.bytes ++ txT l z.2.1 z.2.2 }, txP l z.2.1 z.2.2, txS l z.2.1 z.2.2) = ({ z.1 with bytes := z.1.bytes ++ txT (l.take c) z.2.1 z.2.2 }, txP (l.take c) z.2.1 z.2.2, txS (l.take c) z.2.1 z.2.2)
    rw [q1, q2, q3, h]
  have e : ∀ l', fldR l' f z = (setNm z.1 f (rdN l' z.2.1 8), rdP l' z.2.1 8, rdS l' z.2.1 8 z.2.2) := fun l' => by
    unfold fldR
    rw [if_neg h5, if_neg h6, if_neg h7, if_neg h8]
  rw [e] at h
  obtain ⟨q1, q2, q3⟩ := num_more (show rdS (l.take c) z.2.1 8 z.2.2 = false from h)
  rw [e, e, q1, q2, q3, show rdS (l.take c) z.2.1 8 z.2.2 = false from h]
theorem all_more {l : BL} {c : Nat} : ∀ {fs : List Nat} {z : PC × Nat × Bool}, (rdAll (l.take c) fs z).2.2 = false → rdAll l fs z = rdAll (l.take c) fs z
  | [], _, _ => rfl
  | f :: fs, z, h => by
    have e : ∀ l', rdAll l' (f :: fs) z = rdAll l' fs (fldR l' f z) := fun _ => rfl
    rw [e] at h
    have h1 : (fldR (l.take c) f z).2.2 = false := by
      cases hh : (fldR (l.take c) f z).2.2
      · rfl
      · rw [rdAll_up hh] at h; cases h
    rw [e, e, fld_more h1, all_more h]
/-- What is cut is short. -/
theorem readC_cut {x : CG} (hk : x.a < 18446744073709551616 ∧ x.b < 18446744073709551616 ∧ x.c < 18446744073709551616 ∧ x.d < 18446744073709551616 ∧ x.e < 18446744073709551616) (h : chkC x = 0) {c : Nat} (hc : c < (formB x).length) : readC ((formB x).take c) = (pc0 0, 0, 24) := by
  obtain ⟨h12, hbad⟩ := chk_kind h
  have hkn : (UInt8.ofNat x.kind).toNat = x.kind := by simp; omega
  cases c with
  | zero => rfl
  | succ c =>
    have e : formB x = UInt8.ofNat x.kind :: fldsB x (fsL x.kind) := by unfold formB; simp
    have e2 : (formB x).take (c + 1) = UInt8.ofNat x.kind :: (fldsB x (fsL x.kind)).take c := by rw [e]; rfl
    rw [e2, readC_cons, hkn, if_pos h12, ← e2]
    have hs : (rdAll ((formB x).take (c + 1)) (fsL x.kind) (pc0 x.kind, 1, false)).2.2 = true := by
      cases hh : (rdAll ((formB x).take (c + 1)) (fsL x.kind) (pc0 x.kind, 1, false)).2.2
      · exfalso
        have hm := all_more hh
        have hp := all_put (l := formB x) (x := x) (fs := fsL x.kind) (p := 1) (post := []) (z := pc0 x.kind) (by rw [e]; simp) (by rw [e]; simp) (fun f hf => okP_of hk h hf) (fun _ => rfl) (fsL_nodup _)
        have hb := (all_back (l := (formB x).take (c + 1)) (fs := fsL x.kind) (p := 1) (z := pc0 x.kind) (s := false) (fsL_lt _) (fun _ => rfl) (fsL_nodup _) hh).2.2.1 (by rw [e2]; simp)
        rw [← hm, hp] at hb
        have hb : 1 + (fldsB x (fsL x.kind)).length ≤ ((formB x).take (c + 1)).length := hb
        rw [List.length_take, e, List.length_cons] at hb
        rw [e, List.length_cons] at hc
        omega
      · rfl
    rw [hs, if_pos rfl]
end Go.Proofs.YtcbkikioapdbbaaDoor
