
/- Environments as lists of letters. No program is named. -/
import Derived.Test.YtcbkikioapdbbaaDoorKE
namespace Go.Proofs.YtcbkikioapdbbaaDoor
open Go.RowKit

/-- Ahead of the first such letter. -/
def upTo (x : UInt8) (l : BL) : BL := l.takeWhile (fun c => c != x)
theorem upTo_no {x : UInt8} {l : BL} (h : ¬ x ∈ l) : upTo x l = l := by
  induction l with
  | nil => rfl
  | cons c l ih =>
    have h1 : c ≠ x := by rintro rfl; exact h (List.mem_cons_self ..)
    have h2 := ih (fun hm => h (List.mem_cons_of_mem _ hm))
    unfold upTo at h2 ⊢
    rw [List.takeWhile_cons, if_pos (by simpa using h1), h2]
theorem upTo_split {x : UInt8} {l : BL} (h : x ∈ l) : ∃ m, l = upTo x l ++ [x] ++ m ∧ l.drop ((upTo x l).length + 1) = m := by
  induction l with
  | nil => simp at h
  | cons c l ih =>
    by_cases e : c = x
    · subst e; exact ⟨l, by simp [upTo], by simp [upTo]⟩
    · have h2 : x ∈ l := by
        rcases List.mem_cons.1 h with rfl | h
        · exact absurd rfl e
        · exact h
      obtain ⟨m, h3, h4⟩ := ih h2
      have e1 : upTo x (c :: l) = c :: upTo x l := by simp [upTo, e]
      refine ⟨m, ?_, ?_⟩
      · rw [e1]; simpa using h3
      · rw [e1]; simpa using h4
theorem upTo_mem {x c : UInt8} {l : BL} (h : c ∈ upTo x l) : c ≠ x ∧ c ∈ l := by
  refine ⟨?_, (List.takeWhile_prefix _).subset h⟩
  induction l with
  | nil => simp [upTo] at h
  | cons d l ih =>
    unfold upTo at h ih
    rw [List.takeWhile_cons] at h
    split at h
    · rename_i hd
      rcases List.mem_cons.1 h with rfl | h
      · simpa using hd
      · exact ih h
    · simp at h
theorem upTo_app {x : UInt8} {a m : BL} (h : ∀ c ∈ a, c ≠ x) : upTo x (a ++ [x] ++ m) = a := by
  induction a with
  | nil => simp [upTo]
  | cons c a ih =>
    have h1 : c ≠ x := h c (List.mem_cons_self ..)
    have := ih (fun d hd => h d (List.mem_cons_of_mem _ hd))
    unfold upTo at this ⊢
    simp only [List.cons_append, List.takeWhile_cons]
    rw [if_pos (by simpa using h1), this]
theorem upTo_len_lt {x : UInt8} {l : BL} (h : x ∈ l) : (upTo x l).length < l.length := by
  obtain ⟨m, h1, _⟩ := upTo_split h
  have := congrArg List.length h1
  simp only [List.length_append, List.length_singleton] at this
  omega
theorem upTo_len_le (x : UInt8) (l : BL) : (upTo x l).length ≤ l.length := List.IsPrefix.length_le (List.takeWhile_prefix _)
theorem idx_mem {x : UInt8} {l : BL} (h : x ∈ l) : Lib.indexByte l x = (upTo x l).length := by
  have hg := Lib.indexByte_ge l x
  by_cases h1 : Lib.indexByte l x = -1
  · obtain ⟨i, hi, e⟩ := List.getElem_of_mem h
    exact absurd (by rw [List.getElem?_eq_getElem hi, e]) (Lib.indexByte_none h1 i)
  · obtain ⟨o, ho⟩ := Int.eq_ofNat_of_zero_le (show 0 ≤ Lib.indexByte l x by omega)
    obtain ⟨a, b⟩ := Lib.indexByte_some ho
    obtain ⟨m, h3, _⟩ := upTo_split h
    rw [ho]
    rcases Nat.lt_trichotomy o (upTo x l).length with hlt | heq | hgt
    · exfalso
      rw [h3, List.append_assoc, List.getElem?_append_left hlt] at a
      have := List.mem_of_getElem? a
      exact (upTo_mem this).1 rfl
    · rw [heq]
    · exfalso
      apply b _ hgt
      have h5 := congrArg (fun z : BL => z[(upTo x l).length]?) h3
      simpa using h5
theorem idx_no {x : UInt8} {l : BL} (h : ¬ x ∈ l) : Lib.indexByte l x = -1 := by
  have hg := Lib.indexByte_ge l x
  by_cases h1 : Lib.indexByte l x = -1
  · exact h1
  · obtain ⟨o, ho⟩ := Int.eq_ofNat_of_zero_le (show 0 ≤ Lib.indexByte l x by omega)
    exact absurd (List.mem_of_getElem? (Lib.indexByte_some ho).1) h

def okS (l : BL) : Bool := decide (61 ∈ l) && decide (upTo 61 l ≠ [])
def nmS (l : BL) : BL := if okS l then upTo 61 l else []
def vlS (l : BL) : BL := if okS l then l.drop ((upTo 61 l).length + 1) else []
def named (l n : BL) : Bool := okS l && decide (nmS l = n)
theorem nmS_ok {l : BL} (h : okS l = true) : nmS l = upTo 61 l ∧ vlS l = l.drop ((upTo 61 l).length + 1) := by unfold nmS vlS; rw [h]; simp
theorem nmS_no {l : BL} (h : okS l = false) : nmS l = [] ∧ vlS l = [] := by unfold nmS vlS; rw [h]; simp
def getF (env : List BL) (n : BL) : Option BL := env.find? (fun l => named l n)
def getV (env : List BL) (n : BL) : BL := match getF env n with | some l => vlS l | none => []
def getB (env : List BL) (n : BL) : Bool := (getF env n).isSome
def has0 (l : BL) : Bool := decide (0 ∈ l)
def hasC (c : UInt8) (l : BL) : Bool := decide (c ∈ l)
def longB (l : BL) : Bool := decide (256 < l.length)
def chkL (ds : List BL) : Int := if 32 < ds.length then 12 else if ds.any longB then 12 else if ds.any has0 then 1 else 0
def setBad (n v : BL) : Bool := decide (n = []) || (decide (61 ∈ n) || (decide (0 ∈ n) || decide (0 ∈ v)))
def txt (n v : BL) : BL := n ++ [61] ++ v
def setG (n t : BL) (st : List BL × Bool) (s : BL) : List BL × Bool := if named s n then (if st.2 then st else (st.1 ++ [t], true)) else (st.1 ++ [s], st.2)
def setP (env : List BL) (n t : BL) : List BL × Bool := env.foldl (setG n t) ([], false)
def setL (env : List BL) (n v : BL) : List BL := if (setP env n (txt n v)).2 then (setP env n (txt n v)).1 else (setP env n (txt n v)).1 ++ [txt n v]
def unsetL (env : List BL) (n : BL) : List BL := env.filter (fun s => !named s n)
def unsafeN : List BL := [[76, 68, 95, 76, 73, 66, 82, 65, 82, 89, 95, 80, 65, 84, 72], [76, 68, 95, 80, 82, 69, 76, 79, 65, 68], [76, 68, 95, 65, 85, 68, 73, 84], [76, 68, 95, 68, 69, 66, 85, 71],
  [76, 68, 95, 79, 82, 73, 71, 73, 78, 95, 80, 65, 84, 72], [76, 68, 95, 80, 82, 79, 70, 73, 76, 69], [76, 68, 95, 85, 83, 69, 95, 76, 79, 65, 68, 95, 66, 73, 65, 83], [71, 67, 79, 78, 86, 95, 80, 65, 84, 72], [84, 77, 80, 68, 73, 82]]
def badN (n : BL) : Bool := decide (n ∈ unsafeN)
def scrubB (s : BL) : Bool := okS s && badN (nmS s)
def scrubL (env : List BL) : List BL := env.filter (fun s => !scrubB s)
def dotP (p : BL) : BL := if p = [] then [46] else p
def listL (v : BL) : List BL := if v = [] then [] else (cuts 58 v).map dotP

theorem setP_snoc (env : List BL) (s n t : BL) : setP (env ++ [s]) n t = setG n t (setP env n t) s := by simp [setP, List.foldl_append]
theorem unsetL_snoc (env : List BL) (s n : BL) : unsetL (env ++ [s]) n = if named s n then unsetL env n else unsetL env n ++ [s] := by
  unfold unsetL; rw [List.filter_append]; cases h : named s n <;> simp [h]
theorem scrubL_snoc (env : List BL) (s : BL) : scrubL (env ++ [s]) = if scrubB s then scrubL env else scrubL env ++ [s] := by
  unfold scrubL; rw [List.filter_append]; cases h : scrubB s <;> simp [h]
theorem setP_len (n t : BL) (env : List BL) : ∀ st : List BL × Bool, (env.foldl (setG n t) st).1.length ≤ st.1.length + env.length := by
  induction env with
  | nil => intro st; simp
  | cons s env ih =>
    intro st
    have h := ih (setG n t st s)
    have h2 : (setG n t st s).1.length ≤ st.1.length + 1 := by unfold setG; split <;> (try split) <;> simp
    simp only [List.foldl_cons, List.length_cons]
    omega
theorem setP_le (env : List BL) (n t : BL) : (setP env n t).1.length ≤ env.length := by have := setP_len n t env ([], false); simpa [setP] using this
theorem unsetL_le (env : List BL) (n : BL) : (unsetL env n).length ≤ env.length := List.length_filter_le _ _
theorem scrubL_le (env : List BL) : (scrubL env).length ≤ env.length := List.length_filter_le _ _
theorem setL_le (env : List BL) (n v : BL) : (setL env n v).length ≤ env.length + 1 := by
  have := setP_le env n (txt n v)
  unfold setL; split <;> simp <;> omega

/-! Unset one name after the other. -/
theorem unset_all (env : List BL) (ns : List BL) : ns.foldl unsetL env = env.filter (fun s => !(okS s && decide (nmS s ∈ ns))) := by
  induction ns generalizing env with
  | nil => exact (List.filter_eq_self.2 (by simp)).symm
  | cons n ns ih =>
    rw [List.foldl_cons, ih]
    unfold unsetL
    rw [List.filter_filter]
    congr 1
    funext s
    unfold named
    by_cases h : okS s <;> by_cases h2 : nmS s = n <;> simp [h, h2]
theorem unset_unsafe (env : List BL) : unsafeN.foldl unsetL env = scrubL env := unset_all env unsafeN

/-! What was set is read. -/
theorem setBad_no {n v : BL} (h : setBad n v = false) : n ≠ [] ∧ ¬ 61 ∈ n ∧ ¬ 0 ∈ n ∧ ¬ 0 ∈ v := by
  unfold setBad at h
  simp only [Bool.or_eq_false_iff, decide_eq_false_iff_not] at h
  exact h
theorem txt_said {n v : BL} (h : setBad n v = false) : okS (txt n v) = true ∧ nmS (txt n v) = n ∧ vlS (txt n v) = v := by
  obtain ⟨h1, h2, _⟩ := setBad_no h
  have hu : upTo 61 (txt n v) = n := upTo_app (fun c hc => by rintro rfl; exact h2 hc)
  have hok : okS (txt n v) = true := by
    unfold okS
    rw [hu]
    simp [txt, h1]
  obtain ⟨a, b⟩ := nmS_ok hok
  refine ⟨hok, by rw [a, hu], ?_⟩
  rw [b, hu]
  unfold txt
  rw [List.append_assoc, ← List.drop_drop, List.drop_left]
  rfl
theorem txt_named {n v : BL} (h : setBad n v = false) (m : BL) : named (txt n v) m = decide (n = m) := by
  obtain ⟨h1, h2, _⟩ := txt_said h
  unfold named
  rw [h1, h2]
  rfl

theorem setP_done (n t : BL) (env : List BL) : (setP env n t).2 = env.any (fun s => named s n) := by
  rcases env.eq_nil_or_concat with rfl | ⟨e, s, rfl⟩
  · rfl
  · have ih := setP_done n t e
    rw [List.concat_eq_append, setP_snoc, List.any_append]
    simp only [List.any_cons, List.any_nil, Bool.or_false]
    unfold setG
    rw [← ih]
    cases h1 : named s n <;> cases h2 : (setP e n t).2 <;> simp [h2]
termination_by env.length
theorem find_app {α : Type} (p : α → Bool) (a b : List α) : (a ++ b).find? p = (a.find? p).or (b.find? p) := List.find?_append ..
/-- The first text of the name. -/
theorem setP_find {n v : BL} (h : setBad n v = false) (m : BL) (env : List BL) : (setP env n (txt n v)).1.find? (fun s => named s m) = if n = m then (if (setP env n (txt n v)).2 then some (txt n v) else none) else env.find? (fun s => named s m) := by
  rcases env.eq_nil_or_concat with rfl | ⟨e, s, rfl⟩
  · simp [setP]
  · have ih := setP_find h m e
    rw [List.concat_eq_append, setP_snoc, find_app]
    unfold setG
    by_cases hn : n = m
    · subst hn
      rw [if_pos rfl] at ih ⊢
      cases h1 : named s n <;> cases h2 : (setP e n (txt n v)).2 <;> rw [h2] at ih <;> simp [h1, h2, ih, find_app, txt_named h]
    · rw [if_neg hn] at ih ⊢
      have hsm : named s n = true → named s m = false := by
        intro a
        unfold named at a ⊢
        simp only [Bool.and_eq_true, decide_eq_true_eq] at a
        rw [a.1, a.2]; simp [hn]
      cases h1 : named s n <;> cases h2 : (setP e n (txt n v)).2 <;> simp [h1, h2, ih, find_app, txt_named h, hn, hsm] <;> cases h3 : named s m <;> simp_all
termination_by env.length
theorem setL_get {n v : BL} (h : setBad n v = false) (env : List BL) : getF (setL env n v) n = some (txt n v) := by
  have hf := setP_find h n env
  rw [if_pos rfl] at hf
  unfold getF setL
  split
  · rename_i hd; rw [hd] at hf; simpa using hf
  · rename_i hd
    rw [if_neg hd] at hf
    rw [find_app, hf]
    simp [txt_named h]
theorem setL_other {n v m : BL} (h : setBad n v = false) (hn : n ≠ m) (env : List BL) : getF (setL env n v) m = getF env m := by
  have hf := setP_find h m env
  rw [if_neg hn] at hf
  unfold getF setL
  split
  · exact hf
  · rw [find_app, hf]
    have : [txt n v].find? (fun s => named s m) = none := by simp [txt_named h, hn]
    rw [this]
    cases env.find? (fun s => named s m) <;> rfl
theorem unset_get (env : List BL) (n : BL) : getF (unsetL env n) n = none := by
  unfold getF unsetL
  rw [List.find?_eq_none]
  intro s hs
  have := (List.mem_filter.1 hs).2
  simpa using this

/-- Setting once more changes nothing. -/
def cnt (n : BL) (env : List BL) : Nat := (env.filter fun s => named s n).length
theorem setP_same {n t : BL} (ht : named t n = true) : ∀ env : List BL, (∀ s ∈ env, named s n = true → s = t) → cnt n env ≤ 1 → (setP env n t).1 = env := by
  intro env
  rcases env.eq_nil_or_concat with rfl | ⟨e, s, rfl⟩
  · intro _ _; rfl
  · intro h1 h2
    rw [List.concat_eq_append] at h1 h2 ⊢
    have hc : cnt n (e ++ [s]) = cnt n e + (if named s n then 1 else 0) := by unfold cnt; rw [List.filter_append]; cases h : named s n <;> simp [h]
    have ih := setP_same ht e (fun x hx => h1 x (List.mem_append_left _ hx)) (by omega)
    rw [setP_snoc]
    unfold setG
    have hd := setP_done n t e
    cases h3 : named s n
    · simp [ih]
    · rw [hc, h3] at h2
      have h4 : cnt n e = 0 := by simpa using h2
      have h5 : (setP e n t).2 = false := by
        rw [hd, List.any_eq_false]
        intro x hx h6
        have : x ∈ e.filter (fun s => named s n) := List.mem_filter.2 ⟨hx, h6⟩
        unfold cnt at h4
        rw [List.length_eq_zero_iff.1 h4] at this
        simp at this
      rw [h5]
      simp [ih, h1 s (by simp) h3]
termination_by env => env.length
theorem setP_once {n v : BL} (h : setBad n v = false) (env : List BL) : (∀ s ∈ (setP env n (txt n v)).1, named s n = true → s = txt n v) ∧ cnt n (setP env n (txt n v)).1 = if (setP env n (txt n v)).2 then 1 else 0 := by
  rcases env.eq_nil_or_concat with rfl | ⟨e, s, rfl⟩
  · simp [setP, cnt]
  · obtain ⟨i1, i2⟩ := setP_once h e
    rw [List.concat_eq_append, setP_snoc]
    unfold setG
    have hc : ∀ x : BL, cnt n ((setP e n (txt n v)).1 ++ [x]) = cnt n (setP e n (txt n v)).1 + (if named x n then 1 else 0) := by intro x; unfold cnt; rw [List.filter_append]; cases h : named x n <;> simp [h]
    have htn := txt_named h n
    rw [decide_eq_true rfl] at htn
    cases h1 : named s n <;> cases h2 : (setP e n (txt n v)).2 <;> rw [h2] at i2 <;> simp only [if_true, if_false, Bool.false_eq_true]
    · refine ⟨fun x hx hx2 => ?_, by rw [hc, i2, h1]; simp [h2]⟩
      rcases List.mem_append.1 hx with hx | hx
      · exact i1 x hx hx2
      · have : x = s := by simpa using hx
        subst this; rw [h1] at hx2; cases hx2
    · refine ⟨fun x hx hx2 => ?_, by rw [hc, i2, h1]; simp [h2]⟩
      rcases List.mem_append.1 hx with hx | hx
      · exact i1 x hx hx2
      · have : x = s := by simpa using hx
        subst this; rw [h1] at hx2; cases hx2
    · refine ⟨fun x hx hx2 => ?_, by rw [hc, i2, htn]; simp⟩
      rcases List.mem_append.1 hx with hx | hx
      · exact i1 x hx hx2
      · simpa using hx
    · exact ⟨i1, by rw [i2, h2]⟩
termination_by env.length
theorem setL_again {n v : BL} (h : setBad n v = false) (env : List BL) : setL (setL env n v) n v = setL env n v := by
  obtain ⟨h1, h2⟩ := setP_once h env
  have htn := txt_named h n
  rw [decide_eq_true rfl] at htn
  have key : (∀ s ∈ setL env n v, named s n = true → s = txt n v) ∧ cnt n (setL env n v) = 1 := by
    unfold setL
    by_cases hd : (setP env n (txt n v)).2 = true
    · rw [if_pos hd] at h2 ⊢; exact ⟨h1, h2⟩
    · rw [if_neg hd]
      rw [if_neg hd] at h2
      refine ⟨fun x hx hx2 => ?_, ?_⟩
      · rcases List.mem_append.1 hx with hx | hx
        · exact h1 x hx hx2
        · simpa using hx
      · have : cnt n ((setP env n (txt n v)).1 ++ [txt n v]) = cnt n (setP env n (txt n v)).1 + 1 := by unfold cnt; rw [List.filter_append]; simp [htn]
        rw [this, h2]
  obtain ⟨k1, k2⟩ := key
  have hs := setP_same (t := txt n v) htn _ k1 (by omega)
  have hd := setP_done n (txt n v) (setL env n v)
  have hd2 : (setP (setL env n v) n (txt n v)).2 = true := by
    rw [hd, List.any_eq_true]
    have : (setL env n v).filter (fun s => named s n) ≠ [] := by intro e; unfold cnt at k2; rw [e] at k2; simp at k2
    obtain ⟨x, hx⟩ := List.exists_mem_of_ne_nil _ this
    exact ⟨x, (List.mem_filter.1 hx).1, (List.mem_filter.1 hx).2⟩
  rw [setL, if_pos hd2, hs]

theorem scrub_again (env : List BL) : scrubL (scrubL env) = scrubL env := by
  unfold scrubL; rw [List.filter_filter]; congr 1; funext s; simp
end Go.Proofs.YtcbkikioapdbbaaDoor
