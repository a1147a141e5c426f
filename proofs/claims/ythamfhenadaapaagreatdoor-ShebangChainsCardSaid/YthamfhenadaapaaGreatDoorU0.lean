
/- Scripts' first lines, their arguments and chains: plain. -/
import Derived.Test.YthamfhenadaapaaGreatDoorKL
import Derived.Test.YthamfhenadaapaaGreatDoorZM
import Derived.Lib.SlTrimSet
import Derived.Lib.IndexAny
namespace Go.Proofs.YthamfhenadaapaaGreatDoor
open Go.RowKit Go.Sort

def cs2 : BL := [32, 9]
def trL (l : BL) : BL := Lib.trimLeftS l cs2
def trB (l : BL) : BL := Lib.trimRightS l cs2
def trS (l : BL) : BL := trB (trL l)
def blk (c : UInt8) : Bool := cs2.contains c
theorem trL_eq (l : BL) : trL l = l.dropWhile blk := rfl
theorem trB_eq (l : BL) : trB l = (l.reverse.dropWhile blk).reverse := rfl
theorem trL_nil : trL [] = [] := rfl
theorem trB_nil : trB [] = [] := rfl
theorem trL_yes {c : UInt8} {l : BL} (h : blk c = true) : trL (c :: l) = trL l := by rw [trL_eq, trL_eq, List.dropWhile_cons, if_pos h]
theorem trL_no {c : UInt8} {l : BL} (h : blk c = false) : trL (c :: l) = c :: l := by rw [trL_eq, List.dropWhile_cons, if_neg (by rw [h]; simp)]
theorem trB_yes {c : UInt8} {l : BL} (h : blk c = true) : trB (l ++ [c]) = trB l := by
  rw [trB_eq, trB_eq, List.reverse_append, List.reverse_singleton, List.singleton_append, List.dropWhile_cons, if_pos h]
theorem trB_no {c : UInt8} {l : BL} (h : blk c = false) : trB (l ++ [c]) = l ++ [c] := by
  rw [trB_eq, List.reverse_append, List.reverse_singleton, List.singleton_append, List.dropWhile_cons, if_neg (by rw [h]; simp), List.reverse_cons, List.reverse_reverse]
theorem drop_nil : ∀ {l : BL}, l.dropWhile blk = [] ↔ ∀ x ∈ l, blk x = true
  | [] => by simp
  | c :: l => by
    rw [List.dropWhile_cons]
    cases h : blk c
    · simp [h]
    · simp only [if_true, List.mem_cons, forall_eq_or_imp, h, true_and]
      exact drop_nil
theorem trB_app {a m : BL} {x : UInt8} (hx : blk x = false) (hm : x ∈ m) : trB (a ++ m) = a ++ trB m := by
  rw [trB_eq, trB_eq, List.reverse_append, List.dropWhile_append]
  have : (m.reverse.dropWhile blk).isEmpty = false := by
    rw [List.isEmpty_eq_false_iff]
    intro h
    rw [drop_nil] at h
    have := h x (by simpa using hm)
    rw [hx] at this
    cases this
  rw [this]
  simp
theorem trL_suffix (l : BL) : trL l <:+ l := List.dropWhile_suffix _
theorem trB_len (l : BL) : (trB l).length ≤ l.length := by
  rw [trB_eq, List.length_reverse]
  have := (List.dropWhile_suffix (l := l.reverse) blk).length_le
  simpa using this
theorem trL_len (l : BL) : (trL l).length ≤ l.length := (trL_suffix l).length_le
theorem trS_len (l : BL) : (trS l).length ≤ l.length := Nat.le_trans (trB_len _) (trL_len _)
/-- From the left first, or from the right: the same. -/
theorem trim_swap : ∀ l : BL, trL (trB l) = trB (trL l)
  | [] => rfl
  | c :: l => by
    cases h : blk c
    · rw [trL_no h]
      have h1 := trB_app (a := []) (m := [c]) (x := c) h (by simp)
      obtain ⟨r, hr⟩ : ∃ r, trB (c :: l) = c :: r := by
        by_cases hl : ∃ x ∈ l, blk x = false
        · obtain ⟨x, hx, hb⟩ := hl
          refine ⟨trB l, ?_⟩
          have := trB_app (a := [c]) (m := l) hb hx
          simpa using this
        · refine ⟨[], ?_⟩
          have e : l.reverse.dropWhile blk = [] := by
            rw [drop_nil]
            intro x hx
            cases hb : blk x
            · exact absurd ⟨x, by simpa using hx, hb⟩ hl
            · rfl
          rw [trB_eq, List.reverse_cons, List.dropWhile_append, e]
          simp [h]
      rw [hr, trL_no h]
    · rw [trL_yes h]
      by_cases hl : ∃ x ∈ l, blk x = false
      · obtain ⟨x, hx, hb⟩ := hl
        have := trB_app (a := [c]) (m := l) hb hx
        have e : trB (c :: l) = c :: trB l := by simpa using this
        rw [e, trL_yes h]
        exact trim_swap l
      · have e : (c :: l).reverse.dropWhile blk = [] := by
          rw [drop_nil]
          intro x hx
          cases hb : blk x
          · rcases List.mem_cons.1 (List.mem_reverse.1 hx) with rfl | hx
            · rw [h] at hb; cases hb
            · exact absurd ⟨x, hx, hb⟩ hl
          · rfl
        have e2 : trL l = [] := by
          rw [trL_eq, drop_nil]
          intro x hx
          cases hb : blk x
          · exact absurd ⟨x, hx, hb⟩ hl
          · rfl
        rw [trB_eq, e, e2]
        rfl
theorem trS_lib (l : BL) : Lib.trimS l cs2 = trS l := trim_swap l
theorem trB_last {t : BL} (h : trB t = t) {a : BL} {x : UInt8} (e : t = a ++ [x]) : blk x = false := by
  cases hx : blk x
  · rfl
  · subst e
    rw [trB_yes hx] at h
    have := trB_len a
    rw [h, List.length_append, List.length_singleton] at this
    omega
theorem trB_suffix {t m : BL} (h : trB t = t) (hm : m <:+ t) : trB m = m := by
  rcases List.eq_nil_or_concat m with rfl | ⟨a, x, rfl⟩
  · rfl
  · obtain ⟨p, rfl⟩ := hm
    rw [List.concat_eq_append] at h ⊢
    exact trB_no (trB_last h (a := p ++ a) (by simp))
theorem trB_twice (l : BL) : trB (trB l) = trB l := by
  rw [trB_eq l]
  rcases h : l.reverse.dropWhile blk with _ | ⟨x, r⟩
  · rfl
  · rw [List.reverse_cons]
    refine trB_no ?_
    have := List.head_dropWhile_not (p := blk) (l := l.reverse) (by rw [h]; simp)
    simp only [h, List.head_cons] at this
    simpa using this
/-- What stands behind a text that was trimmed needs no trimming at its end. -/
theorem trS_tail (l : BL) (i : Nat) : trS ((trS l).drop i) = trL ((trS l).drop i) := by
  unfold trS
  exact trB_suffix (trB_twice _) ((trL_suffix _).trans (List.drop_suffix _ _))

def lineL (b : BL) : BL := upTo 10 (b.drop 2)
def bang (b : BL) : Bool := decide (b.take 2 = [35, 33])
def restL (t : BL) : BL × BL × Bool × Int :=
  if Lib.indexAny t cs2 = -1 then (t, [], true, 0) else (t.take (Lib.indexAny t cs2).toNat, trL (t.drop (Lib.indexAny t cs2).toNat), true, 0)
/-- What a script's first line says. -/
def parL (b : BL) : BL × BL × Bool × Int :=
  if bang b = false then ([], [], false, 0) else
  if 127 < (lineL b).length then ([], [], false, 13) else
  if trS (lineL b) = [] then ([], [], false, 13) else restL (trS (lineL b))
theorem parL_no {b : BL} (h : bang b = false) : parL b = ([], [], false, 0) := by unfold parL; rw [if_pos h]
theorem parL_long {b : BL} (h : bang b = true) (h1 : 127 < (lineL b).length) : parL b = ([], [], false, 13) := by unfold parL; rw [if_neg (by rw [h]; simp), if_pos h1]
theorem parL_empty {b : BL} (h : bang b = true) (h1 : ¬ 127 < (lineL b).length) (h2 : trS (lineL b) = []) : parL b = ([], [], false, 13) := by unfold parL; rw [if_neg (by rw [h]; simp), if_neg h1, if_pos h2]
theorem parL_rest {b : BL} (h : bang b = true) (h1 : ¬ 127 < (lineL b).length) (h2 : ¬ trS (lineL b) = []) : parL b = restL (trS (lineL b)) := by unfold parL; rw [if_neg (by rw [h]; simp), if_neg h1, if_neg h2]
theorem restL_no {t : BL} (h : Lib.indexAny t cs2 = -1) : restL t = (t, [], true, 0) := by unfold restL; rw [if_pos h]
theorem restL_at {t : BL} {i : Nat} (h : Lib.indexAny t cs2 = (i : Int)) : restL t = (t.take i, trL (t.drop i), true, 0) := by
  unfold restL
  rw [h, if_neg (by omega), Int.toNat_natCast]
/-- What Parse gives back. -/
def parV (r : BL × BL × Bool × Int) : Value := .tuple #[.string (ba r.1), .string (ba r.2.1), .bool r.2.2.1, .int .i64 r.2.2.2]
theorem restL_small (t : BL) : (restL t).1.length ≤ t.length ∧ (restL t).2.1.length ≤ t.length := by
  unfold restL
  split
  · exact ⟨Nat.le_refl _, Nat.zero_le _⟩
  · refine ⟨by simp; omega, ?_⟩
    have := trL_len (t.drop (Lib.indexAny t cs2).toNat)
    simp at this ⊢
    omega
theorem parL_small (b : BL) : (parL b).1.length ≤ 127 ∧ (parL b).2.1.length ≤ 127 := by
  unfold parL
  split
  · exact ⟨Nat.zero_le _, Nat.zero_le _⟩
  · split
    · exact ⟨Nat.zero_le _, Nat.zero_le _⟩
    · split
      · exact ⟨Nat.zero_le _, Nat.zero_le _⟩
      · have h1 := trS_len (lineL b)
        have h2 := restL_small (trS (lineL b))
        omega

def argvL (interp arg path : BL) (argv : List BL) : List BL := (if arg = [] then [interp, path] else [interp, arg, path]) ++ argv.drop 1
theorem argvL_len (i a p : BL) (l : List BL) : (argvL i a p l).length ≤ l.length + 3 := by
  unfold argvL
  split <;> simp <;> omega
def execB (c : CR) (x : ND) : Bool := decide (x.kind = 1) && mayB c.e c.g c.l x.kind x.mode x.uid x.gid 1
def progL (L : List ND) (c : CR) (p : BL) : Int × Int :=
  if (walkL L c 0 p true).2 ≠ 0 then (0, (walkL L c 0 p true).2) else
  if execB c (L.getD (walkL L c 0 p true).1.toNat default) then ((walkL L c 0 p true).1, 0) else (0, 5)
theorem progL_bad {L : List ND} {c : CR} {p : BL} {e : Int} (h : (walkL L c 0 p true).2 = e) (h1 : ¬ e = 0) : progL L c p = (0, e) := by unfold progL; rw [h, if_pos h1]
theorem progL_not {L : List ND} {c : CR} {p : BL} {i : Nat} (h : walkL L c 0 p true = ((i : Int), 0)) (h1 : execB c (L.getD i default) = false) : progL L c p = (0, 5) := by
  unfold progL
  rw [h, if_neg (by simp), Int.toNat_natCast, h1]
  rfl
theorem progL_ok {L : List ND} {c : CR} {p : BL} {i : Nat} (h : walkL L c 0 p true = ((i : Int), 0)) (h1 : execB c (L.getD i default) = true) : progL L c p = ((i : Int), 0) := by
  unfold progL
  rw [h, if_neg (by simp), Int.toNat_natCast, h1]
  rfl
/-- Where a path leads, what the arguments are then, or why not: so many scripts may follow yet. -/
def chainL (L : List ND) (c : CR) : Nat → BL → List BL → Int × BL × List BL × Int
  | n, p, out =>
    if (progL L c p).2 ≠ 0 then (0, [], [], (progL L c p).2) else
    if (parL (L.getD (progL L c p).1.toNat default).data).2.2.2 ≠ 0 then (0, [], [], (parL (L.getD (progL L c p).1.toNat default).data).2.2.2) else
    if (parL (L.getD (progL L c p).1.toNat default).data).2.2.1 = true then
      match n with
      | 0 => (0, [], [], 10)
      | n + 1 => chainL L c n (parL (L.getD (progL L c p).1.toNat default).data).1 (argvL (parL (L.getD (progL L c p).1.toNat default).data).1 (parL (L.getD (progL L c p).1.toNat default).data).2.1 p out)
    else if chkL out ≠ 0 then (0, [], [], chkL out) else ((progL L c p).1, p, out, 0)
section
variable {L : List ND} {c : CR} {n : Nat} {p : BL} {out : List BL} {e ino : Int} {x a : BL} {is : Bool}
theorem chainL_bad (h : progL L c p = (ino, e)) (h1 : ¬ e = 0) : chainL L c n p out = (0, [], [], e) := by unfold chainL; rw [h, if_pos h1]
theorem chainL_par (h : progL L c p = (ino, 0)) (h1 : parL (L.getD ino.toNat default).data = (x, a, is, e)) (h2 : ¬ e = 0) : chainL L c n p out = (0, [], [], e) := by
  unfold chainL; rw [h, if_neg (by simp), h1, if_pos h2]
theorem chainL_loop (h : progL L c p = (ino, 0)) (h1 : parL (L.getD ino.toNat default).data = (x, a, true, 0)) : chainL L c 0 p out = (0, [], [], 10) := by
  unfold chainL; rw [h, if_neg (by simp), h1, if_neg (by simp), if_pos rfl]
theorem chainL_next (h : progL L c p = (ino, 0)) (h1 : parL (L.getD ino.toNat default).data = (x, a, true, 0)) : chainL L c (n + 1) p out = chainL L c n x (argvL x a p out) := by
  rw [chainL.eq_def]; simp only; rw [h, if_neg (by simp), h1, if_neg (by simp), if_pos rfl]
theorem chainL_chk (h : progL L c p = (ino, 0)) (h1 : parL (L.getD ino.toNat default).data = (x, a, false, 0)) (h2 : ¬ chkL out = 0) : chainL L c n p out = (0, [], [], chkL out) := by
  unfold chainL; rw [h, if_neg (by simp), h1, if_neg (by simp), if_neg (by simp), if_pos h2]
theorem chainL_ok (h : progL L c p = (ino, 0)) (h1 : parL (L.getD ino.toNat default).data = (x, a, false, 0)) (h2 : chkL out = 0) : chainL L c n p out = (ino, p, out, 0) := by
  unfold chainL; rw [h, if_neg (by simp), h1, if_neg (by simp), if_neg (by simp), if_neg (by simp [h2])]
end
end Go.Proofs.YthamfhenadaapaaGreatDoor
