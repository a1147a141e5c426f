
/- CallsScript, plain: steps that are written, one behind the other, are read again. -/
import Derived.Test.YtcbkikioapdbbaaDoorCe7
namespace Go.Proofs.YtcbkikioapdbbaaDoor
open Go.RowKit Go.Sort

/-- A step's bytes. -/
def stpB (x : Nat × CG) : BL := UInt8.ofNat x.1 :: formB x.2
def scrB (xs : List (Nat × CG)) : BL := xs.flatMap stpB
structure StepOk (x : Nat × CG) : Prop where
  pid : x.1 < 256
  nums : x.2.a < 18446744073709551616 ∧ x.2.b < 18446744073709551616 ∧ x.2.c < 18446744073709551616 ∧ x.2.d < 18446744073709551616 ∧ x.2.e < 18446744073709551616
  chk : chkC x.2 = 0
abbrev stP (x : Nat × CG) : Nat × PC := (x.1, pcOf x.2)
theorem scrB_cons (x : Nat × CG) (xs : List (Nat × CG)) : scrB (x :: xs) = stpB x ++ scrB xs := by simp [scrB]
theorem scrB_app (xs ys : List (Nat × CG)) : scrB (xs ++ ys) = scrB xs ++ scrB ys := by simp [scrB]
theorem scrB_len (xs : List (Nat × CG)) : xs.length ≤ (scrB xs).length := by
  induction xs with
  | nil => exact Nat.zero_le _
  | cons x xs ih => rw [scrB_cons, List.length_append, List.length_cons]; unfold stpB; rw [List.length_cons]; omega
theorem stC_app {l : BL} : ∀ {xs : List (Nat × CG)} {p f : Nat} {post : BL} {acc : List (Nat × PC)}, l.drop p = scrB xs ++ post → p ≤ l.length → (∀ x ∈ xs, StepOk x) → stC l (f + xs.length) p acc = stC l f (p + (scrB xs).length) (acc ++ xs.map stP)
  | [], p, f, post, acc, _, _, _ => by simp [scrB]
  | x :: xs, p, f, post, acc, h, hp, ho => by
    have hx := ho x (List.mem_cons_self ..)
    rw [scrB_cons, List.append_assoc] at h
    have hlt : p < l.length := by
      have := congrArg List.length h
      rw [List.length_drop, List.length_append] at this
      unfold stpB at this
      rw [List.length_cons] at this
      omega
    have h1 : l[p] = UInt8.ofNat x.1 ∧ l.drop (p + 1) = formB x.2 ++ (scrB xs ++ post) := by
      rw [List.drop_eq_getElem_cons hlt] at h
      unfold stpB at h
      rw [List.cons_append] at h
      exact List.cons.inj h
    have hpid : (UInt8.ofNat x.1).toNat = x.1 := by have := hx.pid; simp; omega
    have hr := readC_form hx.nums hx.chk (scrB xs ++ post)
    have e : f + (x :: xs).length = (f + xs.length) + 1 := by rw [List.length_cons]; omega
    rw [e]
    conv => lhs; unfold stC
    rw [dif_pos hlt, h1.2, hr, if_pos rfl, h1.1, hpid]
    have hd : l.drop (p + (1 + (formB x.2).length)) = scrB xs ++ post := by
      have := drop_put h
      unfold stpB at this
      rw [List.length_cons] at this
      rw [show p + (1 + (formB x.2).length) = p + ((formB x.2).length + 1) by omega]
      exact this
    have hpl : p + (1 + (formB x.2).length) ≤ l.length := by
      have := congrArg List.length h
      rw [List.length_drop, List.length_append] at this
      unfold stpB at this
      rw [List.length_cons] at this
      omega
    rw [stC_app hd hpl (fun y hy => ho y (List.mem_cons_of_mem _ hy)), scrB_cons, List.length_append]
    unfold stpB
    rw [List.length_cons, List.map_cons, List.append_assoc]
    congr 1
    omega
/-- All of a script is read. -/
theorem steps_scr {xs : List (Nat × CG)} (ho : ∀ x ∈ xs, StepOk x) : stepsC (scrB xs) = (xs.map stP, 0, 0) := by
  unfold stepsC
  have hl := scrB_len xs
  have e : (scrB xs).length + 1 = ((scrB xs).length - xs.length) + 1 + xs.length := by omega
  rw [e, stC_app (post := []) (by simp) (Nat.zero_le _) ho, Nat.zero_add]
  unfold stC
  rw [dif_neg (by omega)]
  simp
/-- A script that is cut in a step is refused there. -/
theorem steps_cut {xs : List (Nat × CG)} {y : Nat × CG} {c : Nat} (ho : ∀ x ∈ xs, StepOk x) (hy : StepOk y) (hc : c < (formB y.2).length) : stepsC (scrB xs ++ (UInt8.ofNat y.1 :: (formB y.2).take c)) = ([], 24, (scrB xs).length) := by
  unfold stepsC
  generalize hl : scrB xs ++ (UInt8.ofNat y.1 :: (formB y.2).take c) = l
  have hlen : l.length = (scrB xs).length + (1 + c) := by
    rw [← hl, List.length_append, List.length_cons, List.length_take, Nat.min_eq_left (by omega)]
    omega
  have h1 := scrB_len xs
  have e : l.length + 1 = (l.length - xs.length) + 1 + xs.length := by omega
  have hp : (scrB xs).length < l.length := by omega
  have hd : l.drop ((scrB xs).length + 1) = (formB y.2).take c := by
    rw [← hl, ← List.drop_drop, List.drop_left]
    rfl
  rw [e, stC_app (post := UInt8.ofNat y.1 :: (formB y.2).take c) (by rw [← hl]; rfl) (Nat.zero_le _) ho, Nat.zero_add]
  unfold stC
  rw [dif_pos hp, hd, readC_cut hy.nums hy.chk hc, if_neg (by decide)]
/-- Where a step begins. -/
def begL (xs : List (Nat × CG)) (j : Nat) : Nat := (scrB (xs.take j)).length
theorem begL_snoc (xs : List (Nat × CG)) (x : Nat × CG) {j : Nat} (h : j ≤ xs.length) : begL (xs ++ [x]) j = begL xs j := by
  unfold begL
  rw [List.take_append_of_le_length h]
theorem begL_all (xs : List (Nat × CG)) : begL xs xs.length = (scrB xs).length := by unfold begL; rw [List.take_length]
theorem begL_succ {xs : List (Nat × CG)} {j : Nat} (h : j < xs.length) : begL xs (j + 1) = begL xs j + (1 + (formB xs[j].2).length) := by
  unfold begL
  rw [List.take_succ_eq_append_getElem h, scrB_app, List.length_append]
  congr 1
  simp [scrB, stpB]
  omega
/-- Where all steps begin. -/
def begs (xs : List (Nat × CG)) : List Value := (List.range xs.length).map (fun j => .int .i64 (begL xs j : Nat))
theorem begs_len (xs : List (Nat × CG)) : (begs xs).length = xs.length := by simp [begs]
theorem begs_at (xs : List (Nat × CG)) {j : Nat} (h : j < xs.length) : (begs xs)[j]? = some (.int .i64 (begL xs j : Nat)) := by simp [begs, h]
theorem begs_snoc (xs : List (Nat × CG)) (x : Nat × CG) : begs (xs ++ [x]) = begs xs ++ [.int .i64 ((scrB xs).length : Nat)] := by
  unfold begs
  rw [List.length_append, List.length_cons, List.length_nil, Nat.zero_add, List.range_succ, List.map_append]
  congr 1
  · refine List.map_congr_left (fun j hj => ?_)
    rw [begL_snoc xs x (by have := List.mem_range.1 hj; omega)]
  · simp only [List.map_cons, List.map_nil]
    rw [begL_snoc xs x (Nat.le_refl _), begL_all]
/-- A script that is cut where a step begins. -/
theorem scr_take {xs : List (Nat × CG)} {k : Nat} : (scrB xs).take (begL xs k) = scrB (xs.take k) := by
  have e : scrB xs = scrB (xs.take k) ++ scrB (xs.drop k) := by rw [← scrB_app, List.take_append_drop]
  unfold begL
  rw [e]
  simp
theorem scr_cut {xs : List (Nat × CG)} {k cut : Nat} (hk : k < xs.length) (h1 : begL xs k < cut) (h2 : cut < begL xs (k + 1)) (ho : ∀ x ∈ xs, StepOk x) : stepsC ((scrB xs).take cut) = ([], 24, begL xs k) := by
  rw [begL_succ hk] at h2
  obtain ⟨c, rfl⟩ := Nat.exists_eq_add_of_le (show begL xs k + 1 ≤ cut by omega)
  have e : scrB xs = scrB (xs.take k) ++ (stpB xs[k] ++ scrB (xs.drop (k + 1))) := by
    rw [← scrB_cons, ← scrB_app, ← List.drop_eq_getElem_cons hk, List.take_append_drop]
  have e2 : (scrB xs).take (begL xs k + 1 + c) = scrB (xs.take k) ++ (UInt8.ofNat xs[k].1 :: (formB xs[k].2).take c) := by
    rw [e]
    unfold begL
    rw [Nat.add_assoc, List.take_append]
    rw [List.take_of_length_le (by omega), show (scrB (xs.take k)).length + (1 + c) - (scrB (xs.take k)).length = c + 1 by omega]
    unfold stpB
    rw [List.cons_append, List.take_succ_cons, List.take_append_of_le_length (by omega)]
  rw [e2]
  exact steps_cut (fun x hx => ho x (List.mem_of_mem_take hx)) (ho _ (List.getElem_mem hk)) (by omega)
end Go.Proofs.YtcbkikioapdbbaaDoor
