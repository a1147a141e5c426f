
/- Stage 20, plain: what lies on the stack of a program that begins. -/
import Derived.Test.YtihaakcfegelkaaDoorTk0
import Derived.Test.YtihaakcfegelkaaDoorZM
namespace Go.Proofs.YtihaakcfegelkaaDoor

/-- Texts, each with its byte 0. -/
def catZ (l : List BL) : BL := l.flatMap (· ++ [0])
def top20 : Nat := 140737488351232
/-- Where the texts of a list lie whose first one lies at p. -/
def atsL (p : Nat) : List BL → List Nat
  | [] => []
  | s :: r => p :: atsL (p + s.length + 1) r
/-- All texts, and the noughts at the top. -/
def txtB (argv env : List BL) (path : BL) : BL := catZ argv ++ (catZ env ++ (path ++ [0] ++ List.replicate 8 0))
def numsB (l : List Nat) : BL := l.flatMap (leB · 8)
def auxN (l : List (Nat × Nat)) : List Nat := l.flatMap (fun x => [x.1, x.2])
def vecN (argv env : List BL) (aux : List (Nat × Nat)) (path : BL) : List Nat :=
  [argv.length] ++ atsL (top20 - (txtB argv env path).length) argv ++ [0] ++ atsL (top20 - (txtB argv env path).length + (catZ argv).length) env ++ [0] ++ auxN aux ++ [31, top20 - (path.length + 9), 0, 0]
def numN (argv env : List BL) (aux : List (Nat × Nat)) : Nat := 1 + argv.length + 1 + env.length + 1 + 2 * aux.length + 4
def allN (argv env : List BL) (aux : List (Nat × Nat)) (path : BL) : Nat := (numN argv env aux * 8 + (txtB argv env path).length + 15) / 16 * 16
def keyBad (x : Nat × Nat) : Bool := decide (x.1 = 0 ∨ x.1 = 31)
def chkS (argv env : List BL) (aux : List (Nat × Nat)) (path : BL) : Int :=
  if chkL argv ≠ 0 then chkL argv else if chkL env ≠ 0 then chkL env else if 200 < path.length ∨ 16 < aux.length then 12 else if has0 path = true then 1 else if aux.any keyBad = true then 1 else 0
def layB (argv env : List BL) (aux : List (Nat × Nat)) (path : BL) : BL :=
  numsB (vecN argv env aux path) ++ (List.replicate (allN argv env aux path - (numN argv env aux * 8 + (txtB argv env path).length)) 0 ++ txtB argv env path)
/-- What Lay answers. -/
def layE (argv env : List BL) (aux : List (Nat × Nat)) (path : BL) : Int :=
  if chkS argv env aux path ≠ 0 then chkS argv env aux path else if 16384 < allN argv env aux path then 12 else 0

theorem atsL_len (p : Nat) (l : List BL) : (atsL p l).length = l.length := by
  induction l generalizing p with
  | nil => rfl
  | cons s r ih => simp [atsL, ih]
theorem catZ_nil : catZ [] = [] := rfl
theorem catZ_cons (s : BL) (r : List BL) : catZ (s :: r) = s ++ [0] ++ catZ r := by simp [catZ]
theorem catZ_app (a b : List BL) : catZ (a ++ b) = catZ a ++ catZ b := by simp [catZ]
theorem catZ_one (s : BL) : catZ [s] = s ++ [0] := by simp [catZ]
theorem numsB_len (l : List Nat) : (numsB l).length = 8 * l.length := by
  induction l with
  | nil => rfl
  | cons x r ih =>
    have : numsB (x :: r) = leB x 8 ++ numsB r := by simp [numsB]
    rw [this, List.length_append, ih, leB_len, List.length_cons]; omega
theorem numsB_app (a b : List Nat) : numsB (a ++ b) = numsB a ++ numsB b := by simp [numsB]
theorem numsB_one (x : Nat) : numsB [x] = leB x 8 := by simp [numsB]
theorem auxN_len (l : List (Nat × Nat)) : (auxN l).length = 2 * l.length := by
  induction l with
  | nil => rfl
  | cons x r ih => have : auxN (x :: r) = [x.1, x.2] ++ auxN r := by simp [auxN]
                   rw [this, List.length_append, ih]; simp; omega
theorem vecN_len (argv env : List BL) (aux : List (Nat × Nat)) (path : BL) : (vecN argv env aux path).length = numN argv env aux := by
  unfold vecN numN
  simp only [List.length_append, atsL_len, auxN_len, List.length_cons, List.length_nil]
theorem allN_ge (argv env : List BL) (aux : List (Nat × Nat)) (path : BL) : numN argv env aux * 8 + (txtB argv env path).length ≤ allN argv env aux path := by
  unfold allN; omega
theorem layB_len (argv env : List BL) (aux : List (Nat × Nat)) (path : BL) : (layB argv env aux path).length = allN argv env aux path := by
  unfold layB
  have := allN_ge argv env aux path
  simp only [List.length_append, numsB_len, vecN_len, List.length_replicate]
  omega
/-- How many bytes texts have, each with its byte 0. -/
def tbN (l : List BL) : Nat := (l.map (fun s => s.length + 1)).sum
theorem catZ_len (l : List BL) : (catZ l).length = tbN l := by
  induction l with
  | nil => rfl
  | cons s r ih => rw [catZ_cons]; simp only [List.length_append, ih, List.length_cons, List.length_nil, tbN, List.map_cons, List.sum_cons]
theorem tbN_snoc (l : List BL) (s : BL) : tbN (l ++ [s]) = tbN l + (s.length + 1) := by unfold tbN; simp
theorem txtB_len (argv env : List BL) (path : BL) : (txtB argv env path).length = tbN argv + (tbN env + (path.length + 9)) := by
  unfold txtB; simp only [List.length_append, catZ_len, List.length_cons, List.length_nil, List.length_replicate]
/-- The texts from the i-th on lie at the end. -/
theorem atsL_get (p : Nat) (l : List BL) (i : Nat) (h : i < (atsL p l).length) : (atsL p l)[i] = p + tbN (l.take i) := by
  induction l generalizing p i with
  | nil => simp [atsL] at h
  | cons s r ih =>
    match i with
    | 0 => simp [atsL, tbN]
    | i + 1 =>
      have h' : i < (atsL (p + s.length + 1) r).length := by simp [atsL] at h; exact h
      have : (atsL p (s :: r))[i + 1] = (atsL (p + s.length + 1) r)[i] := rfl
      rw [this, ih _ _ h']
      simp only [List.take_succ_cons, tbN, List.map_cons, List.sum_cons]
      omega
theorem tbN_split (l : List BL) (i : Nat) : tbN l = tbN (l.take i) + tbN (l.drop i) := by
  have h : ∀ a b : List BL, tbN (a ++ b) = tbN a + tbN b := fun a b => by unfold tbN; simp
  rw [← h, List.take_append_drop]
end Go.Proofs.YtihaakcfegelkaaDoor
