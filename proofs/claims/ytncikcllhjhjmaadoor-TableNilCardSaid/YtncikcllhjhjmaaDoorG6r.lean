
/- Read, at every number. -/
import Derived.Test.YtncikcllhjhjmaaDoorKN
import Derived.Test.YtncikcllhjhjmaaDoorKT
namespace Go.Proofs.YtncikcllhjhjmaaDoor
open Go.ChangeShapes Go.WideShapes Go.ChangeAt Go.RowKit Go.Sort
attribute [local go_sem] Oper.semAt_some

def readL (L : List ND) (ino off n : Int) : BL × Int :=
  if ¬ (0 ≤ ino ∧ ino < (L.length : Int)) then ([], 3) else
  if (L.getD ino.toNat default).kind = 2 then ([], 9) else
  if (L.getD ino.toNat default).kind = 3 ∨ off < 0 ∨ n < 0 then ([], 1) else (rdB (L.getD ino.toNat default).data off n, 0)
/-- What Read gives back. -/
def RdPost (w : World) (r : BL × Int) (e : Ending) (w' : World) : Prop := ∃ v, e = .returned (.tuple #[v, .int .i64 r.2]) ∧ w'.ownsRow w.heap.size 5 1 v r.1.length (r.1.map B8) ∧ Below w.heap.size w w'
theorem own_nilB (w : World) (B : Nat) : w.ownsRow B 5 1 (.slice none 0 0) ([] : BL).length (([] : BL).map B8) := ⟨rfl, .inl ⟨rfl, rfl⟩⟩
theorem readL_out {L : List ND} {ino off n : Int} (h : ¬ (0 ≤ ino ∧ ino < (L.length : Int))) : readL L ino off n = ([], 3) := by unfold readL; rw [if_pos h]
theorem readL_dir {L : List ND} {i : Nat} {off n : Int} (h : i < L.length) (h2 : (L.getD i default).kind = 2) : readL L i off n = ([], 9) := by
  unfold readL
  rw [if_neg (by omega), Int.toNat_natCast, if_pos h2]
theorem readL_bad {L : List ND} {i : Nat} {off n : Int} (h : i < L.length) (h2 : ¬ (L.getD i default).kind = 2) (h3 : (L.getD i default).kind = 3 ∨ off < 0 ∨ n < 0) : readL L i off n = ([], 1) := by
  unfold readL
  rw [if_neg (by omega), Int.toNat_natCast, if_neg h2, if_pos h3]
theorem readL_in {L : List ND} {i : Nat} {off n : Int} (h : i < L.length) (h2 : ¬ (L.getD i default).kind = 2) (h3 : ¬ ((L.getD i default).kind = 3 ∨ off < 0 ∨ n < 0)) : readL L i off n = (rdB (L.getD i default).data off n, 0) := by
  unfold readL
  rw [if_neg (by omega), Int.toNat_natCast, if_neg h2, if_neg h3]

def ndAt (L : List ND) (i : Int) : ND := if 0 ≤ i ∧ i < (L.length : Int) then L.getD i.toNat default else default
def errAt (L : List ND) (i : Int) : Int := if 0 ≤ i ∧ i < (L.length : Int) then 0 else 3
theorem ndAt_in {L : List ND} {i : Nat} (h : i < L.length) : ndAt L (i : Int) = L.getD i default := by unfold ndAt; rw [if_pos (by omega), Int.toNat_natCast]
theorem errAt_in {L : List ND} {i : Nat} (h : i < L.length) : errAt L (i : Int) = 0 := by unfold errAt; rw [if_pos (by omega)]
theorem ndAt_out {L : List ND} {i : Int} (h : ¬ (0 ≤ i ∧ i < (L.length : Int))) : ndAt L i = default := by unfold ndAt; rw [if_neg h]
theorem errAt_out {L : List ND} {i : Int} (h : ¬ (0 ≤ i ∧ i < (L.length : Int))) : errAt L i = 3 := by unfold errAt; rw [if_neg h]
theorem readL_len {L : List ND} (hf : Fine L) (ino off n : Int) : (readL L ino off n).1.length ≤ 1000000 := by
  unfold readL
  split
  · simp
  · rename_i h
    split
    · simp
    · split
      · simp
      · have := (hf.data ino.toNat (by omega)).1
        generalize L.getD ino.toNat default = x at *
        unfold rdB
        simp
        omega

end Go.Proofs.YtncikcllhjhjmaaDoor
