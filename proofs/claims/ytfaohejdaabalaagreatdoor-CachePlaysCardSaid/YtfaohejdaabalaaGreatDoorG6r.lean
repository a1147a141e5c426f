
/- Read, at every number. -/
import Derived.Test.YtfaohejdaabalaaGreatDoorKN
import Derived.Test.YtfaohejdaabalaaGreatDoorKT
namespace Go.Proofs.YtfaohejdaabalaaGreatDoor
open Go.ChangeShapes Go.WideShapes Go.ChangeAt Go.RowKit Go.Sort
attribute [local go_sem] Oper.semAt_some

def readL (L : List ND) (ino off n : Int) : BL × Int :=
  if ¬ (0 ≤ ino ∧ ino < (L.length : Int)) then ([], 3) else
  if (L.getD ino.toNat default).kind = 2 then ([], 9) else
  if (L.getD ino.toNat default).kind = 3 ∨ off < 0 ∨ n < 0 then ([], 1) else (rdB (L.getD ino.toNat default).data off n, 0)
/-- What Read gives back. -/
def RdPost (w : World) (r : BL × Int) (e : Ending) (w' : World) : Prop := ∃ v, e = .returned (.tuple #[v, .int .i64 r.2]) ∧ w'.ownsRow w.heap.size 5 1 v r.1.length (r.1.map B8) ∧ Below w.heap.size w w'
theorem own_nilB (w : World) (B : Nat) : w.ownsRow B 5 1 (.slice none 0 0) ([] : BL).length (([] : BL).map B8) := ⟨rfl, .inl ⟨rfl, rfl⟩⟩
theorem readL_out {L : List ND} {ino off n : Int} (h : ¬ (0 ≤ ino ∧ ino < (L.length : Int))) : readL L ino off n = ([], 3) := by unfold readL; rw [if_pos h]
theorem readL_dir {L : List ND} {i : Nat} {off n : Int} (h : i < L.length) (h2 : (L.getD i default).kind = 2) : readL L i off n = ([], 9) := by
  unfold readL
  rw [if_neg (by omega), Int.toNat_natCast, if_pos h2]
theorem readL_bad {L : List ND} {i : Nat} {off n : Int} (h : i < L.length) (h2 : ¬ (L.getD i default).kind = 2) (h3 : (L.getD i default).kind = 3 ∨ off < 0 ∨ n < 0) : readL L i off n = ([], 1) := by
  unfold readL
  rw [if_neg (by omega), Int.toNat_natCast, if_neg h2, if_pos h3]
theorem readL_in {L : List ND} {i : Nat} {off n : Int} (h : i < L.length) (h2 : ¬ (L.getD i default).kind = 2) (h3 : ¬ ((L.getD i default).kind = 3 ∨ off < 0 ∨ n < 0)) : readL L i off n = (rdB (L.getD i default).data off n, 0) := by
  unfold readL
  rw [if_neg (by omega), Int.toNat_natCast, if_neg h2, if_neg h3]

set_option maxRecDepth 100000 in
set_option maxHeartbeats 4000000 in
theorem read_any (F : Nat) (t : FT) (ino off n : Int) (w : World) (h : FSat w F t) :
    Calls Tryz.prog 44 #[.pointer (some ⟨F, 0, none⟩), .int .i64 ino, .int .i64 off, .int .i64 n] w (RdPost w (readL t.L ino off n)) := by
  by_cases hin : 0 ≤ ino ∧ ino < (t.L.length : Int)
  · obtain ⟨i, rfl⟩ := Int.eq_ofNat_of_zero_le hin.1
    have hi : i < t.L.length := by omega
    by_cases h2 : (t.nd i).kind = 2
    · rw [readL_dir hi h2]
      have HN := hid (node_in F t i w h hi)
      rw [if_pos h2] at HN
      have hid9 := isDir_any (t.nd i).kind (t.bk i) w
      rw [ndV_kind, if_pos h2, decide_eq_true h2] at hid9
      have HID := hid hid9
      clear hid9 h2 h
      go_enter Tryz.func44, Tryz.ntmps44
      go_wp2_with fail
      refine (HN.out).mono ?_
      rintro e' w1 ⟨rfl, rfl⟩
      go_wp2_with fail
      refine (HID.out).mono ?_
      rintro e' w1 ⟨rfl, rfl⟩
      go_wp2_with fail
      go_ret2
      exact ⟨_, rfl, own_nilB _ _, Below.refl _ _⟩
    · by_cases h3 : (t.nd i).kind = 3
      · rw [readL_bad hi h2 (.inl h3)]
        have HN := hid (node_in F t i w h hi)
        rw [if_neg h2, if_pos h3] at HN
        have hid9 := isDir_any (t.nd i).kind (t.bk i) w
        rw [ndV_kind, if_neg h2, if_pos h3, decide_eq_false h2] at hid9
        have HID := hid hid9
        have hta := ta_fl (t.bk i)
        clear hid9 h2 h3 h
        go_enter Tryz.func44, Tryz.ntmps44
        go_wp2_with fail
        refine (HN.out).mono ?_
        rintro e' w1 ⟨rfl, rfl⟩
        go_wp2_with fail
        refine (HID.out).mono ?_
        rintro e' w1 ⟨rfl, rfl⟩
        go_wp2_with fail
        go_ret2
        exact ⟨_, rfl, own_nilB _ _, Below.refl _ _⟩
      · by_cases h4 : off < 0 ∨ n < 0
        · rw [readL_bad hi h2 (.inr h4)]
          have HN := hid (node_in F t i w h hi)
          rw [if_neg h2, if_neg h3] at HN
          have hid9 := isDir_any (t.nd i).kind (t.bk i) w
          rw [ndV_kind, if_neg h2, if_neg h3, decide_eq_false h2] at hid9
          have HID := hid hid9
          have hta := ta_ff (t.bk i)
          clear hid9 h2 h3 h
          by_cases h5 : off < 0
          · have d0 : decide (off < 0) = true := by simpa using h5
            clear h4
            go_enter Tryz.func44, Tryz.ntmps44
            go_wp2_with fail
            refine (HN.out).mono ?_
            rintro e' w1 ⟨rfl, rfl⟩
            go_wp2_with fail
            refine (HID.out).mono ?_
            rintro e' w1 ⟨rfl, rfl⟩
            go_wp2_with fail
            go_ret2
            exact ⟨_, rfl, own_nilB _ _, Below.refl _ _⟩
          · have d0 : decide (off < 0) = false := by simpa using h5
            have d1 : decide (n < 0) = true := by simp; omega
            clear h4
            go_enter Tryz.func44, Tryz.ntmps44
            go_wp2_with fail
            refine (HN.out).mono ?_
            rintro e' w1 ⟨rfl, rfl⟩
            go_wp2_with fail
            refine (HID.out).mono ?_
            rintro e' w1 ⟨rfl, rfl⟩
            go_wp2_with fail
            go_ret2
            exact ⟨_, rfl, own_nilB _ _, Below.refl _ _⟩
        · rw [readL_in hi h2 (by rintro (h | h); exact h3 h; exact h4 h)]
          refine (read_file F t i off n w h hi h2 h3 (by omega) (by omega)).mono ?_
          rintro e w' ⟨v, rfl, h7, h8⟩
          exact ⟨v, rfl, h7, h8⟩
  · rw [readL_out hin]
    have HN := hid (node_out F t ino w h hin)
    clear h
    go_enter Tryz.func44, Tryz.ntmps44
    go_wp2_with fail
    refine (HN.out).mono ?_
    rintro e' w1 ⟨rfl, rfl⟩
    go_wp2_with fail
    go_ret2
    exact ⟨_, rfl, own_nilB _ _, Below.refl _ _⟩

def ndAt (L : List ND) (i : Int) : ND := if 0 ≤ i ∧ i < (L.length : Int) then L.getD i.toNat default else default
def errAt (L : List ND) (i : Int) : Int := if 0 ≤ i ∧ i < (L.length : Int) then 0 else 3
theorem ndAt_in {L : List ND} {i : Nat} (h : i < L.length) : ndAt L (i : Int) = L.getD i default := by unfold ndAt; rw [if_pos (by omega), Int.toNat_natCast]
theorem errAt_in {L : List ND} {i : Nat} (h : i < L.length) : errAt L (i : Int) = 0 := by unfold errAt; rw [if_pos (by omega)]
theorem ndAt_out {L : List ND} {i : Int} (h : ¬ (0 ≤ i ∧ i < (L.length : Int))) : ndAt L i = default := by unfold ndAt; rw [if_neg h]
theorem errAt_out {L : List ND} {i : Int} (h : ¬ (0 ≤ i ∧ i < (L.length : Int))) : errAt L i = 3 := by unfold errAt; rw [if_neg h]
theorem readL_len {L : List ND} (hf : Fine L) (ino off n : Int) : (readL L ino off n).1.length ≤ 1000000 := by
  unfold readL
  split
  · simp
  · rename_i h
    split
    · simp
    · split
      · simp
      · have := (hf.data ino.toNat (by omega)).1
        generalize L.getD ino.toNat default = x at *
        unfold rdB
        simp
        omega

end Go.Proofs.YtfaohejdaabalaaGreatDoor
