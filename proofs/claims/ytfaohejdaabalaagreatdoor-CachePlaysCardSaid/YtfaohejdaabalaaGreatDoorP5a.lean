
/- hostelref02: Dir, Tail. -/
import Derived.Test.YtfaohejdaabalaaGreatDoorKP
import Derived.Test.YtfaohejdaabalaaGreatDoorKE
namespace Go.Proofs.YtfaohejdaabalaaGreatDoor
open Go.RowKit Go.Sort

theorem byte_eq (s : ByteArray) (k : Nat) (h : k < s.size) (c : UInt8) (n : Int) (hn : (c.toNat : Int) = n) : ((s[k].toNat : Int) == n) = decide (s[k] = c) := by
  rw [Bool.eq_iff_iff, beq_iff_eq, decide_eq_true_eq, ← hn]
  constructor
  · intro h; exact UInt8.toNat_inj.1 (by omega)
  · intro h; rw [h]
theorem take_snoc2 (s : ByteArray) (k : Nat) (h : k < s.size) : s.data.toList.take (k + 1) = s.data.toList.take k ++ [s[k]] := by
  rw [List.take_succ_eq_append_getElem (by simpa using h)]; rfl

theorem tail_at {s : ByteArray} {n : Nat} (h : s.size = n + 1) (hlt : n < s.size) : tailB s.data.toList = decide (s[n] = 47) := by
  have e : s.data.toList = s.data.toList.take n ++ [s[n]] := by
    rw [← take_snoc2 s n (by omega), List.take_of_length_le (by rw [size_list]; omega)]
  rw [Bool.eq_iff_iff, tail_iff, decide_eq_true_eq]
  constructor
  · rintro ⟨a, ha⟩
    rw [e] at ha
    have := List.append_inj_right' ha rfl
    simpa using this
  · intro h2
    exact ⟨_, by rw [e, h2]⟩

theorem rtail_any (s : ByteArray) (w : World) (hs : s.size ≤ 1000000) :
    Calls Tryz.prog 75 #[.string s] w fun e' w' => e' = .returned (.bool (tailB s.data.toList)) ∧ w = w' := by
  by_cases h : s.size = 0
  · have hd : ¬ 0 < (s.size : Int) := by omega
    have HF := hid (show false = tailB s.data.toList by
      have : s.data.toList = [] := List.length_eq_zero_iff.1 (by rw [size_list]; exact h)
      rw [this]; rfl)
    clear h
    go_enter Tryz.func75, Tryz.ntmps75
    go_wp2_with fail
    go_ret
    exact ⟨ret_bool HF.out, rfl⟩
  · obtain ⟨n, hn⟩ : ∃ n, s.size = n + 1 := ⟨s.size - 1, by omega⟩
    have hlt : n < s.size := by omega
    have hd : 0 < (s.size : Int) := by omega
    have he : (s.size : Int) - 1 = n := by omega
    have HT := hid (tail_at hn hlt)
    have hb := byte_eq s n hlt 47 47 rfl
    clear hn h
    go_enter Tryz.func75, Tryz.ntmps75
    go_wp2_with fail
    go_ret
    exact ⟨ret_bool (by rw [HT.out]), rfl⟩

end Go.Proofs.YtfaohejdaabalaaGreatDoor
