
/- hostelref02: Dir, Tail. -/
import Derived.Test.YtaaohcpiideaaaaDoorKP
import Derived.Test.YtaaohcpiideaaaaDoorKE
namespace Go.Proofs.YtaaohcpiideaaaaDoor
open Go.RowKit Go.Sort

theorem byte_eq (s : ByteArray) (k : Nat) (h : k < s.size) (c : UInt8) (n : Int) (hn : (c.toNat : Int) = n) : ((s[k].toNat : Int) == n) = decide (s[k] = c) := by
  rw [Bool.eq_iff_iff, beq_iff_eq, decide_eq_true_eq, ← hn]
  constructor
  · intro h; exact UInt8.toNat_inj.1 (by omega)
  · intro h; rw [h]
theorem take_snoc2 (s : ByteArray) (k : Nat) (h : k < s.size) : s.data.toList.take (k + 1) = s.data.toList.take k ++ [s[k]] := by
  rw [List.take_succ_eq_append_getElem (by simpa using h)]; rfl

theorem tail_at {s : ByteArray} {n : Nat} (h : s.size = n + 1) (hlt : n < s.size) : tailB s.data.toList = decide (s[n] = 47) := by
  have e : s.data.toList = s.data.toList.take n ++ [s[n]] := by
    rw [← take_snoc2 s n (by omega), List.take_of_length_le (by rw [size_list]; omega)]
  rw [Bool.eq_iff_iff, tail_iff, decide_eq_true_eq]
  constructor
  · rintro ⟨a, ha⟩
    rw [e] at ha
    have := List.append_inj_right' ha rfl
    simpa using this
  · intro h2
    exact ⟨_, by rw [e, h2]⟩

end Go.Proofs.YtaaohcpiideaaaaDoor
