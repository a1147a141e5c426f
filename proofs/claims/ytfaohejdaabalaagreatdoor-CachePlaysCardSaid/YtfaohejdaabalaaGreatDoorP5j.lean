
/- hostelref02.Join. -/
import Derived.Test.YtfaohejdaabalaaGreatDoorP5a
namespace Go.Proofs.YtfaohejdaabalaaGreatDoor
open Go.RowKit Go.Sort

theorem beg_at {s : ByteArray} (h : 0 < s.size) : begB s.data.toList = decide (s[0] = 47) := by
  have hl : 0 < s.data.toList.length := by rw [size_list]; exact h
  have e : s.data.toList.head? = some s[0] := by
    rw [List.head?_eq_getElem?, List.getElem?_eq_getElem hl]; rfl
  unfold begB
  rw [e]
  simp

end Go.Proofs.YtfaohejdaabalaaGreatDoor
