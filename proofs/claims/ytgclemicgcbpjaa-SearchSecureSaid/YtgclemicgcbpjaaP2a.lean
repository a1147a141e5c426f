/- Contracts of package paths and of its reference: what is in front and behind. -/
import Derived.Test.YtgclemicgcbpjaaPM
import Derived.Test.YtgclemicgcbpjaaP1
namespace Go.Proofs.Ytgclemicgcbpjaa
open Go.RowKit Go.Sort

theorem ba_eta (s : ByteArray) : ba s.data.toList = s := rfl

theorem begins_any (s : ByteArray) (w : World) :
    Calls Try.prog 56 #[.string s] w fun e' w' => e' = .returned (.bool (begB s.data.toList)) ∧ w = w' := by
  go_enter Try.func56, Try.ntmps56
  go_wp2_with fail
  refine (Try.strings_HasPrefix _ _ _).mono ?_
  rintro e' w1 ⟨rfl, rfl⟩
  rw [show Lib.hasPrefix s.data.toList (ByteArray.mk #[47]).data.toList = begB s.data.toList from hasPrefix_47 _]
  go_wp2_with fail
  go_ret
  exact ⟨rfl, rfl⟩

theorem tail_any (s : ByteArray) (w : World) (hs : s.size ≤ 1000000) :
    Calls Try.prog 38 #[.string s] w fun e' w' => e' = .returned (.bool (tailB s.data.toList)) ∧ w = w' := by
  go_enter Try.func38, Try.ntmps38
  go_wp2_with fail
  refine (Try.strings_HasSuffix _ _ _ (by omega)).mono ?_
  rintro e' w1 ⟨rfl, rfl⟩
  rw [show Lib.hasSuffix s.data.toList (ByteArray.mk #[47]).data.toList = tailB s.data.toList from hasSuffix_47 _]
  go_wp2_with fail
  go_ret
  exact ⟨rfl, rfl⟩

theorem str_eq {a b : ByteArray} (h : a = b) : Ending.returned (.string a) = .returned (.string b) := by rw [h]
end Go.Proofs.Ytgclemicgcbpjaa
