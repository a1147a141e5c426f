/- Contracts of package paths and of its reference: what is in front and behind. -/
import Derived.Test.YtonieacjlkcjiaaPM
import Derived.Test.YtonieacjlkcjiaaP1
namespace Go.Proofs.Ytonieacjlkcjiaa
open Go.RowKit Go.Sort

theorem ba_eta (s : ByteArray) : ba s.data.toList = s := rfl

theorem begins_any (s : ByteArray) (w : World) :
    Calls Try.prog 24 #[.string s] w fun e' w' => e' = .returned (.bool (begB s.data.toList)) ∧ w = w' := by
  go_enter Try.func24, Try.ntmps24
  go_wp2_with fail
  refine (Try.strings_HasPrefix _ _ _).mono ?_
  rintro e' w1 ⟨rfl, rfl⟩
  rw [show Lib.hasPrefix s.data.toList (ByteArray.mk #[47]).data.toList = begB s.data.toList from hasPrefix_47 _]
  go_wp2_with fail
  go_ret
  exact ⟨rfl, rfl⟩

theorem tail_any (s : ByteArray) (w : World) (hs : s.size ≤ 1000000) :
    Calls Try.prog 20 #[.string s] w fun e' w' => e' = .returned (.bool (tailB s.data.toList)) ∧ w = w' := by
  go_enter Try.func20, Try.ntmps20
  go_wp2_with fail
  refine (Try.strings_HasSuffix _ _ _ (by omega)).mono ?_
  rintro e' w1 ⟨rfl, rfl⟩
  rw [show Lib.hasSuffix s.data.toList (ByteArray.mk #[47]).data.toList = tailB s.data.toList from hasSuffix_47 _]
  go_wp2_with fail
  go_ret
  exact ⟨rfl, rfl⟩

theorem str_eq {a b : ByteArray} (h : a = b) : Ending.returned (.string a) = .returned (.string b) := by rw [h]

theorem join_any (d p : ByteArray) (w : World) (hd : d.size ≤ 1000000) (hp : p.size ≤ 1000000) :
    Calls Try.prog 14 #[.string d, .string p] w fun e' w' => e' = .returned (.string (ba (joinL d.data.toList p.data.toList))) ∧ w = w' := by
  go_enter Try.func14, Try.ntmps14
  go_wp2_with fail
  refine (begins_any _ _).mono ?_
  rintro e' w1 ⟨rfl, rfl⟩
  have HJ := hid (show joinL d.data.toList p.data.toList = if begB p.data.toList || decide (d.data.toList = []) then p.data.toList else if tailB d.data.toList then d.data.toList ++ p.data.toList else d.data.toList ++ [47] ++ p.data.toList from rfl)
  cases hb : begB p.data.toList
  · rw [hb] at HJ
    have hne := ba_nil d
    cases hdn : decide (d.data.toList = [])
    · rw [hdn] at hne HJ
      have HJ2 := hid (show joinL d.data.toList p.data.toList = if tailB d.data.toList then d.data.toList ++ p.data.toList else d.data.toList ++ [47] ++ p.data.toList by rw [HJ.out]; simp)
      clear HJ hdn hb
      go_wp2_with fail
      refine (tail_any _ _ (by omega)).mono ?_
      rintro e' w1 ⟨rfl, rfl⟩
      cases ht : tailB d.data.toList
      · have HF := hid (show d ++ (ByteArray.mk #[47]) ++ p = ba (joinL d.data.toList p.data.toList) by
          rw [HJ2.out, ht, ← ba_eta d, ← ba_eta p, show ByteArray.mk #[47] = ba [47] from rfl, ba_append, ba_append]; rfl)
        clear HJ2 ht hne
        go_wp2_with fail
        go_ret
        exact ⟨str_eq HF.out, rfl⟩
      · have HF := hid (show d ++ p = ba (joinL d.data.toList p.data.toList) by
          rw [HJ2.out, ht, ← ba_eta d, ← ba_eta p, ba_append]; rfl)
        clear HJ2 ht hne
        go_wp2_with fail
        go_ret
        exact ⟨str_eq HF.out, rfl⟩
    · rw [hdn] at hne HJ
      have HF := hid (show p = ba (joinL d.data.toList p.data.toList) by rw [HJ.out]; simp [ba_eta])
      clear HJ hdn hb
      go_wp2_with fail
      go_ret
      exact ⟨str_eq HF.out, rfl⟩
  · rw [hb] at HJ
    have HF := hid (show p = ba (joinL d.data.toList p.data.toList) by rw [HJ.out]; simp [ba_eta])
    clear HJ hb
    go_wp2_with fail
    go_ret
    exact ⟨str_eq HF.out, rfl⟩

theorem base_any (s : ByteArray) (w : World) (hs : s.size ≤ 1000000) :
    Calls Try.prog 16 #[.string s] w fun e' w' => e' = .returned (.string (ba (baseL s.data.toList))) ∧ w = w' := by
  go_enter Try.func16, Try.ntmps16
  go_wp2_with fail
  refine (Try.strings_LastIndexByte _ _ (by omega) _).mono ?_
  rintro e' w1 ⟨rfl, rfl⟩
  rw [lastIdx_47]
  rcases lastI_cases s.data.toList with ⟨h1, h2⟩ | ⟨i, h1, h3, h2⟩
  · rw [h1]
    have HF := hid (show s = ba (baseL s.data.toList) by rw [h2, ba_eta])
    clear h1 h2
    go_wp2_with fail
    go_ret
    exact ⟨str_eq (by simpa using HF.out), rfl⟩
  · rw [h1]
    have hi : i + 1 ≤ s.size := by rw [size_list] at h3; omega
    have HF := hid (show s.extract (i + 1) s.size = ba (baseL s.data.toList) by rw [h2, ba_extract, List.take_of_length_le (by rw [size_list]; exact Nat.le_refl _)])
    clear h1 h2 h3
    go_wp2_with fail
    go_ret
    exact ⟨str_eq HF.out, rfl⟩

theorem dir_any (s : ByteArray) (w : World) (hs : s.size ≤ 1000000) :
    Calls Try.prog 18 #[.string s] w fun e' w' => e' = .returned (.string (ba (dirL s.data.toList))) ∧ w = w' := by
  go_enter Try.func18, Try.ntmps18
  go_wp2_with fail
  refine (Try.strings_LastIndexByte _ _ (by omega) _).mono ?_
  rintro e' w1 ⟨rfl, rfl⟩
  rw [lastIdx_47]
  have HD := hid (show dirL s.data.toList = if lastI s.data.toList = -1 then [46] else if lastI s.data.toList = 0 then [47] else s.data.toList.take (lastI s.data.toList).toNat from rfl)
  rcases lastI_cases s.data.toList with ⟨h1, h2⟩ | ⟨i, h1, h3, h2⟩
  · rw [h1] at HD ⊢
    have HF := hid (show ByteArray.mk #[46] = ba (dirL s.data.toList) by rw [HD.out]; rfl)
    clear h1 h2 HD
    go_wp2_with fail
    go_ret
    exact ⟨str_eq HF.out, rfl⟩
  · rw [h1] at HD ⊢
    have hi : i + 1 ≤ s.size := by rw [size_list] at h3; omega
    have hm : (((i : Int)) == -1) = false := by rw [beq_eq_false_iff_ne]; omega
    by_cases h0 : i = 0
    · subst h0
      have HF := hid (show ByteArray.mk #[47] = ba (dirL s.data.toList) by rw [HD.out]; rfl)
      clear h1 h2 HD h3
      go_wp2_with fail
      go_ret
      exact ⟨str_eq HF.out, rfl⟩
    · have hz : (((i : Int)) == 0) = false := by rw [beq_eq_false_iff_ne]; omega
      have HF := hid (show s.extract 0 i = ba (dirL s.data.toList) by rw [HD.out, if_neg (by omega), if_neg (by omega), ba_extract]; simp)
      clear h1 h2 HD h3
      go_wp2_with fail
      go_ret
      exact ⟨str_eq HF.out, rfl⟩
end Go.Proofs.Ytonieacjlkcjiaa
