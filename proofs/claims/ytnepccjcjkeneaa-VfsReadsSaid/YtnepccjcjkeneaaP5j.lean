
/- hostelref02.Join. -/
import Derived.Test.YtnepccjcjkeneaaP5a
namespace Go.Proofs.Ytnepccjcjkeneaa
open Go.RowKit Go.Sort

theorem beg_at {s : ByteArray} (h : 0 < s.size) : begB s.data.toList = decide (s[0] = 47) := by
  have hl : 0 < s.data.toList.length := by rw [size_list]; exact h
  have e : s.data.toList.head? = some s[0] := by
    rw [List.head?_eq_getElem?, List.getElem?_eq_getElem hl]; rfl
  unfold begB
  rw [e]
  simp

set_option maxHeartbeats 1000000 in
theorem rjoin_any (d p : ByteArray) (w : World) (hd : d.size ≤ 1000000) (hp : p.size ≤ 1000000) :
    Calls Try.prog 56 #[.string d, .string p] w fun e' w' => e' = .returned (.string (ba (joinL d.data.toList p.data.toList))) ∧ w = w' := by
  have HJ := hid (show joinL d.data.toList p.data.toList = if begB p.data.toList || decide (d.data.toList = []) then p.data.toList else if tailB d.data.toList then d.data.toList ++ p.data.toList else d.data.toList ++ [47] ++ p.data.toList from rfl)
  have hne := ba_nil d
  by_cases hdn : d.data.toList = []
  · rw [decide_eq_true hdn] at hne
    have HF := hid (show p = ba (joinL d.data.toList p.data.toList) by rw [HJ.out, decide_eq_true hdn]; simp [ba_eta])
    clear HJ hdn
    go_enter Try.func56, Try.ntmps56
    go_wp2_with fail
    go_ret
    exact ⟨str_eq HF.out, rfl⟩
  · rw [decide_eq_false hdn] at hne
    have HD := hid hdn
    clear hdn
    by_cases h0 : 0 < p.size
    · have hd0 : 0 < (p.size : Int) := by omega
      have hb := byte_eq p 0 h0 47 47 rfl
      have hbb := beg_at h0
      cases hbg : begB p.data.toList
      · rw [hbg] at hbb
        rw [← hbb] at hb
        have HJ2 := hid (show joinL d.data.toList p.data.toList = if tailB d.data.toList then d.data.toList ++ p.data.toList else d.data.toList ++ [47] ++ p.data.toList by rw [HJ.out, hbg, decide_eq_false HD.out]; simp)
        clear HJ hbg hbb
        go_enter Try.func56, Try.ntmps56
        go_wp2_with fail
        refine (rtail_any _ _ (by omega)).mono ?_
        rintro e' w1 ⟨rfl, rfl⟩
        cases ht : tailB d.data.toList
        · have HF := hid (show d ++ (ByteArray.mk #[47]) ++ p = ba (joinL d.data.toList p.data.toList) by
            rw [HJ2.out, ht, ← ba_eta d, ← ba_eta p, show ByteArray.mk #[47] = ba [47] from rfl, ba_append, ba_append]; rfl)
          clear HJ2 ht hne hb
          go_wp2_with fail
          go_ret
          exact ⟨str_eq HF.out, rfl⟩
        · have HF := hid (show d ++ p = ba (joinL d.data.toList p.data.toList) by
            rw [HJ2.out, ht, ← ba_eta d, ← ba_eta p, ba_append]; rfl)
          clear HJ2 ht hne hb
          go_wp2_with fail
          go_ret
          exact ⟨str_eq HF.out, rfl⟩
      · rw [hbg] at hbb
        rw [← hbb] at hb
        have HF := hid (show p = ba (joinL d.data.toList p.data.toList) by rw [HJ.out, hbg]; simp [ba_eta])
        clear HJ hbg hbb
        go_enter Try.func56, Try.ntmps56
        go_wp2_with fail
        go_ret
        exact ⟨str_eq HF.out, rfl⟩
    · have hd0 : ¬ 0 < (p.size : Int) := by omega
      have hpn : p.data.toList = [] := List.length_eq_zero_iff.1 (by rw [size_list]; omega)
      have HJ2 := hid (show joinL d.data.toList p.data.toList = if tailB d.data.toList then d.data.toList ++ p.data.toList else d.data.toList ++ [47] ++ p.data.toList by rw [HJ.out, show begB p.data.toList = false by rw [hpn]; rfl, decide_eq_false HD.out]; simp)
      clear HJ hpn
      go_enter Try.func56, Try.ntmps56
      go_wp2_with fail
      refine (rtail_any _ _ (by omega)).mono ?_
      rintro e' w1 ⟨rfl, rfl⟩
      cases ht : tailB d.data.toList
      · have HF := hid (show d ++ (ByteArray.mk #[47]) ++ p = ba (joinL d.data.toList p.data.toList) by
          rw [HJ2.out, ht, ← ba_eta d, ← ba_eta p, show ByteArray.mk #[47] = ba [47] from rfl, ba_append, ba_append]; rfl)
        clear HJ2 ht hne
        go_wp2_with fail
        go_ret
        exact ⟨str_eq HF.out, rfl⟩
      · have HF := hid (show d ++ p = ba (joinL d.data.toList p.data.toList) by
          rw [HJ2.out, ht, ← ba_eta d, ← ba_eta p, ba_append]; rfl)
        clear HJ2 ht hne
        go_wp2_with fail
        go_ret
        exact ⟨str_eq HF.out, rfl⟩
end Go.Proofs.Ytnepccjcjkeneaa
