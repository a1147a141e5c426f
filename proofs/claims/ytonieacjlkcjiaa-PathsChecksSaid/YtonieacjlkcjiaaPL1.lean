/- PathsChecks, PathsCuts. -/
import Derived.Test.YtonieacjlkcjiaaPW
namespace Go.Proofs.Ytonieacjlkcjiaa
open Go.RowKit Go.Sort

theorem pathsChecks_walk (s : ByteArray) (w : World) (hm : s.size ≤ 9223372036854775807) :
    Calls Try.prog 3 #[.string s] w fun e' w' => e' = .returned (.bool true) ∧ Below w.heap.size w w' := by
  by_cases hlarge : 131072 < s.size
  · have hd : 131072 < (s.size : Int) := by omega
    go_enter Try.func3, Try.ntmps3
    go_wp2_with (go_at_call 8; refine (works_any _).mono ?_; rintro e' w' ⟨rfl, hw⟩)
    go_ret
    exact ⟨rfl, hw⟩
  · have hd : ¬ 131072 < (s.size : Int) := by omega
    have hs : s.size ≤ 1000000 := by omega
    have HLP : Hid ((partsF s.data.toList).length ≤ 140737488351232) := hid (by
      unfold partsF partsL
      split
      · have h1 := List.length_filter_le goodP (cuts 47 s.data.toList)
        have h2 := cst_len 47 s.data.toList
        have h3 : (cuts 47 s.data.toList).length = (cst 47 s.data.toList).1.length + 1 := by simp [cuts]
        rw [size_list] at h2
        omega
      · simp)
    go_enter Try.func3, Try.ntmps3
    go_wp2_with fail
    refine (parts_any s _ hs).mono ?_
    rintro e' w1 ⟨v, rfl, ho, hb⟩
    obtain ⟨a1, c1, rfl, hC1, _⟩ := own_cel ho
    have HC1 := hid hC1
    have HB1 := hid hb
    clear ho hC1 hb
    go_wp2_with fail
    refine (rparts_any s _ hs).mono ?_
    rintro e' w2 ⟨v, rfl, ho, hb⟩
    obtain ⟨a2, c2, rfl, hC2, _⟩ := own_cel ho
    have HC1 := hid (HC1.out.below' hb)
    have HC2 := hid hC2
    have HB2 := hid (bthen HB1.out hb)
    clear ho hC2 hb HB1
    go_wp2_with fail
    refine (check_any s _ hs).mono ?_
    rintro e' w3 ⟨rfl, hb⟩
    have HC1 := hid (HC1.out.below' hb)
    have HC2 := hid (HC2.out.below' hb)
    have HB3 := hid (bthen HB2.out hb)
    clear hb HB2
    go_wp2_with fail
    refine (rcheck_any s _ hs).mono ?_
    rintro e' w4 ⟨rfl, hb⟩
    have HC1 := hid (HC1.out.below' hb)
    have HC2 := hid (HC2.out.below' hb)
    have HB4 := hid (bthen HB3.out hb)
    clear hb HB3
    go_wp2_with fail
    refine (eqTexts_any _ _ _ _ _ _ (partsF s.data.toList) (partsF s.data.toList) _ HC1.out HC2.out HLP.out HLP.out).mono ?_
    rintro e' w5 ⟨rfl, n, rfl⟩
    rw [show eqT (partsF s.data.toList) (partsF s.data.toList) = true by simp [eqT]]
    go_wp2_with (go_at_call 8; refine (works_any _).mono ?_; rintro e' w' ⟨rfl, hw⟩)
    go_ret
    exact ⟨rfl, bthenN HB4.out hw⟩

theorem pathsCuts_walk (d p : ByteArray) (w : World) (hm : d.size ≤ 9223372036854775807) (hm2 : p.size ≤ 9223372036854775807) :
    Calls Try.prog 4 #[.string d, .string p] w fun e' w' => e' = .returned (.bool true) ∧ Below w.heap.size w w' := by
  by_cases hlarge : 131072 < p.size
  · have hd : 131072 < (p.size : Int) := by omega
    go_enter Try.func4, Try.ntmps4
    go_wp2_with (go_at_call 8; refine (works_any _).mono ?_; rintro e' w' ⟨rfl, hw⟩)
    go_ret
    exact ⟨rfl, hw⟩
  · have hd : ¬ 131072 < (p.size : Int) := by omega
    by_cases hlarge2 : 131072 < d.size
    · have hd : 131072 < (d.size : Int) := by omega
      go_enter Try.func4, Try.ntmps4
      go_wp2_with (go_at_call 8; refine (works_any _).mono ?_; rintro e' w' ⟨rfl, hw⟩)
      go_ret
      exact ⟨rfl, hw⟩
    · have hd2 : ¬ 131072 < (d.size : Int) := by omega
      have hs : p.size ≤ 1000000 := by omega
      have hs2 : d.size ≤ 1000000 := by omega
      go_enter Try.func4, Try.ntmps4
      go_wp2_with fail
      refine (join_any d p _ hs2 hs).mono ?_
      rintro e' w1 ⟨rfl, rfl⟩
      go_wp2_with fail
      refine (rjoin_any d p _ hs2 hs).mono ?_
      rintro e' w1 ⟨rfl, rfl⟩
      generalize ba (joinL d.data.toList p.data.toList) = J
      go_wp2_with fail
      refine (base_any p _ hs).mono ?_
      rintro e' w1 ⟨rfl, rfl⟩
      go_wp2_with fail
      refine (rbase_any p _ hs).mono ?_
      rintro e' w1 ⟨rfl, rfl⟩
      generalize ba (baseL p.data.toList) = J2
      go_wp2_with fail
      refine (dir_any p _ hs).mono ?_
      rintro e' w1 ⟨rfl, rfl⟩
      go_wp2_with fail
      refine (rdir_any p _ hs).mono ?_
      rintro e' w1 ⟨rfl, rfl⟩
      generalize ba (dirL p.data.toList) = J3
      go_wp2_with fail
      refine (tail_any p _ hs).mono ?_
      rintro e' w1 ⟨rfl, rfl⟩
      go_wp2_with fail
      refine (rtail_any p _ hs).mono ?_
      rintro e' w1 ⟨rfl, rfl⟩
      generalize tailB p.data.toList = J4
      go_wp2_with (go_at_call 8; refine (works_any _).mono ?_; rintro e' w' ⟨rfl, hw⟩)
      go_ret
      exact ⟨rfl, hw⟩
end Go.Proofs.Ytonieacjlkcjiaa
