/- PathsJoins. -/
import Derived.Test.YtonieacjlkcjiaaPW
import Derived.Test.YtonieacjlkcjiaaPN
import Derived.Laws.AppendOwnNone
namespace Go.Proofs.Ytonieacjlkcjiaa
open Go.RowKit Go.Sort

theorem partsF_len (s : ByteArray) : (partsF s.data.toList).length ≤ s.size + 1 := by
  unfold partsF partsL
  split
  · have h1 := List.length_filter_le goodP (cuts 47 s.data.toList)
    have h2 := cst_len 47 s.data.toList
    have h3 : (cuts 47 s.data.toList).length = (cst 47 s.data.toList).1.length + 1 := by simp [cuts]
    rw [size_list] at h2
    omega
  · simp
theorem own_apart {w1 w3 : World} {base base3 e size n m : Nat} {v v3 : Value} {xs ys : List Value} (h : w1.ownsRow base e size v n xs) (h3 : w3.ownsRow base3 e size v3 m ys) (hb : w1.heap.size ≤ base3) : v3.ownBlock = none ∨ v3.ownBlock ≠ v.ownBlock := by
  rcases own_block h3 with e1 | ⟨g, e1, h1, h2⟩
  · exact .inl e1
  · right
    rw [e1]
    rcases own_block h with e2 | ⟨g2, e2, h4, h5⟩
    · rw [e2]; exact fun e => by cases e
    · rw [e2]; intro e; cases e; omega
theorem strs_one (ds : List BL) : ∀ u ∈ strs ds, u.oneCell' = true := by
  intro u hu
  unfold strs at hu
  obtain ⟨x, _, rfl⟩ := List.mem_map.1 hu
  rfl
theorem strs_app (a b : List BL) : strs (a ++ b) = strs a ++ strs b := by simp [strs]

/-- What a path's code says: it may be, or nothing is told. -/
theorem chk_cases (l : BL) : (chkE l = 0 ∧ (chkE l != 0) = false ∧ (chkE l == 0) = true ∧ partsF l = partsL l ∧ rootF l = begB l) ∨ (chkE l ≠ 0 ∧ (chkE l != 0) = true ∧ (chkE l == 0) = false ∧ (((partsF l).length : Int) == 0) = true ∧ rootF l = false) := by
  by_cases h : chkE l = 0
  · left
    exact ⟨h, by rw [h]; rfl, by rw [h]; rfl, (parts_good h).1, (parts_good h).2⟩
  · right
    refine ⟨h, by simpa using h, by simpa using h, ?_, (parts_bad h).2⟩
    rw [(parts_bad h).1]; rfl

set_option maxHeartbeats 2000000 in
set_option maxRecDepth 100000 in
theorem pathsJoins_walk (d p : ByteArray) (w : World) (hm : d.size ≤ 9223372036854775807) (hm2 : p.size ≤ 9223372036854775807) :
    Calls Try.prog 5 #[.string d, .string p] w fun e' w' => e' = .returned (.bool true) ∧ Below w.heap.size w w' := by
  by_cases hlarge : 1024 < p.size
  · have hd : 1024 < (p.size : Int) := by omega
    go_enter Try.func5, Try.ntmps5
    go_wp2_with (go_at_call 8; refine (works_any _).mono ?_; rintro e' w' ⟨rfl, hw⟩)
    go_ret
    exact ⟨rfl, hw⟩
  · have hd : ¬ 1024 < (p.size : Int) := by omega
    by_cases hlarge2 : 1024 < d.size
    · have hd : 1024 < (d.size : Int) := by omega
      go_enter Try.func5, Try.ntmps5
      go_wp2_with (go_at_call 8; refine (works_any _).mono ?_; rintro e' w' ⟨rfl, hw⟩)
      go_ret
      exact ⟨rfl, hw⟩
    · have hd2 : ¬ 1024 < (d.size : Int) := by omega
      have hs : p.size ≤ 1000000 := by omega
      have hs2 : d.size ≤ 1000000 := by omega
      have hjs : (ba (joinL d.data.toList p.data.toList)).size ≤ 2049 := by
        rw [ba_size]
        have h1 := size_list d
        have h2 := size_list p
        unfold joinL
        split
        · omega
        · split <;> simp only [List.length_append, List.length_singleton] <;> omega
      have HJS := hid hjs
      have HLd := hid (partsF_len d)
      have HLp := hid (partsF_len p)
      have HLj := hid (partsF_len (ba (joinL d.data.toList p.data.toList)))
      clear hjs
      go_enter Try.func5, Try.ntmps5
      go_wp2_with fail
      refine (join_any d p _ hs2 hs).mono ?_
      rintro e' w1 ⟨rfl, rfl⟩
      go_wp2_with fail
      refine (parts2_any d _ hs2).mono ?_
      rintro e' w1 ⟨v, rfl, ho1, hb, _⟩
      have HO1 := hid ho1
      have HO11 := hid ho1
      have HB1 := hid hb
      have HZ1 := hid hb.size
      clear ho1 hb
      go_wp2_with fail
      refine (parts2_any p _ hs).mono ?_
      rintro e' w2 ⟨v2, rfl, ho2, hb, hnil⟩
      have HO1 := hid (own_below HO1.out hb)
      have HO2 := hid ho2
      have HB2 := hid (bthen HB1.out hb)
      have HZ2 := hid hb.size
      have HNIL := hid hnil
      clear ho2 hb HB1 hnil
      go_wp2_with fail
      refine (parts2_any (ba (joinL d.data.toList p.data.toList)) _ (by have := HJS.out; omega)).mono ?_
      rintro e' w3 ⟨v3, rfl, ho3, hb, _⟩
      have HO1 := hid (own_below HO1.out hb)
      have HO2 := hid (own_below HO2.out hb)
      have HO3 := hid ho3
      have HB3 := hid (bthen HB2.out hb)
      clear ho3 hb HB2
      obtain ⟨a1, c1, rfl, _⟩ := own_cel HO1.out
      obtain ⟨a2, c2, rfl, _⟩ := own_cel HO2.out
      obtain ⟨a3, c3, rfl, _⟩ := own_cel HO3.out
      have HD0 := hid (chk_cases d.data.toList)
      have HP0 := hid (chk_cases p.data.toList)
      have HJ0 := hid (chk_cases (ba (joinL d.data.toList p.data.toList)).data.toList)
      rcases HD0.out with ⟨hd0, hd1, hd2', hd3, hd4⟩ | ⟨hd0, hd1, hd2', hd3, hd4⟩
      · rcases HP0.out with ⟨hp0, hp1, hp2, hp3, hp4⟩ | ⟨hp0, hp1, hp2, hp3, hp4⟩
        · rcases HJ0.out with ⟨hj0, hj1, hj2, hj3, hj4⟩ | ⟨hj0, hj1, hj2, hj3, hj4⟩
          · cases hb : begB p.data.toList
            · have HM := hid (joins_math hd0 hb)
              rw [hp4, hb]
              have HE1 := hid (show partsF (ba (joinL d.data.toList p.data.toList)).data.toList = partsF d.data.toList ++ partsF p.data.toList by
                rw [hj3, hd3, hp3, ba_list]; exact HM.out.1)
              have HE2 := hid (show rootF d.data.toList = rootF (ba (joinL d.data.toList p.data.toList)).data.toList by
                rw [hj4, hd4, ba_list]; exact HM.out.2.symm)
              rw [HE2.out]
              have HT := hid (show ∀ l, eqT l l = true by intro l; simp [eqT])
              clear hd0 hd3 hd4 hp0 hp3 hp4 hj0 hj3 hj4 hb HM
              generalize rootF (ba (joinL d.data.toList p.data.toList)).data.toList = R at *
              obtain ⟨i0, hi, hz0, hz1, hz2⟩ := info_parts infoStr
              by_cases hpe : partsF p.data.toList = []
              · have HA := hid (HNIL.out hpe)
                have hlen : (partsF p.data.toList).length = 0 := by rw [hpe]; rfl
                have hv2 := HA.out
                rw [hlen] at hv2 ⊢
                simp only [Value.slice.injEq, true_and] at hv2
                obtain ⟨rfl, rfl⟩ := hv2
                have HE3 := hid (show partsF (ba (joinL d.data.toList p.data.toList)).data.toList = partsF d.data.toList by rw [HE1.out, hpe, List.append_nil])
                clear hlen hpe HA HE1 HE2
                obtain ⟨_, _, e1, hC1, _⟩ := own_cel HO1.out
                cases e1
                obtain ⟨_, _, e3, hC3, _⟩ := own_cel HO3.out
                cases e3
                rw [HE3.out] at hC3 ⊢
                rw [HE3.out] at HLj
                have HC1 := hid hC1
                have HC3 := hid hC3
                have HOO := hid HO1.out
                clear hC1 hC3 HO1 HO2 HO3 HE3
                go_wp2_with (at_builtin; go_must (refine wpList_append_own_none rfl _ _ 23 rfl w.heap.size 9 i0 1 Try.underlying23 hi (.slice a1 (partsF d.data.toList).length c1) (partsF d.data.toList).length (strs (partsF d.data.toList)) rfl HOO.out rfl ?_))
                refine (eqTexts_any _ _ _ _ _ _ (partsF d.data.toList) (partsF d.data.toList) _ HC1.out HC3.out (by have := HLd.out; omega) (by have := HLd.out; omega)).mono ?_
                rintro e' w5 ⟨rfl, n, rfl⟩
                rw [HT.out]
                go_wp2_with (go_at_call 8; refine (works_any _).mono ?_; rintro e' w' ⟨rfl, hw⟩)
                go_ret
                exact ⟨rfl, bthenN HB3.out hw⟩
              · have hpl : 0 < (partsF p.data.toList).length := List.length_pos_iff.2 hpe
                obtain ⟨_, _, e2, hC2, _⟩ := own_cel HO2.out
                cases e2
                obtain ⟨b2, o2, rfl, _⟩ := hC2.some_of (by rw [strs_len]; exact hpl)
                obtain ⟨_, _, e3, hC3, _⟩ := own_cel HO3.out
                cases e3
                have HC2 := hid hC2.news
                have HC3 := hid hC3
                have HOO := hid HO1.out
                have HL0 := hid (show (strs (partsF p.data.toList)).length = (partsF p.data.toList).length * 1 by rw [strs_len]; omega)
                have HPL := hid hpl
                have HL1 := hid (show (partsF d.data.toList).length + (partsF p.data.toList).length ≤ maxLen by have h1 := HLd.out; have h2 := HLp.out; unfold maxLen; omega)
                have HL2 := hid (show ((partsF d.data.toList).length + (partsF p.data.toList).length) * 16 ≤ 140737488355328 by have h1 := HLd.out; have h2 := HLp.out; omega)
                have HL3 := hid (show w.heap.size ≤ w3.heap.size from HB3.out.size)
                have HAP := hid (own_apart HO11.out HO3.out HZ2.out)
                have HO3' := HO3
                clear hC2 hC3 HO2 hpe hpl HNIL
                go_wp2_with (at_builtin; go_must (refine wpList_append_own _ rfl _ _ 23 rfl w.heap.size 9 i0 (.string ByteArray.empty) 1 16 Try.underlying23 hi hz0 hz1 hz2 rfl (by decide) (.slice a1 (partsF d.data.toList).length c1) (partsF d.data.toList).length (strs (partsF d.data.toList)) rfl HOO.out ⟨b2, o2, none⟩ (partsF p.data.toList).length c2 (strs (partsF p.data.toList)) rfl HL0.out HC2.out (strs_one _) HL1.out HL2.out HL3.out ?_; intro v' w9 hown' hgrow _; have hb9 := HB3.out.grown hgrow HL3.out (fun k hk => own_low HOO.out (Nat.le_refl _) k hk); have HB9 := hid hb9; have hC9 := (own_cel hown'); obtain ⟨a9, c9, rfl, hC9, _⟩ := hC9; have HC9 := hid hC9; have HO4 := hid (HO3'.out.kept hgrow HAP.out); clear hown' hgrow hb9 hC9))
                obtain ⟨_, _, e4, hC4, _⟩ := own_cel HO4.out
                cases e4
                have HC4 : Hid (Cel w9 a3 (partsF (ba (joinL d.data.toList p.data.toList)).data.toList).length (strs (partsF d.data.toList ++ partsF p.data.toList))) := hid (by rw [← HE1.out]; exact hC4)
                have HC9' : Hid (Cel w9 a9 ((partsF d.data.toList).length + (partsF p.data.toList).length) (strs (partsF d.data.toList ++ partsF p.data.toList))) := hid (by rw [strs_app]; exact HC9.out)
                clear hC4 HC9 HO4
                refine (eqTexts_any _ _ _ _ _ _ (partsF d.data.toList ++ partsF p.data.toList) (partsF d.data.toList ++ partsF p.data.toList) _ HC9'.out HC4.out (by have h1 := HLd.out; have h2 := HLp.out; omega) (by have h1 := HLj.out; have h2 := HJS.out; omega)).mono ?_
                rintro e' w5 ⟨rfl, n, rfl⟩
                rw [HT.out]
                go_wp2_with (go_at_call 8; refine (works_any _).mono ?_; rintro e' w' ⟨rfl, hw⟩)
                go_ret
                exact ⟨rfl, bthenN HB9.out hw⟩
            · have HJP := hid (join_beg (d := d.data.toList) hb)
              have hq : ((ba (joinL d.data.toList p.data.toList)).toList == p.toList) = true := by
                rw [Lib.toList_data, Lib.toList_data, ba_list, HJP.out]; simp
              rw [hp4, hb]
              clear HO1 HO2 HO3 hd0 hd3 hd4 hp0 hp3 hp4 hj0 hj3 hj4 hb HJP
              go_wp2_with (go_at_call 8; refine (works_any _).mono ?_; rintro e' w' ⟨rfl, hw⟩)
              go_ret
              exact ⟨rfl, bthen HB3.out hw⟩
          · rw [hj4]
            clear HO1 HO2 HO3 hd0 hd3 hd4 hp0 hp3 hp4 hj0 hj4
            go_wp2_with (go_at_call 8; refine (works_any _).mono ?_; rintro e' w' ⟨rfl, hw⟩)
            go_ret
            exact ⟨rfl, bthen HB3.out hw⟩
        · rw [hp4]
          rcases HJ0.out with ⟨hj0, hj1, hj2, hj3, hj4⟩ | ⟨hj0, hj1, hj2, hj3, hj4⟩
          · clear HO1 HO2 HO3 hd0 hd3 hd4 hp0 hp4 hj0 hj3 hj4
            go_wp2_with (go_at_call 8; refine (works_any _).mono ?_; rintro e' w' ⟨rfl, hw⟩)
            go_ret
            exact ⟨rfl, bthen HB3.out hw⟩
          · rw [hj4]
            clear HO1 HO2 HO3 hd0 hd3 hd4 hp0 hp4 hj0 hj4
            go_wp2_with (go_at_call 8; refine (works_any _).mono ?_; rintro e' w' ⟨rfl, hw⟩)
            go_ret
            exact ⟨rfl, bthen HB3.out hw⟩
      · rw [hd4]
        rcases HP0.out with ⟨hp0, hp1, hp2, hp3, hp4⟩ | ⟨hp0, hp1, hp2, hp3, hp4⟩
        · rcases HJ0.out with ⟨hj0, hj1, hj2, hj3, hj4⟩ | ⟨hj0, hj1, hj2, hj3, hj4⟩
          · clear HO1 HO2 HO3 hd0 hd4 hp0 hp3 hp4 hj0 hj3 hj4
            go_wp2_with (go_at_call 8; refine (works_any _).mono ?_; rintro e' w' ⟨rfl, hw⟩)
            go_ret
            exact ⟨rfl, bthen HB3.out hw⟩
          · rw [hj4]
            clear HO1 HO2 HO3 hd0 hd4 hp0 hp3 hp4 hj0 hj4
            go_wp2_with (go_at_call 8; refine (works_any _).mono ?_; rintro e' w' ⟨rfl, hw⟩)
            go_ret
            exact ⟨rfl, bthen HB3.out hw⟩
        · rw [hp4]
          rcases HJ0.out with ⟨hj0, hj1, hj2, hj3, hj4⟩ | ⟨hj0, hj1, hj2, hj3, hj4⟩
          · clear HO1 HO2 HO3 hd0 hd4 hp0 hp4 hj0 hj3 hj4
            go_wp2_with (go_at_call 8; refine (works_any _).mono ?_; rintro e' w' ⟨rfl, hw⟩)
            go_ret
            exact ⟨rfl, bthen HB3.out hw⟩
          · rw [hj4]
            clear HO1 HO2 HO3 hd0 hd4 hp0 hp4 hj0 hj4
            go_wp2_with (go_at_call 8; refine (works_any _).mono ?_; rintro e' w' ⟨rfl, hw⟩)
            go_ret
            exact ⟨rfl, bthen HB3.out hw⟩
end Go.Proofs.Ytonieacjlkcjiaa
