/- PathsBack. -/
import Derived.Test.YtonieacjlkcjiaaPL2
namespace Go.Proofs.Ytonieacjlkcjiaa
open Go.RowKit Go.Sort

theorem base_no (l : BL) : ∀ c ∈ baseL l, c ≠ 47 := by
  intro c hc
  exact (cuts_mem 47 l (baseL l) (by unfold cuts baseL; simp) c hc).1
theorem tail_def (l : BL) : tailB l = (!decide (l = []) && decide (baseL l = [])) := by
  unfold tailB baseL
  by_cases h : l = [] <;> simp [h]
theorem dir_len (l : BL) : (dirL l).length ≤ l.length + 1 := by
  unfold dirL
  split
  · simp
  · split
    · simp
    · simp; omega
theorem base_len (l : BL) : (baseL l).length ≤ l.length := by
  rw [← base_drop]
  simp
theorem join_len (d p : BL) : (joinL d p).length ≤ d.length + p.length + 1 := by
  unfold joinL
  split
  · omega
  · split <;> simp only [List.length_append, List.length_singleton] <;> omega

set_option maxHeartbeats 2000000 in
theorem pathsBack_walk (p : ByteArray) (w : World) (hm : p.size ≤ 9223372036854775807) :
    Calls Try.prog 6 #[.string p] w fun e' w' => e' = .returned (.bool true) ∧ Below w.heap.size w w' := by
  by_cases hlarge : 1024 < p.size
  · have hd : 1024 < (p.size : Int) := by omega
    go_enter Try.func6, Try.ntmps6
    go_wp2_with (go_at_call 8; refine (works_any _).mono ?_; rintro e' w' ⟨rfl, hw⟩)
    go_ret
    exact ⟨rfl, hw⟩
  · have hd : ¬ 1024 < (p.size : Int) := by omega
    have hs : p.size ≤ 1000000 := by omega
    have HS := hid (size_list p)
    have hbs : (ba (baseL p.data.toList)).size ≤ 1024 := by
      rw [ba_size]; have := base_len p.data.toList; rw [size_list] at this; omega
    have hds : (ba (dirL p.data.toList)).size ≤ 1025 := by
      rw [ba_size]; have := dir_len p.data.toList; rw [size_list] at this; omega
    have HLP := hid (partsF_len p)
    go_enter Try.func6, Try.ntmps6
    go_wp2_with fail
    refine (base_any p _ hs).mono ?_
    rintro e' w1 ⟨rfl, rfl⟩
    have HBN := hid (base_no p.data.toList)
    have HBD : Hid ((ba (baseL p.data.toList)).data.toList = baseL p.data.toList) := hid rfl
    obtain ⟨B, hB⟩ : ∃ B, B = ba (baseL p.data.toList) := ⟨_, rfl⟩
    have HBE := hid hB
    rw [← hB] at hbs ⊢
    clear hB
    go_wp2_with fail
    go_loop [4] (fun i => ∃ k : Nat, k ≤ B.size ∧ i = .int .i64 k) (fun i => B.size - (intOf i).toNat)
    case atStart => exact ⟨0, Nat.zero_le _, rfl⟩
    case round =>
      obtain ⟨k, hk, rfl⟩ := hrel
      by_cases hlt : k < B.size
      · have hb := byte_eq B k hlt 47 47 rfl
        have hne : B[k] ≠ 47 := by
          have h1 : B.data.toList = baseL p.data.toList := by rw [HBE.out]; rfl
          have h2 : B.data.toList[k]'(by rw [size_list]; exact hlt) ∈ B.data.toList := List.getElem_mem _
          have h3 : B.data.toList[k]'(by rw [size_list]; exact hlt) ∈ baseL p.data.toList := by rw [← h1]; exact h2
          exact HBN.out _ h3
        rw [decide_eq_false hne] at hb
        clear hne
        go_wp2
        go_round
        case rel => exact ⟨k + 1, by omega, by go_num⟩
        case measure => simp [intOf]; omega
      · have hdl : decide (k < B.size) = false := by simp; omega
        have HTD := hid (tail_def p.data.toList)
        have hn1 := ba_nil p
        have hn2 : B.toList.isEmpty = decide (baseL p.data.toList = []) := by rw [HBE.out]; exact ba_nil _
        go_wp2_with fail
        refine (tail_any p _ hs).mono ?_
        rintro e' w2 ⟨rfl, rfl⟩
        rw [HTD.out]
        have HM := hid (fun h => back_math p.data.toList h)
        generalize hb1 : decide (p.data.toList = []) = b1 at *
        generalize hb2 : decide (baseL p.data.toList = []) = b2 at *
        clear hb1 hb2 HTD hdl
        obtain ⟨Q, hQ⟩ : ∃ Q, Q = joinL (dirL p.data.toList) (baseL p.data.toList) := ⟨_, rfl⟩
        have hql : (ba Q).size ≤ 3000 := by
          rw [ba_size, hQ]
          have h1 := join_len (dirL p.data.toList) (baseL p.data.toList)
          have h2 := dir_len p.data.toList
          have h3 := base_len p.data.toList
          have h4 := HS.out
          omega
        have HQ := hid (show joinL (ba (dirL p.data.toList)).data.toList B.data.toList = Q by rw [hQ, HBE.out]; rfl)
        rw [← hQ] at HM
        have HLQ := hid (partsF_len (ba Q))
        have HQL := hid hql
        clear hQ hql
        cases b1 <;> cases b2
        all_goals
          go_wp2_with fail
          refine (parts2_any p _ hs).mono ?_
          rintro e' w3 ⟨v1, rfl, ho1, hb, _⟩
          have HO1 := hid ho1
          have HB1 := hid hb
          clear ho1 hb
          go_wp2_with fail
          refine (dir_any p _ hs).mono ?_
          rintro e' w4 ⟨rfl, rfl⟩
          go_wp2_with fail
          refine (join_any _ B _ (by omega) (by omega)).mono ?_
          rintro e' w4 ⟨rfl, rfl⟩
          rw [HQ.out]
          go_wp2_with fail
          refine (parts2_any (ba Q) _ (by have := HQL.out; omega)).mono ?_
          rintro e' w4 ⟨v2, rfl, ho2, hb, _⟩
          have HO1 := hid (own_below HO1.out hb)
          have HO2 := hid ho2
          have HB2 := hid (bthen HB1.out hb)
          clear ho2 hb HB1
          obtain ⟨a1, c1, rfl, hC1, _⟩ := own_cel HO1.out
          obtain ⟨a2, c2, rfl, hC2, _⟩ := own_cel HO2.out
          have HC1 := hid hC1
          have HC2 := hid hC2
          clear hC1 hC2 HO1 HO2
          rcases chk_cases p.data.toList with ⟨hd0, hd1, hd2', hd3, hd4⟩ | ⟨hd0, hd1, hd2', hd3, hd4⟩
          · have HMM := hid (HM.out hd0)
            rcases chk_cases (ba Q).data.toList with ⟨hj0, hj1, hj2, hj3, hj4⟩ | ⟨hj0, hj1, hj2, hj3, hj4⟩
            · have hj0' : chkE Q = 0 := hj0
              have HE := hid (HMM.out.1 hj0')
              have HE1 := hid (show partsF (ba Q).data.toList = partsF p.data.toList by rw [hj3, hd3]; exact HE.out.1)
              have HE2 := hid (show rootF (ba Q).data.toList = rootF p.data.toList by rw [hj4, hd4]; exact HE.out.2)
              rw [HE1.out] at HC2 HLQ ⊢
              rw [HE2.out]
              clear hd0 hd3 hd4 hj0 hj3 hj4 hj0' HE HE1 HE2 HMM HM
              generalize rootF p.data.toList = R at *
              go_wp2_with fail
              refine (eqTexts_any _ _ _ _ _ _ (partsF p.data.toList) (partsF p.data.toList) _ HC1.out HC2.out (by have := HLP.out; omega) (by have := HLP.out; omega)).mono ?_
              rintro e' w5 ⟨rfl, n, rfl⟩
              rw [show eqT (partsF p.data.toList) (partsF p.data.toList) = true by simp [eqT]]
              go_wp2_with (go_at_call 8; refine (works_any _).mono ?_; rintro e' w' ⟨rfl, hw⟩)
              go_ret
              exact ⟨rfl, bthenN HB2.out hw⟩
            · have hj0' : chkE Q ≠ 0 := hj0
              have hln := HMM.out.2 hj0'
              have hln2 : 200 < (p.size : Int) + 2 := by have := HS.out; omega
              clear hd0 hd3 hd4 hj0 hj3 hj4 hj0' HMM HM hln
              go_wp2_with (go_at_call 8; refine (works_any _).mono ?_; rintro e' w' ⟨rfl, hw⟩)
              go_ret
              exact ⟨rfl, bthen HB2.out hw⟩
          · clear hd0 hd3 hd4 HM
            go_wp2_with (go_at_call 8; refine (works_any _).mono ?_; rintro e' w' ⟨rfl, hw⟩)
            go_ret
            exact ⟨rfl, bthen HB2.out hw⟩
end Go.Proofs.Ytonieacjlkcjiaa
