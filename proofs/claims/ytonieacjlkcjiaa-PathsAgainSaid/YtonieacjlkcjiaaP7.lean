/- Contract of hostelref02.Parts. -/
import Derived.Test.YtonieacjlkcjiaaP6
namespace Go.Proofs.Ytonieacjlkcjiaa
open Go.RowKit Go.Sort

set_option maxHeartbeats 1000000 in
theorem rparts_any (s : ByteArray) (w : World) (hs : s.size ≤ 1000000) :
    Calls Try.prog 10 #[.string s] w fun e' w' => ∃ v, e' = .returned (.tuple #[v, .bool (rootF s.data.toList), .int .i64 (chkE s.data.toList)]) ∧ OwnT w' w.heap.size v (partsF s.data.toList) ∧ Below w.heap.size w w' := by
  obtain ⟨i0, hi, hz0, hz1, hz2⟩ := info_parts infoStr
  go_enter Try.func10, Try.ntmps10
  go_wp2_with fail
  refine (rcheck_any s _ hs).mono ?_
  rintro e' w1 ⟨rfl, hb⟩
  have HB := hid hb
  have hbs := hb.size
  clear hb
  by_cases h : chkE s.data.toList = 0
  · have HP := hid (parts_good h)
    have HH := hid h
    have hne : s.data.toList ≠ [] := by intro e; rw [e] at h; exact absurd h (by decide)
    have h0 : 0 < s.size := by rw [← size_list]; exact List.length_pos_iff.2 hne
    rw [h]
    clear h hne
    go_wp2_with fail
    refine (rpieces_any s _ hs).mono ?_
    rintro e' w2 ⟨v, rfl, ho, hb⟩
    obtain ⟨a9, c9, rfl, hC, _⟩ := own_cel ho
    have HC := hid hC
    have HB2 := hid (bthen HB.out hb)
    have hbs2 := hb.size
    have HLC : Hid ((cuts 47 s.data.toList).length ≤ 1000001) := hid (by have := cst_len 47 s.data.toList; unfold cuts; simp at this ⊢; have h2 : s.data.size = s.size := rfl; omega)
    have hlc := HLC.out
    clear ho hb hC HB
    generalize cuts 47 s.data.toList = ds at *
    go_wp2_with fail
    go_loopw [6, 8] (fun v i wr => ∃ (sv : Value) (j : Nat), sv = v ∧ j ≤ ds.length ∧ i = .int .i64 j ∧ OwnT wr w2.heap.size sv ((ds.take j).filter goodP) ∧ Below w2.heap.size w2 wr) (fun _ i _ => ds.length - (intOf i).toNat)
    case atStart => exact ⟨_, 0, rfl, Nat.zero_le _, rfl, World.ownsRow_nil _ _ _ _, Below.refl _ _⟩
    case round =>
      obtain ⟨sv, j, rfl, hj, rfl, ho, hb⟩ := hrel
      have HO := hid ho
      have HBR := hid hb
      have hbr := hb.size
      have HLn : Hid (((ds.take j).filter goodP).length ≤ 1000001) := hid (by have := List.length_filter_le goodP (ds.take j); simp at this; omega)
      have HL1 := hid (show ((ds.take j).filter goodP).length + 1 ≤ maxLen by have := HLn.out; unfold maxLen; omega)
      have HL2 := hid (show (((ds.take j).filter goodP).length + 1) * 16 ≤ 140737488355328 by have := HLn.out; omega)
      have HL3 := hid (fun o => show w2.heap.size ≤ (wr.alloc o).heap.size by simp only [World.size_alloc]; omega)
      have HN1 := hid (fun x => news_one wr (.string x) 9)
      have HO2 := hid (fun o => ho.alloc o)
      have HU2 := hid (fun o => hb.alloc hb.size o)
      have hCr := HC.out.below' hb
      clear ho hb
      by_cases hlt2 : j < ds.length
      · obtain ⟨b1, o1, rfl, hc1⟩ := hCr.some_of (by simp [strs]; omega)
        have hx := strs_at hc1 hlt2
        have HTS := hid (show (ds.take (j + 1)).filter goodP = if goodP ds[j] then (ds.take j).filter goodP ++ [ds[j]] else (ds.take j).filter goodP by rw [List.take_succ_eq_append_getElem hlt2, filt_snoc])
        have e1 : ((ba ds[j]).toList.isEmpty) = decide (ds[j] = []) := ba_nil (ba ds[j])
        have e2 : ((ba ds[j]).toList == [46]) = decide (ds[j] = [46]) := ba_beq ds[j] [46]
        clear hc1 hCr
        rcases good_cases ds[j] with ⟨h1, hgd⟩ | ⟨h1, h2, hgd⟩ | ⟨h1, h2, hgd⟩
        · have HT2 := hid (show (ds.take (j + 1)).filter goodP = (ds.take j).filter goodP by rw [HTS.out, hgd]; rfl)
          rw [decide_eq_true h1] at e1
          clear h1 hgd HTS
          go_wp2_with fail
          go_roundw
          case rel => exact ⟨_, j + 1, rfl, by omega, by go_num, by rw [HT2.out]; exact HO.out, HBR.out⟩
          case measure => simp [intOf]; omega
        · have HT2 := hid (show (ds.take (j + 1)).filter goodP = (ds.take j).filter goodP by rw [HTS.out, hgd]; rfl)
          rw [decide_eq_false h1] at e1
          rw [decide_eq_true h2] at e2
          clear h1 hgd HTS h2
          go_wp2_with fail
          go_roundw
          case rel => exact ⟨_, j + 1, rfl, by omega, by go_num, by rw [HT2.out]; exact HO.out, HBR.out⟩
          case measure => simp [intOf]; omega
        · have HT2 := hid (show (ds.take (j + 1)).filter goodP = (ds.take j).filter goodP ++ [ds[j]] by rw [HTS.out, hgd]; rfl)
          rw [decide_eq_false h1] at e1
          rw [decide_eq_false h2] at e2
          clear h1 hgd HTS h2
          go_wp2_with (at_builtin; go_must (refine wpList_append_own _ rfl _ _ 23 rfl w2.heap.size 9 i0 (.string ByteArray.empty) 1 16 Try.underlying23 hi hz0 hz1 hz2 rfl (by decide) sv ((ds.take j).filter goodP).length (strs ((ds.take j).filter goodP)) rfl (HO2.out _) ⟨wr.heap.size, 0, none⟩ 1 1 [.string (ba ds[j])] rfl rfl (HN1.out _) (str_one _) HL1.out HL2.out (HL3.out _) ?_; intro v' w9 hown' hgrow _; have hb2 := (HU2.out _).grown hgrow (HL3.out _) (fun k hk => own_low HO.out (Nat.le_refl _) k hk); have HO3 := hid hown'; have HB3 := hid hb2; clear hown' hgrow hb2))
          go_roundw
          case rel => exact ⟨_, j + 1, rfl, by omega, by go_num, by rw [HT2.out]; exact own_ext HO3.out (by simp) (by rw [strs_snoc]), HB3.out⟩
          case measure => simp [intOf]; omega
      · have HF := hid (show (ds.take j).filter goodP = ds.filter goodP by rw [List.take_of_length_le (by omega)])
        have hdl : decide (j < ds.length) = false := by simp; omega
        have hb := byte_eq s 0 h0 47 47 rfl
        have HG := hid (beg_at h0)
        clear hCr
        go_wp2_with fail
        go_quiet (fail)
        go_wp2_with fail
        refine bodyPost_ret (v := .tuple #[sv, .bool (decide (s[0] = 47)), .int .i64 0]) (by simp [results, Try.results10, go_sem]) rfl ⟨sv, by rw [HP.out.2, HH.out, HG.out], ?_, ?_⟩
        · rw [HP.out.1, ← HF.out]
          exact own_from HO.out (by omega)
        · exact bdN (HB2.out.trans (HBR.out.mono (by omega))) _
  · have HP := hid (parts_bad h)
    have hn : (chkE s.data.toList != 0) = true := by simpa using h
    clear h
    go_wp2_with fail
    refine bodyPost_ret (v := .tuple #[.slice none 0 0, .bool false, .int .i64 (chkE s.data.toList)]) (by simp [results, Try.results10, go_sem]) rfl ⟨_, by rw [HP.out.2], ?_, HB.out⟩
    rw [HP.out.1]
    exact World.ownsRow_nil _ _ _ _
end Go.Proofs.Ytonieacjlkcjiaa
