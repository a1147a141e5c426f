
/- hostelref02: pieces, Check, Parts. -/
import Derived.Test.YtfaohejdaabalaaGreatDoorKP
import Derived.Test.YtfaohejdaabalaaGreatDoorP5j
namespace Go.Proofs.YtfaohejdaabalaaGreatDoor
open Go.RowKit Go.Sort

theorem miss1 {s : ByteArray} {k f : Nat} (hf : f ≤ k) (hk : k < s.size) (h : s[k] ≠ 47) (ds : List BL) (hc : cst 47 (s.data.toList.take k) = (ds, (s.data.toList.take k).drop f)) :
    cst 47 (s.data.toList.take (k + 1)) = (ds, (s.data.toList.take (k + 1)).drop f) := by
  have hno : ∀ j (hj : j < s.size), k ≤ j → j < k + 1 → s[j] ≠ 47 := by
    intro j hj h1 h2
    have e : j = k := by omega
    subst e
    exact h
  have := miss_at (s := s) (k := k) (f := f) (n := 1) hf (by omega) hno (by rw [hc])
  rw [this, hc]
theorem hit1 {s : ByteArray} {k f : Nat} (hk : k < s.size) (h : s[k] = 47) (ds : List BL) (hc : cst 47 (s.data.toList.take k) = (ds, (s.data.toList.take k).drop f)) :
    cst 47 (s.data.toList.take (k + 1)) = (ds ++ [(s.data.toList.take k).drop f], (s.data.toList.take (k + 1)).drop (k + 1)) := by
  rw [hit_at (f := f) hk h (by rw [hc]), hc]
  simp

def piR (s : ByteArray) (k f : Nat) (ds : List BL) : Prop := (k ≤ s.size → f ≤ k ∧ cst 47 (s.data.toList.take k) = (ds, (s.data.toList.take k).drop f)) ∧ (k = s.size + 1 → ds = cuts 47 s.data.toList)

set_option maxRecDepth 100000 in
set_option maxHeartbeats 1000000 in
theorem rpieces_any (s : ByteArray) (w : World) (hs : s.size ≤ 1000000) :
    Calls Tryz.prog 77 #[.string s] w fun e' w' => ∃ v, e' = .returned v ∧ OwnT w' w.heap.size v (cuts 47 s.data.toList) ∧ Below w.heap.size w w' := by
  obtain ⟨i0, hi, hz0, hz1, hz2⟩ := info_parts infoStr
  go_enter Tryz.func77, Tryz.ntmps77
  go_wp2_with fail
  go_loopw [3, 4, 5] (fun v fr i wr => ∃ (sv : Value) (k f : Nat) (ds : List BL), sv = v ∧ k ≤ s.size + 1 ∧ i = .int .i64 k ∧ fr = .int .i64 f ∧ ds.length ≤ k ∧ piR s k f ds ∧ OwnT wr w.heap.size sv ds ∧ Below w.heap.size w wr) (fun _ _ i _ => s.size + 1 - (intOf i).toNat)
  case atStart => exact ⟨_, 0, 0, [], rfl, Nat.zero_le _, rfl, rfl, Nat.le_refl _, ⟨fun _ => ⟨Nat.le_refl _, rfl⟩, fun h => by omega⟩, World.ownsRow_nil _ _ _ _, Below.refl _ _⟩
  case round =>
    obtain ⟨sv, k, f, ds, rfl, hk, rfl, rfl, hdk, hp, ho, hb⟩ := hrel
    have HP := hid hp
    have HO := hid ho
    have HB := hid hb
    have HL1 := hid (show ds.length + 1 ≤ maxLen by unfold maxLen; omega)
    have HL2 := hid (show (ds.length + 1) * 16 ≤ 140737488355328 by omega)
    have hbs := hb.size
    have HL3 := hid (fun o => show w.heap.size ≤ (wr.alloc o).heap.size by simp only [World.size_alloc]; omega)
    have HN1 := hid (fun x => news_one wr (.string x) 9)
    have HO2 := hid (fun o => ho.alloc o)
    have HU2 := hid (fun o => hb.alloc hb.size o)
    clear hp ho hb
    by_cases hlt : k < s.size
    · have hle : decide ((k : Int) ≤ (s.size : Int)) = true := by simp; omega
      have hq : ((k : Int) == (s.size : Int)) = false := by rw [beq_eq_false_iff_ne]; omega
      have hb := byte_eq s k hlt 47 47 rfl
      obtain ⟨hfk, hc⟩ := HP.out.1 (by omega)
      by_cases h : s[k] = 47
      · rw [decide_eq_true h] at hb
        have HT := hid (hit1 hlt h ds hc)
        have HX := hid (ba_extract s f k)
        clear h hc
        go_wp2_with (at_builtin; go_must (refine wpList_append_own _ rfl _ _ 125 rfl w.heap.size 9 i0 (.string ByteArray.empty) 1 16 Tryz.underlying125 hi hz0 hz1 hz2 rfl (by decide) sv ds.length (strs ds) rfl (HO2.out _) ⟨wr.heap.size, 0, none⟩ 1 1 [.string (s.extract f k)] rfl rfl (HN1.out _) (str_one _) HL1.out HL2.out (HL3.out _) ?_; intro v' w9 hown' hgrow _; have hb2 := (HU2.out _).grown hgrow (HL3.out _) (fun k hk => own_low HO.out (Nat.le_refl _) k hk); have HO3 := hid hown'; have HB2 := hid hb2; clear hown' hgrow hb2))
        go_roundw
        case rel => exact ⟨_, k + 1, k + 1, ds ++ [(s.data.toList.take k).drop f], rfl, by omega, by go_num, by go_num, by simp; omega, ⟨fun _ => ⟨Nat.le_refl _, HT.out⟩, fun h => by omega⟩, own_ext HO3.out (by simp) (by rw [strs_snoc, HX.out]), HB2.out⟩
        case measure => simp [intOf]; omega
      · rw [decide_eq_false h] at hb
        have HT := hid (miss1 hfk hlt h ds hc)
        clear h hc
        go_wp2_with fail
        go_roundw
        case rel => exact ⟨_, k + 1, f, ds, rfl, by omega, by go_num, rfl, by omega, ⟨fun _ => ⟨by omega, HT.out⟩, fun h => by omega⟩, HO.out, HB.out⟩
        case measure => simp [intOf]; omega
    · by_cases he : k = s.size
      · have hle : decide ((k : Int) ≤ (s.size : Int)) = true := by simp; omega
        have hq : ((k : Int) == (s.size : Int)) = true := by rw [beq_iff_eq]; omega
        obtain ⟨hfk, hc⟩ := HP.out.1 (by omega)
        have HT := hid (show cuts 47 s.data.toList = ds ++ [(s.data.toList.take k).drop f] by
          have e1 : s.data.toList.take k = s.data.toList := List.take_of_length_le (by rw [size_list]; omega)
          rw [e1] at hc ⊢
          unfold cuts
          rw [hc])
        have HX := hid (ba_extract s f k)
        have HE := hid he
        have hks : k ≤ s.size := by omega
        clear hc he
        go_wp2_with (at_builtin; go_must (refine wpList_append_own _ rfl _ _ 125 rfl w.heap.size 9 i0 (.string ByteArray.empty) 1 16 Tryz.underlying125 hi hz0 hz1 hz2 rfl (by decide) sv ds.length (strs ds) rfl (HO2.out _) ⟨wr.heap.size, 0, none⟩ 1 1 [.string (s.extract f k)] rfl rfl (HN1.out _) (str_one _) HL1.out HL2.out (HL3.out _) ?_; intro v' w9 hown' hgrow _; have hb2 := (HU2.out _).grown hgrow (HL3.out _) (fun k hk => own_low HO.out (Nat.le_refl _) k hk); have HO3 := hid hown'; have HB2 := hid hb2; clear hown' hgrow hb2))
        go_roundw
        case rel => exact ⟨_, k + 1, k + 1, ds ++ [(s.data.toList.take k).drop f], rfl, by omega, by go_num, by go_num, by simp; omega, ⟨fun h => by omega, fun _ => HT.out.symm⟩, own_ext HO3.out (by simp) (by rw [strs_snoc, HX.out]), HB2.out⟩
        case measure => simp [intOf]; omega
      · have hle : decide ((k : Int) ≤ (s.size : Int)) = false := by simp; omega
        have hle2 : decide (k ≤ s.size) = false := by simp; omega
        have HE := hid (HP.out.2 (by omega))
        clear he
        go_wp2_with fail
        go_ret
        exact ⟨_, rfl, by rw [← HE.out]; exact HO.out, HB.out⟩

set_option maxRecDepth 100000 in
set_option maxHeartbeats 1000000 in
theorem rcheck_any (s : ByteArray) (w : World) (hs : s.size ≤ 1000000) :
    Calls Tryz.prog 76 #[.string s] w fun e' w' => e' = .returned (.int .i64 (chkE s.data.toList)) ∧ Below w.heap.size w w' := by
  have hne := ba_nil s
  have HE := hid (show chkE s.data.toList = if s.data.toList = [] then 3 else if 0 ∈ s.data.toList then 1 else if 200 < s.data.toList.length then 11 else if tooLong s.data.toList then 11 else 0 from rfl)
  have HRF := hid (Below.refl w.heap.size w)
  by_cases h1 : s.data.toList = []
  · rw [decide_eq_true h1] at hne
    have HF := hid (show chkE s.data.toList = 3 by rw [HE.out, if_pos h1])
    clear h1
    go_enter Tryz.func76, Tryz.ntmps76
    go_wp2_with fail
    go_ret
    exact ⟨ret_i64 HF.out.symm, HRF.out⟩
  · rw [decide_eq_false h1] at hne
    have H1 := hid h1
    clear h1
    go_enter Tryz.func76, Tryz.ntmps76
    go_wp2_with fail
    go_loop [3] (fun i => ∃ k : Nat, k ≤ s.size ∧ i = .int .i64 k ∧ ¬ 0 ∈ s.data.toList.take k) (fun i => s.size - (intOf i).toNat)
    case atStart => exact ⟨0, Nat.zero_le _, rfl, by simp⟩
    case round =>
      obtain ⟨k, hk, rfl, hno⟩ := hrel
      have HNO := hid hno
      clear hno
      by_cases hlt : k < s.size
      · have hb := byte_eq s k hlt 0 0 rfl
        have HS := hid (take_snoc2 s k hlt)
        by_cases h : s[k] = 0
        · rw [decide_eq_true h] at hb
          have HM := hid (show (0 : UInt8) ∈ s.data.toList from by
            have : s[k] ∈ s.data.toList := by
              have h2 : s.data.toList[k]'(by rw [size_list]; exact hlt) ∈ s.data.toList := List.getElem_mem _
              exact h2
            rwa [h] at this)
          have HF := hid (show chkE s.data.toList = 1 by rw [HE.out, if_neg H1.out, if_pos HM.out])
          clear h
          go_wp2
          go_ret
          exact ⟨ret_i64 HF.out.symm, HRF.out⟩
        · rw [decide_eq_false h] at hb
          have HN := hid h
          clear h
          go_wp2
          go_round
          case rel => exact ⟨k + 1, by omega, by go_num, by rw [HS.out, List.mem_append]; rintro (h | h); exact HNO.out h; simp at h; exact HN.out h.symm⟩
          case measure => simp [intOf]; omega
      · have H2 := hid (show ¬ 0 ∈ s.data.toList by have := HNO.out; rwa [List.take_of_length_le (by rw [size_list]; omega)] at this)
        by_cases h3 : 200 < s.size
        · have HF := hid (show chkE s.data.toList = 11 by rw [HE.out, if_neg H1.out, if_neg H2.out, if_pos (by rw [size_list]; exact h3)])
          have h3' : 200 < (s.size : Int) := by omega
          go_wp2_with fail
          go_ret
          exact ⟨ret_i64 HF.out.symm, HRF.out⟩
        · have HF := hid (chk_eq s.data.toList H1.out H2.out (by rw [size_list]; omega))
          have h3' : ¬ 200 < (s.size : Int) := by omega
          go_wp2_with fail
          refine (rpieces_any s _ hs).mono ?_
          rintro e' w1 ⟨v, rfl, ho, hb⟩
          obtain ⟨a9, c9, rfl, hC, _⟩ := own_cel ho
          have HB := hid hb
          have HC := hid hC
          have HLC : Hid ((cuts 47 s.data.toList).length ≤ 1000001) := hid (by have := cst_len 47 s.data.toList; unfold cuts; simp at this ⊢; have h2 : s.data.size = s.size := rfl; omega)
          have hlc := HLC.out
          clear ho hb hC
          generalize cuts 47 s.data.toList = ds at *
          go_wp2_with fail
          go_loop [5] (fun i => ∃ j : Nat, j ≤ ds.length ∧ i = .int .i64 j ∧ anyLong (ds.take j) = false) (fun i => ds.length - (intOf i).toNat)
          case atStart => exact ⟨0, Nat.zero_le _, rfl, rfl⟩
          case round =>
            obtain ⟨j, hj, rfl, hno⟩ := hrel
            have HNL := hid hno
            clear hno
            by_cases hlt2 : j < ds.length
            · obtain ⟨b1, o1, rfl, hc1⟩ := HC.out.some_of (by simp [strs]; omega)
              have hx := strs_at hc1 hlt2
              have HSZ := hid (ba_size ds[j])
              have HTS := hid (show ds.take (j + 1) = ds.take j ++ [ds[j]] from List.take_succ_eq_append_getElem hlt2)
              clear hc1
              by_cases h : 32 < ds[j].length
              · have hd : 32 < ((ba ds[j]).size : Int) := by rw [HSZ.out]; omega
                have HA := hid (show anyLong ds = true by
                  unfold anyLong; rw [List.any_eq_true]; exact ⟨ds[j], List.getElem_mem _, by simpa using h⟩)
                have HF2 := hid (show chkE s.data.toList = 11 by rw [HF.out, HA.out]; rfl)
                clear h
                go_wp2_with fail
                go_ret
                exact ⟨ret_i64 HF2.out.symm, HB.out⟩
              · have hd : ¬ 32 < ((ba ds[j]).size : Int) := by rw [HSZ.out]; omega
                have HA := hid (show anyLong (ds.take (j + 1)) = false by rw [HTS.out, anyLong_snoc, HNL.out]; simpa using h)
                clear h
                go_wp2_with fail
                go_round
                case rel => exact ⟨j + 1, by omega, by go_num, HA.out⟩
                case measure => simp [intOf]; omega
            · have HF2 := hid (show chkE s.data.toList = 0 by
                rw [HF.out]
                have := HNL.out
                rw [List.take_of_length_le (by omega)] at this
                rw [this]; rfl)
              go_wp2_with fail
              go_ret
              exact ⟨ret_i64 HF2.out.symm, HB.out⟩
end Go.Proofs.YtfaohejdaabalaaGreatDoor
namespace Go.Proofs.YtfaohejdaabalaaGreatDoor
open Go.RowKit Go.Sort

set_option maxRecDepth 100000 in
set_option maxHeartbeats 1000000 in
theorem rparts_any (s : ByteArray) (w : World) (hs : s.size ≤ 1000000) :
    Calls Tryz.prog 53 #[.string s] w fun e' w' => ∃ v, e' = .returned (.tuple #[v, .bool (rootF s.data.toList), .int .i64 (chkE s.data.toList)]) ∧ OwnT w' w.heap.size v (partsF s.data.toList) ∧ Below w.heap.size w w' := by
  obtain ⟨i0, hi, hz0, hz1, hz2⟩ := info_parts infoStr
  go_enter Tryz.func53, Tryz.ntmps53
  go_wp2_with fail
  refine (rcheck_any s _ hs).mono ?_
  rintro e' w1 ⟨rfl, hb⟩
  have HB := hid hb
  have hbs := hb.size
  clear hb
  by_cases h : chkE s.data.toList = 0
  · have HP := hid (parts_good h)
    have HH := hid h
    have hne : s.data.toList ≠ [] := by intro e; rw [e] at h; exact absurd h (by decide)
    have h0 : 0 < s.size := by rw [← size_list]; exact List.length_pos_iff.2 hne
    rw [h]
    clear h hne
    go_wp2_with fail
    refine (rpieces_any s _ hs).mono ?_
    rintro e' w2 ⟨v, rfl, ho, hb⟩
    obtain ⟨a9, c9, rfl, hC, _⟩ := own_cel ho
    have HC := hid hC
    have HB2 := hid (bthen HB.out hb)
    have hbs2 := hb.size
    have HLC : Hid ((cuts 47 s.data.toList).length ≤ 1000001) := hid (by have := cst_len 47 s.data.toList; unfold cuts; simp at this ⊢; have h2 : s.data.size = s.size := rfl; omega)
    have hlc := HLC.out
    clear ho hb hC HB
    generalize cuts 47 s.data.toList = ds at *
    go_wp2_with fail
    go_loopw [6, 8] (fun v i wr => ∃ (sv : Value) (j : Nat), sv = v ∧ j ≤ ds.length ∧ i = .int .i64 j ∧ OwnT wr w2.heap.size sv ((ds.take j).filter goodP) ∧ Below w2.heap.size w2 wr) (fun _ i _ => ds.length - (intOf i).toNat)
    case atStart => exact ⟨_, 0, rfl, Nat.zero_le _, rfl, World.ownsRow_nil _ _ _ _, Below.refl _ _⟩
    case round =>
      obtain ⟨sv, j, rfl, hj, rfl, ho, hb⟩ := hrel
      have HO := hid ho
      have HBR := hid hb
      have hbr := hb.size
      have HLn : Hid (((ds.take j).filter goodP).length ≤ 1000001) := hid (by have := List.length_filter_le goodP (ds.take j); simp at this; omega)
      have HL1 := hid (show ((ds.take j).filter goodP).length + 1 ≤ maxLen by have := HLn.out; unfold maxLen; omega)
      have HL2 := hid (show (((ds.take j).filter goodP).length + 1) * 16 ≤ 140737488355328 by have := HLn.out; omega)
      have HL3 := hid (fun o => show w2.heap.size ≤ (wr.alloc o).heap.size by simp only [World.size_alloc]; omega)
      have HN1 := hid (fun x => news_one wr (.string x) 9)
      have HO2 := hid (fun o => ho.alloc o)
      have HU2 := hid (fun o => hb.alloc hb.size o)
      have hCr := HC.out.below' hb
      clear ho hb
      by_cases hlt2 : j < ds.length
      · obtain ⟨b1, o1, rfl, hc1⟩ := hCr.some_of (by simp [strs]; omega)
        have hx := strs_at hc1 hlt2
        have HTS := hid (show (ds.take (j + 1)).filter goodP = if goodP ds[j] then (ds.take j).filter goodP ++ [ds[j]] else (ds.take j).filter goodP by rw [List.take_succ_eq_append_getElem hlt2, filt_snoc])
        have e1 : ((ba ds[j]).toList.isEmpty) = decide (ds[j] = []) := ba_nil (ba ds[j])
        have e2 : ((ba ds[j]).toList == [46]) = decide (ds[j] = [46]) := ba_beq ds[j] [46]
        clear hc1 hCr
        rcases good_cases ds[j] with ⟨h1, hgd⟩ | ⟨h1, h2, hgd⟩ | ⟨h1, h2, hgd⟩
        · have HT2 := hid (show (ds.take (j + 1)).filter goodP = (ds.take j).filter goodP by rw [HTS.out, hgd]; rfl)
          rw [decide_eq_true h1] at e1
          clear h1 hgd HTS
          go_wp2_with fail
          go_roundw
          case rel => exact ⟨_, j + 1, rfl, by omega, by go_num, by rw [HT2.out]; exact HO.out, HBR.out⟩
          case measure => simp [intOf]; omega
        · have HT2 := hid (show (ds.take (j + 1)).filter goodP = (ds.take j).filter goodP by rw [HTS.out, hgd]; rfl)
          rw [decide_eq_false h1] at e1
          rw [decide_eq_true h2] at e2
          clear h1 hgd HTS h2
          go_wp2_with fail
          go_roundw
          case rel => exact ⟨_, j + 1, rfl, by omega, by go_num, by rw [HT2.out]; exact HO.out, HBR.out⟩
          case measure => simp [intOf]; omega
        · have HT2 := hid (show (ds.take (j + 1)).filter goodP = (ds.take j).filter goodP ++ [ds[j]] by rw [HTS.out, hgd]; rfl)
          rw [decide_eq_false h1] at e1
          rw [decide_eq_false h2] at e2
          clear h1 hgd HTS h2
          go_wp2_with (at_builtin; go_must (refine wpList_append_own _ rfl _ _ 125 rfl w2.heap.size 9 i0 (.string ByteArray.empty) 1 16 Tryz.underlying125 hi hz0 hz1 hz2 rfl (by decide) sv ((ds.take j).filter goodP).length (strs ((ds.take j).filter goodP)) rfl (HO2.out _) ⟨wr.heap.size, 0, none⟩ 1 1 [.string (ba ds[j])] rfl rfl (HN1.out _) (str_one _) HL1.out HL2.out (HL3.out _) ?_; intro v' w9 hown' hgrow _; have hb2 := (HU2.out _).grown hgrow (HL3.out _) (fun k hk => own_low HO.out (Nat.le_refl _) k hk); have HO3 := hid hown'; have HB3 := hid hb2; clear hown' hgrow hb2))
          go_roundw
          case rel => exact ⟨_, j + 1, rfl, by omega, by go_num, by rw [HT2.out]; exact own_ext HO3.out (by simp) (by rw [strs_snoc]), HB3.out⟩
          case measure => simp [intOf]; omega
      · have HF := hid (show (ds.take j).filter goodP = ds.filter goodP by rw [List.take_of_length_le (by omega)])
        have hdl : decide (j < ds.length) = false := by simp; omega
        have hb := byte_eq s 0 h0 47 47 rfl
        have HG := hid (beg_at h0)
        clear hCr
        go_wp2_with fail
        go_quiet (fail)
        go_wp2_with fail
        refine bodyPost_ret (v := .tuple #[sv, .bool (decide (s[0] = 47)), .int .i64 0]) (by simp [results, Tryz.results53, go_sem]) rfl ⟨sv, by rw [HP.out.2, HH.out, HG.out], ?_, ?_⟩
        · rw [HP.out.1, ← HF.out]
          exact own_from HO.out (by omega)
        · exact bdN (HB2.out.trans (HBR.out.mono (by omega))) _
  · have HP := hid (parts_bad h)
    have hn : (chkE s.data.toList != 0) = true := by simpa using h
    clear h
    go_wp2_with fail
    refine bodyPost_ret (v := .tuple #[.slice none 0 0, .bool false, .int .i64 (chkE s.data.toList)]) (by simp [results, Tryz.results53, go_sem]) rfl ⟨_, by rw [HP.out.2], ?_, HB.out⟩
    rw [HP.out.1]
    exact World.ownsRow_nil _ _ _ _
end Go.Proofs.YtfaohejdaabalaaGreatDoor
