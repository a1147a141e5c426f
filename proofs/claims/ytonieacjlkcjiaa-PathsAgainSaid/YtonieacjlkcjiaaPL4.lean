/- PathsAgain. -/
import Derived.Test.YtonieacjlkcjiaaPL2
namespace Go.Proofs.Ytonieacjlkcjiaa
open Go.RowKit Go.Sort

theorem gl_len : ∀ ds : List BL, (gl ds).length = tot ds
  | [] => rfl
  | p :: ds => by
    have := gl_len ds
    simp only [gl, tot, List.map_cons, List.flatten_cons, List.sum_cons, List.length_append, List.length_singleton] at this ⊢
    omega
theorem tot_app (a b : List BL) : tot (a ++ b) = tot a + tot b := by simp [tot]
theorem tot_take (ds : List BL) (k : Nat) : tot (ds.take k) ≤ tot ds := by
  have h := tot_app (ds.take k) (ds.drop k)
  rw [List.take_append_drop] at h
  omega
theorem tot_mem {ds : List BL} {p : BL} (h : p ∈ ds) : p.length ≤ tot ds := by
  induction ds with
  | nil => simp at h
  | cons q ds ih =>
    simp only [tot, List.map_cons, List.sum_cons] at ih ⊢
    rcases List.mem_cons.1 h with rfl | h
    · omega
    · have := ih h; omega

set_option maxHeartbeats 2000000 in
set_option maxRecDepth 100000 in
theorem pathsAgain_walk (p : ByteArray) (w : World) (hm : p.size ≤ 9223372036854775807) :
    Calls Try.prog 7 #[.string p] w fun e' w' => e' = .returned (.bool true) ∧ Below w.heap.size w w' := by
  by_cases hlarge : 1024 < p.size
  · have hd : 1024 < (p.size : Int) := by omega
    go_enter Try.func7, Try.ntmps7
    go_wp2_with (go_at_call 8; refine (works_any _).mono ?_; rintro e' w' ⟨rfl, hw⟩)
    go_ret
    exact ⟨rfl, hw⟩
  · have hd : ¬ 1024 < (p.size : Int) := by omega
    have hs : p.size ≤ 1000000 := by omega
    have HS := hid (size_list p)
    have HLP := hid (partsF_len p)
    go_enter Try.func7, Try.ntmps7
    go_wp2_with fail
    refine (parts2_any p _ hs).mono ?_
    rintro e' w1 ⟨v1, rfl, ho1, hb, _⟩
    have HO1 := hid ho1
    have HB1 := hid hb
    obtain ⟨a1, c1, rfl, hC1, _⟩ := own_cel ho1
    have HC1 := hid hC1
    clear ho1 hb hC1
    rcases chk_cases p.data.toList with ⟨hd0, hd1, hd2', hd3, hd4⟩ | ⟨hd0, hd1, hd2', hd3, hd4⟩
    · by_cases hne : partsF p.data.toList = []
      · have hlen : (((partsF p.data.toList).length : Int) == 0) = true := by rw [hne]; rfl
        clear hd0 hd2' hd3 hd4 hne HO1 HC1
        go_wp2_with (go_at_call 8; refine (works_any _).mono ?_; rintro e' w' ⟨rfl, hw⟩)
        go_ret
        exact ⟨rfl, bthen HB1.out hw⟩
      · have hpos : 0 < (partsF p.data.toList).length := List.length_pos_iff.2 hne
        have hlen : (((partsF p.data.toList).length : Int) == 0) = false := by rw [beq_eq_false_iff_ne]; omega
        have HA := hid (again_math p.data.toList hd0 (by rw [← hd3]; exact hne))
        rw [← hd3] at HA
        have HT : Hid (tot (partsF p.data.toList) ≤ 1025) := hid (by
          rw [hd3]
          have h1 := tot_filter goodP (cuts 47 p.data.toList)
          have h2 := tot_cuts 47 p.data.toList
          have h3 := HS.out
          unfold partsL
          omega)
        clear hd0 hd2' hd3 hd4 hne
        generalize partsF p.data.toList = ds at *
        have hdl : ds.length ≤ 1025 := by have := HLP.out; omega
        go_wp2_with fail
        go_loop [6, 7] (fun s i => ∃ k : Nat, k ≤ ds.length ∧ i = .int .i64 k ∧ s = .string (ba (gl (ds.take k)))) (fun _ i => ds.length - (intOf i).toNat)
        case atStart => exact ⟨0, Nat.zero_le _, rfl, rfl⟩
        case round =>
          obtain ⟨k, hk, rfl, rfl⟩ := hrel
          have hg1 : (ba (gl (ds.take k))).size ≤ 1025 := by
            rw [ba_size, gl_len]; have h1 := tot_take ds k; have h2 := HT.out; omega
          by_cases hlt : k < ds.length
          · obtain ⟨b1, o1, rfl, hc1⟩ := HC1.out.some_of (by rw [strs_len]; exact hpos)
            have hx := strs_at hc1 hlt
            have hg2 : (ba ds[k]).size ≤ 1025 := by
              rw [ba_size]; have h1 := tot_mem (List.getElem_mem hlt); have h2 := HT.out; omega
            have HG := hid (show ba (gl (ds.take k)) ++ ba ds[k] ++ ByteArray.mk #[47] = ba (gl (ds.take (k + 1))) by
              rw [List.take_succ_eq_append_getElem hlt, gl_snoc, show ByteArray.mk #[47] = ba [47] from rfl, ba_append, ba_append])
            clear hc1
            go_wp2
            go_round
            case rel => exact ⟨k + 1, by omega, by go_num, by rw [HG.out]⟩
            case measure => simp [intOf]; omega
          · have hdk : decide (k < ds.length) = false := by simp; omega
            have HE := hid (show ds.take k = ds from List.take_of_length_le (by omega))
            rw [HE.out] at hg1 ⊢
            obtain ⟨hA1, hA2, hA3, hA4, hA5⟩ := HA.out
            obtain ⟨S, hS⟩ : ∃ S, S = ba (gl ds) := ⟨_, rfl⟩
            have hsz : (S.size : Int) - 1 = ((jn ds).length : Nat) := by rw [hS, ba_size, hA5]; simp
            have hsz2 : (jn ds).length ≤ S.size := by rw [hS, ba_size, hA5]; simp
            have HX := hid (show S.extract 0 (jn ds).length = ba (jn ds) by
              rw [hS, ba_extract, ba_list, hA5]; simp)
            rw [← hS] at hg1 ⊢
            have HP := hid (show partsF (ba (jn ds)).data.toList = ds by
              rw [ba_list, (parts_good hA1).1]; exact hA3)
            have HR := hid (show rootF (ba (jn ds)).data.toList = false by
              rw [ba_list, (parts_good hA1).2]; exact hA2)
            have HK := hid (show chkE (ba (jn ds)).data.toList = 0 by rw [ba_list]; exact hA1)
            have hJ : (ba (jn ds)).size ≤ 200 := by rw [ba_size]; exact hA4
            clear hS hA1 hA2 hA3 hA4 hA5 HA HE
            go_wp2_with fail
            rw [HX.out]
            refine (parts2_any (ba (jn ds)) _ (by omega)).mono ?_
            rintro e' w2 ⟨v2, rfl, ho2, hb, _⟩
            rw [HP.out] at ho2
            rw [HK.out, HR.out]
            have HB2 := hid (bthen HB1.out hb)
            have HC1 := hid (HC1.out.below' hb)
            have HO2 := hid ho2
            clear ho2 hb
            go_wp2_with fail
            refine (parts2_any (ba (jn ds)) _ (by omega)).mono ?_
            rintro e' w3 ⟨v3, rfl, ho3, hb, _⟩
            rw [HP.out] at ho3
            obtain ⟨a2, c2, rfl, hC2, _⟩ := own_cel HO2.out
            obtain ⟨a3, c3, rfl, hC3, _⟩ := own_cel ho3
            have HB23 := hid hb
            have HC21 := hid hC2
            have HC11 := HC1
            have HC1 := hid (HC1.out.below' hb)
            have HC2 := hid (hC2.below' hb)
            have HO3 := hid ho3
            clear ho3 hb hC2 hC3
            rw [HK.out, HR.out]
            go_wp2_with fail
            refine (eqTexts_any _ _ _ _ _ _ ds ds _ HC1.out HC2.out (by omega) (by omega)).mono ?_
            rintro e' w4 ⟨rfl, n4, rfl⟩
            rw [show eqT ds ds = true by simp [eqT]]
            have HB24 := hid (bdN HB23.out n4)
            have HO4 : Hid (OwnT (w3.drewN n4) w2.heap.size (.slice a3 ds.length c3) ds) := hid (own_below HO3.out (bdN (Below.refl _ _) n4))
            generalize w3.drewN n4 = w4 at *
            have HL1 := hid (show ds.length + 1 ≤ maxLen by unfold maxLen; omega)
            have HL2 := hid (show (ds.length + 1) * 16 ≤ 140737488355328 by omega)
            have hz4 := HB24.out.size
            have HL3 := hid (fun o => show w2.heap.size ≤ (w4.alloc o).heap.size by simp only [World.size_alloc]; omega)
            have HN1 := hid (fun x => news_one w4 (.string x) 9)
            have HOA := hid (fun o => HO4.out.alloc o)
            have HU2 := hid (fun o => HB24.out.alloc HB24.out.size o)
            obtain ⟨i0, hi, hz0, hz1, hz2⟩ := info_parts infoStr
            go_wp2_with (at_builtin; go_must (refine wpList_append_own _ rfl _ _ 23 rfl w2.heap.size 9 i0 (.string ByteArray.empty) 1 16 Try.underlying23 hi hz0 hz1 hz2 rfl (by decide) (.slice a3 ds.length c3) ds.length (strs ds) rfl (HOA.out _) ⟨w4.heap.size, 0, none⟩ 1 1 [.string (ByteArray.mk #[33])] rfl rfl (HN1.out _) (str_one _) HL1.out HL2.out (HL3.out _) ?_; intro v' w9 hown' hgrow _; have hb2 := (HU2.out _).grown hgrow (HL3.out _) (fun k hk => own_low HO4.out (Nat.le_refl _) k hk); obtain ⟨G, c9, rfl, hc1, hc2, hc3, hc4⟩ := own_open hown' (Nat.succ_pos _); have HO9 := hid hown'; have HB9 := hid hb2; clear hown' hgrow hb2))
            go_loopw [14] (fun i wr => ∃ (k : Nat) (zs : List Value), k ≤ ds.length + 1 ∧ i = .int .i64 k ∧ zs.length = ds.length + 1 ∧ wr.ownsRow w2.heap.size 9 1 (.slice (some ⟨G, 0, none⟩) (ds.length + 1) c9) (ds.length + 1) zs ∧ Below w2.heap.size w2 wr) (fun i _ => ds.length + 1 - (intOf i).toNat)
            case atStart => exact ⟨0, _, Nat.zero_le _, rfl, by simp [strs], HO9.out, HB9.out⟩
            case round =>
              obtain ⟨j, zs, hj, rfl, hzl, ho, hbr⟩ := hrel
              have HZ := hid hzl
              have HO := hid ho
              have HBR := hid hbr
              by_cases hlt2 : j < ds.length + 1
              · have hjz : j < zs.length := by omega
                have hx : wr.cell? ⟨G, j, none⟩ = some zs[j] := by rw [ho.cellAt j (by omega)]; simp [hjz]
                have hf : wr.frozen? ⟨G, j, none⟩ = false := ho.frozenAt j
                have hdt : decide (j < ds.length + 1) = true := by simp; omega
                have hdi : decide ((j : Int) < (ds.length : Int) + 1) = true := by simp; omega
                clear hzl ho hbr
                go_wp2_with fail
                go_roundw
                case rel => exact ⟨j + 1, _, by omega, by go_num, by rw [List.length_set]; exact HZ.out, (HO.out.stored j _).1, (HBR.out).setCell (p := ⟨G, j, none⟩) hc2 _⟩
                case measure => simp [intOf]; omega
              · have hdt : decide (j < ds.length + 1) = false := by simp; omega
                have hdi : decide ((j : Int) < (ds.length : Int) + 1) = false := by simp; omega
                have HCa := hid (HC11.out.below' hbr)
                have HCb := hid (HC21.out.below' hbr)
                have HBF := hid (HB2.out.trans (hbr.mono HB2.out.size))
                clear hzl ho hbr
                go_wp2_with fail
                refine (eqTexts_any _ _ _ _ _ _ ds ds _ HCa.out HCb.out (by omega) (by omega)).mono ?_
                rintro e' w5 ⟨rfl, n, rfl⟩
                rw [show eqT ds ds = true by simp [eqT]]
                go_wp2_with (go_at_call 8; refine (works_any _).mono ?_; rintro e' w' ⟨rfl, hw⟩)
                go_ret
                exact ⟨rfl, bthenN HBF.out hw⟩
    · clear hd0 hd2' hd4 HO1 HC1
      go_wp2_with (go_at_call 8; refine (works_any _).mono ?_; rintro e' w' ⟨rfl, hw⟩)
      go_ret
      exact ⟨rfl, bthen HB1.out hw⟩
end Go.Proofs.Ytonieacjlkcjiaa
