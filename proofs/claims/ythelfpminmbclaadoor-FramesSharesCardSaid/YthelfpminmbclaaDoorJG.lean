/- FramesShares: the walk. -/
import Derived.Test.YthelfpminmbclaaDoorJK
namespace Go.Proofs.YthelfpminmbclaaDoor
open Go.RowKit Go.Sort

set_option maxRecDepth 100000 in
set_option maxHeartbeats 4000000 in
theorem framesShares_walk (n : Int) (a : Option Addr) (len cap : Nat) (fo : Nat → OP) (f tm : Int) (w : World) (hT : Tb w) (hA : OpsIn w a len fo) (hm : len ≤ 9223372036854775807) (t0 : 0 ≤ tm) (t1 : tm ≤ 255) :
    Calls Tryd.prog 9 #[.int .i64 n, .slice a len cap, .int .i64 f, .int .u8 tm] w fun e w' => e = .returned (.bool true) ∧ Below w.heap.size w w' := by
  have HT := hid hT
  have HA := hid hA
  clear hT hA
  by_cases hn : 1 ≤ n ∧ n ≤ 1024
  · obtain ⟨m, rfl⟩ := Int.eq_ofNat_of_zero_le (show 0 ≤ n by omega)
    have h1 : 1 ≤ m := by omega
    have h2 : m ≤ 1024 := by omega
    have HRT := hid (show (decide (1 ≤ (m : Int)) && decide ((m : Int) ≤ 1024)) = true by simp; omega)
    clear hn
    go_enter Tryd.func9, Tryd.ntmps9
    go_wp2_with fail
    refine (right_any _ _).mono ?_
    rintro e' w' ⟨rfl, rfl⟩
    rw [HRT.out]
    go_wp2_with fail
    refine (vast_any a len cap fo w HA.out hm).mono ?_
    rintro e' w' ⟨b, rfl, hv, rfl⟩
    cases b with
    | true =>
      clear hv
      go_wp2_with (go_at_call 11; refine (works_any _ HT.out).mono ?_; rintro e' w' ⟨rfl, hw⟩)
      go_ret
      exact ⟨rfl, hw⟩
    | false =>
      obtain ⟨h3, hbn⟩ := hv rfl
      have HPY := hid (played_any m a len cap fo w HT.out HA.out h1 h2 h3 hbn)
      clear hv hbn
      go_wp2_with fail
      refine (HPY.out).mono ?_
      rintro e' w1 ⟨p, g, h, fs, ws, rfl, hP⟩
      have HP := hid hP
      have hfl : fs.length = m := hP.len
      clear hP
      have HC := hid (count_any p g h fs ws f w1 HP.out.pl)
      have HF := hid (free_any p g h fs ws w1 HP.out.pl)
      have hfn := freeN_le fs
      by_cases h0 : cntF fs f = 0
      · have HT0 := hid (show takE fs f = 1 ∧ upS fs f = fs ∧ downS fs f = fs by unfold takE upS downS; rw [h0]; exact ⟨rfl, rfl, rfl⟩)
        rw [h0] at HC
        clear h0
        have HU := hid (up_any p g h fs ws f w1 HP.out.pl (HP.out.max (by omega)))
        rw [HT0.out.1, HT0.out.2.1] at HU
        go_wp2_with (first | (go_at_call 22; refine (HC.out).mono ?_; rintro e' w' ⟨rfl, rfl⟩) | (go_at_call 23; refine (HF.out).mono ?_; rintro e' w' ⟨rfl, rfl⟩))
        refine (HU.out).mono ?_
        rintro e' w2 ⟨rfl, hpl, hx⟩
        have HP2 := hid (HP.out.step hpl hx ⟨HP.out.bd, rfl⟩)
        clear hpl hx
        have HD := hid (down_any p g h fs ws f w2 HP2.out.pl (HP2.out.max (by omega)))
        rw [HT0.out.1, HT0.out.2.2] at HD
        go_wp2_with fail
        refine (HD.out).mono ?_
        rintro e' w3 ⟨rfl, ⟨ws3, hpl⟩, hx⟩
        have HP3 := hid (HP2.out.step hpl hx ⟨HP2.out.bd, rfl⟩)
        have HF3 := hid (free_any p g h fs ws3 w3 hpl)
        clear hpl hx
        go_wp2_with (go_at_call 23; refine (HF3.out).mono ?_; rintro e' w' ⟨rfl, rfl⟩)
        go_ret
        exact ⟨rfl, HP3.out.below⟩
      · obtain ⟨k, hk, rfl, hc⟩ := cnt_is h0
        have hc0 := HP.out.pl.c0 _ (List.getElem_mem hk)
        have hc3 := HP.out.bd _ (List.getElem_mem hk)
        have hcn : fs[k].cnt ≠ 0 := fun e => h0 (by rw [hc]; exact e)
        have HS := hid (atC_self hk)
        have HFR := hid (fun c => atC_free hk hcn c)
        rw [hc] at HC
        obtain ⟨c, hcc⟩ := Int.eq_ofNat_of_zero_le hc0
        rw [hcc] at HC HS hc3 hcn
        have hcp : 1 ≤ c := by omega
        have hc300 : c ≤ 300 := by omega
        obtain ⟨M, hM⟩ := Int.eq_ofNat_of_zero_le (show 0 ≤ tm % 200 by omega)
        have hM2 : M < 200 := by omega
        have q1 : tm.tmod 200 = (M : Int) := by rw [Int.tmod_eq_emod_of_nonneg t0]; exact hM
        have q2 : decide ((c : Int) ≤ 0) = false := by simp; omega
        have q3 : decide (c = 0) = false := by simp; omega
        clear h0 hc hcc hcn hc0 hc3
        have HM := hid hM
        clear hM
        go_wp2_with (first | (go_at_call 22; refine (HC.out).mono ?_; rintro e' w' ⟨rfl, rfl⟩) | (go_at_call 23; refine (HF.out).mono ?_; rintro e' w' ⟨rfl, rfl⟩))
        have hbm : Bd 600 fs := bd_up HP.out.bd (by omega)
        have HBM := hid hbm
        have HP5 := hid (show Played w w1 m 600 p g h (atC fs k ((c : Int) + ((0 : Nat) : Int))) ws by
          have e : (c : Int) + ((0 : Nat) : Int) = (c : Int) := by omega
          rw [e, HS.out]
          exact ⟨HP.out.pl, HP.out.len, hbm, HP.out.pB, HP.out.gB, HP.out.hB, HP.out.below⟩)
        clear hbm
        go_loopw [16] (fun i wr => ∃ (j : Nat) (ws' : List Nat), j ≤ M ∧ i = .int .i64 j ∧ Played w wr m 600 p g h (atC fs k ((c : Int) + (j : Int))) ws') (fun i _ => M - (intOf i).toNat)
        case atStart => exact ⟨0, ws, Nat.zero_le _, rfl, HP5.out⟩
        case round =>
          obtain ⟨j, ws', hj, rfl, hP⟩ := hrel
          have HPr := hid hP
          clear hP
          by_cases hlt : j < M
          · have d1 : decide ((j : Int) < (M : Int)) = true := by simp; omega
            have d1n : decide (j < M) = true := by simp; omega
            have HU := hid (up_any p g h _ ws' (k : Int) wr HPr.out.pl (HPr.out.max (by omega)))
            rw [atC_takE hk _ (by omega), atC_up hk _ (by omega)] at HU
            have e1 : (c : Int) + (j : Int) + 1 = (c : Int) + ((j + 1 : Nat) : Int) := by omega
            rw [e1] at HU
            have HB2 := hid (show Bd 600 (atC fs k ((c : Int) + ((j + 1 : Nat) : Int))) ∧ (atC fs k ((c : Int) + ((j + 1 : Nat) : Int))).length = (atC fs k ((c : Int) + (j : Int))).length from ⟨atC_bd HBM.out _ (by omega), by unfold atC; rw [List.length_set, List.length_set]⟩)
            clear e1
            go_wp2_with fail
            refine (HU.out).mono ?_
            rintro e' w2 ⟨rfl, hpl, hx⟩
            have HP2 := hid (HPr.out.step hpl hx HB2.out)
            clear hpl hx
            go_wp2_with fail
            go_roundw
            case rel => exact ⟨j + 1, ws', by omega, by go_num, HP2.out⟩
            case measure => simp [intOf]; omega
          · have d1 : decide ((j : Int) < (M : Int)) = false := by simp; omega
            have d1n : decide (j < M) = false := by simp; omega
            obtain rfl : j = M := by omega
            have ew := IntWalk.wrap64_in ((c : Int) + (j : Int)) ⟨by omega, by omega⟩
            have HPs := hid (show Played w wr m 600 p g h (atC fs k ((c + j : Nat) : Int)) ws' from HPr.out)
            have hcj : c + j ≤ 600 := by omega
            generalize hN : c + j = N at *
            have eN : (c : Int) + (j : Int) = (N : Int) := by omega
            have HN1 : 1 ≤ N := by omega
            clear HPr
            rw [eN] at ew
            go_wp2_with fail
            clear ew
            go_loopw [18] (fun i wv => ∃ (t : Nat) (ws2 : List Nat), t ≤ N ∧ i = .int .i64 t ∧ Played w wv m 600 p g h (atC fs k (t : Int)) ws2) (fun i _ => (intOf i).toNat)
            case atStart => exact ⟨N, ws', Nat.le_refl _, rfl, HPs.out⟩
            case round =>
              obtain ⟨t, ws2, ht, rfl, hP⟩ := hrel
              have HPv := hid hP
              clear hP
              by_cases ht0 : t = 0
              · subst ht0
                have HD := hid (down_any p g h _ ws2 (k : Int) wr HPv.out.pl (HPv.out.max (by omega)))
                have e0 : ((0 : Nat) : Int) = 0 := rfl
                rw [e0, atC_takE0 hk, atC_down0 hk] at HD
                have HPw := hid (show Played w wr m 600 p g h (atC fs k 0) ws2 from HPv.out)
                have HFZ := hid (show freeN (atC fs k 0) = freeN fs + 1 from HFR.out 0)
                have HCZ := hid (atC_cnt hk 0)
                have ewf := IntWalk.wrap64_in ((freeN fs : Int) + 1) ⟨by omega, by omega⟩
                clear HPv e0
                go_wp2_with fail
                refine (HD.out).mono ?_
                rintro e' w3 ⟨rfl, ⟨ws3, hpl⟩, hx⟩
                have HP3 := hid (HPw.out.step hpl hx ⟨HPw.out.bd, rfl⟩)
                have HF3 := hid (free_any p g h _ ws3 w3 hpl)
                have HC3 := hid (count_any p g h _ ws3 (k : Int) w3 hpl)
                rw [HFZ.out] at HF3
                rw [HCZ.out] at HC3
                clear hpl hx
                go_wp2_with (first | (go_at_call 22; refine (HC3.out).mono ?_; rintro e' w' ⟨rfl, rfl⟩) | (go_at_call 23; refine (HF3.out).mono ?_; rintro e' w' ⟨rfl, rfl⟩))
                go_ret
                exact ⟨rfl, HP3.out.below⟩
              · have d3 : decide ((0 : Int) < (t : Int)) = true := by simp; omega
                have d3n : decide (0 < t) = true := by simp; omega
                have htn : (t : Int) ≠ 0 := by omega
                have HC2 := hid (count_any p g h _ ws2 (k : Int) wr HPv.out.pl)
                rw [atC_cnt hk] at HC2
                have HF2 := hid (free_any p g h _ ws2 wr HPv.out.pl)
                have HFZ := hid (show freeN (atC fs k (t : Int)) = freeN fs by
                  rw [HFR.out]
                  have : ((t : Int) == 0) = false := by simpa using htn
                  rw [this]; rfl)
                rw [HFZ.out] at HF2
                have HD := hid (down_any p g h _ ws2 (k : Int) wr HPv.out.pl (HPv.out.max (by omega)))
                rw [atC_takE hk _ htn, atC_down hk _ htn] at HD
                have e1 : (t : Int) - 1 = ((t - 1 : Nat) : Int) := by omega
                rw [e1] at HD
                have HB2 := hid (show Bd 600 (atC fs k ((t - 1 : Nat) : Int)) ∧ (atC fs k ((t - 1 : Nat) : Int)).length = (atC fs k (t : Int)).length from ⟨atC_bd HBM.out _ (by omega), by unfold atC; rw [List.length_set, List.length_set]⟩)
                obtain ⟨u, hu⟩ : ∃ u, t = u + 1 := ⟨t - 1, by omega⟩
                have hu2 : t - 1 = u := by omega
                rw [hu2] at HD HB2
                have HU := hid (show (t : Int) - 1 = (u : Int) by omega)
                have ewt := IntWalk.wrap64_in ((t : Int) - 1) ⟨by omega, by omega⟩
                clear e1 hu2 htn ht0
                go_wp2_with (first | (go_at_call 22; refine (HC2.out).mono ?_; rintro e' w' ⟨rfl, rfl⟩) | (go_at_call 23; refine (HF2.out).mono ?_; rintro e' w' ⟨rfl, rfl⟩))
                refine (HD.out).mono ?_
                rintro e' w3 ⟨rfl, ⟨ws3, hpl⟩, hx⟩
                have HP3 := hid (HPv.out.step hpl hx HB2.out)
                clear hpl hx
                go_wp2_with fail
                clear ewt
                go_roundw
                case rel => exact ⟨u, ws3, by omega, rfl, HP3.out⟩
                case measure => simp [intOf]; omega
  · have HRT := hid (show (decide (1 ≤ n) && decide (n ≤ 1024)) = false by
      by_cases c : 1 ≤ n
      · have : ¬ n ≤ 1024 := fun h => hn ⟨c, h⟩
        simp [c, this]
      · simp [c])
    clear hn
    go_enter Tryd.func9, Tryd.ntmps9
    go_wp2_with fail
    refine (right_any _ _).mono ?_
    rintro e' w' ⟨rfl, rfl⟩
    rw [HRT.out]
    go_wp2_with (go_at_call 11; refine (works_any _ HT.out).mono ?_; rintro e' w' ⟨rfl, hw⟩)
    go_ret
    exact ⟨rfl, hw⟩
end Go.Proofs.YthelfpminmbclaaDoor
