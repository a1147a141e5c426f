/- EnvsScrubs. -/
import Derived.Test.YtoikoljadgnebaaZL1
namespace Go.Proofs.Ytoikoljadgnebaa
open Go.RowKit Go.Sort

theorem scrub_split (ds : List BL) {i : Nat} (hi : i < ds.length) (h : scrubB ds[i] = false) : (scrubL (ds.take i)).length < (scrubL ds).length ∧ (scrubL ds)[(scrubL (ds.take i)).length]? = some ds[i] := by
  have e : scrubL ds = scrubL (ds.take i) ++ (ds[i] :: scrubL (ds.drop (i + 1))) := by
    have e1 : ds = ds.take i ++ (ds[i] :: ds.drop (i + 1)) := by rw [← List.drop_eq_getElem_cons hi, List.take_append_drop]
    conv => lhs; rw [e1]
    unfold scrubL
    rw [List.filter_append, List.filter_cons_of_pos (by rw [h]; rfl)]
  rw [e]
  exact ⟨by simp, by simp⟩
theorem un_step (nm : BL) {j : Nat} (hj : j < 9) : decide (nm ∈ unsafeN.take (j + 1)) = (decide (nm ∈ unsafeN.take j) || decide (nm = unsafeN[j]'hj)) := by
  rw [List.take_succ_eq_append_getElem hj, Bool.eq_iff_iff]
  simp [List.mem_append]

set_option maxHeartbeats 4000000 in
set_option maxRecDepth 100000 in
theorem envsScrubs_walk (a : Option Addr) (len cap : Nat) (ds : List BL) (w : World) (hB : Cel w a len (strs ds)) (hl : len ≤ 140737488351232) (hs : ∀ p ∈ ds, p.length ≤ 140737488351232) :
    Calls Try.prog 7 #[.slice a len cap] w fun e' w' => e' = .returned (.bool true) ∧ Below w.heap.size w w' := by
  have HA := hid hB
  obtain ⟨rfl, _⟩ := cel_str hB
  clear hB
  go_enter Try.func7, Try.ntmps7
  go_wp2_with fail
  refine (large_any _ _ _ _ _ HA.out hl hs).mono ?_
  rintro e' w1 ⟨rfl, b, rfl, hbb⟩
  cases b
  case true =>
    go_wp2_with (go_at_call 10; refine (works_any _).mono ?_; rintro e' w' ⟨rfl, hw⟩)
    go_ret
    exact ⟨rfl, hw⟩
  obtain ⟨ht1, ht2⟩ := totN_all (hbb rfl)
  have HS := hid ht2
  clear hbb ht2 hs hl
  go_wp2_with fail
  refine (scrubE_any _ _ _ ds _ HA.out (by omega) HS.out).mono ?_
  rintro e' w2 ⟨vo, rfl, ho, hb⟩
  obtain ⟨ao, co, rfl, hCO, _⟩ := own_cel ho
  have HCO := hid hCO
  have HA := hid (HA.out.below' hb)
  have HB := hid hb
  clear ho hb hCO
  go_wp2_with fail
  refine (unsafe_any _).mono ?_
  rintro e' w3 ⟨rfl, hCU, hb⟩
  have HCU := hid hCU
  have HA := hid (HA.out.below' hb)
  have HCO := hid (HCO.out.below' hb)
  have HB := hid (bthen HB.out hb)
  generalize w2.heap.size = M at hCU HCU ⊢
  clear hCU hb
  have HSL := hid (scrubL_le ds)
  go_wp2_with fail
  go_loopw [5, 6] (fun kk i wr => ∃ k : Nat, k ≤ ds.length ∧ i = .int .i64 k ∧ kk = .int .i64 ((scrubL (ds.take k)).length : Nat) ∧ Below w3.heap.size w3 wr) (fun _ i _ => ds.length - (intOf i).toNat)
  case atStart => exact ⟨0, Nat.zero_le _, rfl, rfl, Below.refl _ _⟩
  case round =>
    obtain ⟨k, hk, rfl, rfl, hb⟩ := hrel
    have HBR := hid hb
    clear hb
    by_cases hlt : k < ds.length
    · have d1 : decide ((k : Int) < (ds.length : Int)) = true := by simp; omega
      obtain ⟨_, hat⟩ := cel_str (HA.out.below' HBR.out)
      obtain ⟨b, off, rfl, hc⟩ := hat (by omega)
      have hx := hc k hlt
      have hz : (ba ds[k]).size ≤ 140737488351232 := by rw [ba_size]; exact HS.out _ (List.getElem_mem hlt)
      have HZ := hid hz
      have HX := hid hx
      clear hat hc hz
      go_wp2_with fail
      refine (splitE_any _ _ HZ.out).mono ?_
      rintro e' w4 ⟨rfl, m, hw⟩
      rw [ba_list]
      have HBR := hid (bthen HBR.out (drew_below hw))
      have HX := hid (keepC (drew_below hw) HX.out)
      have HSB := hid (show scrubB ds[k] = (okS ds[k] && decide (nmS ds[k] ∈ unsafeN)) from rfl)
      have HSP := hid (fun h => scrub_split ds hlt h)
      have HSK := hid (fun h => scrub_keep (ds := ds) hlt h)
      have HSD := hid (fun h => scrub_drop (ds := ds) hlt h)
      have HKK := hid (scrubL_le (ds.take k))
      have HLT := hid (show (ds.take k).length ≤ ds.length from List.length_take_le' _ _)
      clear hw hx
      generalize hnm : nmS ds[k] = nm at *
      generalize hok : okS ds[k] = ok at *
      clear hnm hok
      obtain ⟨_, hat⟩ := cel_str (HCU.out.below' HBR.out)
      obtain ⟨bU, oU, eU, hat2⟩ := hat (by decide)
      cases eU
      have HUN := hid hat2
      clear hat hat2
      generalize hke : (scrubL (ds.take k)).length = kk at *
      have HKE := hid hke
      clear hke
      go_wp2_with fail
      go_loop [10, 11] (fun u j => ∃ q : Nat, q ≤ 9 ∧ j = .int .i64 q ∧ u = .bool (ok && decide (nm ∈ unsafeN.take q))) (fun _ j => 9 - (intOf j).toNat)
      case atStart => exact ⟨0, by omega, rfl, by cases ok <;> rfl⟩
      case round =>
        obtain ⟨q, hq, rfl, rfl⟩ := hrel
        by_cases hqlt : q < 9
        · have d2 : decide ((q : Int) < 9) = true := by simp; omega
          have hy := HUN.out q hqlt
          rw [Nat.zero_add] at hy
          have HST := hid (un_step nm hqlt)
          have hbq := ba_beq2 nm unsafeN[q]
          generalize decide (nm ∈ unsafeN.take q) = cur at *
          generalize hun : (unsafeN[q]'hqlt) = un at *
          generalize decide (nm = un) = hit at *
          clear hun
          cases ok
          · go_wp2_with fail
            go_round
            case rel => exact ⟨q + 1, by omega, by go_num, rfl⟩
            case measure => simp [intOf]; omega
          · cases cur
            · simp only [Bool.false_or] at HST
              go_wp2_with fail
              go_round
              case rel => exact ⟨q + 1, by omega, by go_num, by rw [HST.out]; rfl⟩
              case measure => simp [intOf]; omega
            · simp only [Bool.true_or] at HST
              go_wp2_with fail
              go_round
              case rel => exact ⟨q + 1, by omega, by go_num, by rw [HST.out]; rfl⟩
              case measure => simp [intOf]; omega
        · have d2 : decide ((q : Int) < 9) = false := by simp; omega
          obtain rfl : q = 9 := by omega
          rw [show unsafeN.take 9 = unsafeN from rfl, ← HSB.out]
          cases hsc : scrubB ds[k]
          · obtain ⟨hk1, hk2⟩ := HSP.out hsc
            have HK := hid (HSK.out hsc)
            obtain ⟨eo, hat⟩ := cel_str (HCO.out.below' HBR.out)
            obtain ⟨bo, oo, rfl, hc2⟩ := hat (by omega)
            have hy := hc2 kk hk1
            rw [List.getElem?_eq_getElem hk1] at hk2
            rw [Option.some.inj hk2] at hy
            have hx := HX.out
            have hbq : ((ba ds[k]).toList == (ba ds[k]).toList) = true := by simp
            have d3 : decide (((scrubL ds).length : Int) ≤ (kk : Int)) = false := by simp; omega
            have hk5 : kk ≤ 4000000000 := by have h1 := HKK.out; have h2 := HLT.out; omega
            clear hsc hat hc2 hk2
            go_wp2_with fail
            go_quiet (fail)
            go_wp2_with fail
            go_roundw
            case rel => exact ⟨k + 1, by omega, by go_num, by rw [HK.out, List.length_append, HKE.out]; go_num, bthen HBR.out (drewN_below _ _)⟩
            case measure => simp [intOf]; omega
          · have HK := hid (HSD.out hsc)
            clear hsc
            go_wp2_with fail
            go_roundw
            case rel => exact ⟨k + 1, by omega, by go_num, by rw [HK.out, HKE.out], HBR.out⟩
            case measure => simp [intOf]; omega
    · have d1 : decide ((k : Int) < (ds.length : Int)) = false := by simp; omega
      obtain rfl : k = ds.length := by omega
      rw [List.take_length]
      have HCO := hid (HCO.out.below' HBR.out)
      have HB := hid (bthen HB.out HBR.out)
      have HSS := hid (show ∀ p ∈ scrubL ds, p.length ≤ 140737488351232 from fun p hp => HS.out p (List.mem_filter.1 hp).1)
      have HAG := hid (scrub_again ds)
      have HLL := hid (show (scrubL ds).length ≤ 131072 by have := HSL.out; omega)
      have q1 : (((scrubL ds).length : Int) == ((scrubL ds).length : Int)) = true := by simp
      generalize scrubL ds = rs at *
      go_wp2_with fail
      refine (scrubE_any _ _ _ rs _ HCO.out (by have := HLL.out; omega) HSS.out).mono ?_
      rintro e' w5 ⟨vs, rfl, ho, hb⟩
      rw [HAG.out] at ho
      obtain ⟨as9, cs9, rfl, hCS, _⟩ := own_cel ho
      have HCS := hid hCS
      have HCO := hid (HCO.out.below' hb)
      have HB := hid (bthen HB.out hb)
      clear ho hb hCS
      go_wp2_with fail
      refine (eqTexts_any _ _ _ _ _ _ rs rs _ HCS.out HCO.out (by have := HLL.out; omega) (by have := HLL.out; omega)).mono ?_
      rintro e' w6 ⟨rfl, m, hw⟩
      rw [eqT_self]
      have HB := hid (bthen HB.out (drew_below hw))
      clear hw
      go_wp2_with (go_at_call 10; refine (works_any _).mono ?_; rintro e' w' ⟨rfl, hw⟩)
      go_ret
      exact ⟨rfl, bthen HB.out hw⟩
end Go.Proofs.Ytoikoljadgnebaa
