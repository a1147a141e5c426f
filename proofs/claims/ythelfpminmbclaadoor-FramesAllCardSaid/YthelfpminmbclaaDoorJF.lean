/- FramesAll: the walk. -/
import Derived.Test.YthelfpminmbclaaDoorJK
namespace Go.Proofs.YthelfpminmbclaaDoor
open Go.RowKit Go.Sort

/-- How many of the frames from k on are free, and the first of them. -/
def freeFrom (fs : List FR) (k : Nat) : Nat := (fs.drop k).countP (fun x => x.cnt == 0)
def firstFrom (fs : List FR) (k : Nat) : Int := match ((List.range fs.length).drop k).find? (freeF fs) with
  | some f => (f : Int)
  | none => -1
theorem freeFrom_end (fs : List FR) : freeFrom fs fs.length = 0 := by unfold freeFrom; simp
theorem firstFrom_end (fs : List FR) : firstFrom fs fs.length = -1 := by unfold firstFrom; rw [List.drop_of_length_le (by simp)]; rfl
theorem freeFrom_zero (fs : List FR) : freeFrom fs 0 = freeN fs := rfl
theorem freeFrom_le (fs : List FR) (k : Nat) : freeFrom fs k ≤ fs.length := by
  unfold freeFrom
  have h1 := List.countP_le_length (p := fun x : FR => x.cnt == 0) (l := fs.drop k)
  rw [List.length_drop] at h1
  omega
theorem freeFrom_step (fs : List FR) (k : Nat) (hk : k < fs.length) : freeFrom fs k = freeFrom fs (k + 1) + (if fs[k].cnt == 0 then 1 else 0) := by
  unfold freeFrom
  rw [List.drop_eq_getElem_cons hk, List.countP_cons]
theorem firstFrom_step (fs : List FR) (k : Nat) (hk : k < fs.length) : firstFrom fs k = if fs[k].cnt = 0 then (k : Int) else firstFrom fs (k + 1) := by
  unfold firstFrom
  have hk2 : k < (List.range fs.length).length := by simpa using hk
  rw [List.drop_eq_getElem_cons hk2, List.find?_cons, List.getElem_range, free_at fs k hk]
  by_cases c : fs[k].cnt = 0
  · have : (fs[k].cnt == 0) = true := by simpa using c
    rw [this, if_pos c]
  · have : (fs[k].cnt == 0) = false := by simpa using c
    rw [this, if_neg c]
theorem firstFrom_low (fs : List FR) : firstFrom fs 0 = match lowR fs with
  | some f => (f : Int)
  | none => -1 := rfl
theorem cntF_at {fs : List FR} {k : Nat} (hk : k < fs.length) : cntF fs (k : Int) = fs[k].cnt := by
  unfold cntF
  rw [if_pos ⟨by omega, by omega⟩, Int.toNat_natCast, getF_at _ _ _ hk]
theorem cntF_out {fs : List FR} {f : Int} (h : ¬ (0 ≤ f ∧ f < fs.length)) : cntF fs f = 0 := by unfold cntF; rw [if_neg h]
theorem low_none_free {fs : List FR} (h : lowR fs = none) : freeN fs = 0 := by
  rw [← cntT_len]
  unfold cntT
  rw [List.countP_eq_zero]
  intro x hx
  have := low_not h x
  simp [this]
theorem low_some_free {fs : List FR} {f : Nat} (h : lowR fs = some f) : 1 ≤ freeN fs ∧ freeN (fs.set f one0) = freeN fs - 1 := by
  obtain ⟨hf, hfr, _⟩ := low_is h
  rw [free_at fs f hf] at hfr
  have hp : 1 ≤ freeN fs := by
    unfold freeN
    rw [Nat.one_le_iff_ne_zero, ← Nat.pos_iff_ne_zero, List.countP_pos_iff]
    exact ⟨_, List.getElem_mem hf, hfr⟩
  refine ⟨hp, ?_⟩
  rw [freeN_set fs f one0 hf, hfr]
  rfl

set_option maxRecDepth 100000 in
set_option maxHeartbeats 4000000 in
theorem framesAll_walk (n : Int) (a : Option Addr) (len cap : Nat) (fo : Nat → OP) (w : World) (hT : Tb w) (hA : OpsIn w a len fo) (hm : len ≤ 9223372036854775807) :
    Calls Tryd.prog 6 #[.int .i64 n, .slice a len cap] w fun e w' => e = .returned (.bool true) ∧ Below w.heap.size w w' := by
  have HT := hid hT
  have HA := hid hA
  clear hT hA
  by_cases hn : 1 ≤ n ∧ n ≤ 1024
  · obtain ⟨m, rfl⟩ := Int.eq_ofNat_of_zero_le (show 0 ≤ n by omega)
    have h1 : 1 ≤ m := by omega
    have h2 : m ≤ 1024 := by omega
    have HRT := hid (show (decide (1 ≤ (m : Int)) && decide ((m : Int) ≤ 1024)) = true by simp; omega)
    clear hn
    go_enter Tryd.func6, Tryd.ntmps6
    go_wp2_with fail
    refine (right_any _ _).mono ?_
    rintro e' w' ⟨rfl, rfl⟩
    rw [HRT.out]
    go_wp2_with fail
    refine (vast_any a len cap fo w HA.out hm).mono ?_
    rintro e' w' ⟨b, rfl, hv, rfl⟩
    cases b with
    | true =>
      clear hv
      go_wp2_with (go_at_call 11; refine (works_any _ HT.out).mono ?_; rintro e' w' ⟨rfl, hw⟩)
      go_ret
      exact ⟨rfl, hw⟩
    | false =>
      obtain ⟨h3, hbn⟩ := hv rfl
      have HPY := hid (played_any m a len cap fo w HT.out HA.out h1 h2 h3 hbn)
      clear hv hbn
      go_wp2_with fail
      refine (HPY.out).mono ?_
      rintro e' w1 ⟨p, g, h, fs, ws, rfl, hP⟩
      have HP := hid hP
      have hfl : fs.length = m := hP.len
      clear hP
      have HCN := hid (fun f => count_any p g h fs ws f w1 HP.out.pl)
      have HF := hid (free_any p g h fs ws w1 HP.out.pl)
      have HSZ := hid (size_any p g h fs ws w1 HP.out.pl)
      have hfn := freeN_le fs
      rw [hfl] at HSZ
      have ewm := IntWalk.wrap64_in ((m : Int) - 1) ⟨by omega, by omega⟩
      have HE0 := hid (show freeFrom fs m = 0 ∧ firstFrom fs m = -1 from by rw [← hfl]; exact ⟨freeFrom_end fs, firstFrom_end fs⟩)
      go_wp2_with fail
      clear ewm
      go_loopw [7, 8, 9] (fun fv ff i wr => ∃ k : Nat, k ≤ m ∧ i = .int .i64 ((k : Int) - 1) ∧ fv = .int .i64 ((freeFrom fs k : Nat) : Int) ∧ ff = .int .i64 (firstFrom fs k) ∧ wr = w1) (fun _ _ i _ => (intOf i + 1).toNat)
      case atStart => exact ⟨m, Nat.le_refl _, rfl, by rw [HE0.out.1]; rfl, by rw [HE0.out.2], rfl⟩
      case round =>
        obtain ⟨k, hk, rfl, rfl, rfl, rfl⟩ := hrel
        cases k with
        | zero =>
          have e0 : ((0 : Nat) : Int) - 1 = -1 := rfl
          have e1 : freeFrom fs 0 = freeN fs := rfl
          rw [e0, e1]
          have HC1 := hid (HCN.out (m : Int))
          have HC2 := hid (HCN.out (-1))
          rw [cntF_out (by omega)] at HC1
          rw [cntF_out (by omega)] at HC2
          have HTK := hid (take_any p g h fs ws wr HP.out.pl (HP.out.tb HT.out))
          have d1 : decide ((0 : Int) ≤ -1) = false := by decide
          clear e0 e1
          cases hl : lowR fs with
          | none =>
            have HV := hid (show takeV fs = 0 ∧ takeE fs = 4 ∧ takeS fs = fs by unfold takeV takeE takeS; rw [hl]; exact ⟨rfl, rfl, rfl⟩)
            have HN := hid (low_none_free hl)
            rw [HV.out.1, HV.out.2.1, HV.out.2.2] at HTK
            rw [HN.out] at HF ⊢
            clear hl
            go_wp2_with (first | (go_at_call 23; refine (HF.out).mono ?_; rintro e' w' ⟨rfl, rfl⟩) | (go_at_call 24; refine (HSZ.out).mono ?_; rintro e' w' ⟨rfl, rfl⟩) | (go_at_call 22; with_reducible refine (HC1.out).mono ?_; rintro e' w' ⟨rfl, rfl⟩) | (go_at_call 22; with_reducible refine (HC2.out).mono ?_; rintro e' w' ⟨rfl, rfl⟩))
            refine (HTK.out).mono ?_
            rintro e' w2 ⟨rfl, ⟨ws2, hpl⟩, hx⟩
            have HP2 := hid (HP.out.step hpl hx ⟨HP.out.bd, rfl⟩)
            clear hpl hx
            go_wp2_with fail
            go_ret
            exact ⟨rfl, HP2.out.below⟩
          | some f =>
            obtain ⟨hff, hfr, _⟩ := low_is hl
            have HV := hid (show takeV fs = (f : Int) ∧ takeE fs = 0 ∧ takeS fs = fs.set f one0 by unfold takeV takeE takeS; rw [hl]; exact ⟨rfl, rfl, rfl⟩)
            have HN := hid (low_some_free hl)
            have HFI := hid (show firstFrom fs 0 = (f : Int) by rw [firstFrom_low, hl])
            rw [HV.out.1, HV.out.2.1, HV.out.2.2] at HTK
            rw [HFI.out]
            obtain ⟨N, hN⟩ : ∃ N, freeN fs = N + 1 := ⟨freeN fs - 1, by have := HN.out.1; omega⟩
            have HN2 := hid (show freeN (fs.set f one0) = N by rw [HN.out.2, hN]; rfl)
            have HB2 := hid (show Bd 600 (fs.set f one0) ∧ (fs.set f one0).length = fs.length from ⟨fun x hx => by
              rcases List.mem_or_eq_of_mem_set hx with hx | rfl
              · have := HP.out.bd x hx; omega
              · show (1 : Int) ≤ 600; omega, List.length_set⟩)
            have HC9 := hid (show cntF (fs.set f one0) (f : Int) = 1 by rw [cntF_at (by rw [List.length_set]; exact hff), List.getElem_set_self]; rfl)
            rw [hN] at HF hfn ⊢
            have e9 : ((N + 1 : Nat) : Int) = (N : Int) + 1 := by omega
            have hne : ((N : Int) + 1 == 0) = false := by rw [beq_eq_false_iff_ne]; omega
            have ewn := IntWalk.wrap64_in ((N : Int)) ⟨by omega, by omega⟩
            rw [e9] at HF ⊢
            clear hl hfr hff e9 hN
            go_wp2_with (first | (go_at_call 23; refine (HF.out).mono ?_; rintro e' w' ⟨rfl, rfl⟩) | (go_at_call 24; refine (HSZ.out).mono ?_; rintro e' w' ⟨rfl, rfl⟩) | (go_at_call 22; with_reducible refine (HC1.out).mono ?_; rintro e' w' ⟨rfl, rfl⟩) | (go_at_call 22; with_reducible refine (HC2.out).mono ?_; rintro e' w' ⟨rfl, rfl⟩))
            refine (HTK.out).mono ?_
            rintro e' w2 ⟨rfl, ⟨ws2, hpl⟩, hx⟩
            have HP2 := hid (HP.out.step hpl hx HB2.out)
            have HC3 := hid (count_any p g h _ ws2 (f : Int) w2 hpl)
            have HF3 := hid (free_any p g h _ ws2 w2 hpl)
            rw [HC9.out] at HC3
            rw [HN2.out] at HF3
            clear hpl hx
            go_wp2_with (first | (go_at_call 22; refine (HC3.out).mono ?_; rintro e' w' ⟨rfl, rfl⟩) | (go_at_call 23; refine (HF3.out).mono ?_; rintro e' w' ⟨rfl, rfl⟩))
            go_ret
            exact ⟨rfl, HP2.out.below⟩
        | succ k =>
          have e0 : ((k + 1 : Nat) : Int) - 1 = (k : Int) := by omega
          have hkl : k < fs.length := by omega
          have HC1 := hid (HCN.out (k : Int))
          rw [cntF_at hkl] at HC1
          have hc0 := HP.out.pl.c0 _ (List.getElem_mem hkl)
          have HS1 := hid (freeFrom_step fs k hkl)
          have HS2 := hid (firstFrom_step fs k hkl)
          have hle := freeFrom_le fs (k + 1)
          generalize fs[k].cnt = c at *
          have d1 : decide ((0 : Int) ≤ (k : Int)) = true := by simp
          have d2 : decide (c < 0) = false := by simp; omega
          rw [e0]
          by_cases hc : c = 0
          · have q1 : (c == 0) = true := by simpa using hc
            rw [q1, if_pos rfl] at HS1
            rw [if_pos hc] at HS2
            have ewk := IntWalk.wrap64_in ((k : Int) - 1) ⟨by omega, by omega⟩
            have ewf := IntWalk.wrap64_in ((freeFrom fs (k + 1) : Int) + 1) ⟨by omega, by omega⟩
            clear e0 hc
            go_wp2_with (go_at_call 22; refine (HC1.out).mono ?_; rintro e' w' ⟨rfl, rfl⟩)
            clear ewk ewf
            go_roundw
            case rel => exact ⟨k, by omega, rfl, by rw [HS1.out]; simp, by rw [HS2.out], by trivial⟩
            case measure => simp [intOf]
          · have q1 : (c == 0) = false := by simpa using hc
            rw [q1] at HS1
            rw [if_neg hc] at HS2
            have ewk := IntWalk.wrap64_in ((k : Int) - 1) ⟨by omega, by omega⟩
            clear e0 hc
            go_wp2_with (go_at_call 22; refine (HC1.out).mono ?_; rintro e' w' ⟨rfl, rfl⟩)
            clear ewk
            go_roundw
            case rel => exact ⟨k, by omega, rfl, by rw [HS1.out]; simp, by rw [HS2.out], by trivial⟩
            case measure => simp [intOf]
  · have HRT := hid (show (decide (1 ≤ n) && decide (n ≤ 1024)) = false by
      by_cases c : 1 ≤ n
      · have : ¬ n ≤ 1024 := fun h => hn ⟨c, h⟩
        simp [c, this]
      · simp [c])
    clear hn
    go_enter Tryd.func6, Tryd.ntmps6
    go_wp2_with fail
    refine (right_any _ _).mono ?_
    rintro e' w' ⟨rfl, rfl⟩
    rw [HRT.out]
    go_wp2_with (go_at_call 11; refine (works_any _ HT.out).mono ?_; rintro e' w' ⟨rfl, hw⟩)
    go_ret
    exact ⟨rfl, hw⟩
end Go.Proofs.YthelfpminmbclaaDoor
