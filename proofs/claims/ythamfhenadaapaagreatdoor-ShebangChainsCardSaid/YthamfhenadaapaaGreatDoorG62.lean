
/- hostelref06.may. -/
import Derived.Test.YthamfhenadaapaaGreatDoorG61
import Derived.Laws.BitsAllLaws
namespace Go.Proofs.YthamfhenadaapaaGreatDoor
open Go.RowKit Go.Sort

def mayR (x : EN) : Int := match entP x with
  | none => 1
  | some _ => if 65536 < x.data.length then 12 else 0
theorem mayR_no {x : EN} (h : ¬ entB x) : mayR x = 1 := by unfold mayR; rw [entP_no h]
theorem mayR_big {x : EN} (h : entB x) (hb : 65536 < x.data.length) : mayR x = 12 := by unfold mayR; rw [entP_yes h]; simp [hb]
theorem mayR_ok {x : EN} (h : entB x) (hb : ¬ 65536 < x.data.length) : mayR x = 0 := by unfold mayR; rw [entP_yes h]; simp only [if_neg hb]
theorem mode_iff {m : Int} (h0 : 0 ≤ m) (h1 : m ≤ 65535) : bits .and .u16 m 2559 = m ↔ bits .andNot .u16 m 2559 = 0 := by
  obtain ⟨n, rfl⟩ := Int.eq_ofNat_of_zero_le h0
  have e1 := u16_and_nat n 2559 (by omega) (by omega)
  have e2 := u16_andNot_nat n 2559 (by omega) (by omega)
  rw [show ((2559 : Nat) : Int) = 2559 from rfl] at e1 e2
  rw [e1, e2]
  have hs : n &&& 65535 = n := by
    have := Nat.and_two_pow_sub_one_eq_mod n 16
    rw [show 2 ^ 16 - 1 = 65535 from rfl] at this
    rw [this]; omega
  have hd : 65535 = 2559 ||| 62976 := by decide
  have hz : 2559 &&& 62976 = 0 := by decide
  constructor
  · intro h
    have h2 : n &&& 2559 = n := by omega
    have : n &&& 62976 = 0 := by rw [← h2, Nat.and_assoc, hz, Nat.and_zero]
    simp [this]
  · intro h
    have h2 : n &&& 62976 = 0 := by have : ((n &&& (65535 - 2559) : Nat) : Int) = 0 := h; simpa using this
    have h3 : n = n &&& (2559 ||| 62976) := by rw [← hd, hs]
    rw [Nat.and_or_distrib_left, h2, Nat.or_zero] at h3
    rw [← h3]

set_option maxRecDepth 100000 in
set_option maxHeartbeats 8000000 in
theorem rmay6_any (x : EN) (w : World) (hx : EnOk w x) :
    Calls Tryz.prog 18 #[.agg x.cs.toArray] w fun e w' => e = .returned (.int .i64 (mayR x)) ∧ Below w.heap.size w w' := by
  have HB0 := hid (show Below w.heap.size w (w.alloc (.cells x.cs.toArray 51)) from bal _)
  have HR0 := hid (Row.new w 51 x.cs)
  have HPL := hid hx.path
  have HTL := hid hx.to
  have HDL := hid hx.data
  have hmode := hx.mode
  have HMI := hid (mode_iff hmode.1 hmode.2)
  have HNO := hid (@mayR_no x)
  have HBIG := hid (@mayR_big x)
  have HOK := hid (@mayR_ok x)
  have HEB : Hid (entB x = (rightK x = true ∧ bits .andNot .u16 x.mode 2559 = 0 ∧ tailB x.path = false ∧ chkE x.path = 0 ∧ rootF x.path = true ∧ partsF x.path ≠ [] ∧ dotB (partsF x.path) = false)) := hid rfl
  have HRK : Hid (rightK x = if x.kind = 1 then decide (x.to = []) else if x.kind = 2 then decide (x.to = []) && decide (x.data = []) else if x.kind = 3 then decide (x.data = []) && decide (chkE x.to = 0) else false) := hid rfl
  clear hx hmode
  unfold EN.cs at HB0 HR0 ⊢
  generalize entB x = EB at *
  generalize rightK x = RK at *
  generalize mayR x = MR at *
  obtain ⟨xp, kd, xm, xu, xg, xa, xc, xd, xt⟩ := x
  dsimp only at *
  have hcases : kd = 1 ∨ kd = 2 ∨ kd = 3 ∨ (kd ≠ 1 ∧ kd ≠ 2 ∧ kd ≠ 3) := by omega
  rcases hcases with rfl | rfl | rfl | ⟨n1, n2, n3⟩
  · by_cases hm : bits .and .u16 xm 2559 = xm
    · have dm : (bits .and .u16 xm 2559 != xm) = false := by simpa using hm
      have HM := hid (HMI.out.1 hm)
      obtain ⟨c0, c1, c2, c3, c4, c5, c6⟩ := HR0.out.seven
      have hl0 := HR0.out.lt
      clear hm
      go_enter Tryz.func18, Tryz.ntmps18
      go_wp2_with fail
      refine (rparts_any (ba xp) _ (by rw [ba_size]; exact HPL.out)).mono ?_
      rintro e' w2 ⟨v, rfl, ho, hb⟩
      rw [show (ba xp).data.toList = xp from rfl] at ho ⊢
      have HB2 := hid (bthen HB0.out hb)
      have HR2 := hid (HR0.out.below hb HR0.out.lt)
      obtain ⟨av, cv, rfl, hcel, _⟩ := own_cel ho
      have HC := hid hcel
      clear ho hb hcel c0 c1 c2 c3 c4 c5 c6 hl0
      by_cases hc : chkE xp = 0
      · rw [hc]
        cases hr : rootF xp
        · have HF := hid (HNO.out (by rw [HEB.out, hr]; rintro ⟨_, _, _, _, h, _⟩; cases h))
          clear hr hc
          go_wp2_with fail
          go_ret
          exact ⟨ret_i64 HF.out.symm, HB2.out⟩
        · have hlz := len_zero (partsF xp)
          by_cases hn : partsF xp = []
          · rw [decide_eq_true hn] at hlz
            have HF := hid (HNO.out (by rw [HEB.out]; exact fun h => h.2.2.2.2.2.1 hn))
            clear hn hr hc
            go_wp2_with fail
            go_ret
            exact ⟨ret_i64 HF.out.symm, HB2.out⟩
          · rw [decide_eq_false hn] at hlz
            have HN9 := hid hn
            have HC9 := hid hc
            have HR9 := hid hr
            clear hn hr hc
            obtain ⟨c0, c1, c2, c3, c4, c5, c6⟩ := HR2.out.seven
            have hl0 := HR2.out.lt
            go_wp2_with fail
            refine (rtail_any (ba xp) w2 (by rw [ba_size]; exact HPL.out)).mono ?_
            rintro e' w3 ⟨rfl, rfl⟩
            rw [show (ba xp).data.toList = xp from rfl]
            cases ht : tailB xp
            · have HYES := hid (fun (h1 : RK = true) (h : dotB (partsF xp) = false) => show EB by rw [HEB.out]; exact ⟨h1, HM.out, ht, HC9.out, HR9.out, HN9.out, h⟩)
              have HDOT := hid (fun (h : dotB (partsF xp) = true) => HNO.out (by rw [HEB.out, h]; rintro ⟨_, _, _, _, _, _, h⟩; cases h))
              have HRKN := hid (fun (h : RK = false) => HNO.out (by rw [HEB.out, h]; rintro ⟨h, _⟩; cases h))
              have hdl := parts_count xp
              clear ht HEB
              generalize partsF xp = ds at *
              go_wp2_with fail
              go_loop [6] (fun i => ∃ k : Nat, k ≤ ds.length ∧ i = .int .i64 k ∧ dotB (ds.take k) = false) (fun i => ds.length - (intOf i).toNat)
              case atStart => exact ⟨0, Nat.zero_le _, rfl, rfl⟩
              case round =>
                obtain ⟨k, hkk, rfl, hdb⟩ := hrel
                have HDB := hid hdb
                clear hdb
                by_cases hlt : k < ds.length
                · have d1 : decide ((k : Int) < (ds.length : Int)) = true := by simp; omega
                  have d1n : decide (k < ds.length) = true := by simp; omega
                  obtain ⟨b, o, rfl, hcell⟩ := HC.out.some_of (by simp [strs]; omega)
                  have hx' := strs_at hcell hlt
                  have hlb := World.block_lt_of_cell? _ _ hx'
                  dsimp only at hlb
                  have hq := ba_beq ds[k] [46, 46]
                  have HTK := hid (show dotB (ds.take (k + 1)) = (dotB (ds.take k) || decide (ds[k] = [46, 46])) by unfold dotB; rw [List.take_succ_eq_append_getElem hlt, List.any_append]; simp)
                  have HALL := hid (fun (h : ds[k] = [46, 46]) => show dotB ds = true from List.any_eq_true.2 ⟨ds[k], List.getElem_mem hlt, by simp [h]⟩)
                  generalize ds[k] = p at *
                  clear hcell
                  by_cases hp : p = [46, 46]
                  · have HF := hid (HDOT.out (HALL.out hp))
                    rw [decide_eq_true hp] at hq
                    clear hp
                    go_wp2_with fail
                    go_ret
                    exact ⟨ret_i64 HF.out.symm, HB2.out⟩
                  · rw [decide_eq_false hp] at hq HTK
                    clear hp
                    go_wp2_with fail
                    go_round
                    case rel => exact ⟨k + 1, by omega, by go_num, by rw [HTK.out, HDB.out]; rfl⟩
                    case measure => simp [intOf]; omega
                · have d1 : decide ((k : Int) < (ds.length : Int)) = false := by simp; omega
                  have d1n : decide (k < ds.length) = false := by simp; omega
                  have HYY := hid (fun (h1 : RK = true) => HYES.out h1 (by have := HDB.out; rwa [List.take_of_length_le (by omega)] at this))
                  have ez := ba_nil (ba xt)
                  have hxd := HDL.out
                  clear HDB hlt hkk
                  rw [show (ba xt).data.toList = xt from rfl] at ez
                  by_cases ht0 : xt = []
                  · rw [decide_eq_true ht0] at ez
                    have HBF := HB2
                    have HRT := hid (show RK = true by rw [HRK.out]; simp [ht0])
                    by_cases hbig : 65536 < xd.length
                    · have db : decide ((65536 : Int) < (xd.length : Int)) = true := by simp; omega
                      have HF := hid (HBIG.out (HYY.out HRT.out) hbig)
                      clear hbig ht0
                      go_wp2_with fail
                      go_ret
                      exact ⟨ret_i64 HF.out.symm, HBF.out⟩
                    · have db : decide ((65536 : Int) < (xd.length : Int)) = false := by simp; omega
                      have HF := hid (HOK.out (HYY.out HRT.out) hbig)
                      clear hbig ht0
                      go_wp2_with fail
                      go_ret
                      exact ⟨ret_i64 HF.out.symm, HBF.out⟩
                  · rw [decide_eq_false ht0] at ez
                    have HF := hid (HRKN.out (by rw [HRK.out]; simp [ht0]))
                    clear ht0
                    go_wp2_with fail
                    go_ret
                    exact ⟨ret_i64 HF.out.symm, HB2.out⟩
            · have HF := hid (HNO.out (by rw [HEB.out, ht]; rintro ⟨_, _, h, _⟩; cases h))
              clear ht
              go_wp2_with fail
              go_ret
              exact ⟨ret_i64 HF.out.symm, HB2.out⟩
      · have hc2 : (chkE xp != 0) = true := by simpa using hc
        have HF := hid (HNO.out (by rw [HEB.out]; exact fun h => hc h.2.2.2.1))
        clear hc
        go_wp2_with fail
        go_ret
        exact ⟨ret_i64 HF.out.symm, HB2.out⟩
    · have dm : (bits .and .u16 xm 2559 != xm) = true := by simpa using hm
      have HF := hid (HNO.out (by rw [HEB.out]; exact fun h => hm (HMI.out.2 h.2.1)))
      obtain ⟨c0, c1, c2, c3, c4, c5, c6⟩ := HR0.out.seven
      have hl0 := HR0.out.lt
      clear hm
      go_enter Tryz.func18, Tryz.ntmps18
      go_wp2_with fail
      go_ret
      exact ⟨ret_i64 HF.out.symm, HB0.out⟩
  · by_cases hm : bits .and .u16 xm 2559 = xm
    · have dm : (bits .and .u16 xm 2559 != xm) = false := by simpa using hm
      have HM := hid (HMI.out.1 hm)
      obtain ⟨c0, c1, c2, c3, c4, c5, c6⟩ := HR0.out.seven
      have hl0 := HR0.out.lt
      clear hm
      go_enter Tryz.func18, Tryz.ntmps18
      go_wp2_with fail
      refine (rparts_any (ba xp) _ (by rw [ba_size]; exact HPL.out)).mono ?_
      rintro e' w2 ⟨v, rfl, ho, hb⟩
      rw [show (ba xp).data.toList = xp from rfl] at ho ⊢
      have HB2 := hid (bthen HB0.out hb)
      have HR2 := hid (HR0.out.below hb HR0.out.lt)
      obtain ⟨av, cv, rfl, hcel, _⟩ := own_cel ho
      have HC := hid hcel
      clear ho hb hcel c0 c1 c2 c3 c4 c5 c6 hl0
      by_cases hc : chkE xp = 0
      · rw [hc]
        cases hr : rootF xp
        · have HF := hid (HNO.out (by rw [HEB.out, hr]; rintro ⟨_, _, _, _, h, _⟩; cases h))
          clear hr hc
          go_wp2_with fail
          go_ret
          exact ⟨ret_i64 HF.out.symm, HB2.out⟩
        · have hlz := len_zero (partsF xp)
          by_cases hn : partsF xp = []
          · rw [decide_eq_true hn] at hlz
            have HF := hid (HNO.out (by rw [HEB.out]; exact fun h => h.2.2.2.2.2.1 hn))
            clear hn hr hc
            go_wp2_with fail
            go_ret
            exact ⟨ret_i64 HF.out.symm, HB2.out⟩
          · rw [decide_eq_false hn] at hlz
            have HN9 := hid hn
            have HC9 := hid hc
            have HR9 := hid hr
            clear hn hr hc
            obtain ⟨c0, c1, c2, c3, c4, c5, c6⟩ := HR2.out.seven
            have hl0 := HR2.out.lt
            go_wp2_with fail
            refine (rtail_any (ba xp) w2 (by rw [ba_size]; exact HPL.out)).mono ?_
            rintro e' w3 ⟨rfl, rfl⟩
            rw [show (ba xp).data.toList = xp from rfl]
            cases ht : tailB xp
            · have HYES := hid (fun (h1 : RK = true) (h : dotB (partsF xp) = false) => show EB by rw [HEB.out]; exact ⟨h1, HM.out, ht, HC9.out, HR9.out, HN9.out, h⟩)
              have HDOT := hid (fun (h : dotB (partsF xp) = true) => HNO.out (by rw [HEB.out, h]; rintro ⟨_, _, _, _, _, _, h⟩; cases h))
              have HRKN := hid (fun (h : RK = false) => HNO.out (by rw [HEB.out, h]; rintro ⟨h, _⟩; cases h))
              have hdl := parts_count xp
              clear ht HEB
              generalize partsF xp = ds at *
              go_wp2_with fail
              go_loop [6] (fun i => ∃ k : Nat, k ≤ ds.length ∧ i = .int .i64 k ∧ dotB (ds.take k) = false) (fun i => ds.length - (intOf i).toNat)
              case atStart => exact ⟨0, Nat.zero_le _, rfl, rfl⟩
              case round =>
                obtain ⟨k, hkk, rfl, hdb⟩ := hrel
                have HDB := hid hdb
                clear hdb
                by_cases hlt : k < ds.length
                · have d1 : decide ((k : Int) < (ds.length : Int)) = true := by simp; omega
                  have d1n : decide (k < ds.length) = true := by simp; omega
                  obtain ⟨b, o, rfl, hcell⟩ := HC.out.some_of (by simp [strs]; omega)
                  have hx' := strs_at hcell hlt
                  have hlb := World.block_lt_of_cell? _ _ hx'
                  dsimp only at hlb
                  have hq := ba_beq ds[k] [46, 46]
                  have HTK := hid (show dotB (ds.take (k + 1)) = (dotB (ds.take k) || decide (ds[k] = [46, 46])) by unfold dotB; rw [List.take_succ_eq_append_getElem hlt, List.any_append]; simp)
                  have HALL := hid (fun (h : ds[k] = [46, 46]) => show dotB ds = true from List.any_eq_true.2 ⟨ds[k], List.getElem_mem hlt, by simp [h]⟩)
                  generalize ds[k] = p at *
                  clear hcell
                  by_cases hp : p = [46, 46]
                  · have HF := hid (HDOT.out (HALL.out hp))
                    rw [decide_eq_true hp] at hq
                    clear hp
                    go_wp2_with fail
                    go_ret
                    exact ⟨ret_i64 HF.out.symm, HB2.out⟩
                  · rw [decide_eq_false hp] at hq HTK
                    clear hp
                    go_wp2_with fail
                    go_round
                    case rel => exact ⟨k + 1, by omega, by go_num, by rw [HTK.out, HDB.out]; rfl⟩
                    case measure => simp [intOf]; omega
                · have d1 : decide ((k : Int) < (ds.length : Int)) = false := by simp; omega
                  have d1n : decide (k < ds.length) = false := by simp; omega
                  have HYY := hid (fun (h1 : RK = true) => HYES.out h1 (by have := HDB.out; rwa [List.take_of_length_le (by omega)] at this))
                  have ez := ba_nil (ba xt)
                  have hxd := HDL.out
                  clear HDB hlt hkk
                  rw [show (ba xt).data.toList = xt from rfl] at ez
                  by_cases hd0 : xd = []
                  · have dd : decide ((0 : Int) < (xd.length : Int)) = false := by rw [hd0]; rfl
                    have ddn : decide (0 < xd.length) = false := by rw [hd0]; rfl
                    by_cases ht0 : xt = []
                    · rw [decide_eq_true ht0] at ez
                      have HBF := HB2
                      have HRT := hid (show RK = true by rw [HRK.out]; simp [ht0, hd0])
                      by_cases hbig : 65536 < xd.length
                      · have db : decide ((65536 : Int) < (xd.length : Int)) = true := by simp; omega
                        have HF := hid (HBIG.out (HYY.out HRT.out) hbig)
                        clear hbig ht0 hd0
                        go_wp2_with fail
                        go_ret
                        exact ⟨ret_i64 HF.out.symm, HBF.out⟩
                      · have db : decide ((65536 : Int) < (xd.length : Int)) = false := by simp; omega
                        have HF := hid (HOK.out (HYY.out HRT.out) hbig)
                        clear hbig ht0 hd0
                        go_wp2_with fail
                        go_ret
                        exact ⟨ret_i64 HF.out.symm, HBF.out⟩
                    · rw [decide_eq_false ht0] at ez
                      have HF := hid (HRKN.out (by rw [HRK.out]; simp [ht0]))
                      clear ht0 hd0
                      go_wp2_with fail
                      go_ret
                      exact ⟨ret_i64 HF.out.symm, HB2.out⟩
                  · have dp := List.length_pos_iff.2 hd0
                    have dd : decide ((0 : Int) < (xd.length : Int)) = true := by simp; omega
                    have ddn : decide (0 < xd.length) = true := by simp; omega
                    have HF := hid (HRKN.out (by rw [HRK.out]; simp [hd0]))
                    clear hd0
                    go_wp2_with fail
                    go_ret
                    exact ⟨ret_i64 HF.out.symm, HB2.out⟩
            · have HF := hid (HNO.out (by rw [HEB.out, ht]; rintro ⟨_, _, h, _⟩; cases h))
              clear ht
              go_wp2_with fail
              go_ret
              exact ⟨ret_i64 HF.out.symm, HB2.out⟩
      · have hc2 : (chkE xp != 0) = true := by simpa using hc
        have HF := hid (HNO.out (by rw [HEB.out]; exact fun h => hc h.2.2.2.1))
        clear hc
        go_wp2_with fail
        go_ret
        exact ⟨ret_i64 HF.out.symm, HB2.out⟩
    · have dm : (bits .and .u16 xm 2559 != xm) = true := by simpa using hm
      have HF := hid (HNO.out (by rw [HEB.out]; exact fun h => hm (HMI.out.2 h.2.1)))
      obtain ⟨c0, c1, c2, c3, c4, c5, c6⟩ := HR0.out.seven
      have hl0 := HR0.out.lt
      clear hm
      go_enter Tryz.func18, Tryz.ntmps18
      go_wp2_with fail
      go_ret
      exact ⟨ret_i64 HF.out.symm, HB0.out⟩
  · by_cases hm : bits .and .u16 xm 2559 = xm
    · have dm : (bits .and .u16 xm 2559 != xm) = false := by simpa using hm
      have HM := hid (HMI.out.1 hm)
      obtain ⟨c0, c1, c2, c3, c4, c5, c6⟩ := HR0.out.seven
      have hl0 := HR0.out.lt
      clear hm
      go_enter Tryz.func18, Tryz.ntmps18
      go_wp2_with fail
      refine (rparts_any (ba xp) _ (by rw [ba_size]; exact HPL.out)).mono ?_
      rintro e' w2 ⟨v, rfl, ho, hb⟩
      rw [show (ba xp).data.toList = xp from rfl] at ho ⊢
      have HB2 := hid (bthen HB0.out hb)
      have HR2 := hid (HR0.out.below hb HR0.out.lt)
      obtain ⟨av, cv, rfl, hcel, _⟩ := own_cel ho
      have HC := hid hcel
      clear ho hb hcel c0 c1 c2 c3 c4 c5 c6 hl0
      by_cases hc : chkE xp = 0
      · rw [hc]
        cases hr : rootF xp
        · have HF := hid (HNO.out (by rw [HEB.out, hr]; rintro ⟨_, _, _, _, h, _⟩; cases h))
          clear hr hc
          go_wp2_with fail
          go_ret
          exact ⟨ret_i64 HF.out.symm, HB2.out⟩
        · have hlz := len_zero (partsF xp)
          by_cases hn : partsF xp = []
          · rw [decide_eq_true hn] at hlz
            have HF := hid (HNO.out (by rw [HEB.out]; exact fun h => h.2.2.2.2.2.1 hn))
            clear hn hr hc
            go_wp2_with fail
            go_ret
            exact ⟨ret_i64 HF.out.symm, HB2.out⟩
          · rw [decide_eq_false hn] at hlz
            have HN9 := hid hn
            have HC9 := hid hc
            have HR9 := hid hr
            clear hn hr hc
            obtain ⟨c0, c1, c2, c3, c4, c5, c6⟩ := HR2.out.seven
            have hl0 := HR2.out.lt
            go_wp2_with fail
            refine (rtail_any (ba xp) w2 (by rw [ba_size]; exact HPL.out)).mono ?_
            rintro e' w3 ⟨rfl, rfl⟩
            rw [show (ba xp).data.toList = xp from rfl]
            cases ht : tailB xp
            · have HYES := hid (fun (h1 : RK = true) (h : dotB (partsF xp) = false) => show EB by rw [HEB.out]; exact ⟨h1, HM.out, ht, HC9.out, HR9.out, HN9.out, h⟩)
              have HDOT := hid (fun (h : dotB (partsF xp) = true) => HNO.out (by rw [HEB.out, h]; rintro ⟨_, _, _, _, _, _, h⟩; cases h))
              have HRKN := hid (fun (h : RK = false) => HNO.out (by rw [HEB.out, h]; rintro ⟨h, _⟩; cases h))
              have hdl := parts_count xp
              clear ht HEB
              generalize partsF xp = ds at *
              go_wp2_with fail
              go_loop [6] (fun i => ∃ k : Nat, k ≤ ds.length ∧ i = .int .i64 k ∧ dotB (ds.take k) = false) (fun i => ds.length - (intOf i).toNat)
              case atStart => exact ⟨0, Nat.zero_le _, rfl, rfl⟩
              case round =>
                obtain ⟨k, hkk, rfl, hdb⟩ := hrel
                have HDB := hid hdb
                clear hdb
                by_cases hlt : k < ds.length
                · have d1 : decide ((k : Int) < (ds.length : Int)) = true := by simp; omega
                  have d1n : decide (k < ds.length) = true := by simp; omega
                  obtain ⟨b, o, rfl, hcell⟩ := HC.out.some_of (by simp [strs]; omega)
                  have hx' := strs_at hcell hlt
                  have hlb := World.block_lt_of_cell? _ _ hx'
                  dsimp only at hlb
                  have hq := ba_beq ds[k] [46, 46]
                  have HTK := hid (show dotB (ds.take (k + 1)) = (dotB (ds.take k) || decide (ds[k] = [46, 46])) by unfold dotB; rw [List.take_succ_eq_append_getElem hlt, List.any_append]; simp)
                  have HALL := hid (fun (h : ds[k] = [46, 46]) => show dotB ds = true from List.any_eq_true.2 ⟨ds[k], List.getElem_mem hlt, by simp [h]⟩)
                  generalize ds[k] = p at *
                  clear hcell
                  by_cases hp : p = [46, 46]
                  · have HF := hid (HDOT.out (HALL.out hp))
                    rw [decide_eq_true hp] at hq
                    clear hp
                    go_wp2_with fail
                    go_ret
                    exact ⟨ret_i64 HF.out.symm, HB2.out⟩
                  · rw [decide_eq_false hp] at hq HTK
                    clear hp
                    go_wp2_with fail
                    go_round
                    case rel => exact ⟨k + 1, by omega, by go_num, by rw [HTK.out, HDB.out]; rfl⟩
                    case measure => simp [intOf]; omega
                · have d1 : decide ((k : Int) < (ds.length : Int)) = false := by simp; omega
                  have d1n : decide (k < ds.length) = false := by simp; omega
                  have HYY := hid (fun (h1 : RK = true) => HYES.out h1 (by have := HDB.out; rwa [List.take_of_length_le (by omega)] at this))
                  have ez := ba_nil (ba xt)
                  have hxd := HDL.out
                  clear HDB hlt hkk
                  rw [show (ba xt).data.toList = xt from rfl] at ez
                  by_cases hd0 : xd = []
                  · have dd : decide ((0 : Int) < (xd.length : Int)) = false := by rw [hd0]; rfl
                    have ddn : decide (0 < xd.length) = false := by rw [hd0]; rfl
                    have HD0 := hid hd0
                    clear hd0
                    go_wp2_with fail
                    refine (rcheck_any (ba xt) w2 (by rw [ba_size]; exact HTL.out)).mono ?_
                    rintro e' w4 ⟨rfl, hb⟩
                    rw [show (ba xt).data.toList = xt from rfl]
                    have HBF := hid (bthen HB2.out hb)
                    have HRF := hid (HR2.out.below hb HR2.out.lt)
                    clear hb c0 c1 c2 c3 c4 c5 c6 hl0
                    obtain ⟨c0, c1, c2, c3, c4, c5, c6⟩ := HRF.out.seven
                    have hl0 := HRF.out.lt
                    by_cases hk0 : chkE xt = 0
                    · rw [hk0]
                      have HRT := hid (show RK = true by rw [HRK.out]; simp [hk0, HD0.out])
                      by_cases hbig : 65536 < xd.length
                      · have db : decide ((65536 : Int) < (xd.length : Int)) = true := by simp; omega
                        have HF := hid (HBIG.out (HYY.out HRT.out) hbig)
                        clear hbig hk0
                        go_wp2_with fail
                        go_ret
                        exact ⟨ret_i64 HF.out.symm, HBF.out⟩
                      · have db : decide ((65536 : Int) < (xd.length : Int)) = false := by simp; omega
                        have HF := hid (HOK.out (HYY.out HRT.out) hbig)
                        clear hbig hk0
                        go_wp2_with fail
                        go_ret
                        exact ⟨ret_i64 HF.out.symm, HBF.out⟩
                    · have hk2 : (chkE xt != 0) = true := by simpa using hk0
                      have HF := hid (HRKN.out (by rw [HRK.out]; simp [hk0]))
                      clear hk0
                      go_wp2_with fail
                      go_ret
                      exact ⟨ret_i64 HF.out.symm, HBF.out⟩
                  · have dp := List.length_pos_iff.2 hd0
                    have dd : decide ((0 : Int) < (xd.length : Int)) = true := by simp; omega
                    have ddn : decide (0 < xd.length) = true := by simp; omega
                    have HF := hid (HRKN.out (by rw [HRK.out]; simp [hd0]))
                    clear hd0
                    go_wp2_with fail
                    go_ret
                    exact ⟨ret_i64 HF.out.symm, HB2.out⟩
            · have HF := hid (HNO.out (by rw [HEB.out, ht]; rintro ⟨_, _, h, _⟩; cases h))
              clear ht
              go_wp2_with fail
              go_ret
              exact ⟨ret_i64 HF.out.symm, HB2.out⟩
      · have hc2 : (chkE xp != 0) = true := by simpa using hc
        have HF := hid (HNO.out (by rw [HEB.out]; exact fun h => hc h.2.2.2.1))
        clear hc
        go_wp2_with fail
        go_ret
        exact ⟨ret_i64 HF.out.symm, HB2.out⟩
    · have dm : (bits .and .u16 xm 2559 != xm) = true := by simpa using hm
      have HF := hid (HNO.out (by rw [HEB.out]; exact fun h => hm (HMI.out.2 h.2.1)))
      obtain ⟨c0, c1, c2, c3, c4, c5, c6⟩ := HR0.out.seven
      have hl0 := HR0.out.lt
      clear hm
      go_enter Tryz.func18, Tryz.ntmps18
      go_wp2_with fail
      go_ret
      exact ⟨ret_i64 HF.out.symm, HB0.out⟩
  · have k1 : (kd != 1) = true := by simpa using n1
    have k2 : (kd != 2) = true := by simpa using n2
    have k3 : (kd != 3) = true := by simpa using n3
    have HF := hid (HNO.out (by rw [HEB.out, HRK.out, if_neg n1, if_neg n2, if_neg n3]; rintro ⟨h, _⟩; cases h))
    obtain ⟨c0, c1, c2, c3, c4, c5, c6⟩ := HR0.out.seven
    have hl0 := HR0.out.lt
    clear n1 n2 n3
    go_enter Tryz.func18, Tryz.ntmps18
    go_wp2_with fail
    go_ret
    exact ⟨ret_i64 HF.out.symm, HB0.out⟩
end Go.Proofs.YthamfhenadaapaaGreatDoor
