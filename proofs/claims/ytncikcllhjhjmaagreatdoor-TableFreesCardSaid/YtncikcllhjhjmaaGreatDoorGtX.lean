
/- TableFrees: the walk. -/
import Derived.Test.YtncikcllhjhjmaaGreatDoorKY5
import Derived.Test.YtncikcllhjhjmaaGreatDoorBc9
namespace Go.Proofs.YtncikcllhjhjmaaGreatDoor
open Go.RowKit Go.Sort Go.WideMaps Go.Maps Go.WideShapes Go.WideElems Go.MapKept Go.ChangeMaps
attribute [local go_sem] Oper.semAt_some

set_option maxRecDepth 100000 in
set_option maxHeartbeats 8000000 in
theorem tableFrees_walk (N : Int) (oa : Option Addr) (oc : Nat) (l : List O9) (w : World) (hO : Ops9 w oa l) (hT : Tb w) (hZ : Wd.Sizes w) :
    Calls Tryz.prog 8 #[.int .i64 N, .slice oa l.length oc] w fun e w' => e = .returned (.bool true) ∧ Below w.heap.size w w' := by
  obtain ⟨wb, hwb⟩ : ∃ wb, wb = w := ⟨_, rfl⟩
  have HBB := hid (show Below w.heap.size w wb by rw [hwb]; exact Below.refl _ _)
  have HOP := hid (hO.below HBB.out)
  have HWK := hid (fun (W : World) (hb : Below w.heap.size w W) => works9_any W (fun j hj => St.cell (hT j hj) hb) (hZ.below hb))
  have HVA := hid (vast9_any N oa l.length oc wb)
  have HBH := hid (fun (h : N ≤ 96 ∧ l.length ≤ 120) => behind_any N (by omega) oa oc l wb (fun j hj => St.cell (hT j hj) HBB.out) (hZ.below HBB.out) HOP.out (by omega))
  have HMD := hid (fun (h : N ≤ 96 ∧ l.length ≤ 120) => made9_any N (by omega) wb (fun j hj => St.cell (hT j hj) HBB.out) (hZ.below HBB.out))
  have HWB := hid hwb
  clear hO hT hZ hwb
  go_enter Tryz.func8, Tryz.ntmps8
  go_wp2_with fail
  rw [← HWB.out]
  refine (HVA.out).mono ?_
  rintro e w1 ⟨⟨vb, rfl, hvs⟩, rfl⟩
  have HVS := hid hvs
  clear hvs
  rcases vb with _ | _
  rotate_left
  · go_wp2_with fail
    refine (HWK.out _ HBB.out).mono ?_
    rintro e wk ⟨rfl, hbk⟩
    have HBK := hid (bthen HBB.out hbk)
    clear hbk
    go_wp2_with fail
    go_ret
    exact ⟨rfl, HBK.out⟩
  have HVN := hid (HVS.out rfl)
  have HBN := hid (HBH.out HVN.out)
  have HMN := hid (HMD.out HVN.out)
  go_wp2_with fail
  refine (HBN.out).mono ?_
  rintro e w2 hm
  rcases hm with ⟨hn1, rfl, hb⟩ | ⟨w0, F, t, p, g, h, c, m, tb, ob, root, vh, ws, k, st, hnk, hk1, rfl, how, hran, hfr, hb0⟩
  · have HB2 := hid (bthen HBB.out hb)
    clear hb
    go_wp2_with fail
    refine (HWK.out w2 HB2.out).mono ?_
    rintro e wk ⟨rfl, hbk⟩
    have HBK := hid (bthen HB2.out hbk)
    clear hbk
    go_wp2_with fail
    go_ret
    exact ⟨rfl, HBK.out⟩
  have HOW := hid how
  have HFR := hid hfr
  have HRAN := hid hran
  have HBW := hid (bthen HBB.out hb0)
  have HBY := hid hb0
  have HLOW := hid (fun (W : World) (hl : Below w0.heap.size w0 W) => show Below w.heap.size w W from HBW.out.trans (hl.mono HBW.out.size))
  have HTI := hid (hran.inv.ti hfr)
  have HTW := hid (show TW w0 F t p g h c m tb st.s ws root false w2 by have := how.tw; rw [hfr] at this; exact this)
  clear how hfr hran hb0
  have HHL := hid (show st.h.length ≤ 1000000 by have := HRAN.out.hh; have := HVN.out.2; omega)
  have HFREE := hid (tfree_any st.s st.kids st.h ws w2 HTW.out HTI.out HHL.out)
  have HGF := hid (show Good (rdP16 t.L) (dnL st.s (lfT 4 (.nd root st.kids) ++ nodL root st.kids)) st.h from dnL_good _ _ _ (HTI.out.good.perm (perm_of fun a => by
    have h9 : (hxT 3 root st.kids).count a = (nodL root st.kids).count a + (lfT 4 (.nd root st.kids)).count a := hx_count 3 root st.kids a
    simp only [List.count_append] at h9 ⊢
    omega)))
  obtain ⟨s3, hs3⟩ : ∃ s3, s3 = dnL st.s (lfT 4 (.nd root st.kids) ++ nodL root st.kids) := ⟨_, rfl⟩
  rw [← hs3] at HFREE HGF
  clear hs3
  obtain ⟨q0, q1, q2, q3⟩ := HOW.out.own.four
  have hol := HOW.out.own.lt
  go_wp2_with fail
  refine (HFREE.out).mono ?_
  rintro e w3 ⟨rfl, ⟨ws3, ht3⟩, he3⟩
  have HW3 := hid (show OW9 w0 F t p g h c m tb ob root vh ⟨s3, st.kids, st.h, true⟩ ws3 w3 from HOW.out.call ht3 he3 rfl)
  clear ht3 he3 q0 q1 q2 q3 hol
  obtain ⟨q0, q1, q2, q3⟩ := HW3.out.own.four
  have hol := HW3.out.own.lt
  have HDR := hid (drop_any w0 F t p g h c m s3 ws3 (rdP16 t.L) st.h w3 HW3.out.tw.cw HGF.out (by have := HHL.out; omega))
  go_wp2_with fail
  refine (HDR.out).mono ?_
  rintro e w4 ⟨rfl, ⟨ws4, hc4⟩, he4⟩
  have HW4 := hid (show OW9 w0 F t p g h c m tb ob root vh ⟨drpC s3, st.kids, st.h, true⟩ ws4 w4 from HW3.out.call (HW3.out.tw.call hc4 he4) (he4.mono fun _ _ e => .inl e) rfl)
  have HG4 := hid (HGF.out.drop)
  have HSL := hid (show (drpC s3).sl = [] from rfl)
  generalize drpC s3 = s4 at *
  clear hc4 he4 q0 q1 q2 q3 hol
  have hown := HW4.out.own
  have hhh := HW4.out.hh
  obtain ⟨va, vc, rfl, hcl, _⟩ := own_cel hhh
  have HCL := hid hcl
  have HB4 := hid (HLOW.out w4 HW4.out.tw.cw.low)
  have HSZ := hid (size_any p g h s4.fs ws4 w4 HW4.out.tw.cw.pool)
  have HFL := hid (show s4.fs.length ≤ 1024 from HW4.out.tw.cw.pool.n2)
  clear hhh hcl hown
  obtain ⟨q0, q1, q2, q3⟩ := HW4.out.own.four
  have hol := HW4.out.own.lt
  go_wp2_with fail
  go_loopw [7] (fun i wr => w4 = wr ∧ ∃ j : Nat, j ≤ s4.fs.length ∧ i = .int .i64 j) (fun i _ => s4.fs.length - (intOf i).toNat)
  case atStart => exact ⟨rfl, 0, Nat.zero_le _, rfl⟩
  case round =>
    obtain ⟨rfl, j, hj, rfl⟩ := hrel
    have hfl := HFL.out
    by_cases hjt : j < s4.fs.length
    · have d2 : decide ((j : Int) < (s4.fs.length : Int)) = true := by simp; omega
      have HCT := hid (count_any p g h s4.fs ws4 (j : Int) w4 HW4.out.tw.cw.pool)
      have hcn := HG4.out.cnt j hjt
      rw [HSL.out, List.countP_nil, Nat.add_zero] at hcn
      rw [cntF_at hjt, hcn] at HCT
      clear hcn
      go_wp2_with fail
      refine (HSZ.out).mono ?_
      rintro e wx ⟨rfl, rfl⟩
      go_wp2_with fail
      go_loopw [8, 9] (fun nn kk wr => w4 = wr ∧ ∃ q : Nat, q ≤ st.h.length ∧ kk = .int .i64 q ∧ nn = .int .i64 (((st.h.take q).count j : Nat) : Int)) (fun _ kk _ => st.h.length - (intOf kk).toNat)
      case atStart => exact ⟨rfl, 0, Nat.zero_le _, rfl, by simp⟩
      case round =>
        obtain ⟨rfl, q, hq, rfl, rfl⟩ := hrel
        have hhl := HHL.out
        by_cases hqt : q < st.h.length
        · have d3 : decide ((q : Int) < (st.h.length : Int)) = true := by simp; omega
          have d3n : decide (q < st.h.length) = true := by simp; omega
          obtain ⟨b, o, rfl, hcell⟩ := HCL.out.some_of (by simp; omega)
          have g0 := hcell q (by simpa using hqt)
          rw [List.getElem_map] at g0
          unfold nI9 at g0
          have HT' := hid (show (st.h.take (q + 1)).count j = (st.h.take q).count j + (if st.h[q] = j then 1 else 0) by
            rw [List.take_succ_eq_append_getElem hqt, List.count_append, List.count_singleton]
            simp [beq_iff_eq])
          have hcl : (st.h.take q).count j ≤ st.h.length := Nat.le_trans List.count_le_length (by rw [List.length_take]; omega)
          generalize (st.h.take q).count j = cq at *
          generalize st.h[q] = y at *
          have z0 : (0 : Int) ≤ (q : Int) := by omega
          have z1 : (q : Int) < (st.h.length : Int) := by omega
          clear hcell
          by_cases hy : y = j
          · have d4b : ((y : Int) == (j : Int)) = true := by simp [hy]
            have d4d : decide ((y : Int) = (j : Int)) = true := by simp [hy]
            rw [if_pos hy] at HT'
            clear hy
            go_wp2_with fail
            go_roundw
            case rel => exact ⟨trivial, q + 1, by omega, by go_num, by rw [HT'.out]; go_num⟩
            case measure => simp [intOf]; omega
          · have d4b : ((y : Int) == (j : Int)) = false := by simp; omega
            have d4d : decide ((y : Int) = (j : Int)) = false := by simp; omega
            rw [if_neg hy] at HT'
            clear hy
            go_wp2_with fail
            go_roundw
            case rel => exact ⟨trivial, q + 1, by omega, by go_num, by rw [HT'.out]; rfl⟩
            case measure => simp [intOf]; omega
        · have d3 : decide ((q : Int) < (st.h.length : Int)) = false := by simp; omega
          have d3n : decide (q < st.h.length) = false := by simp; omega
          obtain rfl : q = st.h.length := by omega
          rw [List.take_length]
          obtain ⟨cn, hcn⟩ : ∃ cn : Int, cn = ((st.h.count j : Nat) : Int) := ⟨_, rfl⟩
          rw [← hcn] at HCT ⊢
          have e1 : (cn != cn) = false := by simp
          clear hcn
          go_wp2_with fail
          refine (HCT.out).mono ?_
          rintro e wx ⟨rfl, rfl⟩
          go_wp2_with fail
          go_roundw
          case rel => exact ⟨trivial, j + 1, by omega, by go_num⟩
          case measure => simp [intOf]; omega
    · have d2 : decide ((j : Int) < (s4.fs.length : Int)) = false := by simp; omega
      go_wp2_with fail
      refine (HSZ.out).mono ?_
      rintro e wx ⟨rfl, rfl⟩
      go_wp2_with fail
      refine (HWK.out w4 HB4.out).mono ?_
      rintro e wk ⟨rfl, hbk⟩
      have HBK := hid (bthen HB4.out hbk)
      clear hbk
      go_wp2_with fail
      go_ret
      exact ⟨rfl, HBK.out⟩
end Go.Proofs.YtncikcllhjhjmaaGreatDoor
