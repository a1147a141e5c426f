
/- CacheRoom: the walk. -/
import Derived.Test.YtlfgogjjnekfpaaDoorBcL
namespace Go.Proofs.YtlfgogjjnekfpaaDoor
open Go.RowKit Go.Sort Go.Shelf Go.WideMaps Go.Maps Go.WideShapes Go.WideElems Go.MapKept Go.ChangeMaps
attribute [local go_sem] Oper.semAt_some

set_option maxRecDepth 100000 in
set_option maxHeartbeats 8000000 in
theorem cacheRoom_walk (a : Option Addr) (cap : Nat) (xs : List EN) (N : Int) (oa : Option Addr) (oc : Nat) (l : List O8) (w : World) (hX : EntsIn w a xs.length xs) (hO : Ops8 w oa l) (hT : Tb w) :
    Calls Tryd.prog 7 #[flV a xs.length cap N, .slice oa l.length oc] w fun e w' => e = .returned (.bool true) ∧ Below w.heap.size w w' := by
  obtain ⟨wb, hwb⟩ : ∃ wb, wb = w.alloc (.cells #[.slice a xs.length cap, .int .i64 N] 43) := ⟨_, rfl⟩
  have HBB := hid (show Below w.heap.size w wb by rw [hwb]; exact bal _)
  have HRX := hid (show Row wb w.heap.size 43 [.slice a xs.length cap, .int .i64 N] by rw [hwb]; exact Row.new w _ _)
  have HX := hid (show EntsIn wb a xs.length xs from hX.below HBB.out)
  have HO := hid (hO.below HBB.out)
  have HT := hid hT
  have HWB := hid hwb
  have HWK := hid (fun (W : World) (hb : Below w.heap.size w W) => works08_any W (fun j hj => St.cell (HT.out j hj) hb))
  have HVA := hid (vast8_any a cap xs N oa l.length oc wb HX.out)
  clear hX hO hT hwb
  unfold flV at HVA ⊢
  go_enter Tryd.func7, Tryd.ntmps7
  go_wp2_with fail
  rw [← HWB.out]
  refine (HVA.out).mono ?_
  rintro e w1 ⟨vb, rfl, hb1, hvs⟩
  have HB1 := hid (bthen HBB.out hb1)
  have HBX := hid hb1
  have HVS := hid hvs
  have HRX1 := hid (HRX.out.below hb1 HRX.out.lt)
  clear hb1 hvs
  obtain ⟨x0, x1⟩ := HRX1.out.two
  have hxl := HRX1.out.lt
  rcases vb with _ | _
  rotate_left
  · go_wp2_with fail
    refine (HWK.out w1 HB1.out).mono ?_
    rintro e wk ⟨rfl, hbk⟩
    have HBK := hid (bthen HB1.out hbk)
    clear hbk
    go_wp2_with fail
    go_ret
    exact ⟨rfl, HBK.out⟩
  have HS := hid (HVS.out rfl)
  have HOM := hid (HO.out.below HBX.out)
  have HMA := hid (made8_any a cap xs N oa oc l w1 ((HX.out.below HBX.out).small8 HS.out.1) HS.out.2.1 HS.out.2.2.1 HOM.out (HS.out.2.2.2) (fun j hj => St.cell (HT.out j hj) HB1.out))
  unfold flV at HMA
  go_wp2_with fail
  refine (HMA.out).mono ?_
  rintro e w2 hm
  clear x0 x1 hxl
  rcases hm with ⟨rfl, hb⟩ | ⟨w0, F, t, p, g, h, c, m, ob, vl, vh, ws, n, rfl, how, hb0, hn1, hn2⟩
  · have HB2 := hid (bthen HB1.out hb)
    clear hb
    go_wp2_with fail
    refine (HWK.out w2 HB2.out).mono ?_
    rintro e wk ⟨rfl, hbk⟩
    have HBK := hid (bthen HB2.out hbk)
    clear hbk
    go_wp2_with fail
    go_ret
    exact ⟨rfl, HBK.out⟩
  have HOW := hid how
  have HBW := hid (bthen HB1.out hb0)
  have HBY := hid (bthen HBX.out hb0)
  have HN := hid (⟨hn1, hn2⟩ : 1 ≤ n ∧ n ≤ 64)
  have HRAN := hid (run8_ran (good08 (rdP16 t.L) n) (rdP16_len t.L) l)
  have HLOW := hid (fun (W : World) (hl : Below w0.heap.size w0 W) => show Below w.heap.size w W from HBW.out.trans (hl.mono HBW.out.size))
  clear how hb0 hn1 hn2
  obtain ⟨st, hst⟩ : ∃ st, st = run8 (rdP16 t.L) (st08 n) l := ⟨_, rfl⟩
  rw [← hst] at HOW HRAN
  have HHL := hid (show st.h.length ≤ 200 by have := HRAN.out.hh; have := HS.out.2.2.2; have z : (st08 n).h.length = 0 := rfl; omega)
  have HFR := hid (free_any p g h st.s.fs ws w2 HOW.out.cw.pool)
  have HSL := hid (slots_any w0 F t p g h c m st.s ws (rdP16 t.L) (st.h ++ []) w2 HOW.out.cw HRAN.out.good)
  have HFN := hid (show freeN st.s.fs ≤ 1024 from Nat.le_trans List.countP_le_length HOW.out.cw.pool.n2)
  obtain ⟨q0, q1, q2, q3, q4⟩ := HOW.out.own.five
  have hobl := HOW.out.own.lt
  clear hst
  go_wp2_with fail
  refine (HFR.out).mono ?_
  rintro e wx ⟨rfl, rfl⟩
  go_wp2_with fail
  refine (HSL.out).mono ?_
  rintro e w8 ⟨v, sl, rfl, hpm, hpw, ho, hb⟩
  have H8 := hid (HOW.out.below hb)
  obtain ⟨va, vc, rfl, hrk, _⟩ := own_rk ho (by intro r hr; obtain ⟨x, _, rfl⟩ := List.mem_map.1 hr; rfl) (by omega)
  have HRK := hid hrk
  have HPM := hid hpm
  have HSN := hid (show sl.length ≤ 1000000 by have := hpm.length_eq; have := HRAN.out.good.many; have := HRAN.out.tn; have := HS.out.2.2.2; have z : (st08 n).s.tn = 0 := rfl; omega)
  clear hpm hpw ho hb hrk q0 q1 q2 q3 q4 hobl
  obtain ⟨q0, q1, q2, q3, q4⟩ := H8.out.own.five
  have hobl := H8.out.own.lt
  obtain ⟨fn, hfn⟩ : ∃ fn, fn = freeN st.s.fs := ⟨_, rfl⟩
  have HFE := hid hfn
  rw [← hfn] at HFN ⊢
  clear hfn
  go_wp2_with fail
  go_loopw [6, 8] (fun nn kk wr => Below w8.heap.size w8 wr ∧ ∃ q : Nat, q ≤ sl.length ∧ kk = .int .i64 q ∧ nn = .int .i64 ((fn + (sl.take q).countP (loB st.s.fs) : Nat) : Int)) (fun _ kk _ => sl.length - (intOf kk).toNat)
  case atStart => exact ⟨Below.refl _ _, 0, Nat.zero_le _, rfl, by simp⟩
  case round =>
    obtain ⟨hbq, q, hq, rfl, rfl⟩ := hrel
    have HBQ := hid hbq
    have HOB := hid (H8.out.below hbq)
    clear q0 q1 q2 q3 q4 hobl
    obtain ⟨q0, q1, q2, q3, q4⟩ := HOB.out.own.five
    have hobl := HOB.out.own.lt
    have hsn := HSN.out
    have hch := HFN.out
    by_cases hqt : q < sl.length
    · have d3 : decide ((q : Int) < (sl.length : Int)) = true := by simp; omega
      have d3n : decide (q < sl.length) = true := by simp; omega
      obtain ⟨b, o, rfl, hcell⟩ := (HRK.out.below' hbq).some_of (by simp; omega)
      have gq := fun j hj => hcell q (by simpa using hqt) j hj
      have e9 : (sl.map slC)[q]'(by simpa using hqt) = slC sl[q] := by simp
      rw [e9] at gq
      have g0 := gq 0 (by simp [slC])
      have g1 := gq 1 (by simp [slC])
      have g2 := gq 2 (by simp [slC])
      simp only [slC, List.getElem_cons_zero, List.getElem_cons_succ, Nat.add_zero] at g0 g1 g2
      clear gq e9
      have HT' := hid (show (sl.take (q + 1)).countP (loB st.s.fs) = (sl.take q).countP (loB st.s.fs) + (if cntF st.s.fs sl[q].f = 1 then 1 else 0) by
        rw [List.take_succ_eq_append_getElem hqt, List.countP_append, List.countP_singleton]
        unfold loB
        simp)
      have hcl : (sl.take q).countP (loB st.s.fs) ≤ sl.length := Nat.le_trans List.countP_le_length (by rw [List.length_take]; omega)
      have HC := hid (fun nn => count_any p g h st.s.fs ws sl[q].f _ (HOB.out.below (bdN (Below.refl _ _) nn)).cw.pool)
      generalize (sl.take q).countP (loB st.s.fs) = cq at *
      generalize sl[q] = y at *
      generalize cntF st.s.fs y.f = cv at *
      clear hcell g0 g1 hbq
      by_cases hy : cv = 1
      · have d4b : (cv == 1) = true := by simpa using hy
        rw [if_pos hy] at HT'
        clear hy
        go_wp2_with fail
        go_quiet ((go_at_call 24; exact Calls.quiet_of_same ((HC.out _).mono (fun _ _ h => ⟨h.1, h.2.symm⟩))))
        go_wp2_with fail
        go_roundw
        case rel => exact ⟨bdN HBQ.out _, q + 1, by omega, by go_num, by rw [HT'.out]; go_num⟩
        case measure => simp [intOf]; omega
      · have d4b : (cv == 1) = false := by simpa using hy
        rw [if_neg hy] at HT'
        clear hy
        go_wp2_with fail
        go_quiet ((go_at_call 24; exact Calls.quiet_of_same ((HC.out _).mono (fun _ _ h => ⟨h.1, h.2.symm⟩))))
        go_wp2_with fail
        go_roundw
        case rel => exact ⟨bdN HBQ.out _, q + 1, by omega, by go_num, by rw [HT'.out]; rfl⟩
        case measure => simp [intOf]; omega
    · have d3 : decide ((q : Int) < (sl.length : Int)) = false := by simp; omega
      have d3n : decide (q < sl.length) = false := by simp; omega
      obtain rfl : q = sl.length := by omega
      rw [List.take_length]
      obtain ⟨R, hR⟩ : ∃ R, R = fn + sl.countP (loB st.s.fs) := ⟨_, rfl⟩
      have HR := hid (show R = freeN st.s.fs + st.s.sl.countP (loB st.s.fs) by rw [hR, HFE.out, HPM.out.countP_eq])
      have HRL := hid (show R ≤ 1001024 by have : sl.countP (loB st.s.fs) ≤ sl.length := List.countP_le_length; omega)
      rw [← hR]
      clear hR
      go_wp2_with fail
      go_loopw [9] (fun i wr => ∃ (j : Nat) (s' : CC) (wsk : List Nat) (ex : List Nat), i = .int .i64 j ∧ j + (freeN s'.fs + s'.sl.countP (loB s'.fs)) = R ∧ ex.length = j ∧ OW w0 F t p g h c m ob vl vh { st with s := s' } wsk wr ∧ Good (rdP16 t.L) s' (ex ++ (st.h ++ []))) (fun i _ => R - (intOf i).toNat)
      case atStart => exact ⟨0, st.s, _, [], rfl, by rw [HR.out]; omega, rfl, HOB.out, HRAN.out.good⟩
      case round =>
        obtain ⟨j, s', wsk, ex, rfl, hroom, hex, how, hgd⟩ := hrel
        have HOK := hid how
        have HGD := hid hgd
        have hrl := HRL.out
        have HTK := hid (ctake_any w0 F t p g h c m s' wsk (rdP16 t.L) (ex ++ (st.h ++ [])) _ how.cw hgd (by have := HHL.out; simp only [List.length_append, List.length_nil]; omega))
        clear q0 q1 q2 q3 q4 hobl
        obtain ⟨q0, q1, q2, q3, q4⟩ := HOK.out.own.five
        have hobl := HOK.out.own.lt
        rcases takC_case hgd with ⟨k, s2, hk, T⟩ | ⟨hk, hz⟩
        · have hlt : j < R := by have := T.room; omega
          have d1 : decide ((j : Int) < (R : Int)) = true := by simp; omega
          rw [hk] at HTK
          have HG2 := hid (T.good hgd)
          have HRM := hid (show j + 1 + (freeN s2.fs + s2.sl.countP (loB s2.fs)) = R by have := T.room; omega)
          have HC1 := hid (show cntF s2.fs (k : Int) = 1 by
            have hl2 : k < s2.fs.length := by rw [T.fs, List.length_set]; exact T.lt
            rw [cntF_at hl2]
            simp only [T.fs, List.getElem_set_self]
            rfl)
          clear how hgd hk T
          go_wp2_with fail
          refine (HTK.out).mono ?_
          rintro e w9 ⟨rfl, ⟨ws9, hc9⟩, he9⟩
          have HOK9 := hid (HOK.out.call hc9 he9)
          have HCC := hid (count_any p g h s2.fs ws9 (k : Int) w9 hc9.pool)
          rw [HC1.out] at HCC
          clear hc9 he9 q0 q1 q2 q3 q4 hobl
          obtain ⟨q0, q1, q2, q3, q4⟩ := HOK9.out.own.five
          have hobl := HOK9.out.own.lt
          go_wp2_with fail
          refine (HCC.out).mono ?_
          rintro e wx ⟨rfl, rfl⟩
          go_wp2_with fail
          go_roundw
          case rel => exact ⟨j + 1, s2, ws9, k :: ex, by go_num, HRM.out, by simp; omega, HOK9.out, HG2.out⟩
          case measure => simp [intOf]; omega
        · have hlt : j = R := by omega
          have d1 : decide ((j : Int) < (R : Int)) = false := by simp; omega
          rw [hk] at HTK
          have HBZ := hid (fun (W : World) (hl : Below w0.heap.size w0 W) => HLOW.out W hl)
          clear how hgd hk
          go_wp2_with fail
          refine (HTK.out).mono ?_
          rintro e w9 ⟨rfl, ⟨ws9, hc9⟩, he9⟩
          have HB9 := hid (HLOW.out w9 hc9.low)
          clear hc9 he9
          go_wp2_with fail
          refine (HWK.out w9 HB9.out).mono ?_
          rintro e wk ⟨rfl, hbk⟩
          have HBK := hid (bthen HB9.out hbk)
          clear hbk
          go_wp2_with fail
          go_ret
          exact ⟨rfl, HBK.out⟩
end Go.Proofs.YtlfgogjjnekfpaaDoor
