
/- CacheCounts: the walk. -/
import Derived.Test.YtlfgogjjnekfpaaDoorBcL
namespace Go.Proofs.YtlfgogjjnekfpaaDoor
open Go.RowKit Go.Sort Go.Shelf Go.WideMaps Go.Maps Go.WideShapes Go.WideElems Go.MapKept Go.ChangeMaps
attribute [local go_sem] Oper.semAt_some

set_option maxRecDepth 100000 in
set_option maxHeartbeats 8000000 in
theorem cacheCounts_walk (a : Option Addr) (cap : Nat) (xs : List EN) (N : Int) (oa : Option Addr) (oc : Nat) (l : List O8) (w : World) (hX : EntsIn w a xs.length xs) (hO : Ops8 w oa l) (hT : Tb w) :
    Calls Tryd.prog 4 #[flV a xs.length cap N, .slice oa l.length oc] w fun e w' => e = .returned (.bool true) ∧ Below w.heap.size w w' := by
  obtain ⟨wb, hwb⟩ : ∃ wb, wb = w.alloc (.cells #[.slice a xs.length cap, .int .i64 N] 43) := ⟨_, rfl⟩
  have HBB := hid (show Below w.heap.size w wb by rw [hwb]; exact bal _)
  have HRX := hid (show Row wb w.heap.size 43 [.slice a xs.length cap, .int .i64 N] by rw [hwb]; exact Row.new w _ _)
  have HX := hid (show EntsIn wb a xs.length xs from hX.below HBB.out)
  have HO := hid (hO.below HBB.out)
  have HT := hid hT
  have HWB := hid hwb
  have HWK := hid (fun (W : World) (hb : Below w.heap.size w W) => works08_any W (fun j hj => St.cell (HT.out j hj) hb))
  have HVA := hid (vast8_any a cap xs N oa l.length oc wb HX.out)
  clear hX hO hT hwb
  unfold flV at HVA ⊢
  go_enter Tryd.func4, Tryd.ntmps4
  go_wp2_with fail
  rw [← HWB.out]
  refine (HVA.out).mono ?_
  rintro e w1 ⟨vb, rfl, hb1, hvs⟩
  have HB1 := hid (bthen HBB.out hb1)
  have HBX := hid hb1
  have HVS := hid hvs
  have HRX1 := hid (HRX.out.below hb1 HRX.out.lt)
  clear hb1 hvs
  obtain ⟨x0, x1⟩ := HRX1.out.two
  have hxl := HRX1.out.lt
  rcases vb with _ | _
  rotate_left
  · go_wp2_with fail
    refine (HWK.out w1 HB1.out).mono ?_
    rintro e wk ⟨rfl, hbk⟩
    have HBK := hid (bthen HB1.out hbk)
    clear hbk
    go_wp2_with fail
    go_ret
    exact ⟨rfl, HBK.out⟩
  have HS := hid (HVS.out rfl)
  have HOM := hid (⟨Rk.nil _ _ _, fun o ho => (by cases ho)⟩ : Ops8 w1 none [])
  have HMA := hid (made8_any a cap xs N none 0 [] w1 ((HX.out.below HBX.out).small8 HS.out.1) HS.out.2.1 HS.out.2.2.1 HOM.out (Nat.zero_le _) (fun j hj => St.cell (HT.out j hj) HB1.out))
  unfold flV at HMA
  rw [List.length_nil] at HMA
  go_wp2_with fail
  refine (HMA.out).mono ?_
  rintro e w2 hm
  clear x0 x1 hxl
  rcases hm with ⟨rfl, hb⟩ | ⟨w0, F, t, p, g, h, c, m, ob, vl, vh, ws, n, rfl, how, hb0, hn1, hn2⟩
  · have HB2 := hid (bthen HB1.out hb)
    clear hb
    go_wp2_with fail
    refine (HWK.out w2 HB2.out).mono ?_
    rintro e wk ⟨rfl, hbk⟩
    have HBK := hid (bthen HB2.out hbk)
    clear hbk
    go_wp2_with fail
    go_ret
    exact ⟨rfl, HBK.out⟩
  have HOW := hid how
  have HBW := hid (bthen HB1.out hb0)
  have HBY := hid (bthen HBX.out hb0)
  have HN := hid (⟨hn1, hn2⟩ : 1 ≤ n ∧ n ≤ 64)
  have HRAN := hid (run8_ran (good08 (rdP16 t.L) n) (rdP16_len t.L) [])
  have HLOW := hid (fun (W : World) (hl : Below w0.heap.size w0 W) => show Below w.heap.size w W from HBW.out.trans (hl.mono HBW.out.size))
  clear how hb0 hn1 hn2
  obtain ⟨q0, q1, q2, q3, q4⟩ := HOW.out.own.five
  clear q0 q1 q2 q3 q4
  have HLL := hid (show l.length ≤ 200 from HS.out.2.2.2)
  go_wp2_with fail
  go_loopw [6] (fun i wr => ∃ (k : Nat) (vl vh : Value) (wsk : List Nat), k ≤ l.length ∧ i = .int .i64 k ∧ OW w0 F t p g h c m ob vl vh (run8 (rdP16 t.L) (st08 n) (l.take k)) wsk wr) (fun i _ => l.length - (intOf i).toNat)
  case atStart => exact ⟨0, _, _, ws, Nat.zero_le _, rfl, HOW.out⟩
  case round =>
    obtain ⟨k, vl, vh, wsk, hk, rfl, how⟩ := hrel
    have HOK := hid how
    have HOR := hid (HO.out.below (HBY.out.trans (how.cw.low.mono HBY.out.size)))
    have hol := HLL.out
    clear how
    by_cases hlt : k < l.length
    · have d1 : decide ((k : Int) < (l.length : Int)) = true := by simp; omega
      have d1n : decide (k < l.length) = true := by simp; omega
      have hran := run8_ran (good08 (rdP16 t.L) n) (rdP16_len t.L) (l.take k)
      have hlk : (l.take k).length = k := by rw [List.length_take]; omega
      rw [hlk] at hran
      have HDO := hid (does_any8 w0 F t p g h c m ob vl vh _ [] wsk l[k] _ HOK.out hran.good (HOR.out.ok _ (List.getElem_mem hlt)).1 (HOR.out.ok _ (List.getElem_mem hlt)).2 (by have := hran.hh; have z : (st08 n).h.length = 0 := rfl; rw [List.append_nil]; omega) (by have := hran.ll; have z : (st08 n).l.length = 0 := rfl; omega) (by have := hran.tn; have z : (st08 n).s.tn = 0 := rfl; omega))
      rw [← run8_snoc, ← List.take_succ_eq_append_getElem hlt] at HDO
      have hran1 := run8_ran (good08 (rdP16 t.L) n) (rdP16_len t.L) (l.take (k + 1))
      have hlk1 : (l.take (k + 1)).length = k + 1 := by rw [List.length_take]; omega
      rw [hlk1] at hran1
      have HRAK := hid hran1
      obtain ⟨b, o, rfl, hcell⟩ := HOR.out.rows.some_of (by simp; omega)
      have gq := fun j hj => hcell k (by simpa using hlt) j hj
      have e9 : (l.map o8C)[k]'(by simpa using hlt) = o8C l[k] := by simp
      rw [e9] at gq
      have g0 := gq 0 (by simp [o8C])
      have g1 := gq 1 (by simp [o8C])
      have g2 := gq 2 (by simp [o8C])
      have g3 := gq 3 (by simp [o8C])
      simp only [o8C, List.getElem_cons_zero, List.getElem_cons_succ, Nat.add_zero] at g0 g1 g2 g3
      clear gq e9
      unfold opV at HDO
      clear hran hlk hcell hran1 hlk1
      generalize l[k] = oo at *
      go_wp2_with fail
      refine (HDO.out).mono ?_
      rintro e w7 ⟨rfl, vl7, vh7, ws7, how⟩
      have HOK7 := hid how
      clear how g0 g1 g2 g3 HDO
      obtain ⟨st, hst⟩ : ∃ st, st = run8 (rdP16 t.L) (st08 n) (l.take (k + 1)) := ⟨_, rfl⟩
      have HST := hid hst
      rw [← hst] at HOK7 HRAK
      clear hst
      have HHL := hid (show st.h.length ≤ 201 by have := HRAK.out.hh; have z : (st08 n).h.length = 0 := rfl; omega)
      have HSL := hid (slots_any w0 F t p g h c m st.s ws7 (rdP16 t.L) (st.h ++ []) w7 HOK7.out.cw HRAK.out.good)
      obtain ⟨q0, q1, q2, q3, q4⟩ := HOK7.out.own.five
      have hobl := HOK7.out.own.lt
      go_wp2_with fail
      refine (HSL.out).mono ?_
      rintro e w8 ⟨v, sl, rfl, hpm, hpw, ho, hb⟩
      have H8 := hid (HOK7.out.below hb)
      obtain ⟨va, vc, rfl, hrk, _⟩ := own_rk ho (by intro r hr; obtain ⟨x, _, rfl⟩ := List.mem_map.1 hr; rfl) (by omega)
      have HRK := hid hrk
      have HPM := hid hpm
      have HPW := hid hpw
      have HSN := hid (show sl.length ≤ 1000000 by have := hpm.length_eq; have := HRAK.out.good.many; have := HRAK.out.tn; have z : (st08 n).s.tn = 0 := rfl; omega)
      clear hpm hpw ho hb hrk q0 q1 q2 q3 q4 hobl
      obtain ⟨q0, q1, q2, q3, q4⟩ := H8.out.own.five
      have hobl := H8.out.own.lt
      have HSZ := hid (size_any p g h st.s.fs ws7 w8 H8.out.cw.pool)
      have HFL := hid (show st.s.fs.length ≤ 1024 from H8.out.cw.pool.n2)
      go_wp2_with fail
      go_loopw [8] (fun i wr => w8 = wr ∧ ∃ j : Nat, j ≤ st.s.fs.length ∧ i = .int .i64 j) (fun i _ => st.s.fs.length - (intOf i).toNat)
      case atStart => exact ⟨rfl, 0, Nat.zero_le _, rfl⟩
      case round =>
        obtain ⟨rfl, j, hj, rfl⟩ := hrel
        have hfl := HFL.out
        by_cases hjt : j < st.s.fs.length
        · have d2 : decide ((j : Int) < (st.s.fs.length : Int)) = true := by simp; omega
          have HCT := hid (count_any p g h st.s.fs ws7 (j : Int) w8 H8.out.cw.pool)
          have hcn := HRAK.out.good.cnt j hjt
          rw [List.append_nil, ← HPM.out.countP_eq] at hcn
          rw [cntF_at hjt, hcn] at HCT
          have HHE := hid (H8.out.held (by have := HHL.out; omega) j)
          have hch : st.h.count j ≤ 201 := Nat.le_trans List.count_le_length HHL.out
          have HCH := hid hch
          clear hcn hch
          generalize st.h.count j = ch at *
          go_wp2_with fail
          refine (HSZ.out).mono ?_
          rintro e wx ⟨rfl, rfl⟩
          go_wp2_with fail
          refine (HHE.out).mono ?_
          rintro e wx ⟨rfl, rfl⟩
          go_wp2_with fail
          go_loopw [9, 10] (fun nn kk wr => w8 = wr ∧ ∃ q : Nat, q ≤ sl.length ∧ kk = .int .i64 q ∧ nn = .int .i64 ((ch + (sl.take q).countP (fun x => decide (x.f = (j : Int))) : Nat) : Int)) (fun _ kk _ => sl.length - (intOf kk).toNat)
          case atStart => exact ⟨rfl, 0, Nat.zero_le _, rfl, by simp⟩
          case round =>
            obtain ⟨rfl, q, hq, rfl, rfl⟩ := hrel
            have hsn := HSN.out
            have hch := HCH.out
            by_cases hqt : q < sl.length
            · have d3 : decide ((q : Int) < (sl.length : Int)) = true := by simp; omega
              have d3n : decide (q < sl.length) = true := by simp; omega
              obtain ⟨b, o, rfl, hcell⟩ := HRK.out.some_of (by simp; omega)
              have gq := fun j hj => hcell q (by simpa using hqt) j hj
              have e9 : (sl.map slC)[q]'(by simpa using hqt) = slC sl[q] := by simp
              rw [e9] at gq
              have g0 := gq 0 (by simp [slC])
              have g1 := gq 1 (by simp [slC])
              have g2 := gq 2 (by simp [slC])
              simp only [slC, List.getElem_cons_zero, List.getElem_cons_succ, Nat.add_zero] at g0 g1 g2
              clear gq e9
              have HT' := hid (show (sl.take (q + 1)).countP (fun x => decide (x.f = (j : Int))) = (sl.take q).countP (fun x => decide (x.f = (j : Int))) + (if sl[q].f = (j : Int) then 1 else 0) by
                rw [List.take_succ_eq_append_getElem hqt, List.countP_append, List.countP_singleton]
                simp)
              have hcl : (sl.take q).countP (fun x => decide (x.f = (j : Int))) ≤ sl.length := Nat.le_trans List.countP_le_length (by rw [List.length_take]; omega)
              generalize (sl.take q).countP (fun x => decide (x.f = (j : Int))) = cq at *
              generalize sl[q] = y at *
              clear hcell g0 g1
              by_cases hy : y.f = (j : Int)
              · have d4b : (y.f == (j : Int)) = true := by simpa using hy
                rw [if_pos hy] at HT'
                clear hy
                go_wp2_with fail
                go_roundw
                case rel => exact ⟨trivial, q + 1, by omega, by go_num, by rw [HT'.out]; go_num⟩
                case measure => simp [intOf]; omega
              · have d4b : (y.f == (j : Int)) = false := by simpa using hy
                rw [if_neg hy] at HT'
                clear hy
                go_wp2_with fail
                go_roundw
                case rel => exact ⟨trivial, q + 1, by omega, by go_num, by rw [HT'.out]; rfl⟩
                case measure => simp [intOf]; omega
            · have d3 : decide ((q : Int) < (sl.length : Int)) = false := by simp; omega
              have d3n : decide (q < sl.length) = false := by simp; omega
              obtain rfl : q = sl.length := by omega
              rw [List.take_length]
              obtain ⟨cn, hcn⟩ : ∃ cn : Int, cn = ((ch + sl.countP (fun x => decide (x.f = (j : Int))) : Nat) : Int) := ⟨_, rfl⟩
              rw [← hcn] at HCT ⊢
              have e1 : (cn != cn) = false := by simp
              clear hcn
              go_wp2_with fail
              refine (HCT.out).mono ?_
              rintro e wx ⟨rfl, rfl⟩
              go_wp2_with fail
              go_roundw
              case rel => exact ⟨trivial, j + 1, by omega, by go_num⟩
              case measure => simp [intOf]; omega
        · have d2 : decide ((j : Int) < (st.s.fs.length : Int)) = false := by simp; omega
          go_wp2_with fail
          refine (HSZ.out).mono ?_
          rintro e wx ⟨rfl, rfl⟩
          go_wp2_with fail
          go_loopw [11] (fun i wr => Below w8.heap.size w8 wr ∧ ∃ q : Nat, (q ≤ sl.length ∨ q = 0) ∧ i = .int .i64 ((q : Int) + 1)) (fun i _ => sl.length + 1 - (intOf i).toNat)
          case atStart => exact ⟨Below.refl _ _, 0, .inr rfl, rfl⟩
          case round =>
            obtain ⟨hbq, q, hq, rfl⟩ := hrel
            have HBQ := hid hbq
            have hsn := HSN.out
            by_cases hqt : q + 1 < sl.length
            · have d3 : decide ((q : Int) + 1 < (sl.length : Int)) = true := by simp; omega
              have d3n : decide (q + 1 < sl.length) = true := by simp; omega
              have d3m : decide (q < sl.length) = true := by simp; omega
              obtain ⟨b, o, rfl, hcell⟩ := (HRK.out.below' hbq).some_of (by simp; omega)
              have hq0 : q < sl.length := by omega
              have gq := fun j hj => hcell q (by simpa using hq0) j hj
              have e9 : (sl.map slC)[q]'(by simpa using hq0) = slC sl[q] := by simp
              rw [e9] at gq
              have g0 := gq 0 (by simp [slC])
              have g1 := gq 1 (by simp [slC])
              have g2 := gq 2 (by simp [slC])
              simp only [slC, List.getElem_cons_zero, List.getElem_cons_succ, Nat.add_zero] at g0 g1 g2
              clear gq e9
              have gq := fun j hj => hcell (q + 1) (by simpa using hqt) j hj
              have e9 : (sl.map slC)[(q + 1)]'(by simpa using hqt) = slC sl[(q + 1)] := by simp
              rw [e9] at gq
              have f0 := gq 0 (by simp [slC])
              have f1 := gq 1 (by simp [slC])
              have f2 := gq 2 (by simp [slC])
              simp only [slC, List.getElem_cons_zero, List.getElem_cons_succ, Nat.add_zero] at f0 f1 f2
              clear gq e9
              have hbf : befS sl[q] sl[q + 1] := List.pairwise_iff_getElem.1 HPW.out q (q + 1) hq0 hqt (by omega)
              have es : (q : Int) + 1 - 1 = (q : Int) := by omega
              have i1 : (0 : Int) ≤ (q : Int) + 1 := by omega
              have i2 : (q : Int) + 1 < (sl.length : Int) := by omega
              have i3 : (0 : Int) ≤ (q : Int) := by omega
              have i4 : (q : Int) < (sl.length : Int) := by omega
              have i5 : ((q : Int) + 1).toNat = q + 1 := by omega
              generalize sl[q] = y at *
              generalize sl[q + 1] = z at *
              clear hcell g2 f2 hbq
              unfold befS at hbf
              by_cases hy : y.i < z.i
              · have d4 : decide (y.i < z.i) = true := decide_eq_true hy
                clear hy hbf
                go_wp2_with fail
                go_quiet (fail)
                go_wp2_with fail
                go_roundw
                case rel => exact ⟨bdN HBQ.out _, q + 1, .inl (by omega), by go_num⟩
                case measure => simp [intOf]; omega
              · have d4 : decide (y.i < z.i) = false := decide_eq_false hy
                have d5 : (y.i == z.i) = true := by simp; omega
                have d6 : decide (y.p < z.p) = true := decide_eq_true (by omega)
                clear hy hbf
                go_wp2_with fail
                go_quiet (fail)
                go_wp2_with fail
                go_roundw
                case rel => exact ⟨bdN HBQ.out _, q + 1, .inl (by omega), by go_num⟩
                case measure => simp [intOf]; omega
            · have d3 : decide ((q : Int) + 1 < (sl.length : Int)) = false := by simp; omega
              have H9 := hid (HST.out ▸ (H8.out.below hbq))
              go_wp2_with fail
              go_roundw
              case rel => exact ⟨k + 1, _, _, _, by omega, by go_num, H9.out⟩
              case measure => simp [intOf]; omega
    · have d1 : decide ((k : Int) < (l.length : Int)) = false := by simp; omega
      have d1n : decide (k < l.length) = false := by simp; omega
      have HBZ := hid (HLOW.out _ HOK.out.cw.low)
      go_wp2_with fail
      refine (HWK.out _ HBZ.out).mono ?_
      rintro e wk ⟨rfl, hbk⟩
      have HBK := hid (bthen HBZ.out hbk)
      clear hbk
      go_wp2_with fail
      go_ret
      exact ⟨rfl, HBK.out⟩
end Go.Proofs.YtlfgogjjnekfpaaDoor
