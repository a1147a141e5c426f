
/- CacheHolds: the walk. -/
import Derived.Test.YtlfgogjjnekfpaaDoorBcO
namespace Go.Proofs.YtlfgogjjnekfpaaDoor
open Go.RowKit Go.Sort Go.Shelf Go.WideMaps Go.Maps Go.WideShapes Go.WideElems Go.MapKept Go.ChangeMaps
attribute [local go_sem] Oper.semAt_some

def Has (sl : List SLO) (i p : Int) (k : Nat) : Prop := ∃ y ∈ sl, y.i = i ∧ y.p = p ∧ y.f = (k : Int)
theorem does8_has {rd : Int → Int → List UInt8 × Int} {st : S8} {k : Nat} {i p : Int} (o : O8) (G : Good rd st.s (st.h ++ [k])) (hr : ∀ i p, (rd i p).1.length ≤ 4096) (h : Has st.s.sl i p k) (h4 : ¬ o.kind = 4) : Has (does8 rd st o).s.sl i p k := by
  obtain ⟨y, hy, hi, hp, hf⟩ := h
  have hk : 1 ≤ (st.h ++ [k]).count k := by simp [List.count_append]
  have same : Has st.s.sl i p k := ⟨y, hy, hi, hp, hf⟩
  unfold does8
  by_cases k0 : o.kind = 0
  · rw [if_pos k0]
    rcases getC_case G o.i o.p hr with ⟨e, h1, h2, _⟩ | ⟨m, s', h1, h2⟩
    · rw [h1]
      simp only [if_neg h2]
      exact same
    · rw [h1]
      simp only [if_true]
      obtain ⟨z, hz, e1, e2, e3⟩ := h2.stays y hy k hf hk
      exact ⟨z, hz, e1.trans hi, e2.trans hp, e3.trans hf⟩
  · rw [if_neg k0]
    by_cases k1 : o.kind = 1
    · rw [if_pos k1]
      rcases takC_case G with ⟨m, s', h1, T⟩ | ⟨h1, _⟩
      · rw [h1]
        simp only [if_true]
        exact ⟨y, T.stays y hy k hf hk, hi, hp, hf⟩
      · rw [h1]
        simp only [show ¬ ((4 : Int) = 0) by decide, if_false]
        exact same
    · rw [if_neg k1]
      by_cases k2 : o.kind = 2
      · rw [if_pos k2]
        cases atP st.l o.n with
        | none => exact same
        | some f =>
          simp only
          split
          · exact same
          · exact same
      · rw [if_neg k2]
        by_cases k3 : o.kind = 3
        · rw [if_pos k3]
          cases atP st.h o.n with
          | none => exact same
          | some f => exact same
        · rw [if_neg k3, if_neg h4]
          exact same
theorem takE_zero {fs : List FR} {k : Nat} (hk : k < fs.length) (hc : fs[k].cnt ≠ 0) : takE fs (k : Int) = 0 := by
  unfold takE
  rw [cntF_at hk, if_neg hc]
/-- What is loaded of a page that is in a slot. -/
theorem load_slot {rd : Int → Int → List UInt8 × Int} {s : CC} {hx : List Nat} (G : Good rd s hx) {i p : Int} {k : Nat} (h : Has s.sl i p k) : loadE s.fs (k : Int) 0 4096 = 0 ∧ loadL s.fs (k : Int) 0 4096 = b2i (rd i p).1 ++ List.replicate (4096 - (rd i p).1.length) 0 := by
  obtain ⟨y, hy, rfl, rfl, hf⟩ := h
  obtain ⟨f, e, hl, hc⟩ := G.cntF hy
  obtain rfl : f = k := by rw [hf] at e; omega
  have := load_all8 G.lens hl (by rw [hc]; omega)
  exact ⟨this.1, this.2.trans (G.bytes y hy f hf hl)⟩
theorem Has.hit {rd : Int → Int → List UInt8 × Int} {s : CC} {hx : List Nat} (G : Good rd s hx) {i p : Int} {k : Nat} (h : Has s.sl i p k) : ∃ s2, getC rd s i p = ((k : Int), 0, s2) ∧ s2.fs = s.fs := by
  obtain ⟨y, hy, rfl, rfl, hf⟩ := h
  rw [← hf]
  exact getC_hit G hy

set_option maxRecDepth 100000 in
set_option maxHeartbeats 8000000 in
theorem cacheHolds_walk (a : Option Addr) (cap : Nat) (xs : List EN) (N : Int) (oa : Option Addr) (oc : Nat) (l : List O8) (ob2 : Option Addr) (oc2 : Nat) (l2 : List O8) (ino pg : Int) (hi : I64 ino) (hp : I64 pg) (w : World) (hX : EntsIn w a xs.length xs) (hO : Ops8 w oa l) (hT : Tb w) (hO2 : Ops8 w ob2 l2) :
    Calls Tryd.prog 6 #[flV a xs.length cap N, .slice oa l.length oc, .slice ob2 l2.length oc2, .int .i64 ino, .int .i64 pg] w fun e w' => e = .returned (.bool true) ∧ Below w.heap.size w w' := by
  obtain ⟨wb, hwb⟩ : ∃ wb, wb = w.alloc (.cells #[.slice a xs.length cap, .int .i64 N] 43) := ⟨_, rfl⟩
  have HBB := hid (show Below w.heap.size w wb by rw [hwb]; exact bal _)
  have HRX := hid (show Row wb w.heap.size 43 [.slice a xs.length cap, .int .i64 N] by rw [hwb]; exact Row.new w _ _)
  have HX := hid (show EntsIn wb a xs.length xs from hX.below HBB.out)
  have HO := hid (hO.below HBB.out)
  have HT := hid hT
  have HWB := hid hwb
  have HWK := hid (fun (W : World) (hb : Below w.heap.size w W) => works08_any W (fun j hj => St.cell (HT.out j hj) hb))
  have HVA := hid (vast8_any a cap xs N oa l.length oc wb HX.out)
  clear hX hO hT hwb
  unfold flV at HVA ⊢
  go_enter Tryd.func6, Tryd.ntmps6
  go_wp2_with fail
  rw [← HWB.out]
  have HI := hid hi
  have HP := hid hp
  have HO2 := hid (hO2.below HBB.out)
  clear hi hp hO2
  refine (HVA.out).mono ?_
  rintro e w1 ⟨vb, rfl, hb1, hvs⟩
  have HB1 := hid (bthen HBB.out hb1)
  have HBX := hid hb1
  have HVS := hid hvs
  have HRX1 := hid (HRX.out.below hb1 HRX.out.lt)
  clear hb1 hvs
  obtain ⟨x0, x1⟩ := HRX1.out.two
  have hxl := HRX1.out.lt
  rcases vb with _ | _
  rotate_left
  · go_wp2_with fail
    refine (HWK.out w1 HB1.out).mono ?_
    rintro e wk ⟨rfl, hbk⟩
    have HBK := hid (bthen HB1.out hbk)
    clear hbk
    go_wp2_with fail
    go_ret
    exact ⟨rfl, HBK.out⟩
  have HS := hid (HVS.out rfl)
  have HVA2 := hid (vast8_any a cap xs N ob2 l2.length oc2 w1 (HX.out.below HBX.out))
  unfold flV at HVA2
  go_wp2_with fail
  refine (HVA2.out).mono ?_
  rintro e w2 ⟨vb, rfl, hb1, hvs⟩
  have HB1b := hid (bthen HB1.out hb1)
  have HBX2 := hid hb1
  have HVS2 := hid hvs
  have HRX2 := hid (HRX1.out.below hb1 HRX1.out.lt)
  clear hb1 hvs
  clear x0 x1 hxl
  obtain ⟨x0, x1⟩ := HRX2.out.two
  have hxl := HRX2.out.lt
  rcases vb with _ | _
  rotate_left
  · go_wp2_with fail
    refine (HWK.out w2 HB1b.out).mono ?_
    rintro e wk ⟨rfl, hbk⟩
    have HBK := hid (bthen HB1b.out hbk)
    clear hbk
    go_wp2_with fail
    go_ret
    exact ⟨rfl, HBK.out⟩
  have HS2 := hid (HVS2.out rfl)
  have HBX3 := hid (bthen HBX.out HBX2.out)
  have HOM := hid (HO.out.below HBX3.out)
  have HMA := hid (made8_any a cap xs N oa oc l w2 ((HX.out.below HBX3.out).small8 HS.out.1) HS.out.2.1 HS.out.2.2.1 HOM.out (HS.out.2.2.2) (fun j hj => St.cell (HT.out j hj) HB1b.out))
  unfold flV at HMA
  go_wp2_with fail
  refine (HMA.out).mono ?_
  rintro e w3 hm
  clear x0 x1 hxl
  rcases hm with ⟨rfl, hb⟩ | ⟨w0, F, t, p, g, h, c, m, ob, vl, vh, ws, n, rfl, how, hb0, hn1, hn2, hkd⟩
  · have HB2 := hid (bthen HB1b.out hb)
    clear hb
    go_wp2_with fail
    refine (HWK.out w3 HB2.out).mono ?_
    rintro e wk ⟨rfl, hbk⟩
    have HBK := hid (bthen HB2.out hbk)
    clear hbk
    go_wp2_with fail
    go_ret
    exact ⟨rfl, HBK.out⟩
  have HOW := hid how
  have HBW := hid (bthen HB1b.out hb0)
  have HBY := hid (bthen HBX3.out hb0)
  have HN := hid (⟨hn1, hn2⟩ : 1 ≤ n ∧ n ≤ 64)
  have HRAN := hid (run8_ran (good08 (rdP16 t.L) n) (rdP16_len t.L) l)
  have HLOW := hid (fun (W : World) (hl : Below w0.heap.size w0 W) => show Below w.heap.size w W from HBW.out.trans (hl.mono HBW.out.size))
  have HKD := hid hkd
  clear how hb0 hn1 hn2 hkd
  obtain ⟨st, hst⟩ : ∃ st, st = run8 (rdP16 t.L) (st08 n) l := ⟨_, rfl⟩
  rw [← hst] at HOW HRAN
  have HGT := hid (get_any w0 F t p g h c m st.s ws (st.h ++ []) ino pg w3 HOW.out.cw HRAN.out.good (by have := HRAN.out.hh; have := HS.out.2.2.2; have z : (st08 n).h.length = 0 := rfl; rw [List.append_nil]; omega) (by have := HRAN.out.tn; have := HS.out.2.2.2; have z : (st08 n).s.tn = 0 := rfl; omega) HI.out HP.out)
  have HHL := hid (show st.h.length ≤ 200 by have := HRAN.out.hh; have := HS.out.2.2.2; have z : (st08 n).h.length = 0 := rfl; omega)
  have HLL := hid (show st.l.length ≤ 200 by have := HRAN.out.ll; have := HS.out.2.2.2; have z : (st08 n).l.length = 0 := rfl; omega)
  have HTN := hid (show st.s.tn ≤ 200 by have := HRAN.out.tn; have := HS.out.2.2.2; have z : (st08 n).s.tn = 0 := rfl; omega)
  have HL2 := hid (show l2.length ≤ 200 from HS2.out.2.2.2)
  obtain ⟨q0, q1, q2, q3, q4⟩ := HOW.out.own.five
  have hobl := HOW.out.own.lt
  clear hst
  go_wp2_with fail
  refine (HGT.out).mono ?_
  rintro e w4 ⟨rfl, ⟨ws4, hc4⟩, he4⟩
  clear q0 q1 q2 q3 q4 hobl
  rcases getC_case HRAN.out.good ino pg (rdP16_len t.L) with ⟨er, hg, hne, _⟩ | ⟨k, s', hg, hgot⟩
  · rw [hg] at hc4 ⊢
    simp only at hc4 ⊢
    have HB4 := hid (HLOW.out w4 hc4.low)
    have d1 : (er != 0) = true := by simpa using hne
    clear hg hne hc4 he4
    go_wp2_with fail
    refine (HWK.out w4 HB4.out).mono ?_
    rintro e wk ⟨rfl, hbk⟩
    have HBK := hid (bthen HB4.out hbk)
    clear hbk
    go_wp2_with fail
    go_ret
    exact ⟨rfl, HBK.out⟩
  · rw [hg] at hc4 ⊢
    simp only at hc4 ⊢
    have H4 := hid (HOW.out.call hc4 he4)
    have hk4 : k < s'.fs.length := by rw [hgot.len]; exact hgot.lt
    have hcn : s'.fs[k].cnt ≠ 0 := by
      obtain ⟨y, hy, _, _, hyf⟩ := hgot.slot
      obtain ⟨f, e, hf, hc⟩ := hgot.good.cntF hy
      obtain rfl : f = k := by rw [hyf] at e; omega
      rw [hc]; omega
    have HUC := hid (up_any p g h s'.fs ws4 (k : Int) w4 hc4.pool (fun x hx => by have h7 := hgot.good.small x hx; have := hgot.tn; have := HTN.out; have := HHL.out; rw [List.append_nil] at h7; omega))
    rw [takE_zero hk4 hcn] at HUC
    obtain ⟨s5, hs5⟩ : ∃ s5 : CC, s5 = { s' with fs := upS s'.fs (k : Int) } := ⟨_, rfl⟩
    have HG5 := hid (show Good (rdP16 t.L) s5 (st.h ++ [k]) by rw [hs5]; exact (hgot.good.up hk4 hcn).perm (by rw [List.append_nil]; exact (List.perm_append_singleton k st.h).symm))
    have HH5 := hid (show Has s5.sl ino pg k by rw [hs5]; exact hgot.slot)
    have HT5 := hid (show s5.tn ≤ 201 by rw [hs5]; have := hgot.tn; have := HTN.out; show s'.tn ≤ 201; omega)
    have HS5 := hid hs5
    obtain ⟨q0, q1, q2, q3, q4⟩ := H4.out.own.five
    have hobl := H4.out.own.lt
    clear hg hgot hc4 he4 hk4 hcn hs5
    go_wp2_with fail
    refine (HUC.out).mono ?_
    rintro e w5 ⟨rfl, hp5, he5⟩
    have H5 := hid (show OW nK w0 F t p g h c m ob vl vh { st with s := s5 } ws4 w5 by rw [HS5.out]; exact H4.out.call (H4.out.cw.pool' hp5 he5) (ex_cS he5))
    have HLD := hid (load_any p g h s5.fs ws4 (k : Int) 0 4096 w5 H5.out.cw.pool)
    have hla := load_slot HG5.out HH5.out
    obtain ⟨L, hL⟩ : ∃ L, L = b2i (rdP16 t.L ino pg).1 ++ List.replicate (4096 - (rdP16 t.L ino pg).1.length) (0 : Int) := ⟨_, rfl⟩
    have HLE := hid hL
    have HLN := hid (show L.length ≤ 1000000 by rw [hL, List.length_append, b2i_len, List.length_replicate]; have := rdP16_len t.L ino pg; omega)
    rw [hla.1, hla.2, ← hL] at HLD
    clear hp5 he5 hla hL
    clear q0 q1 q2 q3 q4 hobl
    obtain ⟨q0, q1, q2, q3, q4⟩ := H5.out.own.five
    have hobl := H5.out.own.lt
    go_wp2_with fail
    refine (HLD.out).mono ?_
    rintro e w6 ⟨vK, rfl, ho6, hb6⟩
    obtain ⟨aK, cK, rfl⟩ := own_hdI ho6
    have HB56 := hid (H5.out.below hb6)
    have H6 := hid (show OW ⟨w5.heap.size, .slice aK L.length cK, L.length, L.map u8I⟩ w0 F t p g h c m ob vl vh { st with s := s5 } ws4 w6 from ⟨HB56.out.own, HB56.out.cw, HB56.out.ll, HB56.out.hh, HB56.out.lo, HB56.out.ne, ho6⟩)
    clear ho6 hb6
    clear q0 q1 q2 q3 q4 hobl
    obtain ⟨K, hK⟩ : ∃ K : KP, K = ⟨w5.heap.size, .slice aK L.length cK, L.length, L.map u8I⟩ := ⟨_, rfl⟩
    have HK := hid hK
    rw [← hK] at H6
    clear hK
    go_wp2_with fail
    go_loopw [16] (fun i wr => ∃ (q : Nat) (vlq vhq : Value) (wsq : List Nat) (sq : S8), q ≤ l2.length ∧ i = .int .i64 q ∧ OW K w0 F t p g h c m ob vlq vhq sq wsq wr ∧ Good (rdP16 t.L) sq.s (sq.h ++ [k]) ∧ Has sq.s.sl ino pg k ∧ sq.h.length ≤ 201 + q ∧ sq.l.length ≤ 201 + q ∧ sq.s.tn ≤ 201 + q) (fun i _ => l2.length - (intOf i).toNat)
    case atStart => exact ⟨0, _, _, _, _, Nat.zero_le _, rfl, H6.out, HG5.out, HH5.out, by have := HHL.out; show st.h.length ≤ _; omega, by have := HLL.out; show st.l.length ≤ _; omega, by have := HT5.out; show s5.tn ≤ _; omega⟩
    case round =>
      obtain ⟨q, vlq, vhq, wsq, sq, hq, rfl, how, hgd, hhas, hh1, hl1, ht1⟩ := hrel
      have HOK := hid how
      have HGD := hid hgd
      have HHA := hid hhas
      have HBD := hid (⟨hh1, hl1, ht1⟩ : sq.h.length ≤ 201 + q ∧ sq.l.length ≤ 201 + q ∧ sq.s.tn ≤ 201 + q)
      have HOR := hid (HO2.out.below (HBY.out.trans (how.cw.low.mono HBY.out.size)))
      have hol := HL2.out
      clear how hgd hhas
      by_cases hlt : q < l2.length
      · have d1 : decide ((q : Int) < (l2.length : Int)) = true := by simp; omega
        have d1n : decide (q < l2.length) = true := by simp; omega
        have HDO := hid (does_any8 K w0 F t p g h c m ob vlq vhq sq [k] wsq l2[q] _ HOK.out HGD.out (HOR.out.ok _ (List.getElem_mem hlt)).1 (HOR.out.ok _ (List.getElem_mem hlt)).2 (by rw [List.length_append, List.length_singleton]; omega) (by omega) (by omega))
        obtain ⟨b, o, rfl, hcell⟩ := HOR.out.rows.some_of (by simp; omega)
        have gq := fun j hj => hcell q (by simpa using hlt) j hj
        have e9 : (l2.map o8C)[q]'(by simpa using hlt) = o8C l2[q] := by simp
        rw [e9] at gq
        have g0 := gq 0 (by simp [o8C])
        have g1 := gq 1 (by simp [o8C])
        have g2 := gq 2 (by simp [o8C])
        have g3 := gq 3 (by simp [o8C])
        simp only [o8C, List.getElem_cons_zero, List.getElem_cons_succ, Nat.add_zero] at g0 g1 g2 g3
        clear gq e9
        unfold opV at HDO
        clear hcell hh1 hl1 ht1
        generalize l2[q] = oo at *
        by_cases k4 : oo.kind = 4
        · have d2 : (oo.kind != 4) = false := by simp [k4]
          clear k4 HDO
          go_wp2_with fail
          go_roundw
          case rel => exact ⟨q + 1, vlq, vhq, wsq, sq, by omega, by go_num, HOK.out, HGD.out, HHA.out, by have := HBD.out; omega, by have := HBD.out; omega, by have := HBD.out; omega⟩
          case measure => simp [intOf]; omega
        · have d2 : (oo.kind != 4) = true := by simpa using k4
          have HDD := hid (does8_did oo HGD.out (rdP16_len t.L))
          have HHB := hid (does8_has oo HGD.out (rdP16_len t.L) HHA.out k4)
          clear k4
          go_wp2_with fail
          refine (HDO.out).mono ?_
          rintro e w7 ⟨rfl, vl7, vh7, ws7, how⟩
          have HOK7 := hid how
          clear how g0 g1 g2 g3
          go_wp2_with fail
          go_roundw
          case rel => exact ⟨q + 1, vl7, vh7, ws7, _, by omega, by go_num, HOK7.out, HDD.out.good, HHB.out, by have := HBD.out; have := HDD.out.hh; omega, by have := HBD.out; have := HDD.out.ll; omega, by have := HBD.out; have := HDD.out.tn; omega⟩
          case measure => simp [intOf]; omega
      · have d1 : decide ((q : Int) < (l2.length : Int)) = false := by simp; omega
        have d1n : decide (q < l2.length) = false := by simp; omega
        obtain ⟨s2, hg2, hfs2⟩ := HHA.out.hit HGD.out
        have HG2 := hid (get_any w0 F t p g h c m sq.s wsq (sq.h ++ [k]) ino pg _ HOK.out.cw HGD.out (by rw [List.length_append, List.length_singleton]; omega) (by omega) HI.out HP.out)
        rw [hg2] at HG2
        have HF2 := hid hfs2
        clear hg2 hfs2 hh1 hl1 ht1
        obtain ⟨q0, q1, q2, q3, q4⟩ := HOK.out.own.five
        have hobl := HOK.out.own.lt
        go_wp2_with fail
        refine (HG2.out).mono ?_
        rintro e w9 ⟨rfl, ⟨ws9, hc9⟩, he9⟩
        have H9 := hid (HOK.out.call hc9 he9)
        have HLD9 := hid (load_any p g h s2.fs ws9 (k : Int) 0 4096 w9 hc9.pool)
        have hla := load_slot HGD.out HHA.out
        rw [HF2.out, hla.1, hla.2, ← HLE.out] at HLD9
        clear hc9 he9 hla
        clear q0 q1 q2 q3 q4 hobl
        obtain ⟨q0, q1, q2, q3, q4⟩ := H9.out.own.five
        have hobl := H9.out.own.lt
        go_wp2_with fail
        refine (HLD9.out).mono ?_
        rintro e w10 ⟨vl10, rfl, ho10, hb10⟩
        have HB10 := hid (HLOW.out w10 (H9.out.cw.low.trans (hb10.mono H9.out.cw.low.size)))
        have hkp := (H9.out.below hb10).kp
        rw [HK.out] at hkp
        obtain ⟨a8, c8, e8, hcl8, _⟩ := own_cel hkp
        obtain ⟨a11, c11, rfl, hcl11, _⟩ := own_cel ho10
        cases e8
        have HSM := hid (same8_any a11 aK c11 cK L w10 hcl11 hcl8 HLN.out)
        clear hcl8 hcl11 ho10 hb10 hkp
        clear q0 q1 q2 q3 q4 hobl
        go_wp2_with fail
        refine (HSM.out).mono ?_
        rintro e wx ⟨rfl, nk, rfl⟩
        go_wp2_with fail
        refine (HWK.out _ (bdN HB10.out _)).mono ?_
        rintro e wk ⟨rfl, hbk⟩
        have HBK := hid (bthen (bdN HB10.out _) hbk)
        clear hbk
        go_wp2_with fail
        go_ret
        exact ⟨rfl, HBK.out⟩
end Go.Proofs.YtlfgogjjnekfpaaDoor
