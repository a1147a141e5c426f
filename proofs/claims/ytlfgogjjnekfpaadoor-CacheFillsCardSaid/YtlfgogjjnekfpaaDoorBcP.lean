
/- CacheFills: the walk. -/
import Derived.Test.YtlfgogjjnekfpaaDoorBcO
namespace Go.Proofs.YtlfgogjjnekfpaaDoor
open Go.RowKit Go.Sort Go.Shelf Go.WideMaps Go.Maps Go.WideShapes Go.WideElems Go.MapKept Go.ChangeMaps
attribute [local go_sem] Oper.semAt_some

set_option maxRecDepth 100000 in
set_option maxHeartbeats 8000000 in
theorem cacheFills_walk (a : Option Addr) (cap : Nat) (xs : List EN) (N : Int) (oa : Option Addr) (oc : Nat) (l : List O8) (ino pg : Int) (hi : I64 ino) (hp : I64 pg) (w : World) (hX : EntsIn w a xs.length xs) (hO : Ops8 w oa l) (hT : Tb w) :
    Calls Tryd.prog 5 #[flV a xs.length cap N, .slice oa l.length oc, .int .i64 ino, .int .i64 pg] w fun e w' => e = .returned (.bool true) ∧ Below w.heap.size w w' := by
  obtain ⟨wb, hwb⟩ : ∃ wb, wb = w.alloc (.cells #[.slice a xs.length cap, .int .i64 N] 43) := ⟨_, rfl⟩
  have HBB := hid (show Below w.heap.size w wb by rw [hwb]; exact bal _)
  have HRX := hid (show Row wb w.heap.size 43 [.slice a xs.length cap, .int .i64 N] by rw [hwb]; exact Row.new w _ _)
  have HX := hid (show EntsIn wb a xs.length xs from hX.below HBB.out)
  have HO := hid (hO.below HBB.out)
  have HT := hid hT
  have HWB := hid hwb
  have HWK := hid (fun (W : World) (hb : Below w.heap.size w W) => works08_any W (fun j hj => St.cell (HT.out j hj) hb))
  have HVA := hid (vast8_any a cap xs N oa l.length oc wb HX.out)
  clear hX hO hT hwb
  unfold flV at HVA ⊢
  go_enter Tryd.func5, Tryd.ntmps5
  go_wp2_with fail
  rw [← HWB.out]
  have HI := hid hi
  have HP := hid hp
  clear hi hp
  refine (HVA.out).mono ?_
  rintro e w1 ⟨vb, rfl, hb1, hvs⟩
  have HB1 := hid (bthen HBB.out hb1)
  have HBX := hid hb1
  have HVS := hid hvs
  have HRX1 := hid (HRX.out.below hb1 HRX.out.lt)
  clear hb1 hvs
  obtain ⟨x0, x1⟩ := HRX1.out.two
  have hxl := HRX1.out.lt
  rcases vb with _ | _
  rotate_left
  · go_wp2_with fail
    refine (HWK.out w1 HB1.out).mono ?_
    rintro e wk ⟨rfl, hbk⟩
    have HBK := hid (bthen HB1.out hbk)
    clear hbk
    go_wp2_with fail
    go_ret
    exact ⟨rfl, HBK.out⟩
  have HS := hid (HVS.out rfl)
  have HOM := hid (HO.out.below HBX.out)
  have HMA := hid (made8_any a cap xs N oa oc l w1 ((HX.out.below HBX.out).small8 HS.out.1) HS.out.2.1 HS.out.2.2.1 HOM.out (HS.out.2.2.2) (fun j hj => St.cell (HT.out j hj) HB1.out))
  unfold flV at HMA
  go_wp2_with fail
  refine (HMA.out).mono ?_
  rintro e w2 hm
  clear x0 x1 hxl
  rcases hm with ⟨rfl, hb⟩ | ⟨w0, F, t, p, g, h, c, m, ob, vl, vh, ws, n, rfl, how, hb0, hn1, hn2, hkd⟩
  · have HB2 := hid (bthen HB1.out hb)
    clear hb
    go_wp2_with fail
    refine (HWK.out w2 HB2.out).mono ?_
    rintro e wk ⟨rfl, hbk⟩
    have HBK := hid (bthen HB2.out hbk)
    clear hbk
    go_wp2_with fail
    go_ret
    exact ⟨rfl, HBK.out⟩
  have HOW := hid how
  have HBW := hid (bthen HB1.out hb0)
  have HBY := hid (bthen HBX.out hb0)
  have HN := hid (⟨hn1, hn2⟩ : 1 ≤ n ∧ n ≤ 64)
  have HRAN := hid (run8_ran (good08 (rdP16 t.L) n) (rdP16_len t.L) l)
  have HLOW := hid (fun (W : World) (hl : Below w0.heap.size w0 W) => show Below w.heap.size w W from HBW.out.trans (hl.mono HBW.out.size))
  have HKD := hid hkd
  clear how hb0 hn1 hn2 hkd
  obtain ⟨st, hst⟩ : ∃ st, st = run8 (rdP16 t.L) (st08 n) l := ⟨_, rfl⟩
  rw [← hst] at HOW HRAN
  have HGT := hid (get_any w0 F t p g h c m st.s ws (st.h ++ []) ino pg w2 HOW.out.cw HRAN.out.good (by have := HRAN.out.hh; have := HS.out.2.2.2; have z : (st08 n).h.length = 0 := rfl; rw [List.append_nil]; omega) (by have := HRAN.out.tn; have := HS.out.2.2.2; have z : (st08 n).s.tn = 0 := rfl; omega) HI.out HP.out)
  have HHL := hid (show st.h.length ≤ 200 by have := HRAN.out.hh; have := HS.out.2.2.2; have z : (st08 n).h.length = 0 := rfl; omega)
  have HTN := hid (show st.s.tn ≤ 200 by have := HRAN.out.tn; have := HS.out.2.2.2; have z : (st08 n).s.tn = 0 := rfl; omega)
  obtain ⟨q0, q1, q2, q3, q4⟩ := HOW.out.own.five
  have hobl := HOW.out.own.lt
  clear hst
  go_wp2_with fail
  refine (HGT.out).mono ?_
  rintro e w3 ⟨rfl, ⟨ws3, hc3⟩, he3⟩
  clear q0 q1 q2 q3 q4 hobl
  rcases getC_case HRAN.out.good ino pg (rdP16_len t.L) with ⟨er, hg, hne, h4⟩ | ⟨k, s', hg, hgot⟩
  · rw [hg] at hc3 ⊢
    simp only at hc3 ⊢
    have H3 := hid (HOW.out.call hc3 he3)
    have HB3 := hid (HLOW.out w3 hc3.low)
    clear hg
    obtain ⟨q0, q1, q2, q3, q4⟩ := H3.out.own.five
    have hobl := H3.out.own.lt
    have d1 : (er != 0) = true := by simpa using hne
    by_cases e4 : er = 4
    · have hz : freeN st.s.fs = 0 := (h4 e4).resolve_left (rdP16_ne _ _ _)
      have HFR := hid (free_any p g h st.s.fs ws3 w3 hc3.pool)
      rw [hz] at HFR
      have d2 : (er != 4) = false := by simp [e4]
      clear e4 hz h4 hne hc3 he3
      go_wp2_with fail
      refine (HFR.out).mono ?_
      rintro e wx ⟨rfl, rfl⟩
      go_wp2_with fail
      go_ret
      exact ⟨rfl, HB3.out⟩
    · have d2 : (er != 4) = true := by simpa using e4
      clear e4 h4 hne hc3 he3
      go_wp2_with fail
      go_ret
      exact ⟨rfl, HB3.out⟩
  · rw [hg] at hc3 ⊢
    simp only at hc3 ⊢
    have H3 := hid (HOW.out.call hc3 he3)
    have HGOT := hid hgot
    obtain ⟨i, rfl, hil, hk1⟩ := rdP16_ok HKD.out hgot.ok.2.2
    have HME := hid (meta6_any F t (i : Int) w3 hc3.fs)
    rw [ndAt_in hil, errAt_in hil] at HME
    obtain ⟨x, hx⟩ : ∃ x, x = t.L.getD i default := ⟨_, rfl⟩
    rw [← hx] at HME hk1
    have hpg := hgot.ok
    obtain ⟨q, rfl⟩ := Int.eq_ofNat_of_zero_le hpg.1
    have HQ := hid (show q < 16 by omega)
    have HRD := hid (fun (W : World) (hb : Below w3.heap.size w3 W) => read_any F t (i : Int) ((q : Int) * 4096) 4096 W (hc3.fs.below hb))
    have hRR : readL t.L (i : Int) ((q : Int) * 4096) 4096 = rdP16 t.L (i : Int) (q : Int) := rfl
    rw [hRR] at HRD
    obtain ⟨d, hd⟩ : ∃ d, d = (rdP16 t.L (i : Int) (q : Int)).1 := ⟨_, rfl⟩
    have he0 : (rdP16 t.L (i : Int) (q : Int)).2 = 0 := hpg.2.2
    unfold RdPost at HRD
    rw [he0, ← hd] at HRD
    have HD := hid hd
    have HDL := hid (show d.length ≤ 4096 by rw [hd]; exact rdP16_len _ _ _)
    obtain ⟨q0, q1, q2, q3, q4⟩ := H3.out.own.five
    have hobl := H3.out.own.lt
    clear hg hgot hc3 he3 hx hd hRR he0 hpg hil
    unfold metaV at HME
    rw [hk1] at HME
    go_wp2_with fail
    refine (HME.out).mono ?_
    rintro e w4 ⟨rfl, hb4⟩
    have H4 := hid (H3.out.below hb4)
    have HB4 := hid hb4
    obtain ⟨w5, hw5⟩ : ∃ w5, w5 = w4.alloc (.cells #[.int .u8 1, .int .u16 x.mode, .int .u32 x.uid, .int .u32 x.gid, .int .i64 x.size] 61) := ⟨_, rfl⟩
    have HB5 := hid (show Below w3.heap.size w3 w5 by rw [hw5]; exact hb4.trans ((bal _).mono hb4.size))
    have H5 := hid (H3.out.below HB5.out)
    have HRM := hid (show Row w5 w4.heap.size 61 [.int .u8 1, .int .u16 x.mode, .int .u32 x.uid, .int .u32 x.gid, .int .i64 x.size] by rw [hw5]; exact Row.new w4 _ _)
    have HW5 := hid hw5
    have HR5 := hid (HRD.out w5 HB5.out)
    have hq := HQ.out
    have e1 : decide ((q : Int) < 0) = false := by simp
    have e2 : decide ((15 : Int) < (q : Int)) = false := by simp; omega
    have ew : IntKind.i64.wrap ((q : Int) * 4096) = (q : Int) * 4096 := IntWalk.i64_in _ ⟨by omega, by omega⟩
    clear q0 q1 q2 q3 q4 hobl
    clear hb4 hw5
    obtain ⟨m0, m1, m2, m3, m4⟩ := HRM.out.five
    have hml := HRM.out.lt
    obtain ⟨q0, q1, q2, q3, q4⟩ := H5.out.own.five
    have hobl := H5.out.own.lt
    rw [HW5.out] at m0 m1 m2 m3 m4 hml q0 q1 q2 q3 q4 hobl
    go_wp2_with fail
    rw [← HW5.out]
    clear m0 m1 m2 m3 m4 hml
    clear q0 q1 q2 q3 q4 hobl
    refine (HR5.out).mono ?_
    rintro e w6 ⟨v6, rfl, ho6, hb6⟩
    have HO6 := hid ho6
    have HB6 := hid hb6
    have HSU := hid (show w5.heap.size ≤ w5.heap.size from Nat.le_refl _)
    obtain ⟨a6, c6, rfl⟩ := own_hdI ho6
    clear ho6 hb6
    have hdl := HDL.out
    go_wp2_with fail
    go_loopw [13] (fun v wr => ∃ j : Nat, d.length + j ≤ 4096 ∧ wr.ownsRow w5.heap.size 5 1 v (d.length + j) ((d ++ List.replicate j 0).map B8) ∧ Below w5.heap.size w5 wr) (fun v _ => 4096 - slN v)
    case atStart => exact ⟨0, HDL.out, by rw [Nat.add_zero, show List.replicate 0 (0 : UInt8) = [] from rfl, List.append_nil]; exact HO6.out, HB6.out⟩
    case round =>
      obtain ⟨j, hj, ho, hb⟩ := hrel
      have HO7 := hid ho
      have HB7 := hid hb
      obtain ⟨a7, c7, rfl⟩ := own_hdI ho
      by_cases hlt : d.length + j < 4096
      · have d1 : decide (((d.length + j : Nat) : Int) < 4096) = true := by simp; omega
        have d1b : decide ((d.length : Int) + (j : Int) < 4096) = true := by simp; omega
        have HPF := hid (pad_f ho hb.size)
        have HON := hid (show ∀ u ∈ [B8 0], u.oneCell' = true from fun u hu => by rw [List.mem_singleton.1 hu]; rfl)
        have HNL := hid (show d.length + j + 1 ≤ 1000000000 by omega)
        have HBA := hid (hb.trans ((bal (.cells #[.int .u8 0] 5)).mono hb.size))
        clear ho hb
        go_wp2_with (at_builtin; go_must (refine wpList_apU8 rfl _ _ rfl w5.heap.size _ (d.length + j) _ [B8 0] rfl ⟨_, 0, none⟩ 1 1 rfl HPF.out.own HPF.out.cel HON.out HNL.out HPF.out.size ?_; intro v' w8 hown hgrow hnew; obtain ⟨av, cv, rfl⟩ := own_hdI hown; have HO8 := hid hown; have HB8 := hid (pad_b HPF.out HBA.out hgrow); clear hown hgrow hnew))
        go_roundw
        case rel => exact ⟨j + 1, by omega, own_ext HO8.out (by omega) (by rw [List.replicate_succ', ← List.append_assoc]; exact (List.map_append (f := B8) (l₁ := d ++ List.replicate j 0) (l₂ := [0])).symm), HB8.out⟩
        case measure => simp [slN]; omega
      · have d1 : decide (((d.length + j : Nat) : Int) < 4096) = false := by simp; omega
        have d1b : decide ((d.length : Int) + (j : Int) < 4096) = false := by simp; omega
        have hjj : j = 4096 - d.length := by omega
        have HJJ := hid hjj
        have H7 := hid (H5.out.below hb)
        obtain ⟨y, hy, hyi, hyp, hyf⟩ := HGOT.out.slot
        obtain ⟨s2, hg2, hfs2⟩ := getC_hit HGOT.out.good hy
        rw [hyi, hyp, hyf] at hg2
        have HG2 := hid (get_any w0 F t p g h c m s' ws3 (st.h ++ []) (i : Int) (q : Int) _ H7.out.cw HGOT.out.good (by have := HHL.out; rw [List.append_nil]; omega) (by have := HGOT.out.tn; have := HTN.out; omega) HI.out HP.out)
        rw [hg2] at HG2
        have HF2 := hid hfs2
        have HBY := hid (HGOT.out.good.bytes y hy k hyf (by rw [HGOT.out.len]; exact HGOT.out.lt))
        rw [hyi, hyp, ← HD.out] at HBY
        have HCN := hid (show ∀ hk : k < s'.fs.length, s'.fs[k].cnt ≠ 0 from fun hk => by
          obtain ⟨f, e, hf, hc⟩ := HGOT.out.good.cntF hy
          obtain rfl : f = k := by rw [hyf] at e; omega
          rw [hc]; omega)
        clear hy hyi hyp hyf hg2 hfs2 ho hb hjj
        obtain ⟨q0, q1, q2, q3, q4⟩ := H7.out.own.five
        have hobl := H7.out.own.lt
        go_wp2_with fail
        refine (HG2.out).mono ?_
        rintro e w9 ⟨rfl, ⟨ws9, hc9⟩, he9⟩
        have H9 := hid (H7.out.call hc9 he9)
        have HO9 := hid (he9.own HO7.out (H7.out.cw.nU8 HO7.out))
        have HLD := hid (load_any p g h s2.fs ws9 (k : Int) 0 4096 w9 hc9.pool)
        have hk9 : k < s'.fs.length := by rw [HGOT.out.len]; exact HGOT.out.lt
        have hla := load_all8 HGOT.out.good.lens hk9 (HCN.out hk9)
        rw [HF2.out, hla.1, hla.2, HBY.out] at HLD
        clear hc9 he9 hla hk9
        clear q0 q1 q2 q3 q4 hobl
        obtain ⟨q0, q1, q2, q3, q4⟩ := H9.out.own.five
        have hobl := H9.out.own.lt
        go_wp2_with fail
        refine (HLD.out).mono ?_
        rintro e w10 ⟨vl10, rfl, ho10, hb10⟩
        have HO9b := hid (own_below HO9.out hb10)
        have HB10 := hid (HLOW.out w10 (H9.out.cw.low.trans (hb10.mono H9.out.cw.low.size)))
        have hlen : d.length + j = (b2i d ++ List.replicate (4096 - d.length) (0 : Int)).length := by rw [List.length_append, b2i_len, List.length_replicate, HJJ.out]
        have hmap : (d ++ List.replicate j (0 : UInt8)).map B8 = (b2i d ++ List.replicate (4096 - d.length) (0 : Int)).map u8I := by rw [b8_u8, ← HJJ.out]; unfold b2i; rw [List.map_append, List.map_replicate]; rfl
        obtain ⟨a8, c8, e8, hcl8, _⟩ := own_cel (own_ext HO9b.out hlen hmap)
        obtain ⟨a11, c11, rfl, hcl11, _⟩ := own_cel ho10
        have hL : (b2i d ++ List.replicate (4096 - d.length) (0 : Int)).length ≤ 1000000 := by rw [← hlen]; omega
        obtain ⟨L, hLL⟩ : ∃ L, L = b2i d ++ List.replicate (4096 - d.length) (0 : Int) := ⟨_, rfl⟩
        rw [← hLL] at hcl8 hcl11 hL hlen e8 ⊢
        rw [e8]
        have HSM := hid (same8_any a11 a8 c11 c8 L w10 hcl11 hcl8 hL)
        clear hcl8 hcl11 hmap ho10 hb10 e8 hlen hL hLL
        clear q0 q1 q2 q3 q4 hobl
        go_wp2_with fail
        refine (HSM.out).mono ?_
        rintro e wx ⟨rfl, nk, rfl⟩
        go_wp2_with fail
        refine (HWK.out _ (bdN HB10.out _)).mono ?_
        rintro e wk ⟨rfl, hbk⟩
        have HBK := hid (bthen (bdN HB10.out _) hbk)
        clear hbk
        go_wp2_with fail
        go_ret
        exact ⟨rfl, HBK.out⟩
end Go.Proofs.YtlfgogjjnekfpaaDoor
