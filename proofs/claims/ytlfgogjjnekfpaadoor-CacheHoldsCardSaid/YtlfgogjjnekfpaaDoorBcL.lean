
/- CacheDrops: the walk. -/
import Derived.Test.YtlfgogjjnekfpaaDoorBcJ
namespace Go.Proofs.YtlfgogjjnekfpaaDoor
open Go.RowKit Go.Sort Go.Shelf Go.WideMaps Go.Maps Go.WideShapes Go.WideElems Go.MapKept Go.ChangeMaps
attribute [local go_sem] Oper.semAt_some

theorem EntsIn.below {w w' : World} {a : Option Addr} {n : Nat} {xs : List EN} (h : EntsIn w a n xs) (hb : Below w.heap.size w w') : EntsIn w' a n xs :=
  ⟨h.rows.below' hb, fun x hx => by
    obtain ⟨h1, h2, h3, h4, h5, h6⟩ := h.ok x hx
    exact ⟨h1.below' hb, h2, h3, h4, h5, h6⟩⟩
theorem held_count (l : List Nat) (f : Nat) : (l.countP fun (k : Nat) => decide ((k : Int) = (f : Int))) = l.count f := by
  unfold List.count
  refine List.countP_congr fun k _ => ?_
  simp only [decide_eq_true_eq, beq_iff_eq]
  omega
theorem own_hd3 {w : World} {base E k n : Nat} {v : Value} {xs : List Value} (h : w.ownsRow base E k v n xs) : ∃ a c, v = .slice a n c := by
  rcases h.2 with ⟨rfl, rfl⟩ | ⟨g, cap, cur, rfl, _⟩
  · exact ⟨_, _, rfl⟩
  · exact ⟨_, _, rfl⟩
theorem OW.held {K : KP} {w0 w : World} {F : Nat} {t : FT} {p g h c m ob : Nat} {vl vh : Value} {st : S8} {ws : List Nat} (H : OW K w0 F t p g h c m ob vl vh st ws w) (hl : st.h.length ≤ 1000000000) (f : Nat) :
    Calls Tryd.prog 23 #[.pointer (some ⟨ob, 0, none⟩), .int .i64 f] w fun e w' => e = .returned (.int .i64 ((st.h.count f : Nat) : Int)) ∧ w = w' := by
  obtain ⟨ah, ch, e, hc, _⟩ := own_cel H.hh
  have := H.own
  rw [e] at this
  have k := held_any ob _ _ _ _ ah ch st.h (f : Int) w this hc hl
  rw [held_count] at k
  exact k
set_option maxRecDepth 100000 in
set_option maxHeartbeats 8000000 in
theorem cacheDrops_walk (a : Option Addr) (cap : Nat) (xs : List EN) (N : Int) (oa : Option Addr) (oc : Nat) (l : List O8) (w : World) (hX : EntsIn w a xs.length xs) (hO : Ops8 w oa l) (hT : Tb w) :
    Calls Tryd.prog 8 #[flV a xs.length cap N, .slice oa l.length oc] w fun e w' => e = .returned (.bool true) ∧ Below w.heap.size w w' := by
  obtain ⟨wb, hwb⟩ : ∃ wb, wb = w.alloc (.cells #[.slice a xs.length cap, .int .i64 N] 43) := ⟨_, rfl⟩
  have HBB := hid (show Below w.heap.size w wb by rw [hwb]; exact bal _)
  have HRX := hid (show Row wb w.heap.size 43 [.slice a xs.length cap, .int .i64 N] by rw [hwb]; exact Row.new w _ _)
  have HX := hid (show EntsIn wb a xs.length xs from hX.below HBB.out)
  have HO := hid (hO.below HBB.out)
  have HT := hid hT
  have HWB := hid hwb
  have HWK := hid (fun (W : World) (hb : Below w.heap.size w W) => works08_any W (fun j hj => St.cell (HT.out j hj) hb))
  have HVA := hid (vast8_any a cap xs N oa l.length oc wb HX.out)
  clear hX hO hT hwb
  unfold flV at HVA ⊢
  go_enter Tryd.func8, Tryd.ntmps8
  go_wp2_with fail
  rw [← HWB.out]
  refine (HVA.out).mono ?_
  rintro e w1 ⟨vb, rfl, hb1, hvs⟩
  have HB1 := hid (bthen HBB.out hb1)
  have HBX := hid hb1
  have HVS := hid hvs
  have HRX1 := hid (HRX.out.below hb1 HRX.out.lt)
  clear hb1 hvs
  obtain ⟨x0, x1⟩ := HRX1.out.two
  have hxl := HRX1.out.lt
  rcases vb with _ | _
  rotate_left
  · go_wp2_with fail
    refine (HWK.out w1 HB1.out).mono ?_
    rintro e wk ⟨rfl, hbk⟩
    have HBK := hid (bthen HB1.out hbk)
    clear hbk
    go_wp2_with fail
    go_ret
    exact ⟨rfl, HBK.out⟩
  have HS := hid (HVS.out rfl)
  have HOM := hid (HO.out.below HBX.out)
  have HMA := hid (made8_any a cap xs N oa oc l w1 ((HX.out.below HBX.out).small8 HS.out.1) HS.out.2.1 HS.out.2.2.1 HOM.out (HS.out.2.2.2) (fun j hj => St.cell (HT.out j hj) HB1.out))
  unfold flV at HMA
  go_wp2_with fail
  refine (HMA.out).mono ?_
  rintro e w2 hm
  clear x0 x1 hxl
  rcases hm with ⟨rfl, hb⟩ | ⟨w0, F, t, p, g, h, c, m, ob, vl, vh, ws, n, rfl, how, hb0, hn1, hn2, hkd⟩
  · have HB2 := hid (bthen HB1.out hb)
    clear hb
    go_wp2_with fail
    refine (HWK.out w2 HB2.out).mono ?_
    rintro e wk ⟨rfl, hbk⟩
    have HBK := hid (bthen HB2.out hbk)
    clear hbk
    go_wp2_with fail
    go_ret
    exact ⟨rfl, HBK.out⟩
  have HOW := hid how
  have HBW := hid (bthen HB1.out hb0)
  have HBY := hid (bthen HBX.out hb0)
  have HN := hid (⟨hn1, hn2⟩ : 1 ≤ n ∧ n ≤ 64)
  have HRAN := hid (run8_ran (good08 (rdP16 t.L) n) (rdP16_len t.L) l)
  have HLOW := hid (fun (W : World) (hl : Below w0.heap.size w0 W) => show Below w.heap.size w W from HBW.out.trans (hl.mono HBW.out.size))
  have HKD := hid hkd
  clear how hb0 hn1 hn2 hkd
  have HR2 := hid HRAN.out
  obtain ⟨st, hst⟩ : ∃ st, st = run8 (rdP16 t.L) (st08 n) l := ⟨_, rfl⟩
  rw [← hst] at HOW HRAN HR2
  have HHL := hid (show st.h.length ≤ 200 by have := HRAN.out.hh; have := HS.out.2.2.2; have z : (st08 n).h.length = 0 := rfl; omega)
  have HDR := hid (drop_any w0 F t p g h c m st.s ws (rdP16 t.L) (st.h ++ []) w2 HOW.out.cw HRAN.out.good (by rw [List.append_nil]; have := HHL.out; omega))
  obtain ⟨q0, q1, q2, q3, q4⟩ := HOW.out.own.five
  have hobl := HOW.out.own.lt
  clear hst
  go_wp2_with fail
  refine (HDR.out).mono ?_
  rintro e w3 ⟨rfl, ⟨ws3, hc3⟩, he3⟩
  have H3 := hid (HOW.out.call hc3 he3)
  have HG3 := hid HRAN.out.good.drop
  have HB3 := hid (HLOW.out w3 hc3.low)
  clear hc3 he3 q0 q1 q2 q3 q4 hobl
  obtain ⟨q0, q1, q2, q3, q4⟩ := H3.out.own.five
  have hobl := H3.out.own.lt
  have HSZ := hid (size_any p g h (drpC st.s).fs ws3 w3 H3.out.cw.pool)
  have HFL := hid (show (drpC st.s).fs.length ≤ 1024 from H3.out.cw.pool.n2)
  go_wp2_with fail
  go_loopw [6] (fun i wr => w3 = wr ∧ ∃ k : Nat, k ≤ (drpC st.s).fs.length ∧ i = .int .i64 k) (fun i _ => (drpC st.s).fs.length - (intOf i).toNat)
  case atStart => exact ⟨rfl, 0, Nat.zero_le _, rfl⟩
  case round =>
    obtain ⟨rfl, k, hk, rfl⟩ := hrel
    have hfl := HFL.out
    by_cases hlt : k < (drpC st.s).fs.length
    · have d1 : decide ((k : Int) < ((drpC st.s).fs.length : Int)) = true := by simp; omega
      have d1n : decide (k < (drpC st.s).fs.length) = true := by simp; omega
      have HCT := hid (count_any p g h (drpC st.s).fs ws3 (k : Int) w3 H3.out.cw.pool)
      rw [cntF_at hlt, HG3.out.cnt k hlt] at HCT
      rw [show (drpC st.s).sl = [] from rfl, List.countP_nil, Nat.add_zero, List.append_nil] at HCT
      have HHE := hid (H3.out.held (by have := HHL.out; show st.h.length ≤ _; omega) k)
      rw [show ({ st with s := drpC st.s } : S8).h = st.h from rfl] at HHE
      obtain ⟨cn, hcn⟩ : ∃ cn : Int, cn = ((st.h.count k : Nat) : Int) := ⟨_, rfl⟩
      rw [← hcn] at HCT HHE
      have e1 : (cn != cn) = false := by simp
      clear hcn
      go_wp2_with fail
      refine (HSZ.out).mono ?_
      rintro e wx ⟨rfl, rfl⟩
      go_wp2_with fail
      refine (HCT.out).mono ?_
      rintro e wx ⟨rfl, rfl⟩
      go_wp2_with fail
      refine (HHE.out).mono ?_
      rintro e wx ⟨rfl, rfl⟩
      go_wp2_with fail
      go_roundw
      case rel => exact ⟨trivial, k + 1, by omega, by go_num⟩
      case measure => simp [intOf]; omega
    · have d1 : decide ((k : Int) < ((drpC st.s).fs.length : Int)) = false := by simp; omega
      have d1n : decide (k < (drpC st.s).fs.length) = false := by simp; omega
      have HSL := hid (slots_any w0 F t p g h c m (drpC st.s) ws3 (rdP16 t.L) (st.h ++ []) w3 H3.out.cw HG3.out)
      go_wp2_with fail
      refine (HSZ.out).mono ?_
      rintro e wx ⟨rfl, rfl⟩
      go_wp2_with fail
      refine (HSL.out).mono ?_
      rintro e w4 ⟨v, sl, rfl, hp, _, ho, hb⟩
      have hsl : sl = [] := List.Perm.eq_nil hp
      subst hsl
      obtain ⟨va, vc, rfl⟩ := own_hd3 ho
      have HB4 := hid (bthen HB3.out hb)
      clear hp ho hb
      go_wp2_with fail
      refine (HWK.out w4 HB4.out).mono ?_
      rintro e wk ⟨rfl, hbk⟩
      have HBK := hid (bthen HB4.out hbk)
      clear hbk
      go_wp2_with fail
      go_ret
      exact ⟨rfl, HBK.out⟩
end Go.Proofs.YtlfgogjjnekfpaaDoor
