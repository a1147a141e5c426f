
/- TableBack: the walk. -/
import Derived.Test.YtncikcllhjhjmaaGreatDoorKY5
import Derived.BigQuiet
namespace Go.Proofs.YtncikcllhjhjmaaGreatDoor
open Go.RowKit Go.Sort Go.WideMaps Go.Maps Go.WideShapes Go.WideElems Go.MapKept Go.ChangeMaps
attribute [local go_sem] Oper.semAt_some

theorem own_puts {w : World} {base : Nat} {v : Value} {L : List LF} (h : w.ownsRow base 43 4 v L.length (L.map putC).flatten) (hl : L.length ≤ 1000000) : ∃ a c, v = .slice a L.length c ∧ Rk w 4 a L.length (L.map putC) := by
  obtain ⟨a3, c3, rfl, hrk3, _⟩ := own_rk h (by intro r hr; obtain ⟨x, _, rfl⟩ := List.mem_map.1 hr; rfl) (by omega)
  exact ⟨a3, c3, rfl, hrk3⟩
section
variable {rd : Int → Int → List UInt8 × Int} {root : Nat}
theorem all_small {s : CC} {kids : Nat → Tr} {R : List Nat} (T : TI rd s 3 root kids R) (hl : s.fs.length ≤ 1024) : (allL root kids).length ≤ 1000000 ∧ (nodL root kids).length ≤ 1000000 := by
  have hlen := T.evs hl
  rw [ev_len] at hlen
  have hlf : (allL root kids).map (fun y => y.2.1) = lfT 4 (.nd root kids) := leaves_lf 4 0 (.nd root kids)
  have hLl : (allL root kids).length = (lfT 4 (.nd root kids)).length := by rw [← hlf, List.length_map]
  exact ⟨by omega, show (nodesT 4 (.nd root kids)).length ≤ 1000000 by omega⟩
theorem cnt_small {s : CC} {hx : List Nat} (G : Good rd s hx) (hl : hx.length ≤ 4000000) (ht : s.tn < 1000000000) (f : Int) : 0 ≤ cntF s.fs f ∧ cntF s.fs f ≤ 4000000000 := by
  unfold cntF
  split
  · rename_i h
    obtain ⟨k, rfl⟩ := Int.eq_ofNat_of_zero_le h.1
    have hk : k < s.fs.length := by omega
    rw [Int.toNat_natCast, getF_at _ _ _ hk, G.cnt k hk]
    have h1 : hx.count k ≤ hx.length := List.count_le_length
    have h2 : s.sl.countP (fun x => decide (x.f = (k : Int))) ≤ s.sl.length := List.countP_le_length
    have h3 := G.many
    omega
  · omega
theorem nodup_count {l : List Nat} (h : l.Nodup) (a : Nat) : l.count a = if a ∈ l then 1 else 0 := by
  split
  · rename_i hm; have h1 := List.nodup_iff_count.1 h a; have h2 := List.count_pos_iff.2 hm; omega
  · rename_i hm; exact List.count_eq_zero.2 hm
/-- What is mapped and unmapped. -/
theorem MapD.back {s : CC} {kids : Nat → Tr} {R : List Nat} {ad : Nat} {a q : Int} {b : Bool} {k r : Nat} {D : RES} (T : TI rd s 3 root kids R) (M : MapD rd s root kids R ad a q b k r D) :
    (unmR D.1 root D.2.1 ad).2.1 = kids ∧ (unmR D.1 root D.2.1 ad).2.2 = 0 ∧ TI rd (unmR D.1 root D.2.1 ad).1 3 root kids R ∧ cntF (unmR D.1 root D.2.1 ad).1.fs a = cntF D.1.fs a - 1 := by
  have U := unmR_ti M.ti ad
  have e : unmR D.1 root D.2.1 ad = downT unmapV (ixOf ad) 3 D.1 root D.2.1 := by unfold unmR; rw [if_pos M.lo]
  have hu := M.un D.1
  rw [← e] at hu
  have h1 : (unmR D.1 root D.2.1 ad).2.1 = kids := congrArg Prod.fst hu
  have h2 : (unmR D.1 root D.2.1 ad).2.2 = 0 := congrArg Prod.snd hu
  obtain ⟨u1, u2, u3, u4⟩ := U
  rw [h1] at u1
  refine ⟨h1, h2, u1, ?_⟩
  generalize (unmR D.1 root D.2.1 ad).1 = s' at *
  obtain ⟨hk, _⟩ := M.tk
  have hlen : D.1.fs.length = s.fs.length := M.dp.len.trans up_len
  have hkD : k < D.1.fs.length := by omega
  have hkS : k < s'.fs.length := by omega
  rw [M.ka, cntF_at hkS, cntF_at hkD, M.cnt hkD, u1.good.cnt k hkS, List.count_append, u4]
  have h9 : (hxT 3 root kids).count k = (nodesT 4 (.nd root kids)).count k + (lfT 4 (.nd root kids)).count k := hx_count 3 root kids k
  have h8 : (nodesT 4 (.nd root D.2.1)).count k = (nodesT 4 (.nd root kids)).count k := by
    rw [nodup_count M.ti.nd, nodup_count T.nd]
    by_cases hm : k ∈ nodesT 4 (.nd root kids)
    · rw [if_pos hm, if_pos (M.dp.more rfl k hm)]
    · rw [if_neg hm, if_neg (M.dp.keep k (by simp) hm).2]
  omega
end
set_option maxRecDepth 100000 in
set_option maxHeartbeats 8000000 in
theorem tableBack_walk (N : Int) (oa : Option Addr) (oc : Nat) (l : List O9) (o : O9) (w : World) (hO : Ops9 w oa l) (ho : Op9Ok o) (hT : Tb w) (hZ : Wd.Sizes w) :
    Calls Tryz.prog 7 #[.int .i64 N, .slice oa l.length oc, .agg (opC9 o).toArray] w fun e w' => e = .returned (.bool true) ∧ Below w.heap.size w w' := by
  obtain ⟨wb, hwb⟩ : ∃ wb, wb = w.alloc (.cells (opC9 o).toArray 55) := ⟨_, rfl⟩
  have HBB := hid (show Below w.heap.size w wb by rw [hwb]; exact bal _)
  have HRB := hid (show Row wb w.heap.size 55 (opC9 o) by rw [hwb]; exact Row.new w _ _)
  have HOP := hid (hO.below HBB.out)
  have HWK := hid (fun (W : World) (hb : Below w.heap.size w W) => works9_any W (fun j hj => St.cell (hT j hj) hb) (hZ.below hb))
  have HVA := hid (vast9_any N oa l.length oc wb)
  have HBH := hid (fun (h : N ≤ 96 ∧ l.length ≤ 120) => behind_any N (by omega) oa oc l wb (fun j hj => St.cell (hT j hj) HBB.out) (hZ.below HBB.out) HOP.out (by omega))
  have HMD := hid (fun (h : N ≤ 96 ∧ l.length ≤ 120) => made9_any N (by omega) wb (fun j hj => St.cell (hT j hj) HBB.out) (hZ.below HBB.out))
  have HWB := hid hwb
  have HOO := hid ho
  clear ho
  clear hO hT hZ hwb
  unfold opC9 at HRB HWB ⊢
  go_enter Tryz.func7, Tryz.ntmps7
  go_wp2_with fail
  rw [← HWB.out]
  refine (HVA.out).mono ?_
  rintro e w1 ⟨⟨vb, rfl, hvs⟩, rfl⟩
  have HVS := hid hvs
  clear hvs
  rcases vb with _ | _
  rotate_left
  · go_wp2_with fail
    refine (HWK.out _ HBB.out).mono ?_
    rintro e wk ⟨rfl, hbk⟩
    have HBK := hid (bthen HBB.out hbk)
    clear hbk
    go_wp2_with fail
    go_ret
    exact ⟨rfl, HBK.out⟩
  have HVN := hid (HVS.out rfl)
  have HBN := hid (HBH.out HVN.out)
  have HMN := hid (HMD.out HVN.out)
  go_wp2_with fail
  refine (HBN.out).mono ?_
  rintro e w2 hm
  rcases hm with ⟨hn1, rfl, hb⟩ | ⟨w0, F, t, p, g, h, c, m, tb, ob, root, vh, ws, k, st, hnk, hk1, rfl, how, hran, hfr, hb0⟩
  · have HB2 := hid (bthen HBB.out hb)
    clear hb
    go_wp2_with fail
    refine (HWK.out w2 HB2.out).mono ?_
    rintro e wk ⟨rfl, hbk⟩
    have HBK := hid (bthen HB2.out hbk)
    clear hbk
    go_wp2_with fail
    go_ret
    exact ⟨rfl, HBK.out⟩
  have HOW := hid how
  have HFR := hid hfr
  have HRAN := hid hran
  have HBW := hid (bthen HBB.out hb0)
  have HBY := hid hb0
  have HLOW := hid (fun (W : World) (hl : Below w0.heap.size w0 W) => show Below w.heap.size w W from HBW.out.trans (hl.mono HBW.out.size))
  have HTI := hid (hran.inv.ti hfr)
  have HTW := hid (show TW w0 F t p g h c m tb st.s ws root false w2 by have := how.tw; rw [hfr] at this; exact this)
  clear how hfr hran hb0
  have HRBW := hid (fun W (hl : Below w0.heap.size w0 W) => HRB.out.below (HBY.out.trans (hl.mono HBY.out.size)) HRB.out.lt)
  have HNBX := hid (show ¬ cS g h c m w.heap.size from fun e => by
    have h1 := HTW.out.cw.lg
    have h2 := HTW.out.cw.lh
    have h3 := HTW.out.cw.lc
    have h4 := HTW.out.cw.lm
    have h5 := HRB.out.lt
    have h6 := HBY.out.size
    rcases e with e | e | e | e <;> omega)
  have HHL := hid (show st.h.length ≤ 1000000 by have := HRAN.out.hh; have := HVN.out.2; omega)
  have HMA := hid (fun W ws' (H : TW w0 F t p g h c m tb st.s ws' root false W) => map_any st.s st.kids st.h ws' o.ad HOO.out.ad o.f o.q o.b HOO.out.q0 W H HTI.out (ti_room HTI.out H.cw.pool.n2 HHL.out))
  obtain ⟨q0, q1, q2, q3⟩ := HOW.out.own.four
  have hol := HOW.out.own.lt
  have HLL := hid (show (allL root st.kids).length ≤ 1000000 ∧ (nodL root st.kids).length ≤ 1000000 from all_small HTI.out HTW.out.cw.pool.n2)
  have HAL := hid (fun (s : CC) (ws' : List Nat) (W : World) (H : TW w0 F t p g h c m tb s ws' root false W) (T : TI (rdP16 t.L) s 3 root st.kids st.h) => all_any s st.kids st.h ws' W H T)
  have HNO := hid (fun (s : CC) (ws' : List Nat) (W : World) (H : TW w0 F t p g h c m tb s ws' root false W) (T : TI (rdP16 t.L) s 3 root st.kids st.h) => nodes_any s st.kids st.h ws' W H T)
  go_wp2_with fail
  refine (HAL.out st.s ws w2 HTW.out HTI.out).mono ?_
  rintro e w3 ⟨v3, rfl, ho3, hb3⟩
  obtain ⟨a3, c3, rfl, hrk3, _⟩ := own_rk ho3 (by intro r hr; obtain ⟨x, _, rfl⟩ := List.mem_map.1 hr; rfl) (by omega)
  have HRK3 := hid hrk3
  have HO3 := hid ho3
  have HW3 := hid (HOW.out.below hb3)
  have HT3 := hid (HTW.out.below hb3)
  clear ho3 hb3 hrk3 q0 q1 q2 q3 hol
  obtain ⟨q0, q1, q2, q3⟩ := HW3.out.own.four
  have hol := HW3.out.own.lt
  go_wp2_with fail
  refine (HNO.out st.s ws w3 HT3.out HTI.out).mono ?_
  rintro e w4 ⟨v4, rfl, ho4, hb4⟩
  obtain ⟨a4, c4, rfl, hcl4, _⟩ := own_cel ho4
  have HCL4 := hid hcl4
  have HRK4 := hid (HRK3.out.below' hb4)
  have HO34 := hid (own_below HO3.out hb4)
  have HO4 := hid ho4
  have HN3 := hid ((HT3.out.below hb4).cw.nOwn HO34.out (by decide) (by decide) (by decide))
  have HN4 := hid ((HT3.out.below hb4).cw.nOwn HO4.out (by decide) (by decide) (by decide))
  have HW4 := hid (HW3.out.below hb4)
  have HT4 := hid (HT3.out.below hb4)
  clear ho4 hb4 hcl4 q0 q1 q2 q3 hol
  have HROWN := hid (show Row w4 ob 34 _ from HW4.out.own)
  have HRBX := hid (HRBW.out w4 HW4.out.tw.cw.low)
  have Q0 : ∀ ww, EX (cS g h c m) w4 ww → ww.cell? ⟨ob, 2, none⟩ = some (.pointer (some ⟨tb, 0, none⟩)) := fun ww hs => (hs.row HROWN.out HW4.out.nS.1).cell 2 (by simp)
  have B1 : ∀ ww, EX (cS g h c m) w4 ww → ww.cell? ⟨w.heap.size, 1, none⟩ = some (.int .u64 (o.ad : Int)) := fun ww hs => (hs.row HRBX.out HNBX.out).cell 1 (by simp)
  have B2 : ∀ ww, EX (cS g h c m) w4 ww → ww.cell? ⟨w.heap.size, 2, none⟩ = some (.int .i64 o.f) := fun ww hs => (hs.row HRBX.out HNBX.out).cell 2 (by simp)
  have B3 : ∀ ww, EX (cS g h c m) w4 ww → ww.cell? ⟨w.heap.size, 3, none⟩ = some (.int .u8 o.q) := fun ww hs => (hs.row HRBX.out HNBX.out).cell 3 (by simp)
  have B4 : ∀ ww, EX (cS g h c m) w4 ww → ww.cell? ⟨w.heap.size, 4, none⟩ = some (.bool o.b) := fun ww hs => (hs.row HRBX.out HNBX.out).cell 4 (by simp)
  go_wp2_with fail
  have hS0 : EX (cS g h c m) w4 w4.drew := EX.drew (EX.refl _)
  have HCT0 := hid (HMA.out w4.drew ws (HT4.out.below (bdN (Below.refl _ _) 1)))
  go_region_held3 (EX (cS g h c m) w4) (first | exact EX.drew _ | exact EX.refl _ | assumption) ((go_at_call 24; refine (HCT0.out).mono ?_; rintro e' w5 ⟨rfl, htw5, hew5⟩; have HTw5 := hid htw5; have hS2 : EX (cS g h c m) w4 w5 := hS0.trans hew5; clear htw5 hew5))
  have HEw5 := hid hS2
  clear hS0 hS2 Q0 B1 B2 B3 B4 HCT0
  obtain ⟨D, hD⟩ : ∃ D, D = mapR st.s root st.kids o.ad o.f o.q o.b := ⟨_, rfl⟩
  rw [← hD] at HTw5 ⊢
  have HD := hid hD
  clear hD
  obtain ⟨ws5, ht5⟩ := HTw5.out
  have HT5 := hid ht5
  clear ht5
  obtain ⟨er, her⟩ : ∃ er, er = D.2.2 := ⟨_, rfl⟩
  have HER := hid her
  rw [← her]
  clear her
  by_cases he0 : er = 0
  · have d9 : (er != (0 : Int)) = false := by simp [he0]
    have d9d : decide (er = 0) = true := decide_eq_true he0
    have hz : (mapR st.s root st.kids o.ad o.f o.q o.b).2.2 = 0 := by rw [← HD.out, ← HER.out]; exact he0
    obtain ⟨k1, r1, M⟩ := mapR_zero HTI.out HOO.out.q0 hz
    rw [← HD.out] at M
    have HM := hid M
    clear he0 hz M
    have HW5 := hid (show OW9 w0 F t p g h c m tb ob root vh ⟨D.1, D.2.1, st.h, st.fr⟩ ws5 w5 from HW4.out.call (by rw [HFR.out]; exact HT5.out) (HEw5.out.mono fun _ _ e => .inl e) rfl)
    have hB := MapD.back HTI.out HM.out
    obtain ⟨s7, hs7⟩ : ∃ s7, s7 = (unmR D.1 root D.2.1 o.ad).1 := ⟨_, rfl⟩
    rw [← hs7] at hB
    have HB7 := hid hB
    have HS7 := hid hs7
    have hcs := cnt_small HM.out.ti.good (by have := ti_room (st := ⟨D.1, D.2.1, st.h, st.fr⟩) HM.out.ti HT5.out.cw.pool.n2 HHL.out; simp only at this; omega) HT5.out.cw.few o.f
    have hc7 := hB.2.2.2
    obtain ⟨cn, hcn⟩ : ∃ cn, cn = cntF D.1.fs o.f := ⟨_, rfl⟩
    obtain ⟨cm, hcm⟩ : ∃ cm, cm = cntF s7.fs o.f := ⟨_, rfl⟩
    rw [← hcn] at hcs hc7
    rw [← hcm] at hc7
    have HCN := hid hcn
    have HCM := hid hcm
    have ew : wrap64 (cn - 1) = cm := by rw [IntWalk.wrap64_in _ ⟨by omega, by omega⟩]; omega
    have ew2 : IntKind.i64.wrap (cn - 1) = cm := by rw [IntKind.wrap_i64]; omega
    have em : (cm == cm) = true := by simp
    clear hB hs7 hcs hc7 hcn hcm
    have HRB5 := hid (HRBW.out w5 HT5.out.cw.low)
    obtain ⟨q0, q1, q2, q3⟩ := HW5.out.own.four
    have hol := HW5.out.own.lt
    obtain ⟨g0, g1, g2, g3, g4, g5⟩ : w5.cell? ⟨w.heap.size, 0, none⟩ = some (.int .i64 o.kind) ∧ w5.cell? ⟨w.heap.size, 1, none⟩ = some (.int .u64 (o.ad : Int)) ∧ w5.cell? ⟨w.heap.size, 2, none⟩ = some (.int .i64 o.f) ∧ w5.cell? ⟨w.heap.size, 3, none⟩ = some (.int .u8 o.q) ∧ w5.cell? ⟨w.heap.size, 4, none⟩ = some (.bool o.b) ∧ w5.cell? ⟨w.heap.size, 5, none⟩ = some (.int .i64 o.n) := ⟨HRB5.out.cell 0 (by simp), HRB5.out.cell 1 (by simp), HRB5.out.cell 2 (by simp), HRB5.out.cell 3 (by simp), HRB5.out.cell 4 (by simp), HRB5.out.cell 5 (by simp)⟩
    have hbl := HRB5.out.lt
    have HC5 := hid (fun n => count_any p g h D.1.fs ws5 o.f (w5.drewN n) (HT5.out.below (bdN (Below.refl _ _) n)).cw.pool)
    rw [← HCN.out] at HC5
    go_wp2_with fail
    go_quiet ((go_at_call 22; exact Calls.quiet_of_same ((HC5.out _).mono (fun _ _ h => ⟨h.1, h.2.symm⟩))))
    obtain ⟨w6, hw6⟩ : ∃ w6, w6 = w5.drewN nq := ⟨_, rfl⟩
    rw [← hw6]
    have HB6 := hid (show Below w5.heap.size w5 w6 by rw [hw6]; exact bdN (Below.refl _ _) nq)
    have HW6 := hid (HW5.out.below HB6.out)
    have HT6 := hid (HT5.out.below HB6.out)
    clear g0 g1 g2 g3 g4 g5 hbl q0 q1 q2 q3 hol hw6
    have HUN := hid (fun W ws' (H : TW w0 F t p g h c m tb D.1 ws' root false W) => unmap_any D.1 D.2.1 st.h ws' o.ad HOO.out.ad W H HM.out.ti (by have := ti_room (st := ⟨D.1, D.2.1, st.h, st.fr⟩) HM.out.ti H.cw.pool.n2 HHL.out; simp only at this; omega))
    unfold TabP at HUN
    rw [← HS7.out, HB7.out.2.1] at HUN
    have HROWN := hid (show Row w6 ob 34 _ from HW6.out.own)
    have HRBX := hid (HRBW.out w6 HW6.out.tw.cw.low)
    have Q0 : ∀ ww, EX (cS g h c m) w6 ww → ww.cell? ⟨ob, 2, none⟩ = some (.pointer (some ⟨tb, 0, none⟩)) := fun ww hs => (hs.row HROWN.out HW6.out.nS.1).cell 2 (by simp)
    have B1 : ∀ ww, EX (cS g h c m) w6 ww → ww.cell? ⟨w.heap.size, 1, none⟩ = some (.int .u64 (o.ad : Int)) := fun ww hs => (hs.row HRBX.out HNBX.out).cell 1 (by simp)
    go_wp2_with fail
    have hS0 : EX (cS g h c m) w6 w6.drew := EX.drew (EX.refl _)
    have HCT0 := hid (HUN.out w6.drew ws5 (HT6.out.below (bdN (Below.refl _ _) 1)))
    go_region_held3 (EX (cS g h c m) w6) (first | exact EX.drew _ | exact EX.refl _ | assumption) ((go_at_call 27; refine (HCT0.out).mono ?_; rintro e' w7 ⟨rfl, htw7, hew7⟩; have HTw7 := hid htw7; have hS2 : EX (cS g h c m) w6 w7 := hS0.trans hew7; clear htw7 hew7))
    have HEw7 := hid hS2
    clear hS0 hS2 Q0 B1 HCT0
    obtain ⟨ws7, ht7⟩ := HTw7.out
    have HT7 := hid ht7
    clear ht7
    have HW7 := hid (show OW9 w0 F t p g h c m tb ob root vh ⟨s7, st.kids, st.h, st.fr⟩ ws7 w7 from HW6.out.call (by rw [HFR.out]; exact HT7.out) (HEw7.out.mono fun _ _ e => .inl e) rfl)
    have HRB7 := hid (HRBW.out w7 HT7.out.cw.low)
    have HE47 := hid ((HEw5.out.trans (EX.of_below HB6.out)).trans HEw7.out)
    obtain ⟨a3', c3', e9, hrk, _⟩ := own_rk (HE47.out.own HO34.out HN3.out) (by intro r hr; obtain ⟨x, _, rfl⟩ := List.mem_map.1 hr; rfl) (by omega)
    cases e9
    obtain ⟨a4', c4', e9, hcl, _⟩ := own_cel (HE47.out.own HO4.out HN4.out)
    cases e9
    have HRKE := hid hrk
    have HCLE := hid hcl
    clear hrk hcl
    have HTS := hid HB7.out.2.2.1
    have HL3 := hid (show ∀ W, St w7 W → Rk W 4 a3 (allL root st.kids).length ((allL root st.kids).map putC) from fun W hs => HRKE.out.below' hs)
    have HL4 := hid (show ∀ W, St w7 W → Cel W a4 (nodL root st.kids).length ((nodL root st.kids).map nI9) from fun W hs => HCLE.out.below' hs)
    have HA7 := hid (fun W (hs : St w7 W) => HAL.out s7 ws7 W (HT7.out.below hs) HTS.out)
    have HN7 := hid (fun W (hs : St w7 W) => HNO.out s7 ws7 W (HT7.out.below hs) HTS.out)
    have HP7 := hid (fun W ax cx (hs : St w7 W) (hr : Rk W 4 ax (allL root st.kids).length ((allL root st.kids).map putC)) => (samePuts_any ax a3 cx c3 (allL root st.kids) W hr (HL3.out W hs) HLL.out.1).mono (fun e w' h => show e = .returned (.bool true) ∧ Below W.heap.size W w' from ⟨h.1, by obtain ⟨k, e⟩ := h.2; rw [e]; exact bdN (Below.refl _ _) k⟩))
    have HI7 := hid (fun W ax cx (hs : St w7 W) (hr : Cel W ax (nodL root st.kids).length ((nodL root st.kids).map nI9)) => (sameInts_any ax a4 cx c4 (nodL root st.kids) W hr (HL4.out W hs) HLL.out.2).mono (fun e w' h => show e = .returned (.bool true) ∧ Below W.heap.size W w' from ⟨h.1, by obtain ⟨k, e⟩ := h.2; rw [e]; exact bdN (Below.refl _ _) k⟩))
    generalize allL root st.kids = LA at *
    generalize nodL root st.kids = LN at *
    have Q2 : ∀ ww, St w7 ww → ww.cell? ⟨ob, 2, none⟩ = some (.pointer (some ⟨tb, 0, none⟩)) := fun ww hs => (HW7.out.own.below hs HW7.out.own.lt).cell 2 (by simp)
    have Q0 : ∀ ww, St w7 ww → ww.cell? ⟨ob, 0, none⟩ = some (.pointer (some ⟨p, 0, none⟩)) := fun ww hs => (HW7.out.own.below hs HW7.out.own.lt).cell 0 (by simp)
    have B2 : ∀ ww, St w7 ww → ww.cell? ⟨w.heap.size, 2, none⟩ = some (.int .i64 o.f) := fun ww hs => (HRB7.out.below hs HRB7.out.lt).cell 2 (by simp)
    have HC7 := hid (fun W (hs : St w7 W) => count_any p g h s7.fs ws7 o.f W (HT7.out.below hs).cw.pool)
    rw [← HCM.out] at HC7
    have HB7B := hid (HLOW.out w7 HT7.out.cw.low)
    have HWK7 := hid (fun W (hs : St w7 W) => HWK.out W (bthen HB7B.out hs))
    go_wp2_with fail
    go_region_held3 (St w7) (first | exact St.drew _ | exact St.step (by assumption) hbx | assumption) (first | (go_at_call 13; with_reducible refine ((HA7.out _ (by assumption)).mono ?_); rintro e' wx ⟨vx, rfl, hox, hbx⟩; obtain ⟨ax, cx, rfl, hrx⟩ := own_puts hox HLL.out.1; have HRX := hid hrx; have HS11 : Hid (St w7 wx) := hid (St.step (by assumption) hbx); clear hox hrx) | (go_at_call 25; go_must (refine ((HP7.out _ _ _ HS11.out HRX.out).mono ?_)); rintro e' wy ⟨rfl, hbx⟩; have HS12 : Hid (St w7 wy) := hid (St.step HS11.out hbx)) | (go_at_call 12; go_must (refine ((HN7.out _ HS12.out).mono ?_)); rintro e' wz ⟨vz, rfl, hoz, hbx⟩; obtain ⟨az, cz, rfl, hrz, _⟩ := own_cel hoz; have HRZ := hid hrz; have HS13 : Hid (St w7 wz) := hid (St.step HS12.out hbx); clear hoz hrz) | (go_at_call 26; go_must (refine ((HI7.out _ _ _ HS13.out HRZ.out).mono ?_)); rintro e' wu ⟨rfl, hbx⟩; have HS14 : Hid (St w7 wu) := hid (St.step HS13.out hbx)) | (go_at_call 22; go_must (refine ((HC7.out _ HS14.out).mono ?_)); rintro e' wv ⟨rfl, rfl⟩) | (go_at_call 10; go_must (refine ((HWK7.out _ HS14.out).mono ?_)); rintro e' wt ⟨rfl, hbx⟩; have HS15 : Hid (St w7 wt) := hid (St.step HS14.out hbx)))
    have HBZ := hid (bthen HB7B.out HS15.out)
    go_wp2_with fail
    go_ret
    exact ⟨rfl, HBZ.out⟩
  · have d9 : (er != (0 : Int)) = true := by simp [he0]
    have d9d : decide (er = 0) = false := decide_eq_false he0
    have HB5 := hid (HLOW.out w5 HT5.out.cw.low)
    clear he0
    go_wp2_with fail
    refine (HWK.out _ HB5.out).mono ?_
    rintro e wk ⟨rfl, hbk⟩
    have HBK := hid (bthen HB5.out hbk)
    clear hbk
    go_wp2_with fail
    go_ret
    exact ⟨rfl, HBK.out⟩
end Go.Proofs.YtncikcllhjhjmaaGreatDoor
