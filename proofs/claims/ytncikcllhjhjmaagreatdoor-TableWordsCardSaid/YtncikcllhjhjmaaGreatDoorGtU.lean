
/- TableApart: the walk. -/
import Derived.Test.YtncikcllhjhjmaaGreatDoorKY5
namespace Go.Proofs.YtncikcllhjhjmaaGreatDoor
open Go.RowKit Go.Sort Go.WideMaps Go.Maps Go.WideShapes Go.WideElems Go.MapKept Go.ChangeMaps
attribute [local go_sem] Oper.semAt_some

theorem ixOf_ne {a b : Nat} (ha : a < 140737488355328) (hb : b < 140737488355328) (h : a / 4096 ≠ b / 4096) : ∃ j, j ≤ 3 ∧ ixOf b j ≠ ixOf a j := by
  refine Classical.byContradiction fun hc => ?_
  have e : ∀ j, j ≤ 3 → ixOf b j = ixOf a j := fun j hj => Classical.byContradiction fun hn => hc ⟨j, hj, hn⟩
  have e0 := e 0 (by omega)
  have e1 := e 1 (by omega)
  have e2 := e 2 (by omega)
  have e3 := e 3 (by omega)
  unfold ixOf at e0 e1 e2 e3
  omega
section
variable {rd : Int → Int → List UInt8 × Int} {root : Nat}
theorem down_other {v : Vis} {s s0 : CC} {kids : Nat → Tr} {R : List Nat} {ad y : Nat} (T : TI rd s0 3 root kids R) (ha : ad < 140737488355328) (h : ad / 4096 ≠ y / 4096) : fndL y (lookT (ixOf y) 3 (downT v (ixOf ad) 3 s root kids).2.1) = fndL y (lookT (ixOf y) 3 kids) := by
  unfold fndL
  split
  · rename_i hy
    exact down_apart (ixOf_lt ad) (ixOf_lt y) 3 s root kids T.holds.shp (ixOf_ne ha hy h)
  · rfl
theorem mapR_other {s : CC} {kids : Nat → Tr} {R : List Nat} {ad y : Nat} {a q : Int} {b : Bool} (T : TI rd s 3 root kids R) (h : ad / 4096 ≠ y / 4096) : fndL y (lookT (ixOf y) 3 (mapR s root kids ad a q b).2.1) = fndL y (lookT (ixOf y) 3 kids) := by
  unfold mapR
  split
  · rfl
  · rename_i hok
    have hlo : ad < 140737488355328 := by
      have : okA s ad a q = true := by simpa using hok
      unfold okA at this
      rw [Bool.and_eq_true, decide_eq_true_eq] at this
      exact this.1
    split
    · rfl
    · split
      · exact down_other T hlo h
      · rfl
theorem does9_other {st : S9} {o : O9} {y : Nat} (T : TI rd st.s 3 root st.kids st.h) (h : o.ad / 4096 ≠ y / 4096) : fndL y (lookT (ixOf y) 3 (does9 rd root st o).kids) = fndL y (lookT (ixOf y) 3 st.kids) := by
  unfold does9
  split
  · split
    · rfl
    · exact mapR_other T h
  split
  · split
    · rfl
    · show fndL y (lookT (ixOf y) 3 (unmR st.s root st.kids o.ad).2.1) = _
      unfold unmR
      split
      · rename_i ha
        exact down_other T ha h
      · rfl
  split
  · split
    · rfl
    · show fndL y (lookT (ixOf y) 3 (setR st.s root st.kids o.ad o.f o.q o.b).2.1) = _
      unfold setR
      split
      · rename_i ha
        exact down_other T ha.1 h
      · rfl
  repeat' split
  all_goals rfl
theorem fndE_of {y : Nat} {a b : Tr} (h : fndL y a = fndL y b) : fndE y a = fndE y b := by
  unfold fndE
  unfold fndL at h
  split
  · rename_i hy
    rw [if_pos hy, if_pos hy] at h
    rw [h]
  · rfl
theorem ldV_is (x : Tr) : ∃ x0 x1 x2, ldV x = .agg #[.int .i64 x0, .int .u8 x1, .bool x2] := by
  cases x with
  | no => exact ⟨_, _, _, rfl⟩
  | nd _ _ => exact ⟨_, _, _, rfl⟩
  | lf a q b => exact ⟨_, _, _, rfl⟩
end
set_option maxRecDepth 100000 in
set_option maxHeartbeats 8000000 in
theorem tableApart_walk (N : Int) (oa : Option Addr) (oc : Nat) (l : List O9) (o : O9) (y : Nat) (w : World) (hO : Ops9 w oa l) (ho : Op9Ok o) (hy : y < 18446744073709551616) (hT : Tb w) (hZ : Wd.Sizes w) :
    Calls Tryz.prog 5 #[.int .i64 N, .slice oa l.length oc, .agg (opC9 o).toArray, .int .u64 (y : Int)] w fun e w' => e = .returned (.bool true) ∧ Below w.heap.size w w' := by
  obtain ⟨wb, hwb⟩ : ∃ wb, wb = w.alloc (.cells (opC9 o).toArray 55) := ⟨_, rfl⟩
  have HBB := hid (show Below w.heap.size w wb by rw [hwb]; exact bal _)
  have HRB := hid (show Row wb w.heap.size 55 (opC9 o) by rw [hwb]; exact Row.new w _ _)
  have HOP := hid (hO.below HBB.out)
  have HWK := hid (fun (W : World) (hb : Below w.heap.size w W) => works9_any W (fun j hj => St.cell (hT j hj) hb) (hZ.below hb))
  have HVA := hid (vast9_any N oa l.length oc wb)
  have HBH := hid (fun (h : N ≤ 96 ∧ l.length ≤ 120) => behind_any N (by omega) oa oc l wb (fun j hj => St.cell (hT j hj) HBB.out) (hZ.below HBB.out) HOP.out (by omega))
  have HMD := hid (fun (h : N ≤ 96 ∧ l.length ≤ 120) => made9_any N (by omega) wb (fun j hj => St.cell (hT j hj) HBB.out) (hZ.below HBB.out))
  have HWB := hid hwb
  have HOO := hid ho
  have HY := hid hy
  obtain ⟨g0, g1, g2, g3, g4, g5⟩ : wb.cell? ⟨w.heap.size, 0, none⟩ = some (.int .i64 o.kind) ∧ wb.cell? ⟨w.heap.size, 1, none⟩ = some (.int .u64 (o.ad : Int)) ∧ wb.cell? ⟨w.heap.size, 2, none⟩ = some (.int .i64 o.f) ∧ wb.cell? ⟨w.heap.size, 3, none⟩ = some (.int .u8 o.q) ∧ wb.cell? ⟨w.heap.size, 4, none⟩ = some (.bool o.b) ∧ wb.cell? ⟨w.heap.size, 5, none⟩ = some (.int .i64 o.n) := ⟨HRB.out.cell 0 (by simp), HRB.out.cell 1 (by simp), HRB.out.cell 2 (by simp), HRB.out.cell 3 (by simp), HRB.out.cell 4 (by simp), HRB.out.cell 5 (by simp)⟩
  have hbl := HRB.out.lt
  obtain ⟨z1, hz1⟩ : ∃ z1, z1 = o.ad / 4096 := ⟨_, rfl⟩
  obtain ⟨z2, hz2⟩ : ∃ z2, z2 = y / 4096 := ⟨_, rfl⟩
  have ea : IntKind.u64.wrap ((o.ad : Int) / 4096) = (z1 : Int) := by have := ho.ad; rw [IntKind.wrap_u64]; omega
  have eb : IntKind.u64.wrap ((y : Int) / 4096) = (z2 : Int) := by rw [IntKind.wrap_u64]; omega
  have HZ1 := hid hz1
  have HZ2 := hid hz2
  clear hz1 hz2
  clear ho hy
  clear hO hT hZ hwb
  unfold opC9 at HRB HWB ⊢
  go_enter Tryz.func5, Tryz.ntmps5
  go_wp2_with fail
  rw [← HWB.out]
  refine (HVA.out).mono ?_
  rintro e w1 ⟨⟨vb, rfl, hvs⟩, rfl⟩
  have HVS := hid hvs
  clear hvs
  rcases vb with _ | _
  rotate_left
  · go_wp2_with fail
    refine (HWK.out _ HBB.out).mono ?_
    rintro e wk ⟨rfl, hbk⟩
    have HBK := hid (bthen HBB.out hbk)
    clear hbk
    go_wp2_with fail
    go_ret
    exact ⟨rfl, HBK.out⟩
  have HVN := hid (HVS.out rfl)
  have HBN := hid (HBH.out HVN.out)
  have HMN := hid (HMD.out HVN.out)
  by_cases hk7 : o.kind = 7
  · have d7 : (o.kind == (7 : Int)) = true := by simp [hk7]
    have d7d : decide (o.kind = (7 : Int)) = true := decide_eq_true hk7
    clear hk7
    go_wp2_with fail
    refine (HWK.out _ HBB.out).mono ?_
    rintro e wk ⟨rfl, hbk⟩
    have HBK := hid (bthen HBB.out hbk)
    clear hbk
    go_wp2_with fail
    go_ret
    exact ⟨rfl, HBK.out⟩
  have d7 : (o.kind == (7 : Int)) = false := by simp [hk7]
  have HK7 := hid hk7
  clear hk7
  by_cases hpg : z1 = z2
  · have d8 : ((z1 : Int) == (z2 : Int)) = true := by rw [hpg]; simp
    have d8d : decide ((z1 : Int) = (z2 : Int)) = true := by rw [hpg]; simp
    clear hpg
    go_wp2_with fail
    refine (HWK.out _ HBB.out).mono ?_
    rintro e wk ⟨rfl, hbk⟩
    have HBK := hid (bthen HBB.out hbk)
    clear hbk
    go_wp2_with fail
    go_ret
    exact ⟨rfl, HBK.out⟩
  have d8 : ((z1 : Int) == (z2 : Int)) = false := by simp; omega
  have d8d : decide ((z1 : Int) = (z2 : Int)) = false := by simp; omega
  have HPG := hid (show o.ad / 4096 ≠ y / 4096 by rw [← HZ1.out, ← HZ2.out]; exact hpg)
  clear hpg
  go_wp2_with fail
  refine (HBN.out).mono ?_
  rintro e w2 hm
  rcases hm with ⟨hn1, rfl, hb⟩ | ⟨w0, F, t, p, g, h, c, m, tb, ob, root, vh, ws, k, st, hnk, hk1, rfl, how, hran, hfr, hb0⟩
  · have HB2 := hid (bthen HBB.out hb)
    clear hb
    go_wp2_with fail
    refine (HWK.out w2 HB2.out).mono ?_
    rintro e wk ⟨rfl, hbk⟩
    have HBK := hid (bthen HB2.out hbk)
    clear hbk
    go_wp2_with fail
    go_ret
    exact ⟨rfl, HBK.out⟩
  have HOW := hid how
  have HFR := hid hfr
  have HRAN := hid hran
  have HBW := hid (bthen HBB.out hb0)
  have HBY := hid hb0
  have HLOW := hid (fun (W : World) (hl : Below w0.heap.size w0 W) => show Below w.heap.size w W from HBW.out.trans (hl.mono HBW.out.size))
  have HTI := hid (hran.inv.ti hfr)
  have HTW := hid (show TW w0 F t p g h c m tb st.s ws root false w2 by have := how.tw; rw [hfr] at this; exact this)
  clear how hfr hran hb0
  have HDID := hid (does9_did (rd := rdP16 t.L) o HOO.out.q0 HRAN.out.inv (rdP16_len t.L))
  have HFR2 := hid ((does9_fr (rd := rdP16 t.L) (root := root) (st := st) HK7.out).trans HFR.out)
  have HTI2 := hid (HDID.out.inv.ti HFR2.out)
  have hot := does9_other HTI.out HPG.out
  obtain ⟨x0, x1, x2, hld⟩ := ldV_is (fndL y (lookT (ixOf y) 3 st.kids))
  have HNN := hid (show (hxT 3 root st.kids ++ st.h).length + 4 ≤ 3000000 from ti_room HTI.out HTW.out.cw.pool.n2 (by have := HRAN.out.hh; have := HVN.out.2; omega))
  have HF1 := hid (find_any st.s st.kids st.h ws y HY.out w2 HTW.out HTI.out (by have := HNN.out; omega))
  have HF2 := hid (fun W ws' (H : TW w0 F t p g h c m tb (does9 (rdP16 t.L) root st o).s ws' root false W) => find_any (does9 (rdP16 t.L) root st o).s (does9 (rdP16 t.L) root st o).kids (does9 (rdP16 t.L) root st o).h ws' y HY.out W H HTI2.out (by
    have := ti_room HTI2.out H.cw.pool.n2 (by have := HDID.out.hh; have := HRAN.out.hh; have := HVN.out.2; omega)
    omega))
  rw [fndE_of hot, hot, hld] at HF2
  rw [hld] at HF1
  generalize fndE y (lookT (ixOf y) 3 st.kids) = ee at *
  clear hot hld
  have HDO := hid (fun W vh' ws' (H : OW9 w0 F t p g h c m tb ob root vh' st ws' W) => does9_any vh' st ws' o W H HRAN.out.inv HOO.out (by have := HRAN.out.hh; have := HVN.out.2; omega) (by have := HRAN.out.tn; have := HVN.out.2; omega))
  unfold opC9 at HDO
  obtain ⟨q0, q1, q2, q3⟩ := HOW.out.own.four
  have hol := HOW.out.own.lt
  have HRBW := hid (fun W (hl : Below w0.heap.size w0 W) => HRB.out.below (HBY.out.trans (hl.mono HBY.out.size)) HRB.out.lt)
  clear g0 g1 g2 g3 g4 g5 hbl
  go_wp2_with fail
  refine (HF1.out).mono ?_
  rintro e w3 ⟨rfl, ⟨ws3, ht3⟩, he3⟩
  obtain ⟨w4, hw4⟩ : ∃ w4, w4 = w3.alloc (.cells #[.int .i64 x0, .int .u8 x1, .bool x2] 39) := ⟨_, rfl⟩
  have HB4 := hid (show Below w3.heap.size w3 w4 by rw [hw4]; exact bal _)
  have HR4 := hid (show Row w4 w3.heap.size 39 [.int .i64 x0, .int .u8 x1, .bool x2] by rw [hw4]; exact Row.new w3 _ _)
  have H3 := hid (HOW.out.call (st' := st) (by rw [HFR.out]; exact ht3) (he3.mono fun _ _ e => .inl e) rfl)
  have H4 := hid (H3.out.below HB4.out)
  have HW4 := hid hw4
  have HRB3 := hid (HRBW.out w3 H3.out.tw.cw.low)
  clear ht3 he3 q0 q1 q2 q3 hol hw4
  obtain ⟨q0, q1, q2, q3⟩ := H3.out.own.four
  have hol := H3.out.own.lt
  obtain ⟨g0, g1, g2, g3, g4, g5⟩ : w3.cell? ⟨w.heap.size, 0, none⟩ = some (.int .i64 o.kind) ∧ w3.cell? ⟨w.heap.size, 1, none⟩ = some (.int .u64 (o.ad : Int)) ∧ w3.cell? ⟨w.heap.size, 2, none⟩ = some (.int .i64 o.f) ∧ w3.cell? ⟨w.heap.size, 3, none⟩ = some (.int .u8 o.q) ∧ w3.cell? ⟨w.heap.size, 4, none⟩ = some (.bool o.b) ∧ w3.cell? ⟨w.heap.size, 5, none⟩ = some (.int .i64 o.n) := ⟨HRB3.out.cell 0 (by simp), HRB3.out.cell 1 (by simp), HRB3.out.cell 2 (by simp), HRB3.out.cell 3 (by simp), HRB3.out.cell 4 (by simp), HRB3.out.cell 5 (by simp)⟩
  have hbl := HRB3.out.lt
  have HDO4 := hid (HDO.out w4 vh ws3 H4.out)
  go_wp2_with fail
  rw [← HW4.out]
  refine (HDO4.out).mono ?_
  rintro e w5 ⟨⟨v5, rfl⟩, ⟨vh5, ws5, h5⟩, he5⟩
  have H5 := hid h5
  have HT5 := hid (show TW w0 F t p g h c m tb (does9 (rdP16 t.L) root st o).s ws5 root false w5 by have := h5.tw; rw [HFR2.out] at this; exact this)
  have HR5 := hid (he5.row HR4.out (by
    rintro (e | e | e | e)
    · exact H4.out.tw.cw.nR HR4.out (by decide) (by decide) (by decide) e
    · exact row_tys HR4.out H4.out.tw.tab (by decide) e
    · exact row_tys HR4.out H4.out.own (by decide) e
    · exact ob_ne H4.out.hh HR4.out (by decide) _ e rfl))
  clear h5 he5 q0 q1 q2 q3 hol g0 g1 g2 g3 g4 g5 hbl
  obtain ⟨q0, q1, q2, q3⟩ := H5.out.own.four
  have hol := H5.out.own.lt
  go_wp2_with fail
  refine (HF2.out w5 ws5 HT5.out).mono ?_
  rintro e w6 ⟨rfl, ⟨ws6, ht6⟩, he6⟩
  have H6 := hid (H5.out.call (st' := does9 (rdP16 t.L) root st o) (by rw [HFR2.out]; exact ht6) (he6.mono fun _ _ e => .inl e) rfl)
  have HR6 := hid (he6.row HR5.out (HT5.out.cw.nR HR5.out (by decide) (by decide) (by decide)))
  obtain ⟨w7, hw7⟩ : ∃ w7, w7 = w6.alloc (.cells #[.int .i64 x0, .int .u8 x1, .bool x2] 39) := ⟨_, rfl⟩
  have HB7 := hid (show Below w.heap.size w w7 by rw [hw7]; exact HLOW.out _ (H6.out.tw.cw.low.alloc H6.out.tw.cw.low.size _))
  have HW7 := hid hw7
  clear ht6 he6 q0 q1 q2 q3 hol hw7
  obtain ⟨l0, l1, l2⟩ : w6.cell? ⟨w3.heap.size, 0, none⟩ = some (.int .i64 x0) ∧ w6.cell? ⟨w3.heap.size, 1, none⟩ = some (.int .u8 x1) ∧ w6.cell? ⟨w3.heap.size, 2, none⟩ = some (.bool x2) := ⟨HR6.out.cell 0 (by simp), HR6.out.cell 1 (by simp), HR6.out.cell 2 (by simp)⟩
  have hll := HR6.out.lt
  have e1 : ∀ x : Int, (x == x) = true := fun x => by simp
  go_wp2_with fail
  rw [← HW7.out]
  refine (HWK.out w7 HB7.out).mono ?_
  rintro e wk ⟨rfl, hbk⟩
  have HBK := hid (bthen HB7.out hbk)
  clear hbk
  go_wp2_with fail
  go_ret
  exact ⟨rfl, HBK.out⟩
end Go.Proofs.YtncikcllhjhjmaaGreatDoor
