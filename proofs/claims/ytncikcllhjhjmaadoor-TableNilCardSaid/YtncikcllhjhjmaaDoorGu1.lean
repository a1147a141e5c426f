
/- TableNil: the walk. -/
import Derived.Test.YtncikcllhjhjmaaDoorKY5
namespace Go.Proofs.YtncikcllhjhjmaaDoor
open Go.RowKit Go.Sort Go.WideMaps Go.Maps Go.WideShapes Go.WideElems Go.MapKept Go.ChangeMaps
attribute [local go_sem] Oper.semAt_some

set_option maxRecDepth 100000 in
theorem newNil (w : World) : Calls Tryd.prog 4 #[.pointer none] w fun e w' => e = .returned (.tuple #[.pointer none, .int .i64 2]) ∧ w = w' := by
  go_enter Tryd.func4, Tryd.ntmps4
  go_wp2_with fail
  go_ret2
  exact ⟨rfl, rfl⟩
theorem GoneAt.below {tp : Option Addr} {w w' : World} (h : GoneAt tp w) (hb : Below w.heap.size w w') : GoneAt tp w' := fun W hW => h W (bthen hb hW)
theorem free_fresh {rd : Int → Int → List UInt8 × Int} {root : Nat} {s : CC} (T : TI rd s 3 root noK []) (hsl : s.sl = []) (hf : freeN s.fs = 7) : freeN (dnL s (lfT 4 (.nd root noK) ++ nodL root noK)).fs = 8 := by
  have e1 : lfT 4 (.nd root noK) = [] := lfT_bare bare_noK
  have e2 : nodL root noK = [root] := nodesT_bare bare_noK
  rw [e1, e2]
  show freeN (dnC s root).fs = 8
  have hr : root < s.fs.length := T.good.hold root (by
    have : root ∈ nodesT 4 (.nd root noK) := by rw [show nodesT 4 (.nd root noK) = [root] from e2]; simp
    exact hx_nodes this)
  have hc := T.good.cnt root hr
  have h9 : (hxT 3 root noK).count root = (nodesT 4 (.nd root noK)).count root + (lfT 4 (.nd root noK)).count root := hx_count 3 root noK root
  rw [show nodesT 4 (.nd root noK) = [root] from e2, e1] at h9
  rw [List.append_nil, h9, hsl] at hc
  rw [dn_free hr (by rw [hc]; simp), hf]
set_option maxRecDepth 100000 in
set_option maxHeartbeats 8000000 in
theorem tableNil_walk (o : O9) (w : World) (ho : Op9Ok o) (hT : Tb w) (hZ : Wd.Sizes w) : Calls Tryd.prog 3 #[.agg (opC9 o).toArray] w fun e w' => e = .returned (.bool true) ∧ Below w.heap.size w w' := by
  obtain ⟨wb, hwb⟩ : ∃ wb, wb = w.alloc (.cells (opC9 o).toArray 24) := ⟨_, rfl⟩
  have HBB := hid (show Below w.heap.size w wb by rw [hwb]; exact bal _)
  have HRB := hid (show Row wb w.heap.size 24 (opC9 o) by rw [hwb]; exact Row.new w _ _)
  have HWK := hid (fun (W : World) (hb : Below w.heap.size w W) => works9_any W (fun j hj => St.cell (hT j hj) hb) (hZ.below hb))
  have HMD := hid (made9_any 8 (by omega) wb (fun j hj => St.cell (hT j hj) HBB.out) (hZ.below HBB.out))
  have HNN := hid (newNil wb)
  have HWB := hid hwb
  clear hT hZ hwb ho
  unfold opC9 at HRB HWB ⊢
  go_enter Tryd.func3, Tryd.ntmps3
  go_wp2_with fail
  rw [← HWB.out]
  refine (HNN.out).mono ?_
  rintro e wx ⟨rfl, rfl⟩
  go_wp2_with fail
  refine (HMD.out).mono ?_
  rintro e w2 hm
  rcases hm with ⟨hn1, _⟩ | ⟨w0, F, t, p, g, h, c, m, tb, ob, root, ws, k, st, hnk, hk1, rfl, how, hfr, hb0⟩
  · exact absurd hn1 (by omega)
  · obtain rfl : k = 8 := by omega
    have hti := hfr.inv.ti hfr.fr
    have hkk := hfr.kids
    have hhh := hfr.h
    have HW2 := hid how
    have HBY := hid hb0
    have HBW := hid (bthen HBB.out hb0)
    have HLOW := hid (fun (W : World) (hl : Below w0.heap.size w0 W) => show Below w.heap.size w W from HBW.out.trans (hl.mono HBW.out.size))
    have HRBW := hid (fun W (hl : Below w0.heap.size w0 W) => HRB.out.below (HBY.out.trans (hl.mono HBY.out.size)) HRB.out.lt)
    have HTW := hid (show TW w0 F t p g h c m tb st.s ws root false w2 by have := how.tw; rw [hfr.fr] at this; exact this)
    have HFRE := hid (tfree_any st.s st.kids st.h ws w2 HTW.out hti (by rw [hhh]; simp))
    rw [hkk, hhh] at hti
    rw [hkk] at HFRE
    have h8 := free_fresh hti hfr.sl (by have := hfr.room; omega)
    obtain ⟨s3, hs3⟩ : ∃ s3, s3 = dnL st.s (lfT 4 (.nd root noK) ++ nodL root noK) := ⟨_, rfl⟩
    rw [← hs3] at HFRE h8
    have H8 := hid h8
    clear hti hkk hhh how hb0 hfr hs3 h8 hnk hk1
    obtain ⟨q0, q1, q2, q3⟩ := HW2.out.own.four
    have hol := HW2.out.own.lt
    go_wp2_with fail
    refine (HFRE.out).mono ?_
    rintro e w3 ⟨rfl, ⟨ws3, ht3⟩, he3⟩
    have HT3 := hid ht3
    have HW3 := hid (show OW9 w0 F t p g h c m tb ob root (.slice none 0 0) ⟨s3, noK, st.h, true⟩ ws3 w3 from HW2.out.call ht3 he3 rfl)
    have HFN := hid (freeG none w3 (goneNil w3))
    clear ht3 he3 q0 q1 q2 q3 hol
    obtain ⟨q0, q1, q2, q3⟩ := HW3.out.own.four
    have hol := HW3.out.own.lt
    go_wp2_with fail
    refine (HFN.out).mono ?_
    rintro e wx ⟨rfl, rfl⟩
    go_wp2_with fail
    obtain ⟨wL, hwL⟩ : ∃ wL, wL = w3.alloc (.cells #[.pointer none, .pointer (some ⟨tb, 0, none⟩)] 25) := ⟨_, rfl⟩
    rw [← hwL]
    have HBL := hid (show Below w3.heap.size w3 wL by rw [hwL]; exact bal _)
    have HRL := hid (show Row wL w3.heap.size 25 [.pointer none, .pointer (some ⟨tb, 0, none⟩)] by rw [hwL]; exact Row.new w3 _ _)
    have HTL := hid (HT3.out.below HBL.out)
    have HWL := hid (HW3.out.below HBL.out)
    have HGL := hid (show GoneAt (some ⟨tb, 0, none⟩) wL from HTL.out.goneAt)
    have HXL := hid (HRBW.out wL HTL.out.cw.low)
    clear q0 q1 q2 q3 hol hwL
    generalize w3.heap.size = cl at *
    go_loopw [9] (fun i wr => ∃ j : Nat, j ≤ 2 ∧ i = .int .i64 j ∧ Below wL.heap.size wL wr) (fun i _ => 2 - (intOf i).toNat)
    case atStart => exact ⟨0, Nat.zero_le _, rfl, Below.refl _ _⟩
    case round =>
      obtain ⟨j, hj, rfl, hbr⟩ := hrel
      have HBR := hid hbr
      have HRR := hid (HRL.out.below hbr HRL.out.lt)
      have HXR := hid (HXL.out.below hbr HXL.out.lt)
      clear hbr
      by_cases hlt : j < 2
      · have d1 : decide ((j : Int) < 2) = true := by simp; omega
        have d1n : decide (j < 2) = true := by simp; omega
        obtain ⟨tp, hcj, hgj⟩ : ∃ tp, wr.cell? ⟨cl, j, none⟩ = some (.pointer tp) ∧ GoneAt tp wr := by
          rcases (show j = 0 ∨ j = 1 by omega) with rfl | rfl
          · exact ⟨none, HRR.out.cell 0 (by simp), goneNil wr⟩
          · exact ⟨_, HRR.out.cell 1 (by simp), HGL.out.below HBR.out⟩
        have HGJ := hid hgj
        have hcl := HRR.out.lt
        have z0 : (0 : Int) ≤ (j : Int) := by omega
        have z1 : (j : Int) < 2 := by omega
        obtain ⟨g0, g1, g2, g3, g4, g5⟩ : wr.cell? ⟨w.heap.size, 0, none⟩ = some (.int .i64 o.kind) ∧ wr.cell? ⟨w.heap.size, 1, none⟩ = some (.int .u64 (o.ad : Int)) ∧ wr.cell? ⟨w.heap.size, 2, none⟩ = some (.int .i64 o.f) ∧ wr.cell? ⟨w.heap.size, 3, none⟩ = some (.int .u8 o.q) ∧ wr.cell? ⟨w.heap.size, 4, none⟩ = some (.bool o.b) ∧ wr.cell? ⟨w.heap.size, 5, none⟩ = some (.int .i64 o.n) := ⟨HXR.out.cell 0 (by simp), HXR.out.cell 1 (by simp), HXR.out.cell 2 (by simp), HXR.out.cell 3 (by simp), HXR.out.cell 4 (by simp), HXR.out.cell 5 (by simp)⟩
        have hbl := HXR.out.lt
        clear hgj hlt
        go_wp2_with fail
        refine (mapG tp _ HGJ.out _ _ _ _).mono ?_
        rintro e w5 ⟨rfl, hb5⟩
        have HG5 := hid (HGJ.out.below hb5)
        have HX5 := hid (HXR.out.below hb5 HXR.out.lt)
        have HB5 := hid (bthen HBR.out hb5)
        clear hb5 g0 g1 g2 g3 g4 g5 hbl hcj hcl
        obtain ⟨g0, g1, g2, g3, g4, g5⟩ : w5.cell? ⟨w.heap.size, 0, none⟩ = some (.int .i64 o.kind) ∧ w5.cell? ⟨w.heap.size, 1, none⟩ = some (.int .u64 (o.ad : Int)) ∧ w5.cell? ⟨w.heap.size, 2, none⟩ = some (.int .i64 o.f) ∧ w5.cell? ⟨w.heap.size, 3, none⟩ = some (.int .u8 o.q) ∧ w5.cell? ⟨w.heap.size, 4, none⟩ = some (.bool o.b) ∧ w5.cell? ⟨w.heap.size, 5, none⟩ = some (.int .i64 o.n) := ⟨HX5.out.cell 0 (by simp), HX5.out.cell 1 (by simp), HX5.out.cell 2 (by simp), HX5.out.cell 3 (by simp), HX5.out.cell 4 (by simp), HX5.out.cell 5 (by simp)⟩
        have hbl := HX5.out.lt
        go_wp2_with fail
        refine (unmapG tp _ HG5.out _).mono ?_
        rintro e w6 ⟨rfl, hb6⟩
        have HG6 := hid (HG5.out.below hb6)
        have HX6 := hid (HX5.out.below hb6 HX5.out.lt)
        have HB6 := hid (bthen HB5.out hb6)
        clear hb6 g0 g1 g2 g3 g4 g5 hbl
        obtain ⟨g0, g1, g2, g3, g4, g5⟩ : w6.cell? ⟨w.heap.size, 0, none⟩ = some (.int .i64 o.kind) ∧ w6.cell? ⟨w.heap.size, 1, none⟩ = some (.int .u64 (o.ad : Int)) ∧ w6.cell? ⟨w.heap.size, 2, none⟩ = some (.int .i64 o.f) ∧ w6.cell? ⟨w.heap.size, 3, none⟩ = some (.int .u8 o.q) ∧ w6.cell? ⟨w.heap.size, 4, none⟩ = some (.bool o.b) ∧ w6.cell? ⟨w.heap.size, 5, none⟩ = some (.int .i64 o.n) := ⟨HX6.out.cell 0 (by simp), HX6.out.cell 1 (by simp), HX6.out.cell 2 (by simp), HX6.out.cell 3 (by simp), HX6.out.cell 4 (by simp), HX6.out.cell 5 (by simp)⟩
        have hbl := HX6.out.lt
        go_wp2_with fail
        refine (setG tp _ HG6.out _ _ _ _).mono ?_
        rintro e w7 ⟨rfl, hb7⟩
        have HG7 := hid (HG6.out.below hb7)
        have HX7 := hid (HX6.out.below hb7 HX6.out.lt)
        have HB7 := hid (bthen HB6.out hb7)
        clear hb7 g0 g1 g2 g3 g4 g5 hbl
        obtain ⟨g0, g1, g2, g3, g4, g5⟩ : w7.cell? ⟨w.heap.size, 0, none⟩ = some (.int .i64 o.kind) ∧ w7.cell? ⟨w.heap.size, 1, none⟩ = some (.int .u64 (o.ad : Int)) ∧ w7.cell? ⟨w.heap.size, 2, none⟩ = some (.int .i64 o.f) ∧ w7.cell? ⟨w.heap.size, 3, none⟩ = some (.int .u8 o.q) ∧ w7.cell? ⟨w.heap.size, 4, none⟩ = some (.bool o.b) ∧ w7.cell? ⟨w.heap.size, 5, none⟩ = some (.int .i64 o.n) := ⟨HX7.out.cell 0 (by simp), HX7.out.cell 1 (by simp), HX7.out.cell 2 (by simp), HX7.out.cell 3 (by simp), HX7.out.cell 4 (by simp), HX7.out.cell 5 (by simp)⟩
        have hbl := HX7.out.lt
        have HFI := hid (findG tp w7 HG7.out (o.ad : Int))
        unfold lfV at HFI
        go_wp2_with fail
        refine (HFI.out).mono ?_
        rintro e w8 ⟨rfl, hb8⟩
        obtain ⟨w9, hw9⟩ : ∃ w9, w9 = w8.alloc (.cells #[.int .i64 0, .int .u8 0, .bool false] 40) := ⟨_, rfl⟩
        have hb9 : Below w8.heap.size w8 w9 := by rw [hw9]; exact bal _
        have HG9 := hid ((HG7.out.below hb8).below hb9)
        have HB9 := hid (bthen (bthen HB7.out hb8) hb9)
        have HW9 := hid hw9
        clear hb8 hb9 hw9 g0 g1 g2 g3 g4 g5 hbl
        go_wp2_with fail
        rw [← HW9.out]
        refine (allG tp _ HG9.out).mono ?_
        rintro e wx ⟨rfl, rfl⟩
        go_wp2_with fail
        refine (nodesG tp _ HG9.out).mono ?_
        rintro e wx ⟨rfl, rfl⟩
        go_wp2_with fail
        go_roundw
        case rel => exact ⟨j + 1, by omega, by go_num, HB9.out⟩
        case measure => simp [intOf]; omega
      · have d1 : decide ((j : Int) < 2) = false := by simp; omega
        have d1n : decide (j < 2) = false := by simp; omega
        have HWR := hid (HWL.out.below HBR.out)
        have HTR := hid (HTL.out.below HBR.out)
        obtain ⟨q0, q1, q2, q3⟩ := HWR.out.own.four
        have hol := HWR.out.own.lt
        have HFT := hid (freeG (some ⟨tb, 0, none⟩) wr HTR.out.goneAt)
        have HFC := hid (free_any p g h s3.fs ws3 wr HTR.out.cw.pool)
        rw [H8.out, show ((8 : Nat) : Int) = 8 from rfl] at HFC
        have HBZ := hid (HLOW.out wr HTR.out.cw.low)
        go_wp2_with fail
        refine (HFT.out).mono ?_
        rintro e wx ⟨rfl, rfl⟩
        go_wp2_with fail
        refine (HFC.out).mono ?_
        rintro e wx ⟨rfl, rfl⟩
        go_wp2_with fail
        refine (HWK.out wr HBZ.out).mono ?_
        rintro e wk ⟨rfl, hbk⟩
        have HBK := hid (bthen HBZ.out hbk)
        clear hbk
        go_wp2_with fail
        go_ret
        exact ⟨rfl, HBK.out⟩
end Go.Proofs.YtncikcllhjhjmaaDoor
