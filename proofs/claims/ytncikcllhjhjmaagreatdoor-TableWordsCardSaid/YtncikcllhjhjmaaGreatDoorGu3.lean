
/- TableWords: the walk. -/
import Derived.Test.YtncikcllhjhjmaaGreatDoorGu5
import Derived.Test.YtncikcllhjhjmaaGreatDoorGtW
import Derived.Test.YtncikcllhjhjmaaGreatDoorGtU
import Derived.BigQuiet
namespace Go.Proofs.YtncikcllhjhjmaaGreatDoor
open Go.RowKit Go.Sort Go.WideMaps Go.Maps Go.WideShapes Go.WideElems Go.MapKept Go.ChangeMaps
attribute [local go_sem] Oper.semAt_some

def N0 (_ : Nat) : Prop := False
theorem ex0 {w w' : World} (h : EX N0 w w') : Below w.heap.size w w' := h.below (Below.refl _ _) (fun _ e => e.elim) (Nat.le_refl _)
theorem size_drew9 (w : World) : w.drew.heap.size = w.heap.size := rfl
theorem leaf_n (w : World) {wx : World} (h : Below (w.alloc (.cells #[.int .i64 0, .int .u8 0, .bool false] 39)).heap.size (w.alloc (.cells #[.int .i64 0, .int .u8 0, .bool false] 39)) wx) : Row wx w.heap.size 39 [.int .i64 0, .int .u8 0, .bool false] := (Row.new w _ _).below h (Row.new w _ _).lt
theorem leaf_nd (w : World) {wx : World} (h : Below (w.alloc (.cells #[.int .i64 0, .int .u8 0, .bool false] 39)).drew.heap.size (w.alloc (.cells #[.int .i64 0, .int .u8 0, .bool false] 39)).drew wx) : Row wx w.heap.size 39 [.int .i64 0, .int .u8 0, .bool false] := (Row.new w _ _).drew.below h (Row.new w _ _).drew.lt
theorem nk_lt {fs : List FR} (hl : fs.length ≤ 1024) : ∀ (k : Nat) (t : Tr), Holds fs k t → (∀ q ∈ nodesT k t, q < 1048576) → ∀ x ∈ nkT k t, ∀ i, i < 512 → wdT (x.2 i) < 18446744073709551616
  | 0, .no, _, _, x, hx, _, _ => by cases hx
  | 0, .lf _ _ _, _, _, x, hx, _, _ => by cases hx
  | 0, .nd _ _, _, _, x, hx, _, _ => by cases hx
  | _ + 1, .no, _, _, x, hx, _, _ => by cases hx
  | _ + 1, .lf _ _ _, _, _, x, hx, _, _ => by cases hx
  | k + 1, .nd f kids, H, hq, x, hx, i, hi => by
    rcases List.mem_cons.1 hx with rfl | h
    · have h1 := (H i hi).2
      show wdT (kids i) < _
      cases hk : kids i with
      | no => exact (by decide : (0 : Nat) < 18446744073709551616)
      | lf a q b =>
        rw [hk] at h1
        cases k with
        | zero => have := wdT_lt (cp := b) (show a < 1048576 by have := h1.1; omega) h1.2; omega
        | succ k => exact h1.elim
      | nd g kk =>
        rw [hk] at h1
        cases k with
        | zero => exact h1.elim
        | succ k => have := hq g (nodes_child hi (by rw [hk]; exact nodes_self)); show g * 4096 + 1 < _; omega
    · obtain ⟨j, hj, hy⟩ := List.mem_flatMap.1 h
      exact nk_lt hl k (kids j) (H j (List.mem_range.1 hj)).2 (fun q hq' => hq q (nodes_child (List.mem_range.1 hj) hq')) x hy i hi
theorem end_wraps {n m v la : Nat} (h1 : n = m + 1) (h2 : v + 1 = n + la) (hn : n ≤ 1000000) (hl : la ≤ 1000000) : wrap64 ((n : Int) - 1) = (m : Int) ∧ wrap64 ((m : Int) + (la : Int)) = (v : Int) ∧ IntKind.i64.wrap ((n : Int) - 1) = (m : Int) ∧ IntKind.i64.wrap ((m : Int) + (la : Int)) = (v : Int) := by
  refine ⟨?_, ?_, ?_, ?_⟩
  · rw [IntWalk.wrap64_in _ ⟨by omega, by omega⟩]; omega
  · rw [IntWalk.wrap64_in _ ⟨by omega, by omega⟩]; omega
  · rw [IntKind.wrap_i64]; omega
  · rw [IntKind.wrap_i64]; omega
def sumN (NK : List (Nat × (Nat → Tr))) (j : Nat) : Nat := ((NK.take j).map fun x => nzN x.2).sum
def cntN (kids : Nat → Tr) (q : Nat) : Nat := (List.range q).countP fun i => decide (wdT (kids i) ≠ 0)
theorem sumN_next {NK : List (Nat × (Nat → Tr))} {j : Nat} (h : j < NK.length) : sumN NK (j + 1) = sumN NK j + cntN NK[j].2 512 := by
  unfold sumN
  rw [List.take_succ_eq_append_getElem h, List.map_append, List.sum_append]
  simp [cntN, nzN]
theorem cntN_next (kids : Nat → Tr) (q : Nat) : cntN kids (q + 1) = cntN kids q + if wdT (kids q) = 0 then 0 else 1 := by
  unfold cntN
  rw [List.range_succ, List.countP_append]
  by_cases h : wdT (kids q) = 0
  · simp [h]
  · simp [h]
theorem cntN_le (kids : Nat → Tr) (q : Nat) : cntN kids q ≤ q := by
  unfold cntN
  have := List.countP_le_length (p := fun i => decide (wdT (kids i) ≠ 0)) (l := List.range q)
  rw [List.length_range] at this
  exact this
theorem sumN_le (NK : List (Nat × (Nat → Tr))) : ∀ j, sumN NK j ≤ 512 * NK.length := by
  intro j
  have key : ∀ l : List (Nat × (Nat → Tr)), (l.map fun x => nzN x.2).sum ≤ 512 * l.length := by
    intro l
    induction l with
    | nil => simp
    | cons a l ih =>
      have := cntN_le a.2 512
      have e : nzN a.2 = cntN a.2 512 := rfl
      rw [List.map_cons, List.sum_cons, List.length_cons]
      omega
  have h1 := key (NK.take j)
  have h2 : (NK.take j).length ≤ NK.length := by rw [List.length_take]; omega
  unfold sumN
  omega

set_option maxRecDepth 100000 in
set_option maxHeartbeats 8000000 in
theorem tableWords_walk (N : Int) (oa : Option Addr) (oc : Nat) (l : List O9) (y : Nat) (w : World) (hO : Ops9 w oa l) (hy : y < 18446744073709551616) (hT : Tb w) (hZ : Wd.Sizes w) :
    Calls Tryz.prog 3 #[.int .i64 N, .slice oa l.length oc, .int .u64 (y : Int)] w fun e w' => e = .returned (.bool true) ∧ Below w.heap.size w w' := by
  obtain ⟨wb, hwb⟩ : ∃ wb, wb = w := ⟨_, rfl⟩
  have HBB := hid (show Below w.heap.size w wb by rw [hwb]; exact Below.refl _ _)
  have HOP := hid (hO.below HBB.out)
  have HWK := hid (fun (W : World) (hb : Below w.heap.size w W) => works9_any W (fun j hj => St.cell (hT j hj) hb) (hZ.below hb))
  have HVA := hid (vast9_any N oa l.length oc wb)
  have HBH := hid (fun (h : N ≤ 96 ∧ l.length ≤ 120) => behind_any N (by omega) oa oc l wb (fun j hj => St.cell (hT j hj) HBB.out) (hZ.below HBB.out) HOP.out (by omega))
  have HMD := hid (fun (h : N ≤ 96 ∧ l.length ≤ 120) => made9_any N (by omega) wb (fun j hj => St.cell (hT j hj) HBB.out) (hZ.below HBB.out))
  have HWB := hid hwb
  have HY := hid hy
  clear hy
  clear hO hT hZ hwb
  go_enter Tryz.func3, Tryz.ntmps3
  go_wp2_with fail
  rw [← HWB.out]
  refine (HVA.out).mono ?_
  rintro e w1 ⟨⟨vb, rfl, hvs⟩, rfl⟩
  have HVS := hid hvs
  clear hvs
  rcases vb with _ | _
  rotate_left
  · go_wp2_with fail
    refine (HWK.out _ HBB.out).mono ?_
    rintro e wk ⟨rfl, hbk⟩
    have HBK := hid (bthen HBB.out hbk)
    clear hbk
    go_wp2_with fail
    go_ret
    exact ⟨rfl, HBK.out⟩
  have HVN := hid (HVS.out rfl)
  have HBN := hid (HBH.out HVN.out)
  have HMN := hid (HMD.out HVN.out)
  go_wp2_with fail
  refine (HBN.out).mono ?_
  rintro e w2 hm
  rcases hm with ⟨hn1, rfl, hb⟩ | ⟨w0, F, t, p, g, h, c, m, tb, ob, root, vh, ws, k, st, hnk, hk1, rfl, how, hran, hfr, hb0⟩
  · have HB2 := hid (bthen HBB.out hb)
    clear hb
    go_wp2_with fail
    refine (HWK.out w2 HB2.out).mono ?_
    rintro e wk ⟨rfl, hbk⟩
    have HBK := hid (bthen HB2.out hbk)
    clear hbk
    go_wp2_with fail
    go_ret
    exact ⟨rfl, HBK.out⟩
  have HOW := hid how
  have HFR := hid hfr
  have HRAN := hid hran
  have HBW := hid (bthen HBB.out hb0)
  have HBY := hid hb0
  have HLOW := hid (fun (W : World) (hl : Below w0.heap.size w0 W) => show Below w.heap.size w W from HBW.out.trans (hl.mono HBW.out.size))
  have HTI := hid (hran.inv.ti hfr)
  have HTW := hid (show TW w0 F t p g h c m tb st.s ws root false w2 by have := how.tw; rw [hfr] at this; exact this)
  clear how hfr hran hb0
  have HHL := hid (show st.h.length ≤ 1000000 by have := HRAN.out.hh; have := HVN.out.2; omega)
  have HLL := hid (show (allL root st.kids).length ≤ 1000000 ∧ (nodL root st.kids).length ≤ 1000000 from all_small HTI.out HTW.out.cw.pool.n2)
  have HTK := hid HTI.out.tk
  have HHO := hid HTI.out.holds
  obtain ⟨q0, q1, q2, q3⟩ := HOW.out.own.four
  have hol := HOW.out.own.lt
  have HNO := hid (nodes_any st.s st.kids st.h ws w2 HTW.out HTI.out)
  go_wp2_with fail
  refine (HNO.out).mono ?_
  rintro e w3 ⟨v3, rfl, ho3, hb3⟩
  obtain ⟨a3, c3, rfl, hcl3, _⟩ := own_cel ho3
  have HCL3 := hid hcl3
  have HO3 := hid ho3
  have HW3 := hid (HOW.out.below hb3)
  have HT3 := hid (HTW.out.below hb3)
  clear ho3 hb3 hcl3 q0 q1 q2 q3 hol
  obtain ⟨q0, q1, q2, q3⟩ := HW3.out.own.four
  have hol := HW3.out.own.lt
  have HAL := hid (all_any st.s st.kids st.h ws w3 HT3.out HTI.out)
  have hnl : 0 < (nodL root st.kids).length := List.length_pos_of_mem (nodes_self (k := 3) (f := root) (kids := st.kids))
  have dn : (((nodL root st.kids).length : Int) == 0) = false := beq_eq_false_iff_ne.2 (by omega)
  have dnd : decide (((nodL root st.kids).length : Int) = 0) = false := decide_eq_false (by omega)
  go_wp2_with fail
  refine (HAL.out).mono ?_
  rintro e w4 ⟨v4, rfl, ho4, hb4⟩
  obtain ⟨a4, c4, rfl, hrk4⟩ := own_puts ho4 HLL.out.1
  have HRK4 := hid hrk4
  have HCL4 := hid (HCL3.out.below' hb4)
  have HO34 := hid (own_below HO3.out hb4)
  have HW4 := hid (HW3.out.below hb4)
  have HT4 := hid (HT3.out.below hb4)
  clear ho4 hb4 hrk4 q0 q1 q2 q3 hol
  go_wp2_with fail
  go_loopw [11] (fun i wr => ∃ j : Nat, j ≤ (allL root st.kids).length ∧ i = .int .i64 j ∧ Below w4.heap.size w4 wr) (fun i _ => (allL root st.kids).length - (intOf i).toNat)
  case atStart => exact ⟨0, Nat.zero_le _, rfl, Below.refl _ _⟩
  case round =>
    obtain ⟨j, hj, rfl, hbr⟩ := hrel
    have HBR := hid hbr
    clear hbr
    have hll := HLL.out.1
    by_cases hlt : j < (allL root st.kids).length
    · have d1 : decide ((j : Int) < ((allL root st.kids).length : Int)) = true := by simp; omega
      have d1n : decide (j < (allL root st.kids).length) = true := by simp; omega
      have HKR := hid (HRK4.out.below' HBR.out)
      have HCR := hid (HCL4.out.below' HBR.out)
      have HTR := hid (HT4.out.below HBR.out)
      have HWR := hid (HW4.out.below HBR.out)
      obtain ⟨bl, ol, rfl, hat⟩ := HKR.out.some_of (by simp; omega)
      obtain ⟨bn, on, rfl, hnt⟩ := HCR.out.some_of (by simpa using hnl)
      have e9 : ((allL root st.kids).map putC)[j]'(by simpa using hlt) = putC (allL root st.kids)[j] := by simp
      have gq := fun q hq => hat j (by simpa using hlt) q hq
      rw [e9] at gq
      have g0 := gq 0 (by simp [putC])
      have g1 := gq 1 (by simp [putC])
      have g2 := gq 2 (by simp [putC])
      have g3 := gq 3 (by simp [putC])
      simp only [putC, List.getElem_cons_zero, List.getElem_cons_succ, Nat.add_zero] at g0 g1 g2 g3
      have gn : wr.cell? ⟨bn, on, none⟩ = some (.int .i64 (root : Int)) := hnt 0 (by simpa using hnl)
      have hla := World.block_lt_of_cell? _ _ g0
      have hlb := World.block_lt_of_cell? _ _ gn
      obtain ⟨hlo, hlk⟩ := all_look (HTI.out.holds.shp) (List.getElem_mem hlt)
      generalize (allL root st.kids)[j] = y9 at *
      obtain ⟨y0, y1, y2, y3⟩ := y9
      simp only at g0 g1 g2 g3 hlo hlk
      have HLV := hid (fun (W : World) (hs : EX N0 wr W) => (show Calls Tryz.prog 14 #[.pointer (some ⟨p, 0, none⟩), .int .i64 (root : Int), .int .u64 (y0 : Int)] W fun e w' => e = .returned (.tuple #[.agg #[.int .i64 (y1 : Int), .int .u8 (y2 : Int), .bool y3], .bool true]) ∧ Below W.heap.size W w' from by have := led_any (HTR.out.below (ex0 hs)) st.kids HHO.out HTK.out y0 (by omega); rw [hlk] at this; exact this))
      have HROWN := hid (show Row wr ob 34 _ from HWR.out.own)
      have Q0 : ∀ ww, EX N0 wr ww → ww.cell? ⟨ob, 0, none⟩ = some (.pointer (some ⟨p, 0, none⟩)) := fun ww hs => (hs.row HROWN.out id).cell 0 (by simp)
      have Q1 : ∀ ww, EX N0 wr ww → ww.cell? ⟨bn, on, none⟩ = some (.int .i64 (root : Int)) := fun ww hs => hs.cell gn id
      have Q2 := fun ww (hs : EX N0 wr ww) => hs.cell g0 id
      have G1 := hid (fun ww (hs : EX N0 wr ww) => hs.cell g1 id)
      have G2 := hid (fun ww (hs : EX N0 wr ww) => hs.cell g2 id)
      have G3 := hid (fun ww (hs : EX N0 wr ww) => hs.cell g3 id)
      have ez : (0 : Int) ≤ (j : Int) := by omega
      have eb : (j : Int) < ((allL root st.kids).length : Int) := by omega
      have en0 : (0 : Int) < ((nodL root st.kids).length : Int) := by omega
      have hlz := HLL.out.1
      generalize allL root st.kids = LA at *
      generalize nodL root st.kids = LN at *
      clear hat hnt gq e9 hlk gn g0 g1 g2 g3
      go_wp2_with fail
      have hS0 : EX N0 wr wr.drew := EX.drew (EX.refl _)
      go_region_held3 (EX N0 wr) (first | exact EX.drew _ | exact EX.refl _ | assumption | exact EX.set (EX.set (EX.set hS2 (.inr (Nat.le_refl _)) 0 _) (.inr (Nat.le_refl _)) 1 _) (.inr (Nat.le_refl _)) 2 _ | exact EX.alloc hS2 _ | exact EX.alloc hS0 _) ((go_at_call 14; refine (HLV.out _ (by first | assumption | exact EX.alloc hS0 _ | exact (EX.refl _).drew | exact ((EX.refl _).alloc _).drew | exact ((EX.refl _).drew).alloc _)).mono ?_; rintro e' w7 ⟨rfl, hbw7⟩; have hS2 : EX N0 wr w7 := (by first | exact hS0.trans (EX.of_below hbw7) | exact (hS0.alloc _).trans (EX.of_below hbw7) | exact (((EX.refl _).alloc _).drew).trans (EX.of_below hbw7)); have HESw7 : Hid (EX N0 wr w7) := hid hS2; (first | (have rw6 := (by first | exact leaf_n wr hbw7 | exact leaf_nd wr hbw7 : Row w7 wr.heap.size 39 _); have c60 := rw6.cell 0 (by simp); have c61 := rw6.cell 1 (by simp); have c62 := rw6.cell 2 (by simp); have f60 := rw6.frozen 0; have f61 := rw6.frozen 1; have f62 := rw6.frozen 2; have l6 := rw6.lt; simp only [List.getElem_cons_zero, List.getElem_cons_succ, size_drew9] at c60 c61 c62 f60 f61 f62 l6; have HRW6 := hid rw6; clear rw6) | skip); clear hbw7))
      · obtain ⟨w8, hw8⟩ : ∃ w8, w8 = w7.alloc (.cells #[.int .i64 (y1 : Int), .int .u8 (y2 : Int), .bool y3] 39) := ⟨_, rfl⟩
        rw [← hw8]
        have HE8 := hid (show EX N0 wr w8 by rw [hw8]; exact HESw7.out.alloc _)
        have HRL8 := hid (show Row w8 w7.heap.size 39 [.int .i64 (y1 : Int), .int .u8 (y2 : Int), .bool y3] by rw [hw8]; exact Row.new w7 _ _)
        obtain ⟨l0, l1, l2⟩ : w8.cell? ⟨w7.heap.size, 0, none⟩ = some (.int .i64 (y1 : Int)) ∧ w8.cell? ⟨w7.heap.size, 1, none⟩ = some (.int .u8 (y2 : Int)) ∧ w8.cell? ⟨w7.heap.size, 2, none⟩ = some (.bool y3) := ⟨HRL8.out.cell 0 (by simp), HRL8.out.cell 1 (by simp), HRL8.out.cell 2 (by simp)⟩
        have hll8 := HRL8.out.lt
        clear hw8 hS0 hS2
        have g1 := G1.out _ HE8.out
        have g2 := G2.out _ HE8.out
        have g3 := G3.out _ HE8.out
        have hlg := World.block_lt_of_cell? _ _ g1
        clear Q0 Q1 Q2
        go_wp2_with fail
        go_quiet (fail)
        go_wp2_with fail
        go_roundw
        case rel => exact ⟨j + 1, by omega, by go_num, bdN (HBR.out.trans ((ex0 HE8.out).mono HBR.out.size)) _⟩
        case measure => simp [intOf]; omega
      · have HRN := hid (show Row w7 wr.heap.size 39 [.int .i64 0, .int .u8 0, .bool false] from HRW6.out)
        obtain ⟨w8, hw8⟩ : ∃ w8, w8 = ((w7.setCell ⟨wr.heap.size, 0, none⟩ (.int .i64 (y1 : Int))).setCell ⟨wr.heap.size, 1, none⟩ (.int .u8 (y2 : Int))).setCell ⟨wr.heap.size, 2, none⟩ (.bool y3) := ⟨_, rfl⟩
        rw [← hw8]
        have HE8 := hid (show EX N0 wr w8 by rw [hw8]; exact EX.set (EX.set (EX.set HESw7.out (.inr (Nat.le_refl _)) 0 _) (.inr (Nat.le_refl _)) 1 _) (.inr (Nat.le_refl _)) 2 _)
        have HRL8 := hid (show Row w8 wr.heap.size 39 [.int .i64 (y1 : Int), .int .u8 (y2 : Int), .bool y3] by rw [hw8]; exact ((HRN.out.set 0 _).set 1 _).set 2 _)
        obtain ⟨l0, l1, l2⟩ : w8.cell? ⟨wr.heap.size, 0, none⟩ = some (.int .i64 (y1 : Int)) ∧ w8.cell? ⟨wr.heap.size, 1, none⟩ = some (.int .u8 (y2 : Int)) ∧ w8.cell? ⟨wr.heap.size, 2, none⟩ = some (.bool y3) := ⟨HRL8.out.cell 0 (by simp), HRL8.out.cell 1 (by simp), HRL8.out.cell 2 (by simp)⟩
        have hll8 := HRL8.out.lt
        clear hw8 hS0 hS2 c60 c61 c62 f60 f61 f62 l6
        have g1 := G1.out _ HE8.out
        have g2 := G2.out _ HE8.out
        have g3 := G3.out _ HE8.out
        have hlg := World.block_lt_of_cell? _ _ g1
        clear Q0 Q1 Q2
        go_wp2_with fail
        go_quiet (fail)
        go_wp2_with fail
        go_roundw
        case rel => exact ⟨j + 1, by omega, by go_num, bdN (HBR.out.trans ((ex0 HE8.out).mono HBR.out.size)) _⟩
        case measure => simp [intOf]; omega
    · have d1 : decide ((j : Int) < ((allL root st.kids).length : Int)) = false := by simp; omega
      have d1n : decide (j < (allL root st.kids).length) = false := by simp; omega
      have HTR := hid (HT4.out.below HBR.out)
      have HWR := hid (HW4.out.below HBR.out)
      have HOR := hid (own_below HO34.out HBR.out)
      have HNR := hid (HTR.out.cw.nOwn HOR.out (by decide) (by decide) (by decide))
      obtain ⟨q0, q1, q2, q3⟩ := HWR.out.own.four
      have hol := HWR.out.own.lt
      obtain ⟨X, hX⟩ : ∃ X, X = lookT (ixOf y) 3 st.kids := ⟨_, rfl⟩
      have HFI := hid (find_any st.s st.kids st.h ws y HY.out wr HTR.out HTI.out (by have := ti_room HTI.out HTW.out.cw.pool.n2 HHL.out; omega))
      rw [← hX] at HFI
      have HXX := hid hX
      clear hX
      obtain ⟨NK, hNK⟩ : ∃ NK, NK = nkT 4 (.nd root st.kids) := ⟨_, rfl⟩
      have hfst : NK.map (·.1) = nodL root st.kids := by rw [hNK]; exact nk_fst 4 _
      have HNK3 := hid (show ∀ x ∈ NK, ∀ i, i < 512 → WdAt st.s.fs x.1 i (wdT (x.2 i)) by rw [hNK]; exact nk_words 4 _ HHO.out)
      have hmem : ∀ x ∈ NK, TakenF x.1 st.s := fun x hx => HTK.out x.1 (by have : x.1 ∈ NK.map (·.1) := List.mem_map.2 ⟨x, hx, rfl⟩; rw [hfst] at this; exact this)
      have HNK4 := hid (show ∀ x ∈ NK, st.s.fs.length ≥ 0 ∧ ∃ ha : x.1 < st.s.fs.length, st.s.fs[x.1].cnt ≠ 0 from fun x hx => ⟨Nat.zero_le _, hmem x hx⟩)
      have HNK4 := hid (show ∀ x ∈ NK, TakenF x.1 st.s from hmem)
      have HNK6 := hid (show ∀ x ∈ NK, ∀ i, i < 512 → wdT (x.2 i) < 18446744073709551616 by rw [hNK]; exact nk_lt HTW.out.cw.pool.n2 4 _ HHO.out (fun q hq => by obtain ⟨h1, _⟩ := HTK.out q hq; have := HTW.out.cw.pool.n2; omega))
      have hsum : (NK.map fun x => nzN x.2).sum + 1 = (nodL root st.kids).length + (allL root st.kids).length := by
        rw [hNK]
        have h1 := nk_sum 4 (.nd root st.kids) HHO.out.shp
        rw [if_neg (show ¬ isNo (.nd root st.kids) = true by simp [isNo])] at h1
        have h2 : (allL root st.kids).map (fun y => y.2.1) = lfT 4 (.nd root st.kids) := leaves_lf 4 0 (.nd root st.kids)
        have h3 : (allL root st.kids).length = (lfT 4 (.nd root st.kids)).length := by rw [← h2, List.length_map]
        rw [h3]
        exact h1
      have hcel : (nodL root st.kids).map nI9 = NK.map fun x => nI9 x.1 := by rw [← hfst, List.map_map]; rfl
      have hlen : (nodL root st.kids).length = NK.length := by rw [← hfst, List.length_map]
      have HNK7 := hid (show 0 < NK.length by omega)
      have HNK5 := hid (show NK.length ≤ 1000000 by have := HLL.out.2; omega)
      have HLA := hid (show (allL root st.kids).length ≤ 1000000 from HLL.out.1)
      rw [hlen] at hsum
      have HNK2 := hid hsum
      have HCE := hid hcel
      rw [hlen]
      have HLN := hid hlen
      clear hNK hfst hmem hsum hcel hlen hlt d1 hj
      obtain ⟨x0, x1, x2, hld⟩ := ldV_is (fndL y X)
      rw [hld] at HFI
      by_cases hy2 : y < 140737488355328
      · have dy : decide ((y : Int) < 140737488355328) = true := by simp; omega
        have HFL := hid (show ldV X = .agg #[.int .i64 x0, .int .u8 x1, .bool x2] by rw [← hld]; unfold fndL; rw [if_pos hy2])
        have HLV := hid (fun (W : World) ws5 (H : TW w0 F t p g h c m tb st.s ws5 root false W) => led_any H st.kids HHO.out HTK.out y HY.out)
        rw [← HXX.out] at HLV
        unfold ledV at HLV
        rw [HFL.out] at HLV
        cases hno : isNo X
        · have HFE := hid (show fndE y X = 0 by unfold fndE; rw [if_pos hy2, hno]; rfl)
          rw [hno] at HLV
          rw [HFE.out] at HFI
          clear hno hy2 hld
          generalize allL root st.kids = LA at *
          go_wp2_with fail
          refine (HFI.out).mono ?_
          rintro e w5 ⟨rfl, ⟨ws5, ht5⟩, he5⟩
          have HW5 := hid (show OW9 w0 F t p g h c m tb ob root vh st ws5 w5 from HWR.out.call (by rw [HFR.out]; exact ht5) (he5.mono fun _ _ e => .inl e) rfl)
          have HT5 := hid ht5
          obtain ⟨a3', c3', e9, hcl, _⟩ := own_cel (he5.own HOR.out HNR.out)
          cases e9
          have HCL5 := hid hcl
          clear he5 ht5 hcl
          obtain ⟨w6, hw6⟩ : ∃ w6, w6 = w5.alloc (.cells #[.int .i64 x0, .int .u8 x1, .bool x2] 39) := ⟨_, rfl⟩
          have HB6 := hid (show Below w5.heap.size w5 w6 by rw [hw6]; exact bal _)
          have HRL6 := hid (show Row w6 w5.heap.size 39 [.int .i64 x0, .int .u8 x1, .bool x2] by rw [hw6]; exact Row.new w5 _ _)
          have HT6 := hid (HT5.out.below HB6.out)
          have HW6 := hid (HW5.out.below HB6.out)
          have HCL6 := hid (HCL5.out.below' HB6.out)
          rw [HCE.out] at HCL6
          obtain ⟨bn, on, rfl, hnt⟩ := HCL6.out.some_of (by simpa using HNK7.out)
          have gn : w6.cell? ⟨bn, on, none⟩ = some (.int .i64 (root : Int)) := by
            have := HCL6.out
            rw [← HCE.out] at this
            obtain ⟨b', o', e', h'⟩ := this.some_of (by simpa using hnl)
            cases e'
            exact h' 0 (by simpa using hnl)
          have HROWN := hid (show Row w6 ob 34 _ from HW6.out.own)
          have Q0 : ∀ ww, EX N0 w6 ww → ww.cell? ⟨ob, 0, none⟩ = some (.pointer (some ⟨p, 0, none⟩)) := fun ww hs => (hs.row HROWN.out id).cell 0 (by simp)
          have Q1 : ∀ ww, EX N0 w6 ww → ww.cell? ⟨bn, on, none⟩ = some (.int .i64 (root : Int)) := fun ww hs => hs.cell gn id
          have HL6 := hid (fun W (hs : EX N0 w6 W) => HLV.out W ws5 (HT6.out.below (ex0 hs)))
          have en0 : (0 : Int) < (NK.length : Int) := by have := HNK7.out; omega
          have hnkp := HNK7.out
          clear hnt gn q0 q1 q2 q3 hol HFI HLV
          go_wp2_with fail
          rw [← hw6]
          clear hw6
          go_wp2_with fail
          have hS0 : EX N0 w6 w6.drew := EX.drew (EX.refl _)
          go_region_held3 (EX N0 w6) (first | exact EX.drew _ | exact EX.refl _ | assumption | exact EX.set (EX.set (EX.set hS2 (.inr (Nat.le_refl _)) 0 _) (.inr (Nat.le_refl _)) 1 _) (.inr (Nat.le_refl _)) 2 _ | exact EX.alloc hS2 _ | exact EX.alloc hS0 _) ((go_at_call 14; refine (HL6.out _ (by first | assumption | exact EX.alloc hS0 _ | exact (EX.refl _).drew | exact ((EX.refl _).alloc _).drew | exact ((EX.refl _).drew).alloc _)).mono ?_; rintro e' w7 ⟨rfl, hbw7⟩; have hS2 : EX N0 w6 w7 := (by first | exact hS0.trans (EX.of_below hbw7) | exact (hS0.alloc _).trans (EX.of_below hbw7) | exact (((EX.refl _).alloc _).drew).trans (EX.of_below hbw7)); have HESw7 : Hid (EX N0 w6 w7) := hid hS2; (first | (have rw6 := (by first | exact leaf_n w6 hbw7 | exact leaf_nd w6 hbw7 : Row w7 w6.heap.size 39 _); have c60 := rw6.cell 0 (by simp); have c61 := rw6.cell 1 (by simp); have c62 := rw6.cell 2 (by simp); have f60 := rw6.frozen 0; have f61 := rw6.frozen 1; have f62 := rw6.frozen 2; have l6 := rw6.lt; simp only [List.getElem_cons_zero, List.getElem_cons_succ, size_drew9] at c60 c61 c62 f60 f61 f62 l6; have HRW6 := hid rw6; clear rw6) | skip); clear hbw7))
          · obtain ⟨w8, hw8⟩ : ∃ w8, w8 = w7.alloc (.cells #[.int .i64 x0, .int .u8 x1, .bool x2] 39) := ⟨_, rfl⟩
            rw [← hw8]
            have HE8 := hid (show EX N0 w6 w8 by rw [hw8]; exact HESw7.out.alloc _)
            have HRL8 := hid (show Row w8 w7.heap.size 39 [.int .i64 x0, .int .u8 x1, .bool x2] by rw [hw8]; exact Row.new w7 _ _)
            obtain ⟨l0, l1, l2⟩ : w8.cell? ⟨w7.heap.size, 0, none⟩ = some (.int .i64 x0) ∧ w8.cell? ⟨w7.heap.size, 1, none⟩ = some (.int .u8 x1) ∧ w8.cell? ⟨w7.heap.size, 2, none⟩ = some (.bool x2) := ⟨HRL8.out.cell 0 (by simp), HRL8.out.cell 1 (by simp), HRL8.out.cell 2 (by simp)⟩
            have hll8 := HRL8.out.lt
            clear hw8 hS0 hS2
            have HRL := hid (HE8.out.row HRL6.out id)
            obtain ⟨k0, k1, k2⟩ : w8.cell? ⟨w5.heap.size, 0, none⟩ = some (.int .i64 x0) ∧ w8.cell? ⟨w5.heap.size, 1, none⟩ = some (.int .u8 x1) ∧ w8.cell? ⟨w5.heap.size, 2, none⟩ = some (.bool x2) := ⟨HRL.out.cell 0 (by simp), HRL.out.cell 1 (by simp), HRL.out.cell 2 (by simp)⟩
            have hlr := HRL.out.lt
            clear Q0 Q1
            have HB9 := hid (show Below w6.heap.size w6 w8 from ex0 HE8.out)
            have HTZ := hid (HT6.out.below HB9.out)
            have HWZ := hid (HW6.out.below HB9.out)
            have HCZ := hid (HCL6.out.below' HB9.out)
            go_wp2_with fail
            clear l0 l1 l2 k0 k1 k2 hlr hll8 en0 hnkp
            go_loopw [18, 19] (fun x i wr => ∃ j v : Nat, j ≤ NK.length ∧ v = sumN NK j ∧ i = .int .i64 j ∧ x = .int .i64 (v : Int) ∧ Below w8.heap.size w8 wr) (fun _ i _ => NK.length - (intOf i).toNat)
            case atStart => exact ⟨0, 0, Nat.zero_le _, rfl, rfl, rfl, Below.refl _ _⟩
            case round =>
              obtain ⟨j, v, hj, hv, rfl, rfl, hbr⟩ := hrel
              have HBR := hid hbr
              have HV := hid hv
              clear hbr hv
              by_cases hlt : j < NK.length
              · have d1 : decide ((j : Int) < (NK.length : Int)) = true := by simp; omega
                have d1n : decide (j < NK.length) = true := by simp; omega
                have HN1 := hid (sumN_next hlt)
                have HCW := hid (HCZ.out.below' HBR.out)
                have HTW2 := hid (HTZ.out.below HBR.out)
                have HWW := hid (HWZ.out.below HBR.out)
                obtain ⟨bn9, on9, e99, hnt⟩ := HCW.out.some_of (by simp; omega)
                cases e99
                have gn := hnt j (by simpa using hlt)
                have e9 : (NK.map fun x => nI9 x.1)[j]'(by simpa using hlt) = nI9 NK[j].1 := by simp
                rw [e9] at gn
                have HM := hid (List.getElem_mem hlt)
                have HJ := hid hlt
                generalize NK[j] = x9 at *
                obtain ⟨f9, k9⟩ := x9
                have HKW := hid (fun i (hi : i < 512) => HNK3.out _ HM.out i hi)
                have HKL := hid (fun i (hi : i < 512) => HNK6.out _ HM.out i hi)
                have HKT := hid (HNK4.out _ HM.out)
                unfold nI9 at gn
                simp only at gn HN1 HKW HKL HKT
                have HGN := hid gn
                have HVB := hid (show v ≤ 600000000 by have := sumN_le NK j; have := HV.out; have := HNK5.out; omega)
                have ez : (0 : Int) ≤ (j : Int) := by omega
                have eb : (j : Int) < (NK.length : Int) := by omega
                clear hnt e9 gn hlt
                rename World => wA
                go_wp2_with fail
                go_loopw [18, 20] (fun x i wr => ∃ q u : Nat, q ≤ 512 ∧ u = v + cntN k9 q ∧ i = .int .i64 q ∧ x = .int .i64 (u : Int) ∧ Below wA.heap.size wA wr) (fun _ i _ => 512 - (intOf i).toNat)
                case atStart => exact ⟨0, v, Nat.zero_le _, rfl, rfl, rfl, Below.refl _ _⟩
                case round =>
                  obtain ⟨q, u, hq, hu, rfl, rfl, hb2⟩ := hrel
                  have HB2 := hid hb2
                  have HU := hid hu
                  clear hb2 hu
                  by_cases hl2 : q < 512
                  · have d2 : decide ((q : Int) < 512) = true := by simp; omega
                    have HUB := hid (show u ≤ 700000000 by have := cntN_le k9 q; have := HU.out; have := HVB.out; omega)
                    have HN2 := hid (cntN_next k9 q)
                    obtain ⟨x, hx⟩ : ∃ x, x = wdT (k9 q) := ⟨_, rfl⟩
                    rw [← hx] at HN2
                    have HX := hid hx
                    have HTY := hid (HTW2.out.below HB2.out)
                    have HWY := hid (HWW.out.below HB2.out)
                    have HWD := hid (fun (W : World) (hs : EX N0 wr W) => wordAt_any (HTY.out.below (ex0 hs)) f9 q x (by rw [HX.out]; exact HKW.out q hl2) (fun hf => HKT.out.2) hl2 (by rw [HX.out]; exact HKL.out q hl2))
                    have HROWN := hid (show Row wr ob 34 _ from HWY.out.own)
                    have Q0 : ∀ ww, EX N0 wr ww → ww.cell? ⟨ob, 0, none⟩ = some (.pointer (some ⟨p, 0, none⟩)) := fun ww hs => (hs.row HROWN.out id).cell 0 (by simp)
                    have GN := HGN.out
                    have Q1 := fun ww (hs : EX N0 wr ww) => hs.cell (St.cell GN HB2.out) id
                    have ez2 : (0 : Int) ≤ (q : Int) := by omega
                    clear GN hx
                    go_wp2_with fail
                    have hS0 : EX N0 wr wr.drew := EX.drew (EX.refl _)
                    go_region_held3 (EX N0 wr) (first | exact EX.drew _ | exact EX.refl _ | assumption) ((go_at_call 16; refine (HWD.out _ (by first | assumption | exact (EX.refl _).drew)).mono ?_; rintro e' w7 ⟨rfl, hb7⟩; have hS2 : EX N0 wr w7 := hS0.trans (EX.of_below hb7); have HES7 : Hid (EX N0 wr w7) := hid hS2; clear hb7))
                    clear hS0 hS2 Q0 Q1 HWD
                    by_cases hz : x = 0
                    · have d3 : ((x : Int) != (0 : Int)) = false := by simp [hz]
                      have d3n : (x != 0) = false := by simp [hz]
                      have d3d : decide (x = 0) = true := by simp [hz]
                      have HN3 := hid (show u = v + cntN k9 (q + 1) by rw [HN2.out, if_pos hz]; exact HU.out)
                      clear hz
                      go_wp2_with fail
                      go_roundw
                      case rel => exact ⟨q + 1, u, by omega, HN3.out, by go_num, rfl, HB2.out.trans ((ex0 HES7.out).mono HB2.out.size)⟩
                      case measure => simp [intOf]; omega
                    · have d3 : ((x : Int) != (0 : Int)) = true := by simp; omega
                      have d3n : (x != 0) = true := by simp [hz]
                      have d3d : decide (x = 0) = false := by simp [hz]
                      have HN3 := hid (show u + 1 = v + cntN k9 (q + 1) by rw [HN2.out, if_neg hz]; have := HU.out; omega)
                      have hub := HUB.out
                      clear hz
                      go_wp2_with fail
                      go_roundw
                      case rel => exact ⟨q + 1, u + 1, by omega, HN3.out, by go_num, by go_num, HB2.out.trans ((ex0 HES7.out).mono HB2.out.size)⟩
                      case measure => simp [intOf]; omega
                  · have d2 : decide ((q : Int) < 512) = false := by simp; omega
                    obtain rfl : q = 512 := by omega
                    have hjj := HJ.out
                    have hjk := HNK5.out
                    go_wp2_with fail
                    go_roundw
                    case rel => exact ⟨j + 1, u, by omega, by rw [HN1.out, ← HV.out]; exact HU.out, by go_num, rfl, HBR.out.trans (HB2.out.mono HBR.out.size)⟩
                    case measure => simp [intOf]; omega
              · have d1 : decide ((j : Int) < (NK.length : Int)) = false := by simp; omega
                have d1n : decide (j < NK.length) = false := by simp; omega
                have hvv : v + 1 = NK.length + LA.length := by rw [HV.out]; have := HNK2.out; rw [show sumN NK j = (NK.map fun x => nzN x.2).sum by unfold sumN; rw [List.take_of_length_le (by omega)]]; exact this
                have hla := HLA.out
                have hnk := HNK5.out
                obtain ⟨m9, hm9⟩ : ∃ m9, NK.length = m9 + 1 := ⟨NK.length - 1, by have := HNK7.out; omega⟩
                obtain ⟨ew1, ew2, ew3, ew4⟩ := end_wraps hm9 hvv hnk hla
                have eq1 : ((v : Int) == (v : Int)) = true := by simp
                have HBF := hid (HLOW.out wr (HTZ.out.below HBR.out).cw.low)
                clear hvv hla hnk hm9 hj
                go_wp2_with fail
                go_ret
                exact ⟨rfl, HBF.out⟩
          · have HRN := hid (show Row w7 w6.heap.size 39 [.int .i64 0, .int .u8 0, .bool false] from HRW6.out)
            obtain ⟨w8, hw8⟩ : ∃ w8, w8 = ((w7.setCell ⟨w6.heap.size, 0, none⟩ (.int .i64 x0)).setCell ⟨w6.heap.size, 1, none⟩ (.int .u8 x1)).setCell ⟨w6.heap.size, 2, none⟩ (.bool x2) := ⟨_, rfl⟩
            rw [← hw8]
            have HE8 := hid (show EX N0 w6 w8 by rw [hw8]; exact EX.set (EX.set (EX.set HESw7.out (.inr (Nat.le_refl _)) 0 _) (.inr (Nat.le_refl _)) 1 _) (.inr (Nat.le_refl _)) 2 _)
            have HRL8 := hid (show Row w8 w6.heap.size 39 [.int .i64 x0, .int .u8 x1, .bool x2] by rw [hw8]; exact ((HRN.out.set 0 _).set 1 _).set 2 _)
            obtain ⟨l0, l1, l2⟩ : w8.cell? ⟨w6.heap.size, 0, none⟩ = some (.int .i64 x0) ∧ w8.cell? ⟨w6.heap.size, 1, none⟩ = some (.int .u8 x1) ∧ w8.cell? ⟨w6.heap.size, 2, none⟩ = some (.bool x2) := ⟨HRL8.out.cell 0 (by simp), HRL8.out.cell 1 (by simp), HRL8.out.cell 2 (by simp)⟩
            have hll8 := HRL8.out.lt
            clear hw8 hS0 hS2 c60 c61 c62 f60 f61 f62 l6
            have HRL := hid (HE8.out.row HRL6.out id)
            obtain ⟨k0, k1, k2⟩ : w8.cell? ⟨w5.heap.size, 0, none⟩ = some (.int .i64 x0) ∧ w8.cell? ⟨w5.heap.size, 1, none⟩ = some (.int .u8 x1) ∧ w8.cell? ⟨w5.heap.size, 2, none⟩ = some (.bool x2) := ⟨HRL.out.cell 0 (by simp), HRL.out.cell 1 (by simp), HRL.out.cell 2 (by simp)⟩
            have hlr := HRL.out.lt
            clear Q0 Q1
            have HB9 := hid (show Below w6.heap.size w6 w8 from ex0 HE8.out)
            have HTZ := hid (HT6.out.below HB9.out)
            have HWZ := hid (HW6.out.below HB9.out)
            have HCZ := hid (HCL6.out.below' HB9.out)
            go_wp2_with fail
            clear l0 l1 l2 k0 k1 k2 hlr hll8 en0 hnkp
            go_loopw [18, 19] (fun x i wr => ∃ j v : Nat, j ≤ NK.length ∧ v = sumN NK j ∧ i = .int .i64 j ∧ x = .int .i64 (v : Int) ∧ Below w8.heap.size w8 wr) (fun _ i _ => NK.length - (intOf i).toNat)
            case atStart => exact ⟨0, 0, Nat.zero_le _, rfl, rfl, rfl, Below.refl _ _⟩
            case round =>
              obtain ⟨j, v, hj, hv, rfl, rfl, hbr⟩ := hrel
              have HBR := hid hbr
              have HV := hid hv
              clear hbr hv
              by_cases hlt : j < NK.length
              · have d1 : decide ((j : Int) < (NK.length : Int)) = true := by simp; omega
                have d1n : decide (j < NK.length) = true := by simp; omega
                have HN1 := hid (sumN_next hlt)
                have HCW := hid (HCZ.out.below' HBR.out)
                have HTW2 := hid (HTZ.out.below HBR.out)
                have HWW := hid (HWZ.out.below HBR.out)
                obtain ⟨bn9, on9, e99, hnt⟩ := HCW.out.some_of (by simp; omega)
                cases e99
                have gn := hnt j (by simpa using hlt)
                have e9 : (NK.map fun x => nI9 x.1)[j]'(by simpa using hlt) = nI9 NK[j].1 := by simp
                rw [e9] at gn
                have HM := hid (List.getElem_mem hlt)
                have HJ := hid hlt
                generalize NK[j] = x9 at *
                obtain ⟨f9, k9⟩ := x9
                have HKW := hid (fun i (hi : i < 512) => HNK3.out _ HM.out i hi)
                have HKL := hid (fun i (hi : i < 512) => HNK6.out _ HM.out i hi)
                have HKT := hid (HNK4.out _ HM.out)
                unfold nI9 at gn
                simp only at gn HN1 HKW HKL HKT
                have HGN := hid gn
                have HVB := hid (show v ≤ 600000000 by have := sumN_le NK j; have := HV.out; have := HNK5.out; omega)
                have ez : (0 : Int) ≤ (j : Int) := by omega
                have eb : (j : Int) < (NK.length : Int) := by omega
                clear hnt e9 gn hlt
                rename World => wA
                go_wp2_with fail
                go_loopw [18, 20] (fun x i wr => ∃ q u : Nat, q ≤ 512 ∧ u = v + cntN k9 q ∧ i = .int .i64 q ∧ x = .int .i64 (u : Int) ∧ Below wA.heap.size wA wr) (fun _ i _ => 512 - (intOf i).toNat)
                case atStart => exact ⟨0, v, Nat.zero_le _, rfl, rfl, rfl, Below.refl _ _⟩
                case round =>
                  obtain ⟨q, u, hq, hu, rfl, rfl, hb2⟩ := hrel
                  have HB2 := hid hb2
                  have HU := hid hu
                  clear hb2 hu
                  by_cases hl2 : q < 512
                  · have d2 : decide ((q : Int) < 512) = true := by simp; omega
                    have HUB := hid (show u ≤ 700000000 by have := cntN_le k9 q; have := HU.out; have := HVB.out; omega)
                    have HN2 := hid (cntN_next k9 q)
                    obtain ⟨x, hx⟩ : ∃ x, x = wdT (k9 q) := ⟨_, rfl⟩
                    rw [← hx] at HN2
                    have HX := hid hx
                    have HTY := hid (HTW2.out.below HB2.out)
                    have HWY := hid (HWW.out.below HB2.out)
                    have HWD := hid (fun (W : World) (hs : EX N0 wr W) => wordAt_any (HTY.out.below (ex0 hs)) f9 q x (by rw [HX.out]; exact HKW.out q hl2) (fun hf => HKT.out.2) hl2 (by rw [HX.out]; exact HKL.out q hl2))
                    have HROWN := hid (show Row wr ob 34 _ from HWY.out.own)
                    have Q0 : ∀ ww, EX N0 wr ww → ww.cell? ⟨ob, 0, none⟩ = some (.pointer (some ⟨p, 0, none⟩)) := fun ww hs => (hs.row HROWN.out id).cell 0 (by simp)
                    have GN := HGN.out
                    have Q1 := fun ww (hs : EX N0 wr ww) => hs.cell (St.cell GN HB2.out) id
                    have ez2 : (0 : Int) ≤ (q : Int) := by omega
                    clear GN hx
                    go_wp2_with fail
                    have hS0 : EX N0 wr wr.drew := EX.drew (EX.refl _)
                    go_region_held3 (EX N0 wr) (first | exact EX.drew _ | exact EX.refl _ | assumption) ((go_at_call 16; refine (HWD.out _ (by first | assumption | exact (EX.refl _).drew)).mono ?_; rintro e' w7 ⟨rfl, hb7⟩; have hS2 : EX N0 wr w7 := hS0.trans (EX.of_below hb7); have HES7 : Hid (EX N0 wr w7) := hid hS2; clear hb7))
                    clear hS0 hS2 Q0 Q1 HWD
                    by_cases hz : x = 0
                    · have d3 : ((x : Int) != (0 : Int)) = false := by simp [hz]
                      have d3n : (x != 0) = false := by simp [hz]
                      have d3d : decide (x = 0) = true := by simp [hz]
                      have HN3 := hid (show u = v + cntN k9 (q + 1) by rw [HN2.out, if_pos hz]; exact HU.out)
                      clear hz
                      go_wp2_with fail
                      go_roundw
                      case rel => exact ⟨q + 1, u, by omega, HN3.out, by go_num, rfl, HB2.out.trans ((ex0 HES7.out).mono HB2.out.size)⟩
                      case measure => simp [intOf]; omega
                    · have d3 : ((x : Int) != (0 : Int)) = true := by simp; omega
                      have d3n : (x != 0) = true := by simp [hz]
                      have d3d : decide (x = 0) = false := by simp [hz]
                      have HN3 := hid (show u + 1 = v + cntN k9 (q + 1) by rw [HN2.out, if_neg hz]; have := HU.out; omega)
                      have hub := HUB.out
                      clear hz
                      go_wp2_with fail
                      go_roundw
                      case rel => exact ⟨q + 1, u + 1, by omega, HN3.out, by go_num, by go_num, HB2.out.trans ((ex0 HES7.out).mono HB2.out.size)⟩
                      case measure => simp [intOf]; omega
                  · have d2 : decide ((q : Int) < 512) = false := by simp; omega
                    obtain rfl : q = 512 := by omega
                    have hjj := HJ.out
                    have hjk := HNK5.out
                    go_wp2_with fail
                    go_roundw
                    case rel => exact ⟨j + 1, u, by omega, by rw [HN1.out, ← HV.out]; exact HU.out, by go_num, rfl, HBR.out.trans (HB2.out.mono HBR.out.size)⟩
                    case measure => simp [intOf]; omega
              · have d1 : decide ((j : Int) < (NK.length : Int)) = false := by simp; omega
                have d1n : decide (j < NK.length) = false := by simp; omega
                have hvv : v + 1 = NK.length + LA.length := by rw [HV.out]; have := HNK2.out; rw [show sumN NK j = (NK.map fun x => nzN x.2).sum by unfold sumN; rw [List.take_of_length_le (by omega)]]; exact this
                have hla := HLA.out
                have hnk := HNK5.out
                obtain ⟨m9, hm9⟩ : ∃ m9, NK.length = m9 + 1 := ⟨NK.length - 1, by have := HNK7.out; omega⟩
                obtain ⟨ew1, ew2, ew3, ew4⟩ := end_wraps hm9 hvv hnk hla
                have eq1 : ((v : Int) == (v : Int)) = true := by simp
                have HBF := hid (HLOW.out wr (HTZ.out.below HBR.out).cw.low)
                clear hvv hla hnk hm9 hj
                go_wp2_with fail
                go_ret
                exact ⟨rfl, HBF.out⟩
        · have HFE := hid (show fndE y X = 6 by unfold fndE; rw [if_pos hy2, hno]; rfl)
          rw [hno] at HLV
          rw [HFE.out] at HFI
          clear hno hy2 hld
          generalize allL root st.kids = LA at *
          go_wp2_with fail
          refine (HFI.out).mono ?_
          rintro e w5 ⟨rfl, ⟨ws5, ht5⟩, he5⟩
          have HW5 := hid (show OW9 w0 F t p g h c m tb ob root vh st ws5 w5 from HWR.out.call (by rw [HFR.out]; exact ht5) (he5.mono fun _ _ e => .inl e) rfl)
          have HT5 := hid ht5
          obtain ⟨a3', c3', e9, hcl, _⟩ := own_cel (he5.own HOR.out HNR.out)
          cases e9
          have HCL5 := hid hcl
          clear he5 ht5 hcl
          obtain ⟨w6, hw6⟩ : ∃ w6, w6 = w5.alloc (.cells #[.int .i64 x0, .int .u8 x1, .bool x2] 39) := ⟨_, rfl⟩
          have HB6 := hid (show Below w5.heap.size w5 w6 by rw [hw6]; exact bal _)
          have HRL6 := hid (show Row w6 w5.heap.size 39 [.int .i64 x0, .int .u8 x1, .bool x2] by rw [hw6]; exact Row.new w5 _ _)
          have HT6 := hid (HT5.out.below HB6.out)
          have HW6 := hid (HW5.out.below HB6.out)
          have HCL6 := hid (HCL5.out.below' HB6.out)
          rw [HCE.out] at HCL6
          obtain ⟨bn, on, rfl, hnt⟩ := HCL6.out.some_of (by simpa using HNK7.out)
          have gn : w6.cell? ⟨bn, on, none⟩ = some (.int .i64 (root : Int)) := by
            have := HCL6.out
            rw [← HCE.out] at this
            obtain ⟨b', o', e', h'⟩ := this.some_of (by simpa using hnl)
            cases e'
            exact h' 0 (by simpa using hnl)
          have HROWN := hid (show Row w6 ob 34 _ from HW6.out.own)
          have Q0 : ∀ ww, EX N0 w6 ww → ww.cell? ⟨ob, 0, none⟩ = some (.pointer (some ⟨p, 0, none⟩)) := fun ww hs => (hs.row HROWN.out id).cell 0 (by simp)
          have Q1 : ∀ ww, EX N0 w6 ww → ww.cell? ⟨bn, on, none⟩ = some (.int .i64 (root : Int)) := fun ww hs => hs.cell gn id
          have HL6 := hid (fun W (hs : EX N0 w6 W) => HLV.out W ws5 (HT6.out.below (ex0 hs)))
          have en0 : (0 : Int) < (NK.length : Int) := by have := HNK7.out; omega
          have hnkp := HNK7.out
          clear hnt gn q0 q1 q2 q3 hol HFI HLV
          go_wp2_with fail
          rw [← hw6]
          clear hw6
          go_wp2_with fail
          have hS0 : EX N0 w6 w6.drew := EX.drew (EX.refl _)
          go_region_held3 (EX N0 w6) (first | exact EX.drew _ | exact EX.refl _ | assumption | exact EX.set (EX.set (EX.set hS2 (.inr (Nat.le_refl _)) 0 _) (.inr (Nat.le_refl _)) 1 _) (.inr (Nat.le_refl _)) 2 _ | exact EX.alloc hS2 _ | exact EX.alloc hS0 _) ((go_at_call 14; refine (HL6.out _ (by first | assumption | exact EX.alloc hS0 _ | exact (EX.refl _).drew | exact ((EX.refl _).alloc _).drew | exact ((EX.refl _).drew).alloc _)).mono ?_; rintro e' w7 ⟨rfl, hbw7⟩; have hS2 : EX N0 w6 w7 := (by first | exact hS0.trans (EX.of_below hbw7) | exact (hS0.alloc _).trans (EX.of_below hbw7) | exact (((EX.refl _).alloc _).drew).trans (EX.of_below hbw7)); have HESw7 : Hid (EX N0 w6 w7) := hid hS2; (first | (have rw6 := (by first | exact leaf_n w6 hbw7 | exact leaf_nd w6 hbw7 : Row w7 w6.heap.size 39 _); have c60 := rw6.cell 0 (by simp); have c61 := rw6.cell 1 (by simp); have c62 := rw6.cell 2 (by simp); have f60 := rw6.frozen 0; have f61 := rw6.frozen 1; have f62 := rw6.frozen 2; have l6 := rw6.lt; simp only [List.getElem_cons_zero, List.getElem_cons_succ, size_drew9] at c60 c61 c62 f60 f61 f62 l6; have HRW6 := hid rw6; clear rw6) | skip); clear hbw7))
          · obtain ⟨w8, hw8⟩ : ∃ w8, w8 = w7.alloc (.cells #[.int .i64 x0, .int .u8 x1, .bool x2] 39) := ⟨_, rfl⟩
            rw [← hw8]
            have HE8 := hid (show EX N0 w6 w8 by rw [hw8]; exact HESw7.out.alloc _)
            have HRL8 := hid (show Row w8 w7.heap.size 39 [.int .i64 x0, .int .u8 x1, .bool x2] by rw [hw8]; exact Row.new w7 _ _)
            obtain ⟨l0, l1, l2⟩ : w8.cell? ⟨w7.heap.size, 0, none⟩ = some (.int .i64 x0) ∧ w8.cell? ⟨w7.heap.size, 1, none⟩ = some (.int .u8 x1) ∧ w8.cell? ⟨w7.heap.size, 2, none⟩ = some (.bool x2) := ⟨HRL8.out.cell 0 (by simp), HRL8.out.cell 1 (by simp), HRL8.out.cell 2 (by simp)⟩
            have hll8 := HRL8.out.lt
            clear hw8 hS0 hS2
            have HRL := hid (HE8.out.row HRL6.out id)
            obtain ⟨k0, k1, k2⟩ : w8.cell? ⟨w5.heap.size, 0, none⟩ = some (.int .i64 x0) ∧ w8.cell? ⟨w5.heap.size, 1, none⟩ = some (.int .u8 x1) ∧ w8.cell? ⟨w5.heap.size, 2, none⟩ = some (.bool x2) := ⟨HRL.out.cell 0 (by simp), HRL.out.cell 1 (by simp), HRL.out.cell 2 (by simp)⟩
            have hlr := HRL.out.lt
            clear Q0 Q1
            have HB9 := hid (show Below w6.heap.size w6 w8 from ex0 HE8.out)
            have HTZ := hid (HT6.out.below HB9.out)
            have HWZ := hid (HW6.out.below HB9.out)
            have HCZ := hid (HCL6.out.below' HB9.out)
            go_wp2_with fail
            clear l0 l1 l2 k0 k1 k2 hlr hll8 en0 hnkp
            go_loopw [18, 19] (fun x i wr => ∃ j v : Nat, j ≤ NK.length ∧ v = sumN NK j ∧ i = .int .i64 j ∧ x = .int .i64 (v : Int) ∧ Below w8.heap.size w8 wr) (fun _ i _ => NK.length - (intOf i).toNat)
            case atStart => exact ⟨0, 0, Nat.zero_le _, rfl, rfl, rfl, Below.refl _ _⟩
            case round =>
              obtain ⟨j, v, hj, hv, rfl, rfl, hbr⟩ := hrel
              have HBR := hid hbr
              have HV := hid hv
              clear hbr hv
              by_cases hlt : j < NK.length
              · have d1 : decide ((j : Int) < (NK.length : Int)) = true := by simp; omega
                have d1n : decide (j < NK.length) = true := by simp; omega
                have HN1 := hid (sumN_next hlt)
                have HCW := hid (HCZ.out.below' HBR.out)
                have HTW2 := hid (HTZ.out.below HBR.out)
                have HWW := hid (HWZ.out.below HBR.out)
                obtain ⟨bn9, on9, e99, hnt⟩ := HCW.out.some_of (by simp; omega)
                cases e99
                have gn := hnt j (by simpa using hlt)
                have e9 : (NK.map fun x => nI9 x.1)[j]'(by simpa using hlt) = nI9 NK[j].1 := by simp
                rw [e9] at gn
                have HM := hid (List.getElem_mem hlt)
                have HJ := hid hlt
                generalize NK[j] = x9 at *
                obtain ⟨f9, k9⟩ := x9
                have HKW := hid (fun i (hi : i < 512) => HNK3.out _ HM.out i hi)
                have HKL := hid (fun i (hi : i < 512) => HNK6.out _ HM.out i hi)
                have HKT := hid (HNK4.out _ HM.out)
                unfold nI9 at gn
                simp only at gn HN1 HKW HKL HKT
                have HGN := hid gn
                have HVB := hid (show v ≤ 600000000 by have := sumN_le NK j; have := HV.out; have := HNK5.out; omega)
                have ez : (0 : Int) ≤ (j : Int) := by omega
                have eb : (j : Int) < (NK.length : Int) := by omega
                clear hnt e9 gn hlt
                rename World => wA
                go_wp2_with fail
                go_loopw [18, 20] (fun x i wr => ∃ q u : Nat, q ≤ 512 ∧ u = v + cntN k9 q ∧ i = .int .i64 q ∧ x = .int .i64 (u : Int) ∧ Below wA.heap.size wA wr) (fun _ i _ => 512 - (intOf i).toNat)
                case atStart => exact ⟨0, v, Nat.zero_le _, rfl, rfl, rfl, Below.refl _ _⟩
                case round =>
                  obtain ⟨q, u, hq, hu, rfl, rfl, hb2⟩ := hrel
                  have HB2 := hid hb2
                  have HU := hid hu
                  clear hb2 hu
                  by_cases hl2 : q < 512
                  · have d2 : decide ((q : Int) < 512) = true := by simp; omega
                    have HUB := hid (show u ≤ 700000000 by have := cntN_le k9 q; have := HU.out; have := HVB.out; omega)
                    have HN2 := hid (cntN_next k9 q)
                    obtain ⟨x, hx⟩ : ∃ x, x = wdT (k9 q) := ⟨_, rfl⟩
                    rw [← hx] at HN2
                    have HX := hid hx
                    have HTY := hid (HTW2.out.below HB2.out)
                    have HWY := hid (HWW.out.below HB2.out)
                    have HWD := hid (fun (W : World) (hs : EX N0 wr W) => wordAt_any (HTY.out.below (ex0 hs)) f9 q x (by rw [HX.out]; exact HKW.out q hl2) (fun hf => HKT.out.2) hl2 (by rw [HX.out]; exact HKL.out q hl2))
                    have HROWN := hid (show Row wr ob 34 _ from HWY.out.own)
                    have Q0 : ∀ ww, EX N0 wr ww → ww.cell? ⟨ob, 0, none⟩ = some (.pointer (some ⟨p, 0, none⟩)) := fun ww hs => (hs.row HROWN.out id).cell 0 (by simp)
                    have GN := HGN.out
                    have Q1 := fun ww (hs : EX N0 wr ww) => hs.cell (St.cell GN HB2.out) id
                    have ez2 : (0 : Int) ≤ (q : Int) := by omega
                    clear GN hx
                    go_wp2_with fail
                    have hS0 : EX N0 wr wr.drew := EX.drew (EX.refl _)
                    go_region_held3 (EX N0 wr) (first | exact EX.drew _ | exact EX.refl _ | assumption) ((go_at_call 16; refine (HWD.out _ (by first | assumption | exact (EX.refl _).drew)).mono ?_; rintro e' w7 ⟨rfl, hb7⟩; have hS2 : EX N0 wr w7 := hS0.trans (EX.of_below hb7); have HES7 : Hid (EX N0 wr w7) := hid hS2; clear hb7))
                    clear hS0 hS2 Q0 Q1 HWD
                    by_cases hz : x = 0
                    · have d3 : ((x : Int) != (0 : Int)) = false := by simp [hz]
                      have d3n : (x != 0) = false := by simp [hz]
                      have d3d : decide (x = 0) = true := by simp [hz]
                      have HN3 := hid (show u = v + cntN k9 (q + 1) by rw [HN2.out, if_pos hz]; exact HU.out)
                      clear hz
                      go_wp2_with fail
                      go_roundw
                      case rel => exact ⟨q + 1, u, by omega, HN3.out, by go_num, rfl, HB2.out.trans ((ex0 HES7.out).mono HB2.out.size)⟩
                      case measure => simp [intOf]; omega
                    · have d3 : ((x : Int) != (0 : Int)) = true := by simp; omega
                      have d3n : (x != 0) = true := by simp [hz]
                      have d3d : decide (x = 0) = false := by simp [hz]
                      have HN3 := hid (show u + 1 = v + cntN k9 (q + 1) by rw [HN2.out, if_neg hz]; have := HU.out; omega)
                      have hub := HUB.out
                      clear hz
                      go_wp2_with fail
                      go_roundw
                      case rel => exact ⟨q + 1, u + 1, by omega, HN3.out, by go_num, by go_num, HB2.out.trans ((ex0 HES7.out).mono HB2.out.size)⟩
                      case measure => simp [intOf]; omega
                  · have d2 : decide ((q : Int) < 512) = false := by simp; omega
                    obtain rfl : q = 512 := by omega
                    have hjj := HJ.out
                    have hjk := HNK5.out
                    go_wp2_with fail
                    go_roundw
                    case rel => exact ⟨j + 1, u, by omega, by rw [HN1.out, ← HV.out]; exact HU.out, by go_num, rfl, HBR.out.trans (HB2.out.mono HBR.out.size)⟩
                    case measure => simp [intOf]; omega
              · have d1 : decide ((j : Int) < (NK.length : Int)) = false := by simp; omega
                have d1n : decide (j < NK.length) = false := by simp; omega
                have hvv : v + 1 = NK.length + LA.length := by rw [HV.out]; have := HNK2.out; rw [show sumN NK j = (NK.map fun x => nzN x.2).sum by unfold sumN; rw [List.take_of_length_le (by omega)]]; exact this
                have hla := HLA.out
                have hnk := HNK5.out
                obtain ⟨m9, hm9⟩ : ∃ m9, NK.length = m9 + 1 := ⟨NK.length - 1, by have := HNK7.out; omega⟩
                obtain ⟨ew1, ew2, ew3, ew4⟩ := end_wraps hm9 hvv hnk hla
                have eq1 : ((v : Int) == (v : Int)) = true := by simp
                have HBF := hid (HLOW.out wr (HTZ.out.below HBR.out).cw.low)
                clear hvv hla hnk hm9 hj
                go_wp2_with fail
                go_ret
                exact ⟨rfl, HBF.out⟩
          · have HRN := hid (show Row w7 w6.heap.size 39 [.int .i64 0, .int .u8 0, .bool false] from HRW6.out)
            obtain ⟨w8, hw8⟩ : ∃ w8, w8 = ((w7.setCell ⟨w6.heap.size, 0, none⟩ (.int .i64 x0)).setCell ⟨w6.heap.size, 1, none⟩ (.int .u8 x1)).setCell ⟨w6.heap.size, 2, none⟩ (.bool x2) := ⟨_, rfl⟩
            rw [← hw8]
            have HE8 := hid (show EX N0 w6 w8 by rw [hw8]; exact EX.set (EX.set (EX.set HESw7.out (.inr (Nat.le_refl _)) 0 _) (.inr (Nat.le_refl _)) 1 _) (.inr (Nat.le_refl _)) 2 _)
            have HRL8 := hid (show Row w8 w6.heap.size 39 [.int .i64 x0, .int .u8 x1, .bool x2] by rw [hw8]; exact ((HRN.out.set 0 _).set 1 _).set 2 _)
            obtain ⟨l0, l1, l2⟩ : w8.cell? ⟨w6.heap.size, 0, none⟩ = some (.int .i64 x0) ∧ w8.cell? ⟨w6.heap.size, 1, none⟩ = some (.int .u8 x1) ∧ w8.cell? ⟨w6.heap.size, 2, none⟩ = some (.bool x2) := ⟨HRL8.out.cell 0 (by simp), HRL8.out.cell 1 (by simp), HRL8.out.cell 2 (by simp)⟩
            have hll8 := HRL8.out.lt
            clear hw8 hS0 hS2 c60 c61 c62 f60 f61 f62 l6
            have HRL := hid (HE8.out.row HRL6.out id)
            obtain ⟨k0, k1, k2⟩ : w8.cell? ⟨w5.heap.size, 0, none⟩ = some (.int .i64 x0) ∧ w8.cell? ⟨w5.heap.size, 1, none⟩ = some (.int .u8 x1) ∧ w8.cell? ⟨w5.heap.size, 2, none⟩ = some (.bool x2) := ⟨HRL.out.cell 0 (by simp), HRL.out.cell 1 (by simp), HRL.out.cell 2 (by simp)⟩
            have hlr := HRL.out.lt
            clear Q0 Q1
            have HB9 := hid (show Below w6.heap.size w6 w8 from ex0 HE8.out)
            have HTZ := hid (HT6.out.below HB9.out)
            have HWZ := hid (HW6.out.below HB9.out)
            have HCZ := hid (HCL6.out.below' HB9.out)
            go_wp2_with fail
            clear l0 l1 l2 k0 k1 k2 hlr hll8 en0 hnkp
            go_loopw [18, 19] (fun x i wr => ∃ j v : Nat, j ≤ NK.length ∧ v = sumN NK j ∧ i = .int .i64 j ∧ x = .int .i64 (v : Int) ∧ Below w8.heap.size w8 wr) (fun _ i _ => NK.length - (intOf i).toNat)
            case atStart => exact ⟨0, 0, Nat.zero_le _, rfl, rfl, rfl, Below.refl _ _⟩
            case round =>
              obtain ⟨j, v, hj, hv, rfl, rfl, hbr⟩ := hrel
              have HBR := hid hbr
              have HV := hid hv
              clear hbr hv
              by_cases hlt : j < NK.length
              · have d1 : decide ((j : Int) < (NK.length : Int)) = true := by simp; omega
                have d1n : decide (j < NK.length) = true := by simp; omega
                have HN1 := hid (sumN_next hlt)
                have HCW := hid (HCZ.out.below' HBR.out)
                have HTW2 := hid (HTZ.out.below HBR.out)
                have HWW := hid (HWZ.out.below HBR.out)
                obtain ⟨bn9, on9, e99, hnt⟩ := HCW.out.some_of (by simp; omega)
                cases e99
                have gn := hnt j (by simpa using hlt)
                have e9 : (NK.map fun x => nI9 x.1)[j]'(by simpa using hlt) = nI9 NK[j].1 := by simp
                rw [e9] at gn
                have HM := hid (List.getElem_mem hlt)
                have HJ := hid hlt
                generalize NK[j] = x9 at *
                obtain ⟨f9, k9⟩ := x9
                have HKW := hid (fun i (hi : i < 512) => HNK3.out _ HM.out i hi)
                have HKL := hid (fun i (hi : i < 512) => HNK6.out _ HM.out i hi)
                have HKT := hid (HNK4.out _ HM.out)
                unfold nI9 at gn
                simp only at gn HN1 HKW HKL HKT
                have HGN := hid gn
                have HVB := hid (show v ≤ 600000000 by have := sumN_le NK j; have := HV.out; have := HNK5.out; omega)
                have ez : (0 : Int) ≤ (j : Int) := by omega
                have eb : (j : Int) < (NK.length : Int) := by omega
                clear hnt e9 gn hlt
                rename World => wA
                go_wp2_with fail
                go_loopw [18, 20] (fun x i wr => ∃ q u : Nat, q ≤ 512 ∧ u = v + cntN k9 q ∧ i = .int .i64 q ∧ x = .int .i64 (u : Int) ∧ Below wA.heap.size wA wr) (fun _ i _ => 512 - (intOf i).toNat)
                case atStart => exact ⟨0, v, Nat.zero_le _, rfl, rfl, rfl, Below.refl _ _⟩
                case round =>
                  obtain ⟨q, u, hq, hu, rfl, rfl, hb2⟩ := hrel
                  have HB2 := hid hb2
                  have HU := hid hu
                  clear hb2 hu
                  by_cases hl2 : q < 512
                  · have d2 : decide ((q : Int) < 512) = true := by simp; omega
                    have HUB := hid (show u ≤ 700000000 by have := cntN_le k9 q; have := HU.out; have := HVB.out; omega)
                    have HN2 := hid (cntN_next k9 q)
                    obtain ⟨x, hx⟩ : ∃ x, x = wdT (k9 q) := ⟨_, rfl⟩
                    rw [← hx] at HN2
                    have HX := hid hx
                    have HTY := hid (HTW2.out.below HB2.out)
                    have HWY := hid (HWW.out.below HB2.out)
                    have HWD := hid (fun (W : World) (hs : EX N0 wr W) => wordAt_any (HTY.out.below (ex0 hs)) f9 q x (by rw [HX.out]; exact HKW.out q hl2) (fun hf => HKT.out.2) hl2 (by rw [HX.out]; exact HKL.out q hl2))
                    have HROWN := hid (show Row wr ob 34 _ from HWY.out.own)
                    have Q0 : ∀ ww, EX N0 wr ww → ww.cell? ⟨ob, 0, none⟩ = some (.pointer (some ⟨p, 0, none⟩)) := fun ww hs => (hs.row HROWN.out id).cell 0 (by simp)
                    have GN := HGN.out
                    have Q1 := fun ww (hs : EX N0 wr ww) => hs.cell (St.cell GN HB2.out) id
                    have ez2 : (0 : Int) ≤ (q : Int) := by omega
                    clear GN hx
                    go_wp2_with fail
                    have hS0 : EX N0 wr wr.drew := EX.drew (EX.refl _)
                    go_region_held3 (EX N0 wr) (first | exact EX.drew _ | exact EX.refl _ | assumption) ((go_at_call 16; refine (HWD.out _ (by first | assumption | exact (EX.refl _).drew)).mono ?_; rintro e' w7 ⟨rfl, hb7⟩; have hS2 : EX N0 wr w7 := hS0.trans (EX.of_below hb7); have HES7 : Hid (EX N0 wr w7) := hid hS2; clear hb7))
                    clear hS0 hS2 Q0 Q1 HWD
                    by_cases hz : x = 0
                    · have d3 : ((x : Int) != (0 : Int)) = false := by simp [hz]
                      have d3n : (x != 0) = false := by simp [hz]
                      have d3d : decide (x = 0) = true := by simp [hz]
                      have HN3 := hid (show u = v + cntN k9 (q + 1) by rw [HN2.out, if_pos hz]; exact HU.out)
                      clear hz
                      go_wp2_with fail
                      go_roundw
                      case rel => exact ⟨q + 1, u, by omega, HN3.out, by go_num, rfl, HB2.out.trans ((ex0 HES7.out).mono HB2.out.size)⟩
                      case measure => simp [intOf]; omega
                    · have d3 : ((x : Int) != (0 : Int)) = true := by simp; omega
                      have d3n : (x != 0) = true := by simp [hz]
                      have d3d : decide (x = 0) = false := by simp [hz]
                      have HN3 := hid (show u + 1 = v + cntN k9 (q + 1) by rw [HN2.out, if_neg hz]; have := HU.out; omega)
                      have hub := HUB.out
                      clear hz
                      go_wp2_with fail
                      go_roundw
                      case rel => exact ⟨q + 1, u + 1, by omega, HN3.out, by go_num, by go_num, HB2.out.trans ((ex0 HES7.out).mono HB2.out.size)⟩
                      case measure => simp [intOf]; omega
                  · have d2 : decide ((q : Int) < 512) = false := by simp; omega
                    obtain rfl : q = 512 := by omega
                    have hjj := HJ.out
                    have hjk := HNK5.out
                    go_wp2_with fail
                    go_roundw
                    case rel => exact ⟨j + 1, u, by omega, by rw [HN1.out, ← HV.out]; exact HU.out, by go_num, rfl, HBR.out.trans (HB2.out.mono HBR.out.size)⟩
                    case measure => simp [intOf]; omega
              · have d1 : decide ((j : Int) < (NK.length : Int)) = false := by simp; omega
                have d1n : decide (j < NK.length) = false := by simp; omega
                have hvv : v + 1 = NK.length + LA.length := by rw [HV.out]; have := HNK2.out; rw [show sumN NK j = (NK.map fun x => nzN x.2).sum by unfold sumN; rw [List.take_of_length_le (by omega)]]; exact this
                have hla := HLA.out
                have hnk := HNK5.out
                obtain ⟨m9, hm9⟩ : ∃ m9, NK.length = m9 + 1 := ⟨NK.length - 1, by have := HNK7.out; omega⟩
                obtain ⟨ew1, ew2, ew3, ew4⟩ := end_wraps hm9 hvv hnk hla
                have eq1 : ((v : Int) == (v : Int)) = true := by simp
                have HBF := hid (HLOW.out wr (HTZ.out.below HBR.out).cw.low)
                clear hvv hla hnk hm9 hj
                go_wp2_with fail
                go_ret
                exact ⟨rfl, HBF.out⟩
      · have dy : decide ((y : Int) < 140737488355328) = false := by simp; omega
        obtain ⟨er, her⟩ : ∃ er, er = fndE y X := ⟨_, rfl⟩
        rw [← her] at HFI
        clear hy2 hld her
        generalize allL root st.kids = LA at *
        go_wp2_with fail
        refine (HFI.out).mono ?_
        rintro e w5 ⟨rfl, ⟨ws5, ht5⟩, he5⟩
        have HW5 := hid (show OW9 w0 F t p g h c m tb ob root vh st ws5 w5 from HWR.out.call (by rw [HFR.out]; exact ht5) (he5.mono fun _ _ e => .inl e) rfl)
        have HT5 := hid ht5
        obtain ⟨a3', c3', e9, hcl, _⟩ := own_cel (he5.own HOR.out HNR.out)
        cases e9
        have HCL5 := hid hcl
        clear he5 ht5 hcl
        obtain ⟨w9, hw9⟩ : ∃ w9, w9 = w5.alloc (.cells #[.int .i64 x0, .int .u8 x1, .bool x2] 39) := ⟨_, rfl⟩
        have HB6 := hid (show Below w5.heap.size w5 w9 by rw [hw9]; exact bal _)
        have HTZ := hid (HT5.out.below HB6.out)
        have HWZ := hid (HW5.out.below HB6.out)
        have HCZ := hid (HCL5.out.below' HB6.out)
        rw [HCE.out] at HCZ
        clear q0 q1 q2 q3 hol HFI
        go_wp2_with fail
        rw [← hw9]
        clear hw9
        go_wp2_with fail
        go_loopw [18, 19] (fun x i wr => ∃ j v : Nat, j ≤ NK.length ∧ v = sumN NK j ∧ i = .int .i64 j ∧ x = .int .i64 (v : Int) ∧ Below w9.heap.size w9 wr) (fun _ i _ => NK.length - (intOf i).toNat)
        case atStart => exact ⟨0, 0, Nat.zero_le _, rfl, rfl, rfl, Below.refl _ _⟩
        case round =>
          obtain ⟨j, v, hj, hv, rfl, rfl, hbr⟩ := hrel
          have HBR := hid hbr
          have HV := hid hv
          clear hbr hv
          by_cases hlt : j < NK.length
          · have d1 : decide ((j : Int) < (NK.length : Int)) = true := by simp; omega
            have d1n : decide (j < NK.length) = true := by simp; omega
            have HN1 := hid (sumN_next hlt)
            have HCW := hid (HCZ.out.below' HBR.out)
            have HTW2 := hid (HTZ.out.below HBR.out)
            have HWW := hid (HWZ.out.below HBR.out)
            obtain ⟨bn9, on9, e99, hnt⟩ := HCW.out.some_of (by simp; omega)
            cases e99
            have gn := hnt j (by simpa using hlt)
            have e9 : (NK.map fun x => nI9 x.1)[j]'(by simpa using hlt) = nI9 NK[j].1 := by simp
            rw [e9] at gn
            have HM := hid (List.getElem_mem hlt)
            have HJ := hid hlt
            generalize NK[j] = x9 at *
            obtain ⟨f9, k9⟩ := x9
            have HKW := hid (fun i (hi : i < 512) => HNK3.out _ HM.out i hi)
            have HKL := hid (fun i (hi : i < 512) => HNK6.out _ HM.out i hi)
            have HKT := hid (HNK4.out _ HM.out)
            unfold nI9 at gn
            simp only at gn HN1 HKW HKL HKT
            have HGN := hid gn
            have HVB := hid (show v ≤ 600000000 by have := sumN_le NK j; have := HV.out; have := HNK5.out; omega)
            have ez : (0 : Int) ≤ (j : Int) := by omega
            have eb : (j : Int) < (NK.length : Int) := by omega
            clear hnt e9 gn hlt
            rename World => wA
            go_wp2_with fail
            go_loopw [18, 20] (fun x i wr => ∃ q u : Nat, q ≤ 512 ∧ u = v + cntN k9 q ∧ i = .int .i64 q ∧ x = .int .i64 (u : Int) ∧ Below wA.heap.size wA wr) (fun _ i _ => 512 - (intOf i).toNat)
            case atStart => exact ⟨0, v, Nat.zero_le _, rfl, rfl, rfl, Below.refl _ _⟩
            case round =>
              obtain ⟨q, u, hq, hu, rfl, rfl, hb2⟩ := hrel
              have HB2 := hid hb2
              have HU := hid hu
              clear hb2 hu
              by_cases hl2 : q < 512
              · have d2 : decide ((q : Int) < 512) = true := by simp; omega
                have HUB := hid (show u ≤ 700000000 by have := cntN_le k9 q; have := HU.out; have := HVB.out; omega)
                have HN2 := hid (cntN_next k9 q)
                obtain ⟨x, hx⟩ : ∃ x, x = wdT (k9 q) := ⟨_, rfl⟩
                rw [← hx] at HN2
                have HX := hid hx
                have HTY := hid (HTW2.out.below HB2.out)
                have HWY := hid (HWW.out.below HB2.out)
                have HWD := hid (fun (W : World) (hs : EX N0 wr W) => wordAt_any (HTY.out.below (ex0 hs)) f9 q x (by rw [HX.out]; exact HKW.out q hl2) (fun hf => HKT.out.2) hl2 (by rw [HX.out]; exact HKL.out q hl2))
                have HROWN := hid (show Row wr ob 34 _ from HWY.out.own)
                have Q0 : ∀ ww, EX N0 wr ww → ww.cell? ⟨ob, 0, none⟩ = some (.pointer (some ⟨p, 0, none⟩)) := fun ww hs => (hs.row HROWN.out id).cell 0 (by simp)
                have GN := HGN.out
                have Q1 := fun ww (hs : EX N0 wr ww) => hs.cell (St.cell GN HB2.out) id
                have ez2 : (0 : Int) ≤ (q : Int) := by omega
                clear GN hx
                go_wp2_with fail
                have hS0 : EX N0 wr wr.drew := EX.drew (EX.refl _)
                go_region_held3 (EX N0 wr) (first | exact EX.drew _ | exact EX.refl _ | assumption) ((go_at_call 16; refine (HWD.out _ (by first | assumption | exact (EX.refl _).drew)).mono ?_; rintro e' w7 ⟨rfl, hb7⟩; have hS2 : EX N0 wr w7 := hS0.trans (EX.of_below hb7); have HES7 : Hid (EX N0 wr w7) := hid hS2; clear hb7))
                clear hS0 hS2 Q0 Q1 HWD
                by_cases hz : x = 0
                · have d3 : ((x : Int) != (0 : Int)) = false := by simp [hz]
                  have d3n : (x != 0) = false := by simp [hz]
                  have d3d : decide (x = 0) = true := by simp [hz]
                  have HN3 := hid (show u = v + cntN k9 (q + 1) by rw [HN2.out, if_pos hz]; exact HU.out)
                  clear hz
                  go_wp2_with fail
                  go_roundw
                  case rel => exact ⟨q + 1, u, by omega, HN3.out, by go_num, rfl, HB2.out.trans ((ex0 HES7.out).mono HB2.out.size)⟩
                  case measure => simp [intOf]; omega
                · have d3 : ((x : Int) != (0 : Int)) = true := by simp; omega
                  have d3n : (x != 0) = true := by simp [hz]
                  have d3d : decide (x = 0) = false := by simp [hz]
                  have HN3 := hid (show u + 1 = v + cntN k9 (q + 1) by rw [HN2.out, if_neg hz]; have := HU.out; omega)
                  have hub := HUB.out
                  clear hz
                  go_wp2_with fail
                  go_roundw
                  case rel => exact ⟨q + 1, u + 1, by omega, HN3.out, by go_num, by go_num, HB2.out.trans ((ex0 HES7.out).mono HB2.out.size)⟩
                  case measure => simp [intOf]; omega
              · have d2 : decide ((q : Int) < 512) = false := by simp; omega
                obtain rfl : q = 512 := by omega
                have hjj := HJ.out
                have hjk := HNK5.out
                go_wp2_with fail
                go_roundw
                case rel => exact ⟨j + 1, u, by omega, by rw [HN1.out, ← HV.out]; exact HU.out, by go_num, rfl, HBR.out.trans (HB2.out.mono HBR.out.size)⟩
                case measure => simp [intOf]; omega
          · have d1 : decide ((j : Int) < (NK.length : Int)) = false := by simp; omega
            have d1n : decide (j < NK.length) = false := by simp; omega
            have hvv : v + 1 = NK.length + LA.length := by rw [HV.out]; have := HNK2.out; rw [show sumN NK j = (NK.map fun x => nzN x.2).sum by unfold sumN; rw [List.take_of_length_le (by omega)]]; exact this
            have hla := HLA.out
            have hnk := HNK5.out
            obtain ⟨m9, hm9⟩ : ∃ m9, NK.length = m9 + 1 := ⟨NK.length - 1, by have := HNK7.out; omega⟩
            obtain ⟨ew1, ew2, ew3, ew4⟩ := end_wraps hm9 hvv hnk hla
            have eq1 : ((v : Int) == (v : Int)) = true := by simp
            have HBF := hid (HLOW.out wr (HTZ.out.below HBR.out).cw.low)
            clear hvv hla hnk hm9 hj
            go_wp2_with fail
            go_ret
            exact ⟨rfl, HBF.out⟩
end Go.Proofs.YtncikcllhjhjmaaGreatDoor
