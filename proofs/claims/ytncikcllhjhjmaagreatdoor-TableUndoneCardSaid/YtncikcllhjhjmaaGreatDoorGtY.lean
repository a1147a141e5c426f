
/- TableUndone: the walk. -/
import Derived.Test.YtncikcllhjhjmaaGreatDoorGtW
import Derived.Test.YtncikcllhjhjmaaGreatDoorBcB
namespace Go.Proofs.YtncikcllhjhjmaaGreatDoor
open Go.RowKit Go.Sort Go.WideMaps Go.Maps Go.WideShapes Go.WideElems Go.MapKept Go.ChangeMaps
attribute [local go_sem] Oper.semAt_some

section
variable {rd : Int → Int → List UInt8 × Int} {root : Nat} {ix : Nat → Nat}
theorem map_stays {a p : Nat} {b : Bool} : ∀ (k : Nat) (s : CC) (f : Nat) (kids : Nat → Tr) (hx : List Nat), Good rd s hx → a ∈ hx → ∀ x ∈ s.sl, x.f = (a : Int) → x ∈ (downT (mapV a p b) ix k s f kids).1.sl
  | 0, s, f, kids, hx, G, ha, x, hx', e => hx'
  | k + 1, s, f, kids, hx, G, ha, x, hx', e => by
    rw [downT]
    split
    · rename_i g kk _
      rw [if_neg (by simp [mapV])]
      exact map_stays k s g kk hx G ha x hx' e
    · rw [if_neg (by simp [mapV])]
      rcases takC_case G with ⟨m, s1, ht, K⟩ | ⟨ht, _⟩
      · rw [ht]
        simp only [ne_eq, not_true_eq_false, if_false, Int.toNat_natCast]
        have h1 : x ∈ s1.sl := K.stays x hx' a e (by have := List.count_pos_iff.2 ha; omega)
        have h2 := map_stays (b := b) (p := p) k s1 m noK (m :: hx) (K.good G) (List.mem_cons_of_mem _ ha) x h1 e
        split
        · exact h2
        · exact h2
      · rw [ht]
        simp only
        rw [if_pos (by decide)]
        exact hx'
theorem dn_free2 {s : CC} {g : Nat} (hg : g < s.fs.length) (h1 : 2 ≤ s.fs[g].cnt) : freeN (dnC s g).fs = freeN s.fs := by
  unfold dnC
  simp only
  rw [downS_at hg (by omega)]
  have := freeN_set s.fs g ⟨s.fs[g].bs, s.fs[g].cnt - 1⟩ hg
  generalize s.fs[g].cnt = n at *
  have h2 : ¬ n = 0 := by omega
  have h3 : ¬ n - 1 = 0 := by omega
  rw [if_neg (by simpa using h2), if_neg (by simpa using h3)] at this
  simpa using this
theorem leaf_new {S : Nat → Prop} {w wx : World} (h : EX S (w.alloc (.cells #[.int .i64 0, .int .u8 0, .bool false] 39)) wx) (hn : ¬ S w.heap.size) : Row wx w.heap.size 39 [.int .i64 0, .int .u8 0, .bool false] := h.row (Row.new w _ _) hn
theorem leaf_new_d {S : Nat → Prop} {w wx : World} (h : EX S (w.alloc (.cells #[.int .i64 0, .int .u8 0, .bool false] 39)).drew wx) (hn : ¬ S w.heap.size) : Row wx w.heap.size 39 [.int .i64 0, .int .u8 0, .bool false] := h.row (Row.new w _ _).drew hn
theorem wrap_len {a b : Nat} (h : b = a + 1) (ha : a ≤ 1000000) : wrap64 ((a : Int) + 1) = (b : Int) := by rw [IntWalk.wrap64_in _ ⟨by omega, by omega⟩]; omega
theorem wrap_len2 {a b : Nat} (h : b = a + 1) (ha : a ≤ 1000000) : IntKind.i64.wrap ((a : Int) + 1) = (b : Int) := by rw [IntKind.wrap_i64]; omega
theorem wrap_gone {a b : Nat} (h : b ≤ a) (ha : a ≤ 1000000000) : wrap64 ((a : Int) - (b : Int)) = ((a - b : Nat) : Int) := by rw [IntWalk.wrap64_in _ ⟨by omega, by omega⟩]; omega
theorem wrap_gone2 {a b : Nat} (h : b ≤ a) (ha : a ≤ 1000000000) : IntKind.i64.wrap ((a : Int) - (b : Int)) = ((a - b : Nat) : Int) := by rw [IntKind.wrap_i64]; omega
theorem wrap_sum {a b c : Nat} (h : c = a + b) (hc : c ≤ 2000000000) : wrap64 ((a : Int) + (b : Int)) = (c : Int) := by rw [IntWalk.wrap64_in _ ⟨by omega, by omega⟩]; omega
theorem wrap_sum2 {a b c : Nat} (h : c = a + b) (hc : c ≤ 2000000000) : IntKind.i64.wrap ((a : Int) + (b : Int)) = (c : Int) := by rw [IntKind.wrap_i64]; omega
theorem size_drew9 (w : World) : w.drew.heap.size = w.heap.size := rfl
/-- What a Map that is refused leaves. -/
structure MapN (s : CC) (kids : Nat → Tr) (D : RES) : Prop where
  kids : D.2.1 = kids
  sum : freeN D.1.fs + D.1.sl.length = freeN s.fs + s.sl.length
  le : D.1.sl.length ≤ s.sl.length
  four : D.2.2 = 4 ∨ D.1.sl.length = s.sl.length
theorem mapR_not {s : CC} {kids : Nat → Tr} {R : List Nat} {ad : Nat} {a q : Int} {b : Bool} (T : TI rd s 3 root kids R) (hq : 0 ≤ q) (h : (mapR s root kids ad a q b).2.2 ≠ 0) : MapN s kids (mapR s root kids ad a q b) := by
  revert h
  unfold mapR
  split
  · exact fun _ => ⟨rfl, rfl, Nat.le_refl _, .inr rfl⟩
  · rename_i hok
    split
    · exact fun _ => ⟨rfl, rfl, Nat.le_refl _, .inr rfl⟩
    · rename_i hno
      intro h
      obtain ⟨k, r, rfl, rfl, h7, hTK, hlo, hpg⟩ := okA_is (by simpa using hok) hq
      have hlk := isNo_no (by simpa using hno)
      rw [Int.toNat_natCast, Int.toNat_natCast] at h ⊢
      have D := downT_ok (mapOk (b := b) h7) (ixOf_lt ad) 3 (upC s k) root kids R trivial hlk (T.up hTK)
      split at h
      · rename_i he
        exact absurd he h
      · rename_i he
        rw [if_neg he]
        have hst := fun x hx' (e : x.f = (k : Int)) => map_stays (rd := rd) (ix := ixOf ad) (a := k) (p := r) (b := b) 3 (upC s k) root kids _ (T.up hTK).good (by simp) x hx' e
        generalize downT (mapV k r b) (ixOf ad) 3 (upC s k) root kids = DD at *
        have hl : DD.1.fs.length = s.fs.length := D.len.trans up_len
        obtain ⟨hk, hk0⟩ := hTK
        have hkD : k < DD.1.fs.length := by omega
        have h1 := D.ti
        rw [D.err he, show mapB k DD.2.2 = [k] by unfold mapB; rw [if_neg he]] at h1
        have hc := h1.good.cnt k hkD
        have hc0 := T.good.cnt k hk
        have hsum := D.sum rfl he
        rw [up_free T.good ⟨hk, hk0⟩] at hsum
        have hsl : (upC s k).sl = s.sl := rfl
        rw [hsl] at hsum
        have h2 : 2 ≤ DD.1.fs[k].cnt := by
          rw [hc]
          have e1 : (hxT 3 root kids ++ ([k] ++ R)).count k = (hxT 3 root kids ++ R).count k + 1 := by
            simp only [List.count_append, List.count_cons, List.count_nil, beq_self_eq_true, if_true]
            omega
          rw [e1]
          by_cases c : 1 ≤ (hxT 3 root kids ++ R).count k
          · omega
          · have c2 : 0 < s.sl.countP (fun x => decide (x.f = (k : Int))) := by omega
            obtain ⟨x, hx1, hx2⟩ := List.countP_pos_iff.1 c2
            have h5 := hst x hx1 (of_decide_eq_true hx2)
            have h6 : 0 < DD.1.sl.countP (fun x => decide (x.f = (k : Int))) := List.countP_pos_iff.2 ⟨x, h5, hx2⟩
            omega
        refine ⟨rfl, ?_, D.sub.length_le, .inl (D.four rfl he)⟩
        show freeN (dnC DD.1 k).fs + DD.1.sl.length = _
        rw [dn_free2 hkD h2]
        exact hsum
theorem MapD.all {s : CC} {kids : Nat → Tr} {R : List Nat} {ad : Nat} {a q : Int} {b : Bool} {k r : Nat} {D : RES} (M : MapD rd s root kids R ad a q b k r D) : (allL root D.2.1).length = (allL root kids).length + 1 := by
  have e : ∀ kk : Nat → Tr, (allL root kk).length = (lfT 4 (.nd root kk)).length := fun kk => by
    have hlf : (allL root kk).map (fun y => y.2.1) = lfT 4 (.nd root kk) := leaves_lf 4 0 (.nd root kk)
    rw [← hlf, List.length_map]
  rw [e, e, M.pm.length_eq, List.length_cons]
end
set_option maxRecDepth 100000 in
set_option maxHeartbeats 8000000 in
theorem tableUndone_walk (N : Int) (oa : Option Addr) (oc : Nat) (l : List O9) (o : O9) (w : World) (hO : Ops9 w oa l) (ho : Op9Ok o) (hT : Tb w) (hZ : Wd.Sizes w) :
    Calls Tryz.prog 6 #[.int .i64 N, .slice oa l.length oc, .agg (opC9 o).toArray] w fun e w' => e = .returned (.bool true) ∧ Below w.heap.size w w' := by
  obtain ⟨wb, hwb⟩ : ∃ wb, wb = w.alloc (.cells (opC9 o).toArray 55) := ⟨_, rfl⟩
  have HBB := hid (show Below w.heap.size w wb by rw [hwb]; exact bal _)
  have HRB := hid (show Row wb w.heap.size 55 (opC9 o) by rw [hwb]; exact Row.new w _ _)
  have HOP := hid (hO.below HBB.out)
  have HWK := hid (fun (W : World) (hb : Below w.heap.size w W) => works9_any W (fun j hj => St.cell (hT j hj) hb) (hZ.below hb))
  have HVA := hid (vast9_any N oa l.length oc wb)
  have HBH := hid (fun (h : N ≤ 96 ∧ l.length ≤ 120) => behind_any N (by omega) oa oc l wb (fun j hj => St.cell (hT j hj) HBB.out) (hZ.below HBB.out) HOP.out (by omega))
  have HMD := hid (fun (h : N ≤ 96 ∧ l.length ≤ 120) => made9_any N (by omega) wb (fun j hj => St.cell (hT j hj) HBB.out) (hZ.below HBB.out))
  have HWB := hid hwb
  have HOO := hid ho
  clear ho
  clear hO hT hZ hwb
  unfold opC9 at HRB HWB ⊢
  go_enter Tryz.func6, Tryz.ntmps6
  go_wp2_with fail
  rw [← HWB.out]
  refine (HVA.out).mono ?_
  rintro e w1 ⟨⟨vb, rfl, hvs⟩, rfl⟩
  have HVS := hid hvs
  clear hvs
  rcases vb with _ | _
  rotate_left
  · go_wp2_with fail
    refine (HWK.out _ HBB.out).mono ?_
    rintro e wk ⟨rfl, hbk⟩
    have HBK := hid (bthen HBB.out hbk)
    clear hbk
    go_wp2_with fail
    go_ret
    exact ⟨rfl, HBK.out⟩
  have HVN := hid (HVS.out rfl)
  have HBN := hid (HBH.out HVN.out)
  have HMN := hid (HMD.out HVN.out)
  go_wp2_with fail
  refine (HBN.out).mono ?_
  rintro e w2 hm
  rcases hm with ⟨hn1, rfl, hb⟩ | ⟨w0, F, t, p, g, h, c, m, tb, ob, root, vh, ws, k, st, hnk, hk1, rfl, how, hran, hfr, hb0⟩
  · have HB2 := hid (bthen HBB.out hb)
    clear hb
    go_wp2_with fail
    refine (HWK.out w2 HB2.out).mono ?_
    rintro e wk ⟨rfl, hbk⟩
    have HBK := hid (bthen HB2.out hbk)
    clear hbk
    go_wp2_with fail
    go_ret
    exact ⟨rfl, HBK.out⟩
  have HOW := hid how
  have HFR := hid hfr
  have HRAN := hid hran
  have HBW := hid (bthen HBB.out hb0)
  have HBY := hid hb0
  have HLOW := hid (fun (W : World) (hl : Below w0.heap.size w0 W) => show Below w.heap.size w W from HBW.out.trans (hl.mono HBW.out.size))
  have HTI := hid (hran.inv.ti hfr)
  have HTW := hid (show TW w0 F t p g h c m tb st.s ws root false w2 by have := how.tw; rw [hfr] at this; exact this)
  clear how hfr hran hb0
  have HRBW := hid (fun W (hl : Below w0.heap.size w0 W) => HRB.out.below (HBY.out.trans (hl.mono HBY.out.size)) HRB.out.lt)
  have HNBX := hid (show ¬ cS g h c m w.heap.size from fun e => by
    have h1 := HTW.out.cw.lg
    have h2 := HTW.out.cw.lh
    have h3 := HTW.out.cw.lc
    have h4 := HTW.out.cw.lm
    have h5 := HRB.out.lt
    have h6 := HBY.out.size
    rcases e with e | e | e | e <;> omega)
  have HHL := hid (show st.h.length ≤ 1000000 by have := HRAN.out.hh; have := HVN.out.2; omega)
  have HMA := hid (fun W ws' (H : TW w0 F t p g h c m tb st.s ws' root false W) => map_any st.s st.kids st.h ws' o.ad HOO.out.ad o.f o.q o.b HOO.out.q0 W H HTI.out (ti_room HTI.out H.cw.pool.n2 HHL.out))
  have HFRE := hid (fun (s : CC) (ws' : List Nat) (W : World) (H : TW w0 F t p g h c m tb s ws' root false W) => free_any p g h s.fs ws' W H.cw.pool)
  have HSLO := hid (fun (s : CC) (ws' : List Nat) (hx : List Nat) (W : World) (H : TW w0 F t p g h c m tb s ws' root false W) (G : Good (rdP16 t.L) s hx) => slots_any w0 F t p g h c m s ws' (rdP16 t.L) hx W H.cw G)
  obtain ⟨q0, q1, q2, q3⟩ := HOW.out.own.four
  have hol := HOW.out.own.lt
  have HLL := hid (show (allL root st.kids).length ≤ 1000000 ∧ (nodL root st.kids).length ≤ 1000000 from all_small HTI.out HTW.out.cw.pool.n2)
  have HAL := hid (fun (s : CC) (ws' : List Nat) (W : World) (H : TW w0 F t p g h c m tb s ws' root false W) (T : TI (rdP16 t.L) s 3 root st.kids st.h) => all_any s st.kids st.h ws' W H T)
  have HNO := hid (fun (s : CC) (ws' : List Nat) (W : World) (H : TW w0 F t p g h c m tb s ws' root false W) (T : TI (rdP16 t.L) s 3 root st.kids st.h) => nodes_any s st.kids st.h ws' W H T)
  go_wp2_with fail
  refine (HAL.out st.s ws w2 HTW.out HTI.out).mono ?_
  rintro e w3 ⟨v3, rfl, ho3, hb3⟩
  obtain ⟨a3, c3, rfl, hrk3, _⟩ := own_rk ho3 (by intro r hr; obtain ⟨x, _, rfl⟩ := List.mem_map.1 hr; rfl) (by omega)
  have HRK3 := hid hrk3
  have HO3 := hid ho3
  have HW3 := hid (HOW.out.below hb3)
  have HT3 := hid (HTW.out.below hb3)
  clear ho3 hb3 hrk3 q0 q1 q2 q3 hol
  obtain ⟨q0, q1, q2, q3⟩ := HW3.out.own.four
  have hol := HW3.out.own.lt
  go_wp2_with fail
  refine (HNO.out st.s ws w3 HT3.out HTI.out).mono ?_
  rintro e w4 ⟨v4, rfl, ho4, hb4⟩
  obtain ⟨a4, c4, rfl, hcl4, _⟩ := own_cel ho4
  have HCL4 := hid hcl4
  have HRK4 := hid (HRK3.out.below' hb4)
  have HO34 := hid (own_below HO3.out hb4)
  have HO4 := hid ho4
  have HN3 := hid ((HT3.out.below hb4).cw.nOwn HO34.out (by decide) (by decide) (by decide))
  have HN4 := hid ((HT3.out.below hb4).cw.nOwn HO4.out (by decide) (by decide) (by decide))
  have HW4 := hid (HW3.out.below hb4)
  have HT4 := hid (HT3.out.below hb4)
  clear ho4 hb4 hcl4 q0 q1 q2 q3 hol
  obtain ⟨q0, q1, q2, q3⟩ := HW4.out.own.four
  have hol := HW4.out.own.lt
  go_wp2_with fail
  refine (HFRE.out st.s ws w4 HT4.out).mono ?_
  rintro e wx ⟨rfl, rfl⟩
  go_wp2_with fail
  refine (HSLO.out st.s ws _ w4 HT4.out HTI.out.good).mono ?_
  rintro e w5 ⟨v5, sl5, rfl, hpm5, _, ho5, hb5⟩
  have HPL := hid (show sl5.length = st.s.sl.length from hpm5.length_eq)
  obtain ⟨a5, c5, rfl⟩ : ∃ a5 c5, v5 = .slice a5 sl5.length c5 := by
    rcases ho5.2 with ⟨rfl, h0⟩ | ⟨b, cap, cur, rfl, _⟩
    · exact ⟨none, 0, by rw [h0]⟩
    · exact ⟨_, _, rfl⟩
  have HW5 := hid (HW4.out.below hb5)
  have HT5 := hid (HT4.out.below hb5)
  have HO35 := hid (own_below HO34.out hb5)
  have HO45 := hid (own_below HO4.out hb5)
  clear hpm5 ho5 hb5 q0 q1 q2 q3 hol
  have HROWN := hid (show Row w5 ob 34 _ from HW5.out.own)
  have HRBX := hid (HRBW.out w5 HW5.out.tw.cw.low)
  have Q0 : ∀ ww, EX (cS g h c m) w5 ww → ww.cell? ⟨ob, 2, none⟩ = some (.pointer (some ⟨tb, 0, none⟩)) := fun ww hs => (hs.row HROWN.out HW5.out.nS.1).cell 2 (by simp)
  have B1 : ∀ ww, EX (cS g h c m) w5 ww → ww.cell? ⟨w.heap.size, 1, none⟩ = some (.int .u64 (o.ad : Int)) := fun ww hs => (hs.row HRBX.out HNBX.out).cell 1 (by simp)
  have B2 : ∀ ww, EX (cS g h c m) w5 ww → ww.cell? ⟨w.heap.size, 2, none⟩ = some (.int .i64 o.f) := fun ww hs => (hs.row HRBX.out HNBX.out).cell 2 (by simp)
  have B3 : ∀ ww, EX (cS g h c m) w5 ww → ww.cell? ⟨w.heap.size, 3, none⟩ = some (.int .u8 o.q) := fun ww hs => (hs.row HRBX.out HNBX.out).cell 3 (by simp)
  have B4 : ∀ ww, EX (cS g h c m) w5 ww → ww.cell? ⟨w.heap.size, 4, none⟩ = some (.bool o.b) := fun ww hs => (hs.row HRBX.out HNBX.out).cell 4 (by simp)
  go_wp2_with fail
  have hS0 : EX (cS g h c m) w5 w5.drew := EX.drew (EX.refl _)
  have HCT0 := hid (HMA.out w5.drew ws (HT5.out.below (bdN (Below.refl _ _) 1)))
  go_region_held3 (EX (cS g h c m) w5) (first | exact EX.drew _ | exact EX.refl _ | assumption) ((go_at_call 24; refine (HCT0.out).mono ?_; rintro e' w6 ⟨rfl, htw6, hew6⟩; have HTw6 := hid htw6; have hS2 : EX (cS g h c m) w5 w6 := hS0.trans hew6; clear htw6 hew6))
  have HEw6 := hid hS2
  clear hS0 hS2 Q0 B1 B2 B3 B4 HCT0
  obtain ⟨D, hD⟩ : ∃ D, D = mapR st.s root st.kids o.ad o.f o.q o.b := ⟨_, rfl⟩
  rw [← hD] at HTw6 ⊢
  have HD := hid hD
  clear hD
  obtain ⟨ws6, ht6⟩ := HTw6.out
  have HT6 := hid ht6
  clear ht6
  have HW6 := hid (show OW9 w0 F t p g h c m tb ob root vh ⟨D.1, D.2.1, st.h, st.fr⟩ ws6 w6 from HW5.out.call (by rw [HFR.out]; exact HT6.out) (HEw6.out.mono fun _ _ e => .inl e) rfl)
  have HRB6 := hid (HRBW.out w6 HT6.out.cw.low)
  have HTI6 := hid (show TI (rdP16 t.L) D.1 3 root D.2.1 st.h by rw [HD.out]; exact (mapR_ti HTI.out o.ad o.f o.q o.b HOO.out.q0).1)
  obtain ⟨er, her⟩ : ∃ er, er = D.2.2 := ⟨_, rfl⟩
  have HER := hid her
  rw [← her]
  clear her
  by_cases he0 : er = 0
  · have d9 : (er == (0 : Int)) = true := by simp [he0]
    have d9d : decide (er = 0) = true := decide_eq_true he0
    have hz : (mapR st.s root st.kids o.ad o.f o.q o.b).2.2 = 0 := by rw [← HD.out, ← HER.out]; exact he0
    obtain ⟨k1, r1, M⟩ := mapR_zero HTI.out HOO.out.q0 hz
    rw [← HD.out] at M
    have HM := hid M
    clear he0 hz M
    have hlk := HM.out.lf
    have hfn : fndL o.ad (lookT (ixOf o.ad) 3 D.2.1) = .lf k1 r1 o.b := by unfold fndL; rw [if_pos HM.out.lo, hlk]
    have hfe : fndE o.ad (lookT (ixOf o.ad) 3 D.2.1) = 0 := by unfold fndE; rw [if_pos HM.out.lo, hlk]; rfl
    have HFI := hid (fun W (hs : St w6 W) => find_any D.1 D.2.1 st.h ws6 o.ad HOO.out.ad W (HT6.out.below hs) HTI6.out (by have := ti_room (st := ⟨D.1, D.2.1, st.h, st.fr⟩) HTI6.out HT6.out.cw.pool.n2 HHL.out; simp only at this; omega))
    have hld : ldV (.lf k1 r1 o.b) = .agg #[.int .i64 o.f, .int .u8 o.q, .bool o.b] := by rw [HM.out.ka, HM.out.qr]; rfl
    rw [hfn, hfe, hld] at HFI
    clear hlk hfn hfe hld
    go_wp2_with fail
    have HROWN := hid (show Row w6 ob 34 _ from HW6.out.own)
    have Q0 : ∀ ww, EX (cS g h c m) w6 ww → ww.cell? ⟨ob, 2, none⟩ = some (.pointer (some ⟨tb, 0, none⟩)) := fun ww hs => (hs.row HROWN.out HW6.out.nS.1).cell 2 (by simp)
    have B1 : ∀ ww, EX (cS g h c m) w6 ww → ww.cell? ⟨w.heap.size, 1, none⟩ = some (.int .u64 (o.ad : Int)) := fun ww hs => (hs.row HRB6.out HNBX.out).cell 1 (by simp)
    have hS0 : EX (cS g h c m) w6 w6.drew := EX.drew (EX.refl _)
    have hSt : St w6 w6.drew := St.drew _
    have HNZ := hid (show ¬ cS g h c m w6.drew.heap.size from fun e => Nat.lt_irrefl _ (HT6.out.cw.cSlt _ e))
    go_region_held3 (EX (cS g h c m) w6) (first | exact EX.drew _ | exact EX.refl _ | assumption | exact EX.set (EX.set (EX.set hS2 (.inr (Nat.le_refl _)) 0 _) (.inr (Nat.le_refl _)) 1 _) (.inr (Nat.le_refl _)) 2 _ | exact EX.alloc hS2 _ | exact EX.alloc hS0 _) ((go_at_call 15; refine (HFI.out _ (by first | assumption | exact St.step hSt (bal _))).mono ?_; rintro e' w7 ⟨rfl, ht7, he7⟩; have HT7 := hid ht7; have HE7 := hid he7; have hS2 : EX (cS g h c m) w6 w7 := (by first | exact hS0.trans he7 | exact (hS0.alloc _).trans he7 | exact (((EX.refl _).alloc _).drew).trans he7); have HES7 : Hid (EX (cS g h c m) w6 w7) := hid hS2; (first | (have rw6 := (by first | exact leaf_new he7 HNZ.out | exact leaf_new_d he7 HNZ.out : Row w7 _ 39 _); have c60 := rw6.cell 0 (by simp); have c61 := rw6.cell 1 (by simp); have c62 := rw6.cell 2 (by simp); have f60 := rw6.frozen 0; have f61 := rw6.frozen 1; have f62 := rw6.frozen 2; have l6 := rw6.lt; simp only [List.getElem_cons_zero, List.getElem_cons_succ, size_drew9] at c60 c61 c62 f60 f61 f62 l6; have HRW6 := hid rw6; clear rw6) | skip); clear ht7 he7))
    · obtain ⟨ws8, ht7⟩ := HT7.out
      have HT7T := hid ht7
      have HW7 := hid (show OW9 w0 F t p g h c m tb ob root vh ⟨D.1, D.2.1, st.h, st.fr⟩ ws8 w7 from HW6.out.call (by rw [HFR.out]; exact ht7) (HES7.out.mono fun _ _ e => .inl e) rfl)
      have HRB7 := hid (HRBW.out w7 ht7.cw.low)
      obtain ⟨w8, hw8⟩ : ∃ w8, w8 = w7.alloc (.cells #[.int .i64 o.f, .int .u8 o.q, .bool o.b] 39) := ⟨_, rfl⟩
      rw [← hw8]
      have HB8 := hid (show Below w7.heap.size w7 w8 by rw [hw8]; exact bal _)
      have HRL8 := hid (show Row w8 w7.heap.size 39 [.int .i64 o.f, .int .u8 o.q, .bool o.b] by rw [hw8]; exact Row.new w7 _ _)
      have HT8 := hid (HT7T.out.below HB8.out)
      have HW8 := hid (HW7.out.below HB8.out)
      have HRB8 := hid (HRB7.out.below HB8.out HRB7.out.lt)
      clear hw8 ht7 hS0 hSt hS2 Q0 B1
      have hfb := HRB8.out.lt
      obtain ⟨q0, q1, q2, q3⟩ := HW8.out.own.four
      have hol := HW8.out.own.lt
      obtain ⟨g2, g3, g4⟩ : w8.cell? ⟨w.heap.size, 2, none⟩ = some (.int .i64 o.f) ∧ w8.cell? ⟨w.heap.size, 3, none⟩ = some (.int .u8 o.q) ∧ w8.cell? ⟨w.heap.size, 4, none⟩ = some (.bool o.b) := ⟨HRB8.out.cell 2 (by simp), HRB8.out.cell 3 (by simp), HRB8.out.cell 4 (by simp)⟩
      obtain ⟨l0, l1, l2⟩ : w8.cell? ⟨w7.heap.size, 0, none⟩ = some (.int .i64 o.f) ∧ w8.cell? ⟨w7.heap.size, 1, none⟩ = some (.int .u8 o.q) ∧ w8.cell? ⟨w7.heap.size, 2, none⟩ = some (.bool o.b) := ⟨HRL8.out.cell 0 (by simp), HRL8.out.cell 1 (by simp), HRL8.out.cell 2 (by simp)⟩
      have hll := HRL8.out.lt
      have HA8 := hid (all_any D.1 D.2.1 st.h ws8 w8 HT8.out HTI6.out)
      have hln := HM.out.all
      have hle := HLL.out.1
      have HL9 := hid (show (allL root D.2.1).length ≤ 1000000 from (all_small HTI6.out HT8.out.cw.pool.n2).1)
      generalize allL root D.2.1 = LB at *
      generalize allL root st.kids = LA at *
      have ew := wrap_len hln hle
      have ew2 := wrap_len2 hln hle
      have eq1 : ((LB.length : Int) == (LB.length : Int)) = true := by simp
      have HLN := hid hln
      clear hln hle
      go_wp2_with fail
      refine (HA8.out).mono ?_
      rintro e w9 ⟨v9, rfl, ho9, hb9⟩
      obtain ⟨a9, c9, rfl, _⟩ := own_puts ho9 HL9.out
      have HBZ := hid (HLOW.out w9 (HT8.out.cw.low.trans (hb9.mono HT8.out.cw.low.size)))
      clear ho9 hb9
      go_wp2_with fail
      go_ret
      exact ⟨rfl, HBZ.out⟩
    · obtain ⟨ws8, ht7⟩ := HT7.out
      have HT7T := hid ht7
      have HW7 := hid (show OW9 w0 F t p g h c m tb ob root vh ⟨D.1, D.2.1, st.h, st.fr⟩ ws8 w7 from HW6.out.call (by rw [HFR.out]; exact ht7) (HES7.out.mono fun _ _ e => .inl e) rfl)
      have HRB7 := hid (HRBW.out w7 ht7.cw.low)
      have HRN := hid (show Row w7 w6.heap.size 39 [.int .i64 0, .int .u8 0, .bool false] from HRW6.out)
      obtain ⟨w8, hw8⟩ : ∃ w8, w8 = ((w7.setCell ⟨w6.heap.size, 0, none⟩ (.int .i64 o.f)).setCell ⟨w6.heap.size, 1, none⟩ (.int .u8 o.q)).setCell ⟨w6.heap.size, 2, none⟩ (.bool o.b) := ⟨_, rfl⟩
      rw [← hw8]
      have HX8 := hid (show EX (fun k => k = w6.heap.size) w7 w8 by rw [hw8]; exact (((EX.refl (S := fun k => k = w6.heap.size) w7).set (g := w6.heap.size) (.inl rfl) 0 _).set (g := w6.heap.size) (.inl rfl) 1 _).set (g := w6.heap.size) (.inl rfl) 2 _)
      have HRL8 := hid (show Row w8 w6.heap.size 39 [.int .i64 o.f, .int .u8 o.q, .bool o.b] by rw [hw8]; exact ((HRN.out.set 0 _).set 1 _).set 2 _)
      have HT8 := hid (HT7T.out.off5 HX8.out HRN.out (HT6.out.cw.low.size) (by decide) (by decide) (by decide) (by decide) (by decide))
      have HW8 := hid (show OW9 w0 F t p g h c m tb ob root vh ⟨D.1, D.2.1, st.h, st.fr⟩ ws8 w8 from ⟨HX8.out.row HW7.out.own (row_tys HW7.out.own HRN.out (by decide)), by rw [HFR.out]; exact HT8.out, HX8.out.own HW7.out.hh fun k e => ob_ne HW7.out.hh HRN.out (by decide) k e, HW7.out.lo⟩)
      have HRB8 := hid (HX8.out.row HRB7.out (by have := HRB.out.lt; have := HBY.out.size; have := HT6.out.cw.low.size; omega))
      clear hw8 ht7 hS0 hSt hS2 Q0 B1 c60 c61 c62 f60 f61 f62 l6
      have hfb := HRB8.out.lt
      obtain ⟨q0, q1, q2, q3⟩ := HW8.out.own.four
      have hol := HW8.out.own.lt
      obtain ⟨g2, g3, g4⟩ : w8.cell? ⟨w.heap.size, 2, none⟩ = some (.int .i64 o.f) ∧ w8.cell? ⟨w.heap.size, 3, none⟩ = some (.int .u8 o.q) ∧ w8.cell? ⟨w.heap.size, 4, none⟩ = some (.bool o.b) := ⟨HRB8.out.cell 2 (by simp), HRB8.out.cell 3 (by simp), HRB8.out.cell 4 (by simp)⟩
      obtain ⟨l0, l1, l2⟩ : w8.cell? ⟨w6.heap.size, 0, none⟩ = some (.int .i64 o.f) ∧ w8.cell? ⟨w6.heap.size, 1, none⟩ = some (.int .u8 o.q) ∧ w8.cell? ⟨w6.heap.size, 2, none⟩ = some (.bool o.b) := ⟨HRL8.out.cell 0 (by simp), HRL8.out.cell 1 (by simp), HRL8.out.cell 2 (by simp)⟩
      have hll := HRL8.out.lt
      have HA8 := hid (all_any D.1 D.2.1 st.h ws8 w8 HT8.out HTI6.out)
      have hln := HM.out.all
      have hle := HLL.out.1
      have HL9 := hid (show (allL root D.2.1).length ≤ 1000000 from (all_small HTI6.out HT8.out.cw.pool.n2).1)
      generalize allL root D.2.1 = LB at *
      generalize allL root st.kids = LA at *
      have ew := wrap_len hln hle
      have ew2 := wrap_len2 hln hle
      have eq1 : ((LB.length : Int) == (LB.length : Int)) = true := by simp
      have HLN := hid hln
      clear hln hle
      go_wp2_with fail
      refine (HA8.out).mono ?_
      rintro e w9 ⟨v9, rfl, ho9, hb9⟩
      obtain ⟨a9, c9, rfl, _⟩ := own_puts ho9 HL9.out
      have HBZ := hid (HLOW.out w9 (HT8.out.cw.low.trans (hb9.mono HT8.out.cw.low.size)))
      clear ho9 hb9
      go_wp2_with fail
      go_ret
      exact ⟨rfl, HBZ.out⟩
  · have d9 : (er == (0 : Int)) = false := by simp [he0]
    have d9d : decide (er = 0) = false := decide_eq_false he0
    have hz : (mapR st.s root st.kids o.ad o.f o.q o.b).2.2 ≠ 0 := by rw [← HD.out, ← HER.out]; exact he0
    have hM := mapR_not HTI.out HOO.out.q0 hz
    rw [← HD.out] at hM
    have HM := hid hM
    clear he0 hz hM
    have HRW6 := hid (HW6.out.own)
    obtain ⟨q0, q1, q2, q3⟩ := HW6.out.own.four
    have hol := HW6.out.own.lt
    have HTS := hid (show TI (rdP16 t.L) D.1 3 root st.kids st.h by have := HTI6.out; rw [HM.out.kids] at this; exact this)
    have hle := HM.out.le
    have hfew : st.s.sl.length ≤ 1000000000 := by have := HTI.out.good.many; have := HTW.out.cw.few; omega
    have hfr := HM.out.sum
    have hfl : freeN st.s.fs ≤ 1024 := Nat.le_trans (freeN_le _) HTW.out.cw.pool.n2
    have H4 := hid HM.out.four
    obtain ⟨gn, hgn⟩ : ∃ gn, gn = st.s.sl.length - D.1.sl.length := ⟨_, rfl⟩
    obtain ⟨fn, hfn⟩ : ∃ fn, fn = freeN D.1.fs := ⟨_, rfl⟩
    have HFN := hid hfn
    have hs1 : fn = freeN st.s.fs + gn := by omega
    have hs2 : fn ≤ 2000000000 := by omega
    have HGN := hid (show gn = 0 ∨ er = 4 by
      rcases H4.out with e | e
      · exact .inr (HER.out.trans e)
      · exact .inl (by omega))
    have ew := wrap_gone hle hfew
    have ew2 := wrap_gone2 hle hfew
    rw [← hgn] at ew ew2
    have es := wrap_sum hs1 hs2
    have es2 := wrap_sum2 hs1 hs2
    have HEW := hid (⟨ew, ew2, es, es2⟩ : _ ∧ _ ∧ _ ∧ _)
    clear ew ew2 es es2 hs1 hs2
    have HSL6 := hid (HSLO.out D.1 ws6 _ w6 HT6.out HTI6.out.good)
    rw [HPL.out]
    clear hgn hfn hle hfew hfr hfl
    go_wp2_with fail
    refine (HSL6.out).mono ?_
    rintro e w7 ⟨v7, sl7, rfl, hpm7, _, ho7, hb7⟩
    have hl7 : sl7.length = D.1.sl.length := hpm7.length_eq
    obtain ⟨a7, c7, rfl⟩ : ∃ a7 c7, v7 = .slice a7 sl7.length c7 := by
      rcases ho7.2 with ⟨rfl, h0⟩ | ⟨b, cap, cur, rfl, _⟩
      · exact ⟨none, 0, by rw [h0]⟩
      · exact ⟨_, _, rfl⟩
    rw [hl7]
    have HW7 := hid (HW6.out.below hb7)
    have HT7 := hid (HT6.out.below hb7)
    have HE47 := hid (HEw6.out.trans (EX.of_below hb7))
    clear hpm7 ho7 hb7 hl7 q0 q1 q2 q3 hol
    obtain ⟨q0, q1, q2, q3⟩ := HW7.out.own.four
    have hol := HW7.out.own.lt
    obtain ⟨a3', c3', e9, hrk, _⟩ := own_rk (HE47.out.own HO35.out HN3.out) (by intro r hr; obtain ⟨x, _, rfl⟩ := List.mem_map.1 hr; rfl) (by have := HLL.out; omega)
    cases e9
    obtain ⟨a4', c4', e9, hcl, _⟩ := own_cel (HE47.out.own HO45.out HN4.out)
    cases e9
    have HRKE := hid hrk
    have HCLE := hid hcl
    clear hrk hcl
    have HL3 := hid (show ∀ W, St w7 W → Rk W 4 a3 (allL root st.kids).length ((allL root st.kids).map putC) from fun W hs => HRKE.out.below' hs)
    have HL4 := hid (show ∀ W, St w7 W → Cel W a4 (nodL root st.kids).length ((nodL root st.kids).map nI9) from fun W hs => HCLE.out.below' hs)
    have HA7 := hid (fun W (hs : St w7 W) => HAL.out D.1 ws6 W (HT7.out.below hs) HTS.out)
    have HN7 := hid (fun W (hs : St w7 W) => HNO.out D.1 ws6 W (HT7.out.below hs) HTS.out)
    have HP7 := hid (fun W ax cx (hs : St w7 W) (hr : Rk W 4 ax (allL root st.kids).length ((allL root st.kids).map putC)) => (samePuts_any ax a3 cx c3 (allL root st.kids) W hr (HL3.out W hs) HLL.out.1).mono (fun e w' h => show e = .returned (.bool true) ∧ Below W.heap.size W w' from ⟨h.1, by obtain ⟨k, e⟩ := h.2; rw [e]; exact bdN (Below.refl _ _) k⟩))
    have HI7 := hid (fun W ax cx (hs : St w7 W) (hr : Cel W ax (nodL root st.kids).length ((nodL root st.kids).map nI9)) => (sameInts_any ax a4 cx c4 (nodL root st.kids) W hr (HL4.out W hs) HLL.out.2).mono (fun e w' h => show e = .returned (.bool true) ∧ Below W.heap.size W w' from ⟨h.1, by obtain ⟨k, e⟩ := h.2; rw [e]; exact bdN (Below.refl _ _) k⟩))
    generalize allL root st.kids = LA at *
    generalize nodL root st.kids = LN at *
    have Q2 : ∀ ww, St w7 ww → ww.cell? ⟨ob, 2, none⟩ = some (.pointer (some ⟨tb, 0, none⟩)) := fun ww hs => (HW7.out.own.below hs HW7.out.own.lt).cell 2 (by simp)
    have Q0 : ∀ ww, St w7 ww → ww.cell? ⟨ob, 0, none⟩ = some (.pointer (some ⟨p, 0, none⟩)) := fun ww hs => (HW7.out.own.below hs HW7.out.own.lt).cell 0 (by simp)
    clear Q2 Q0
    have HC7 := hid (fun W (hs : St w7 W) => HFRE.out D.1 ws6 W (HT7.out.below hs))
    rw [← HFN.out] at HC7
    have HB7B := hid (HLOW.out w7 HT7.out.cw.low)
    have HWK7 := hid (fun W (hs : St w7 W) => HWK.out W (bthen HB7B.out hs))
    obtain ⟨ew, ew2, es, es2⟩ := HEW.out
    have eq1 : ((fn : Int) == (fn : Int)) = true := by simp
    have eg : decide ((0 : Int) ≤ (gn : Int)) = true := by simp
    have HKEEP := hid (fun W (hs : St w7 W) => (HW7.out.below hs).own)
    have k0 : ∀ (b1 b2 : Bool), True := fun _ _ => trivial
    have go7 : ∀ (P : Prop), (gn = 0 → er ≠ 4 → P) → (er = 4 → P) → P := fun P f1 f2 => by
      by_cases c : er = 4
      · exact f2 c
      · rcases HGN.out with e | e
        · exact f1 e c
        · exact absurd e c
    refine go7 _ (fun hg0 h4 => ?_) (fun h4 => ?_)
    · have e4 : (er == (4 : Int)) = false := by simp [h4]
      have e4d : decide (er = (4 : Int)) = false := decide_eq_false h4
      have e5 : ((gn : Int) == (0 : Int)) = true := by simp [hg0]
      have e5d : decide ((gn : Int) = (0 : Int)) = true := by simp [hg0]
      clear h4 hg0 go7 k0
      go_wp2_with fail
      refine (HA7.out w7 (St.refl _)).mono ?_
      rintro e w8 ⟨v8, rfl, ho8, hb8⟩
      obtain ⟨a8, c8, rfl, hr8⟩ := own_puts ho8 HLL.out.1
      have HR8 := hid hr8
      have HS8 := hid (show St w7 w8 from hb8)
      clear ho8 hr8 hb8
      go_wp2_with fail
      refine (HP7.out w8 _ _ HS8.out HR8.out).mono ?_
      rintro e w9 ⟨rfl, hb9⟩
      have HS9 := hid (St.step HS8.out hb9)
      have HO9 := hid (HKEEP.out w9 HS9.out)
      clear hb9 q0 q1 q2 q3 hol
      obtain ⟨q0, q1, q2, q3⟩ := HO9.out.four
      have hol := HO9.out.lt
      go_wp2_with fail
      refine (HN7.out w9 HS9.out).mono ?_
      rintro e wA ⟨vA, rfl, hoA, hbA⟩
      obtain ⟨aA, cA, rfl, hrA, _⟩ := own_cel hoA
      have HRA := hid hrA
      have HSA := hid (St.step HS9.out hbA)
      clear hoA hrA hbA
      go_wp2_with fail
      refine (HI7.out wA _ _ HSA.out HRA.out).mono ?_
      rintro e wB ⟨rfl, hbB⟩
      have HSB := hid (St.step HSA.out hbB)
      have HOB := hid (HKEEP.out wB HSB.out)
      clear hbB q0 q1 q2 q3 hol
      obtain ⟨q0, q1, q2, q3⟩ := HOB.out.four
      have hol := HOB.out.lt
      go_wp2_with fail
      refine (HC7.out wB HSB.out).mono ?_
      rintro e wx ⟨rfl, rfl⟩
      go_wp2_with fail
      refine (HWK7.out wB HSB.out).mono ?_
      rintro e wC ⟨rfl, hbC⟩
      have HBC := hid (bthen HB7B.out (St.step HSB.out hbC))
      clear hbC
      go_wp2_with fail
      go_ret
      exact ⟨rfl, HBC.out⟩
    · have e4 : (er == (4 : Int)) = true := by simp [h4]
      have e4d : decide (er = (4 : Int)) = true := decide_eq_true h4
      clear h4 go7 k0
      go_wp2_with fail
      refine (HA7.out w7 (St.refl _)).mono ?_
      rintro e w8 ⟨v8, rfl, ho8, hb8⟩
      obtain ⟨a8, c8, rfl, hr8⟩ := own_puts ho8 HLL.out.1
      have HR8 := hid hr8
      have HS8 := hid (show St w7 w8 from hb8)
      clear ho8 hr8 hb8
      go_wp2_with fail
      refine (HP7.out w8 _ _ HS8.out HR8.out).mono ?_
      rintro e w9 ⟨rfl, hb9⟩
      have HS9 := hid (St.step HS8.out hb9)
      have HO9 := hid (HKEEP.out w9 HS9.out)
      clear hb9 q0 q1 q2 q3 hol
      obtain ⟨q0, q1, q2, q3⟩ := HO9.out.four
      have hol := HO9.out.lt
      go_wp2_with fail
      refine (HN7.out w9 HS9.out).mono ?_
      rintro e wA ⟨vA, rfl, hoA, hbA⟩
      obtain ⟨aA, cA, rfl, hrA, _⟩ := own_cel hoA
      have HRA := hid hrA
      have HSA := hid (St.step HS9.out hbA)
      clear hoA hrA hbA
      go_wp2_with fail
      refine (HI7.out wA _ _ HSA.out HRA.out).mono ?_
      rintro e wB ⟨rfl, hbB⟩
      have HSB := hid (St.step HSA.out hbB)
      have HOB := hid (HKEEP.out wB HSB.out)
      clear hbB q0 q1 q2 q3 hol
      obtain ⟨q0, q1, q2, q3⟩ := HOB.out.four
      have hol := HOB.out.lt
      go_wp2_with fail
      refine (HC7.out wB HSB.out).mono ?_
      rintro e wx ⟨rfl, rfl⟩
      go_wp2_with fail
      refine (HWK7.out wB HSB.out).mono ?_
      rintro e wC ⟨rfl, hbC⟩
      have HBC := hid (bthen HB7B.out (St.step HSB.out hbC))
      clear hbC
      go_wp2_with fail
      go_ret
      exact ⟨rfl, HBC.out⟩
end Go.Proofs.YtncikcllhjhjmaaGreatDoor
