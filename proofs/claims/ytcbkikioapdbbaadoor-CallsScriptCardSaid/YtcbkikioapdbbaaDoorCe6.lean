
/- CallsReads: its walk. -/
import Derived.Test.YtcbkikioapdbbaaDoorKC5
import Derived.StillTailTactics
namespace Go.Proofs.YtcbkikioapdbbaaDoor
open Go.RowKit Go.Sort
attribute [local go_sem] Oper.semAt_some

theorem own_at {w : World} {base n c k : Nat} {E : TypeId} {a : Option Addr} {xs : List Value} (h : w.ownsRow base E 1 (.slice a n c) n xs) (hk : k < n) (hk2 : k < xs.length) :
    ∃ G, a = some ⟨G, 0, none⟩ ∧ base ≤ G ∧ G < w.heap.size ∧ w.cell? ⟨G, k, none⟩ = some xs[k] ∧ w.frozen? ⟨G, k, none⟩ = false ∧ ∀ u, u.oneCell' = true → (w.setCell ⟨G, k, none⟩ u).ownsRow base E 1 (.slice a n c) n (xs.set k u) := by
  obtain ⟨G, c', e, h1, h2, h3, _⟩ := own_open h (by omega)
  cases e
  obtain ⟨a', c'', e, hcel, _⟩ := own_cel h
  cases e
  obtain ⟨b, off, e, hc⟩ := hcel.cell k hk2
  cases e
  rw [Nat.zero_add] at hc
  have hh := h.2
  rcases hh with ⟨e, _⟩ | ⟨g, cap, cur, e, hb, hg, hrest⟩
  · cases e
  · cases e
    exact ⟨G, rfl, h2, h3, hc, frozen_of_row w G k _ E hg, fun u hu => (World.ownsRow.stored h k u).1⟩
theorem rread25_o (a : Option Addr) (cap : Nat) (l : BL) (w : World) (hB : Byt w a l.length l) (hl : l.length ≤ 1000000) (hcap : l.length ≤ cap) :
    Calls Tryd.prog 22 #[.slice a l.length cap] w (ReadQ l w) := by
  cases hl0 : l with
  | nil =>
    have HF := hid (show readC [] = (pc0 0, 0, 24) from rfl)
    go_enter Tryd.func22, Tryd.ntmps22
    go_wp2_with fail
    refine bodyPost_ret (v := .tuple #[cgV (cgOf (pc0 0)), .int .i64 0, .int .i64 24]) (by simp [results, Tryd.results22, go_sem, cgOf, pc0]; rfl) rfl (readQ_bad HF.out (bal _))
  | cons c lt =>
    rw [← hl0]
    obtain ⟨b, off, rfl, hc⟩ := hB.some_of (by rw [hl0]; simp)
    exact rread25_any b off cap l w hB (World.block_lt_of_cell? w _ (hc 0 (by rw [hl0]; simp))) hl hcap
theorem read25_o (a : Option Addr) (cap : Nat) (l : BL) (w : World) (hs : Sizes w) (hB : Byt w a l.length l) (hl : l.length ≤ 1000000) (hcap : l.length ≤ cap) :
    Calls Tryd.prog 21 #[.slice a l.length cap] w (ReadP l w) := by
  cases hl0 : l with
  | nil =>
    have HF := hid (show readC [] = (pc0 0, 0, 24) from rfl)
    go_enter Tryd.func21, Tryd.ntmps21
    go_wp2_with fail
    refine bodyPost_ret (v := .tuple #[cgV (cgOf (pc0 0)), .int .i64 0, .int .i64 24]) (by simp [results, Tryd.results21, go_sem, cgOf, pc0]; rfl) rfl (readP_bad HF.out (bal _))
  | cons c lt =>
    rw [← hl0]
    obtain ⟨b, off, rfl, hc⟩ := hB.some_of (by rw [hl0]; simp)
    exact read25_any b off cap l w hs hs.lt hB (World.block_lt_of_cell? w _ (hc 0 (by rw [hl0]; simp))) hl hcap
theorem OwnC.of {w : World} {base : Nat} {x : CG} (h4 : w.ownsRow base 9 1 (.slice x.va x.argv.length x.vc) x.argv.length (strs x.argv)) (h5 : w.ownsRow base 9 1 (.slice x.ea x.env.length x.ec) x.env.length (strs x.env)) (h6 : w.ownsRow base 5 1 (.slice x.ya x.bytes.length x.yc) x.bytes.length (x.bytes.map B8)) : OwnC w base x := by
  have l1 := lies_own h4
  have l2 := lies_own h5
  have l3 := lies_own h6
  obtain ⟨a1, c1, q1, k1, n1, m1, _⟩ := own_cel h4
  obtain ⟨a2, c2, q2, k2, n2, m2, _⟩ := own_cel h5
  obtain ⟨a3, c3, q3, k3, n3, m3, _⟩ := own_cel h6
  cases q1; cases q2; cases q3
  exact ⟨k1, k2, cel_byt k3, l1, l2, l3, n1, n2, n3, m1, m2, m3⟩
/-- What the loops of CallsReads keep. -/
structure RdK (w wr : World) (B g cb : Nat) (l : BL) (x : CG) : Prop where
  box : Row wr cb 26 (cgC x)
  room : Row wr g 5 (room l)
  low : Below w.heap.size w wr
theorem RdK.set {w wr : World} {B g cb G k : Nat} {l : BL} {x : CG} (h : RdK w wr B g cb l x) (hg : g < B) (hw : w.heap.size ≤ B) (hG : B ≤ G) (hne : G ≠ cb) (u : Value) : RdK w (wr.setCell ⟨G, k, none⟩ u) B g cb l x :=
  ⟨h.box.other (a := ⟨G, k, none⟩) (Ne.symm hne) u, h.room.other (a := ⟨G, k, none⟩) (by simp only [ne_eq]; omega) u, bset h.low (by omega) u⟩

set_option maxRecDepth 100000 in
set_option maxHeartbeats 8000000 in
theorem callsReads_walk (a : Option Addr) (len cap : Nat) (l : BL) (w : World) (hs : Sizes w) (hB : Byt w a len l) (hlc : len ≤ cap) (hcm : cap ≤ maxLen) :
    Calls Tryd.prog 5 #[.slice a len cap] w fun e w' => e = .returned (.bool true) ∧ Below w.heap.size w w' := by
  obtain rfl := hB.hlen
  have HS := hid hs
  have HG := hid hs.lt
  have HB := hid hB
  have HLC := hid hlc
  have HWK := hid (fun (w' : World) (hb : Below w.heap.size w w') => works25_any w' (hs.below hb) (Nat.lt_of_lt_of_le hs.lt hb.size))
  have hm : cap ≤ 9223372036854775807 := hcm
  clear hs hB
  by_cases hlg : 131072 < l.length
  · have d1 : decide ((131072 : Int) < (l.length : Int)) = true := by simp; omega
    have d1n : decide (131072 < l.length) = true := by simp; omega
    go_enter Tryd.func5, Tryd.ntmps5
    go_wp2_with fail
    refine (HWK.out w (Below.refl _ _)).mono ?_
    rintro e' w5 ⟨rfl, hb5⟩
    have HL5 := hid hb5
    clear hb5
    go_wp2_with fail
    go_ret
    exact ⟨rfl, HL5.out⟩
  · have d1 : decide ((131072 : Int) < (l.length : Int)) = false := by simp; omega
    have d1n : decide (131072 < l.length) = false := by simp; omega
    have HLG := hid hlg
    have HRB := hid (readC_b l)
    go_enter Tryd.func5, Tryd.ntmps5
    go_wp2_with fail
    refine (roomy_any a l.length cap l w HB.out (by omega)).mono ?_
    rintro e' w2 ⟨rfl, hr2, hb2⟩
    have HR2 := hid hr2
    have HB2 := hid hb2
    have HBI := hid (show Byt w2 (some ⟨w.heap.size, 0, none⟩) l.length l from Row.byt hr2 rfl)
    have HG2 := hid (show w.heap.size < w2.heap.size from hr2.lt)
    clear hr2 hb2
    go_wp2_with fail
    refine (read25_o (some ⟨w.heap.size, 0, none⟩) (l.length + 7) l w2 (HS.out.below HB2.out) HBI.out (by omega) (by omega)).mono ?_
    intro e' w3 h3
    obtain ⟨x, rfl, hpx, hb3, ha3, he3, hy3⟩ := (show ReadP _ _ _ _ from h3)
    obtain ⟨w4, hw4⟩ : ∃ w4, w4 = w3.alloc (.cells (cgC x).toArray 26) := ⟨_, rfl⟩
    have HPX := hid hpx
    have HW4 := hid hw4
    have hb34 : Below w3.heap.size w3 w4 := by rw [hw4]; exact bal _
    have HK4 := hid (show RdK w w4 w2.heap.size w.heap.size w3.heap.size l x from ⟨by rw [hw4]; exact Row.new w3 _ _, (HR2.out.below hb3 HR2.out.lt).below hb34 (Nat.lt_of_lt_of_le HG2.out hb3.size), HB2.out.trans ((hb3.trans (hb34.mono hb3.size)).mono HB2.out.size)⟩)
    have HA4 := hid (own_below ha3 hb34)
    have HE4 := hid (own_below he3 hb34)
    have HY4 := hid (own_below hy3 hb34)
    have HXB := hid (show PcB l.length (pcOf x) ∧ (pcOf x).bytes.length ≤ 5 * l.length by rw [hpx]; exact ⟨HRB.out.1, HRB.out.2.1⟩)
    have HOK4 := hid (show CGok w4 x from (OwnC.of HA4.out HE4.out HY4.out).ok HXB.out.1 (by omega) (by have := HXB.out.2; have e : x.bytes.length = (pcOf x).bytes.length := rfl; omega))
    have HNV := hid (show w2.heap.size ≤ w3.heap.size ∧ w3.heap.size < w4.heap.size from ⟨hb3.size, by rw [hw4, World.size_alloc]; omega⟩)
    clear h3 hpx hb3 ha3 he3 hy3 hw4 hb34
    go_wp2_with fail
    rw [← HW4.out]
    refine (rread25_o a cap l w4 (HB.out.below' HK4.out.low) (by omega) HLC.out).mono ?_
    intro e' w5 h5
    obtain ⟨y, rfl, hpy, hb5, hoy⟩ := (show ReadQ _ _ _ _ from h5)
    obtain ⟨w6, hw6⟩ : ∃ w6, w6 = w5.alloc (.cells (cgC y).toArray 26) := ⟨_, rfl⟩
    have hb56 : Below w5.heap.size w5 w6 := by rw [hw6]; exact bal _
    have hb46 := hb5.trans (hb56.mono hb5.size)
    have HK6 := hid (show RdK w w6 w2.heap.size w.heap.size w3.heap.size l x from ⟨HK4.out.box.below hb46 HNV.out.2, HK4.out.room.below hb46 HK4.out.room.lt, HK4.out.low.trans (hb46.mono HK4.out.low.size)⟩)
    have HA6 := hid (own_below HA4.out hb46)
    have HY6 := hid (own_below HY4.out hb46)
    have HX6 := hid (HOK4.out.below hb46)
    have HYR := hid (show Row w6 w5.heap.size 26 (cgC y) by rw [hw6]; exact Row.new w5 _ _)
    have HYO := hid (show CGok w6 y from (hoy.below hb56).ok (L := l.length) (by rw [hpy]; exact HRB.out.1) (by omega) (by
      have e : y.bytes.length = (pcOf y).bytes.length := rfl
      rw [e, hpy]
      have := HRB.out.2.1
      omega))
    have HX5 := hid (HK4.out.box.below hb5 HNV.out.2)
    have HPQ := hid (show pcOf x = pcOf y from HPX.out.trans hpy.symm)
    have HW6 := hid hw6
    have hq1 : ((((readC l).2.1 : Nat) : Int) != (((readC l).2.1 : Nat) : Int)) = false := by simp
    have hq2 : ((readC l).2.2 != (readC l).2.2) = false := by simp
    clear h5 hpy hb5 hoy hw6 hb56 hb46
    generalize (readC l).2.1 = r1 at *
    generalize (readC l).2.2 = r2 at *
    obtain ⟨p0, p1, p2, p3, p4, p5, p6, p7, p8, p9⟩ := HX5.out.ten
    have hl35 := HX5.out.lt
    go_wp2_with fail
    rw [← HW6.out]
    refine (same_eq w6 HX6.out HYO.out HPQ.out).mono ?_
    rintro e' w7 ⟨rfl, hb7⟩
    have HK7 := hid (show RdK w w7 w2.heap.size w.heap.size w3.heap.size l x from ⟨HK6.out.box.below hb7 HK6.out.box.lt, HK6.out.room.below hb7 HK6.out.room.lt, HK6.out.low.trans (hb7.mono HK6.out.low.size)⟩)
    have HA7 := hid (own_below HA6.out hb7)
    have HY7 := hid (own_below HY6.out hb7)
    clear p0 p1 p2 p3 p4 p5 p6 p7 p8 p9 hl35 hb7
    go_wp2_with fail
    go_loopw [10] (fun i wr => ∃ (k : Nat) (ss : List Value), k ≤ x.argv.length ∧ i = .int .i64 k ∧ ss.length = x.argv.length ∧ RdK w wr w2.heap.size w.heap.size w3.heap.size l x ∧ wr.ownsRow w2.heap.size 9 1 (.slice x.va x.argv.length x.vc) x.argv.length ss ∧ wr.ownsRow w2.heap.size 5 1 (.slice x.ya x.bytes.length x.yc) x.bytes.length (x.bytes.map B8)) (fun i _ => x.argv.length - (intOf i).toNat)
    case atStart => exact ⟨0, strs x.argv, Nat.zero_le _, rfl, strsS_len _, HK7.out, HA7.out, HY7.out⟩
    case round =>
      obtain ⟨k, ss, hk, rfl, hsl, hkr, hA, hY⟩ := hrel
      rename World => wA
      have HK := hid hkr
      have HA := hid hA
      have HY := hid hY
      have c7 : wA.cell? ⟨w3.heap.size, 7, none⟩ = some (.slice x.va x.argv.length x.vc) := hkr.box.cell' 7
      have han : x.argv.length ≤ 8796093022207 := HOK4.out.an
      clear hkr hA hY
      by_cases hlt : k < x.argv.length
      · have d1 : decide ((k : Int) < (x.argv.length : Int)) = true := by simp; omega
        have d1n : decide (k < x.argv.length) = true := by simp; omega
        obtain ⟨G, hva, hG1, hG2, hG3, hG4, hG5⟩ := own_at HA.out hlt (by omega)
        have HSET := hid (hG5 (.string { data := #[33] }) rfl)
        have hne : G ≠ w3.heap.size := by
          intro e
          have := own_ne_row HA.out HK.out.box (by decide)
          rw [hva] at this
          exact this (by rw [e]; rfl)
        have HKS := hid (HK.out.set (k := k) HG2.out HB2.out.size hG1 hne (.string { data := #[33] }))
        have HYS := hid (own_setOther HY.out (b := G) (o := k) (by
          have := own_two_ne HY.out HA.out (by decide)
          intro e
          rcases this with h | h
          · rw [h] at e; cases e
          · rw [← e, hva] at h; exact h rfl) (.string { data := #[33] }))
        generalize ss[k] = s0 at *
        rw [hva] at c7
        clear hG5
        go_wp2_with fail
        go_roundw
        case rel => exact ⟨k + 1, ss.set k (.string { data := #[33] }), by omega, by go_num, by rw [List.length_set]; exact hsl, HKS.out, HSET.out, HYS.out⟩
        case measure => simp [intOf]; omega
      · have d1 : decide ((k : Int) < (x.argv.length : Int)) = false := by simp; omega
        have d1n : decide (k < x.argv.length) = false := by simp; omega
        obtain ⟨N, hN⟩ : ∃ N, N = x.bytes.length := ⟨_, rfl⟩
        have hxn : N ≤ 655365 := by
          have h1 := HXB.out.2
          have e : x.bytes.length = (pcOf x).bytes.length := rfl
          have := HLG.out
          omega
        have c9 : wA.cell? ⟨w3.heap.size, 9, none⟩ = some (.slice x.ya N x.yc) := by rw [hN]; exact HK.out.box.cell' 9
        have HYN := hid (show wA.ownsRow w2.heap.size 5 1 (.slice x.ya N x.yc) N (x.bytes.map B8) by rw [hN]; exact HY.out)
        have HYD := hid (own_below HYN.out (@bal wA (.cells #[.int .u8 9] 5)))
        have HCD := hid (show Cel (wA.alloc (.cells #[.int .u8 9] 5)) (some ⟨wA.heap.size, 0, none⟩) 1 (([9] : BL).map B8) from cel_one wA _ _)
        have HKD := hid (show RdK w (wA.alloc (.cells #[.int .u8 9] 5)) w2.heap.size w.heap.size w3.heap.size l x from ⟨HK.out.box.alloc _, HK.out.room.alloc _, HK.out.low.alloc HK.out.low.size _⟩)
        have HSZ := hid (show w2.heap.size ≤ (wA.alloc (.cells #[.int .u8 9] 5)).heap.size by
          have h1 := HK.out.box.lt
          have h2 := HNV.out.1
          rw [World.size_alloc]; omega)
        have HNa := hid (show (N + 1) * 1 ≤ 140737488355328 by omega)
        have HNb := hid (show N + 1 ≤ maxLen by unfold maxLen; omega)
        have hltb := HK.out.box.lt
        have HGN := hid (fun (w9 : World) (hg : (wA.alloc (.cells #[.int .u8 9] 5)).grownBy w9 (Value.slice x.ya N x.yc).ownBlock) => show RdK w w9 w2.heap.size w.heap.size w3.heap.size l x from
          ⟨HKD.out.box.grown hg (own_ne_row HYD.out HKD.out.box (by decide)), HKD.out.room.grown hg (own_ne HYD.out (.inl HG2.out)), HKD.out.low.grown hg HKD.out.low.size (fun q hq => Nat.le_trans HB2.out.size (HYD.out.lt q hq).1)⟩)
        have HNN := hid hN
        clear hxn hN
        go_wp2_with (at_builtin; go_must (refine wpList_ap1 Tryd.underlying24 infoBy rfl rfl _ _ rfl w2.heap.size (.slice x.ya N x.yc) N (x.bytes.map B8) (([9] : BL).map B8) rfl (some ⟨wA.heap.size, 0, none⟩) 1 1 rfl HYD.out HCD.out (b8_ones _) (fun h => by cases h) HNa.out HNb.out HSZ.out ?_; intro v' w9 hown hgrow hb9; have HO9 := hid hown; have HK9 := hid (HGN.out w9 hgrow); obtain ⟨ga, gc, rfl⟩ := own_hd2 hown; have z9 := HK9.out.box.frozen 9; have k9 := HK9.out.box.cell' 9; have hlt9 := HK9.out.box.lt; clear hown hgrow hb9))
        obtain ⟨M, hM⟩ : ∃ M, M = N + 1 := ⟨_, rfl⟩
        have HML := hid (show M ≤ 655366 by
          have h1 := HXB.out.2
          have e : x.bytes.length = (pcOf x).bytes.length := rfl
          have := HLG.out
          have := HNN.out
          omega)
        obtain ⟨wB, hwB⟩ : ∃ wB, wB = w9.setCell ⟨w3.heap.size, 9, none⟩ (.slice ga (N + 1) gc) := ⟨_, rfl⟩
        have HB9 := hid (show wB.cell? ⟨w3.heap.size, 9, none⟩ = some (.slice ga M gc) ∧ w3.heap.size < wB.heap.size by
          rw [hwB, hM, size_set1]
          exact ⟨(HK9.out.box.set 9 _).cell' 9, HK9.out.box.lt⟩)
        have HRB9 := hid (show ∃ cs, Row wB w3.heap.size 26 cs ∧ cs[9]? = some (.slice ga M gc) from ⟨_, by rw [hwB]; exact HK9.out.box.set 9 _, by rw [hM]; rfl⟩)
        have HRM9 := hid (show Row wB w.heap.size 5 (room l) by rw [hwB]; exact HK9.out.room.other (a := ⟨w3.heap.size, 9, none⟩) (by simp only [ne_eq]; have := HG2.out; have := HNV.out.1; omega) _)
        have HLW9 := hid (show Below w.heap.size w wB by rw [hwB]; exact bset HK9.out.low (by have := HG2.out; have := HNV.out.1; omega) _)
        have HOW9 := hid (show wB.ownsRow w2.heap.size 5 1 (.slice ga M gc) M (x.bytes.map B8 ++ ([9] : BL).map B8) by rw [hwB, hM]; exact own_setOther HO9.out (own_ne_row HO9.out HK9.out.box (by decide)) _)
        have HIN := hid (show ∀ v ∈ x.bytes.map B8 ++ ([9] : BL).map B8, ∃ i : Int, v = .int .u8 i from fun v hv => by
          rcases List.mem_append.1 hv with hv | hv <;> (obtain ⟨c, _, rfl⟩ := List.mem_map.1 hv; exact ⟨_, rfl⟩))
        have HLN := hid (show (x.bytes.map B8 ++ ([9] : BL).map B8).length = M by rw [hM, HNN.out]; simp)
        generalize x.bytes.map B8 ++ ([9] : BL).map B8 = xs0 at *
        rw [← hwB]
        clear hwB hM z9 k9 hlt9 c9
        go_wp2_with fail
        clear hk hsl hlt d1 d1n han c7
        go_loopw [11] (fun i wr => ∃ (q : Nat) (xs : List Value), q ≤ M ∧ i = .int .i64 q ∧ xs.length = M ∧ (∀ v ∈ xs, ∃ i : Int, v = .int .u8 i) ∧ (∃ cs, Row wr w3.heap.size 26 cs ∧ cs[9]? = some (.slice ga M gc)) ∧ Row wr w.heap.size 5 (room l) ∧ Below w.heap.size w wr ∧ wr.ownsRow w2.heap.size 5 1 (.slice ga M gc) M xs) (fun i _ => M - (intOf i).toNat)
        case atStart => exact ⟨0, xs0, Nat.zero_le _, rfl, HLN.out, HIN.out, HRB9.out, HRM9.out, HLW9.out, HOW9.out⟩
        case round =>
          obtain ⟨q, xs, hq, rfl, hxl, hxi, hrb, hrm, hlw, how⟩ := hrel
          rename World => wC
          have HXI := hid hxi
          have HRB := hid hrb
          have HRM := hid hrm
          have HLW := hid hlw
          have HOW := hid how
          obtain ⟨cs, hrow, hcs⟩ := hrb
          have k9 : wC.cell? ⟨w3.heap.size, 9, none⟩ = some (.slice ga M gc) := (hrow.cell' 9).trans hcs
          have HROW := hid hrow
          have HCS := hid hcs
          have hml := HML.out
          clear hxi hrm hlw how hrow hcs
          by_cases hlt : q < M
          · have d1 : decide ((q : Int) < (M : Int)) = true := by simp; omega
            have d1n : decide (q < M) = true := by simp; omega
            obtain ⟨G, hva, hG1, hG2, hG3, hG4, hG5⟩ := own_at HOW.out hlt (by omega)
            obtain ⟨iv, hiv⟩ := HXI.out _ (List.getElem_mem (show q < xs.length by omega))
            rw [hiv] at hG3
            have hne : G ≠ w3.heap.size := by
              intro e
              have := own_ne_row HOW.out HROW.out (by decide)
              rw [hva] at this
              exact this (by rw [e]; rfl)
            have HSET := hid (fun u h => hG5 u h)
            have HRBS := hid (fun u => show ∃ cs, Row (wC.setCell ⟨G, q, none⟩ u).drew w3.heap.size 26 cs ∧ cs[9]? = some (.slice ga M gc) from ⟨cs, (HROW.out.other (a := ⟨G, q, none⟩) (Ne.symm hne) u).drew, HCS.out⟩)
            have HRMS := hid (fun u => (HRM.out.other (a := ⟨G, q, none⟩) (by have := HG2.out; simp only [ne_eq]; omega) u).drew)
            have HLWS := hid (fun u => (bset HLW.out (b := G) (o := q) (by have := HG2.out; omega) u).drew)
            subst hva
            clear hG5 hiv
            go_wp2_with fail
            go_still_tail 10, (by kernel_rfl)
            go_wp2_with fail
            go_roundw
            case rel => exact ⟨q + 1, xs.set q _, by omega, by go_num, by rw [List.length_set]; exact hxl, (fun v hv => by
              rcases List.mem_or_eq_of_mem_set hv with hv | hv
              · exact HXI.out v hv
              · exact ⟨_, hv⟩), HRBS.out _, HRMS.out _, HLWS.out _, (HSET.out _ rfl).drew⟩
            case measure => simp [intOf]; omega
          · have d1 : decide ((q : Int) < (M : Int)) = false := by simp; omega
            have d1n : decide (q < M) = false := by simp; omega
            go_wp2_with fail
            refine (kept_any w.heap.size a l.length (l.length + 7) l.length cap l l wC rfl rfl HRM.out (HB.out.below' HLW.out) (by omega) (by omega)).mono ?_
            rintro e' w10 ⟨rfl, n10, rfl⟩
            rw [eqB_self]
            have HB10 := hid (bdN HLW.out n10)
            go_wp2_with fail
            refine (HWK.out _ HB10.out).mono ?_
            rintro e' w11 ⟨rfl, hb11⟩
            have HL11 := hid (HB10.out.trans (hb11.mono HB10.out.size))
            clear hb11
            go_wp2_with fail
            go_ret
            exact ⟨rfl, HL11.out⟩
end Go.Proofs.YtcbkikioapdbbaaDoor
