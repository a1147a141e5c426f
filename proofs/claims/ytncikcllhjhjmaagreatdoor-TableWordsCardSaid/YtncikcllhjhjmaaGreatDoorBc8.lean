
/- cache.Get. -/
import Derived.Test.YtncikcllhjhjmaaGreatDoorBc7
namespace Go.Proofs.YtncikcllhjhjmaaGreatDoor
open Go.RowKit Go.Sort Go.WideMaps Go.Maps Go.WideShapes Go.WideElems Go.MapKept Go.ChangeMaps
attribute [local go_sem] Oper.semAt_some

def rdP16 (L : List ND) (i pg : Int) : List UInt8 × Int := readL L i (pg * 4096) 4096
theorem rdP16_len (L : List ND) (i pg : Int) : (rdP16 L i pg).1.length ≤ 4096 := by
  unfold rdP16 readL
  split
  · simp
  · split
    · simp
    · split
      · simp
      · generalize L.getD i.toNat default = x
        unfold rdB
        simp
        omega
theorem rdP16_ne (L : List ND) (i pg : Int) : (rdP16 L i pg).2 ≠ 4 := by
  unfold rdP16 readL
  split
  · simp
  · split
    · simp
    · split <;> simp
theorem b8_b2i (b : List UInt8) : b.map B8 = (b2i b).map (Value.int .u8) := by
  unfold b2i
  rw [List.map_map]
  rfl
theorem CW.setK {w0 w : World} {F : Nat} {t : FT} {p g h c m : Nat} {s : CC} {ws : List Nat} (H : CW w0 F t p g h c m s ws w) {kb : Nat} {cs : List Value} (hr : Row w kb 109 cs) (hk : w0.heap.size ≤ kb) (o : Nat) (u : Value) : CW w0 F t p g h c m s ws (w.setCell ⟨kb, o, none⟩ u) :=
  ⟨H.cache.other (row_tys H.cache hr (by decide)) _, ⟨H.pool.pool.other (row_tys H.pool.pool hr (by decide)) _, H.pool.frames.other (row_tys H.pool.frames hr (by decide)) _, H.pool.words.other (row_tys H.pool.words hr (by decide)) _, H.pool.ok, H.pool.n1, H.pool.n2, H.pool.wl, H.pool.wb, H.pool.c0⟩,
    H.map.same (heap_setCell_other _ _ m _ (H.map.row hr)), H.files, bset H.low hk _, H.lg, H.lh, H.lc, H.lm, H.few, H.tb⟩
set_option maxRecDepth 100000 in
set_option maxHeartbeats 8000000 in
theorem get_any (w0 : World) (F : Nat) (t : FT) (p g h c m : Nat) (s : CC) (ws : List Nat) (hx : List Nat) (i pg : Int) (w : World) (H : CW w0 F t p g h c m s ws w) (G : Good (rdP16 t.L) s hx) (hs : hx.length ≤ 1000000000) (hf : s.tn + 1 < 1000000000) (hi : I64 i) (hp : I64 pg) :
    Calls Tryz.prog 49 #[.pointer (some ⟨c, 0, none⟩), .int .i64 i, .int .i64 pg] w fun e w' => e = .returned (.tuple #[.int .i64 (getC (rdP16 t.L) s i pg).1, .int .i64 (getC (rdP16 t.L) s i pg).2.1]) ∧ (∃ ws', CW w0 F t p g h c m (getC (rdP16 t.L) s i pg).2.2 ws' w') ∧ EX (cS g h c m) w w' := by
  have HH := hid H
  have HG := hid G
  have HS := hid hs
  have HFEW := hid hf
  have HIP := hid (show I64 i ∧ I64 pg from ⟨hi, hp⟩)
  obtain ⟨T, hT⟩ : ∃ T, T = getC (rdP16 t.L) s i pg := ⟨_, rfl⟩
  rw [← hT]
  have HT := hid hT
  by_cases h1 : pg < 0 ∨ 16 ≤ pg
  · have HF := hid (show T = (0, 1, s) by rw [hT]; unfold getC; rw [if_pos h1])
    have e1 : decide (pg < 0) = true ∨ (decide (pg < 0) = false ∧ decide (16 ≤ pg) = true) := by
      by_cases h2 : pg < 0
      · exact .inl (decide_eq_true h2)
      · exact .inr ⟨decide_eq_false h2, by simp; omega⟩
    clear H G hs hf hi hp hT h1
    rcases e1 with e1 | ⟨e1, e2⟩
    · go_enter Tryz.func49, Tryz.ntmps49
      go_wp2_with fail
      go_ret2
      rw [HF.out]
      exact ⟨rfl, ⟨ws, HH.out⟩, EX.refl _⟩
    · go_enter Tryz.func49, Tryz.ntmps49
      go_wp2_with fail
      go_ret2
      rw [HF.out]
      exact ⟨rfl, ⟨ws, HH.out⟩, EX.refl _⟩
  have e1 : decide (pg < 0) = false := by simp; omega
  have e2 : decide (16 ≤ pg) = false := by simp; omega
  have ew : IntKind.i64.wrap (pg * 4096) = pg * 4096 := IntWalk.i64_in _ ⟨by omega, by omega⟩
  have HRD := hid (read_any F t i (pg * 4096) 4096 w H.fs)
  have hRR : readL t.L i (pg * 4096) 4096 = rdP16 t.L i pg := rfl
  rw [hRR] at HRD
  obtain ⟨c0, c1, c2, c3⟩ := H.cells
  have hlc := H.cache.lt
  have HPG := hid h1
  clear H G hs hf hi hp hT h1 hRR
  cases hr : rdP16 t.L i pg with
  | mk bb er =>
  have HRR := hid hr
  rw [hr] at HRD
  go_enter Tryz.func49, Tryz.ntmps49
  go_wp2_with fail
  refine (HRD.out).mono ?_
  rintro e w1 ⟨v, rfl, ho1, hb1⟩
  simp only at ho1
  rw [b8_b2i] at ho1
  obtain ⟨va, vc, rfl, hcl, hn, _, _, hG⟩ := own_cel2 ho1
  have HBB := hid (show Nums w1 .u8 va bb.length (b2i bb) from ⟨b2i_len bb, fun i hi => by
    obtain ⟨g, off, e, hc⟩ := hcl.cell i (by simpa using hi)
    exact ⟨g, off, e, by rw [hc]; simp⟩⟩)
  have HVA := hid (show ∀ x, va = some x → ¬ cS g h c m x.block from fun x e hk => by
    obtain ⟨G, rfl, hG1, _⟩ := hG x e
    have k1 := HH.out.cache.lt
    have k2 := HH.out.map.lt
    have k3 := HH.out.pool.frames.lt
    have k4 := HH.out.pool.words.lt
    simp only at hk
    rcases hk with rfl | rfl | rfl | rfl <;> omega)
  have HB1 := hid hb1
  have HC1 := hid (HH.out.below hb1)
  clear ho1 hcl hn hG hb1 hr ew
  by_cases h2 : er = 0
  rotate_left
  · have d1 : decide (er = 0) = false := decide_eq_false h2
    have d1b : (er != 0) = true := by simp [h2]
    have HF := hid (show T = (0, er, s) by rw [HT.out]; unfold getC; rw [if_neg HPG.out, HRR.out, if_pos h2])
    clear h2
    go_wp2_with fail
    go_ret2
    rw [HF.out]
    exact ⟨rfl, ⟨ws, HC1.out⟩, EX.of_below HB1.out⟩
  subst h2
  have HR0 := hid (show (rdP16 t.L i pg).2 = 0 by rw [HRR.out])
  have HRB := hid (show (rdP16 t.L i pg).1 = bb by rw [HRR.out])
  obtain ⟨w2, hw2⟩ : ∃ w2, w2 = w1.alloc (.cells #[.int .i64 i, .int .i64 pg] 107) := ⟨_, rfl⟩
  have HB2 := hid (show Below w1.heap.size w1 w2 by rw [hw2]; exact bal _)
  have HC2 := hid (HC1.out.below HB2.out)
  have HP2 := hid (show Row w2 w1.heap.size 107 [.int .i64 i, .int .i64 pg] by rw [hw2]; exact Row.new w1 _ _)
  have HBB2 := hid (show Nums w2 .u8 va bb.length (b2i bb) from ⟨HBB.out.hlen, fun i hi => by
    obtain ⟨g, off, e, hc⟩ := HBB.out.cell i hi
    exact ⟨g, off, e, St.cell hc HB2.out⟩⟩)
  have HW2 := hid hw2
  have HZ2 := hid (show w2.heap.size = w1.heap.size + 1 by rw [hw2, World.size_alloc])
  go_wp2_with fail
  rw [← HW2.out]
  clear hw2 c0 c1 c2 c3 hlc e1 e2
  have HFE := hid (show getC (rdP16 t.L) s i pg = match lookS s.sl i pg with
    | some x => (x.f, 0, { s with sl := strikeS s.sl i pg ++ [⟨i, pg, x.f, (s.tn : Int) + 1⟩], tn := s.tn + 1 })
    | none => match filC s bb with
      | (f, e, s1) => if e = 0 then (f, 0, { s1 with sl := strikeS s1.sl i pg ++ [⟨i, pg, f, (s1.tn : Int) + 1⟩], tn := s1.tn + 1 }) else (0, e, s1) from by
    unfold getC
    rw [if_neg HPG.out, if_neg (by rw [HR0.out]; simp), HRB.out]
    rfl)
  cases hlk : lookS s.sl i pg with
  | some x =>
    rw [hlk] at HFE
    have hl0 := (show CM (w2.alloc (.cells #[.int .i64 0, .int .u64 0] 109)).drew m s.tn s.sl from (HC2.out.map.below (bal _)).same rfl).look HIP.out.1 HIP.out.2
    have hl1 := (show CM w2.drew m s.tn s.sl from HC2.out.map.same rfl).look HIP.out.1 HIP.out.2
    rw [hlk] at hl0 hl1
    unfold plK at hl0 hl1
    simp only [Option.isSome_some] at hl0 hl1
    unfold keV at hl0 hl1
    obtain ⟨c0, c1, c2, c3⟩ := HC2.out.cells
    have hlc := HC2.out.cache.lt
    obtain ⟨p0, p1⟩ := HP2.out.two
    have hpl := HP2.out.lt
    clear hlk
    go_wp2_with fail
    go_region
    · clear c0 c1 c2 c3 hlc p0 p1 hpl hl0 hl1
      obtain ⟨w3, hw3⟩ : ∃ w3, w3 = (w2.alloc (.cells #[.int .i64 x.f, .int .u64 x.t] 109)).drew := ⟨_, rfl⟩
      have HB3 := hid (show Below w2.heap.size w2 w3 by rw [hw3]; exact bdN (bal _) 1)
      have HC3 := hid (HC2.out.below HB3.out)
      have HK3 := hid (show Row w3 w2.heap.size 109 [.int .i64 x.f, .int .u64 x.t] by rw [hw3]; exact (Row.new w2 _ _).drew)
      have HP3 := hid (HP2.out.below HB3.out HP2.out.lt)
      have HE3 := hid (show EX (cS g h c m) w w3 from (EX.of_below HB1.out).trans ((EX.of_below HB2.out).trans (EX.of_below HB3.out)))
      have HKB := hid (show w.heap.size ≤ w2.heap.size from Nat.le_trans HB1.out.size HB2.out.size)
      rw [← hw3]
      have HW3 := hid hw3
      clear hw3
      have ePL := HP3.out.lt
      have eKL := HK3.out.lt
      have nKP := row_tys HK3.out HP3.out (by decide)
      have nCK := row_tys HC3.out.cache HK3.out (by decide)
      have nCP := row_tys HC3.out.cache HP3.out (by decide)
      obtain ⟨c0, c1, c2, c3⟩ := HC3.out.cells
      have hlc := HC3.out.cache.lt
      have hcf := HC3.out.cache.frozen 3
      have hkf := HK3.out.frozen 1
      have hkf0 := HK3.out.frozen 0
      obtain ⟨p0, p1⟩ := HP3.out.two
      obtain ⟨k0, k1⟩ := HK3.out.two
      have hkl0 := HK3.out.lt
      have hew : IntKind.u64.wrap ((s.tn : Int) + 1) = (s.tn : Int) + 1 := IntWalk.u64_in _ ⟨by omega, by have := HC3.out.few; omega⟩
      obtain ⟨t1, ht1⟩ : ∃ t1 : Int, t1 = (s.tn : Int) + 1 := ⟨_, rfl⟩
      have HT1 := hid ht1
      obtain ⟨wq, hwq⟩ : ∃ wq, wq = (w3.setCell ⟨c, 3, none⟩ (.int .u64 ((s.tn : Int) + 1))).setCell ⟨w2.heap.size, 1, none⟩ (.int .u64 ((s.tn : Int) + 1)) := ⟨_, rfl⟩
      have HWQ := hid hwq
      have HCQ := hid (show Row wq c 105 [.pointer (some ⟨p, 0, none⟩), .pointer (some ⟨F, 0, none⟩), .map (some m), .int .u64 ((s.tn : Int) + 1)] by rw [hwq]; exact (HC3.out.cache.set 3 _).other nCK _)
      have HPQ := hid (show Row wq w1.heap.size 107 [.int .i64 i, .int .i64 pg] by rw [hwq]; exact (HP3.out.other (Ne.symm nCP) _).other (Ne.symm nKP) _)
      have HKQ := hid (show Row wq w2.heap.size 109 [.int .i64 x.f, .int .u64 ((s.tn : Int) + 1)] by rw [hwq]; exact (HK3.out.other (Ne.symm nCK) _).set 1 _)
      have HEQ := hid (show EX (cS g h c m) w wq by rw [hwq]; exact (HE3.out.set (.inl (.inl rfl)) 3 _).set (.inr HKB.out) 1 _)
      have HMQ := hid (show CM wq m s.tn s.sl by rw [hwq]; exact HC3.out.map.same ((heap_setCell_other _ _ m _ (Ne.symm (Ne.symm (HC3.out.map.row HK3.out)))).trans (heap_setCell_other _ _ m _ (HC3.out.map.row HC3.out.cache))))
      have HPOQ := hid (show Pl wq p g h s.fs ws by
        have q1 := HC3.out.ne
        have o1 := row_tys HC3.out.pool.pool HK3.out (by decide)
        have o2 := row_tys HC3.out.pool.frames HK3.out (by decide)
        have o3 := row_tys HC3.out.pool.words HK3.out (by decide)
        rw [hwq]
        exact ⟨(HC3.out.pool.pool.other (Ne.symm q1.1) _).other o1 _, (HC3.out.pool.frames.other (Ne.symm q1.2.1) _).other o2 _, (HC3.out.pool.words.other (Ne.symm q1.2.2.1) _).other o3 _, HC3.out.pool.ok, HC3.out.pool.n1, HC3.out.pool.n2, HC3.out.pool.wl, HC3.out.pool.wb, HC3.out.pool.c0⟩)
      clear hwq ht1
      go_wp2_with fail
      rw [← HWQ.out]
      clear hkf0 hkl0 c0 c1 c2 c3 hlc hcf hkf p0 p1 k0 k1 hew ePL eKL nKP nCK nCP
      obtain ⟨wz, hrun, hcm, hgz, hzz⟩ := (show CM wq.drew m s.tn s.sl from HMQ.out.same rfl).put (f := x.f) (t := (s.tn : Int) + 1) (by have := HC3.out.few; unfold maxLen; omega) HIP.out.1 HIP.out.2
      unfold plK keV at hrun
      have HCM := hid hcm
      have HGZ := hid hgz
      obtain ⟨c0, c1, c2, c3⟩ := HCQ.out.four
      have hlc := HCQ.out.lt
      obtain ⟨p0, p1⟩ := HPQ.out.two
      have hpl := HPQ.out.lt
      obtain ⟨k0, k1⟩ := HKQ.out.two
      have hkl := HKQ.out.lt
      clear hcm hgz
      go_wp2_with fail
      go_region
      clear c0 c1 c2 c3 hlc p0 p1 hpl k0 k1 hkl hrun hzz
      have kz := (HKQ.out.drew.grown HGZ.out (by simpa using fun e => (HMQ.out.row HKQ.out) e.symm)).two
      obtain ⟨k0, k1⟩ := kz
      have hkl := (HKQ.out.drew.grown HGZ.out (by simpa using fun e => (HMQ.out.row HKQ.out) e.symm)).lt
      go_wp2_with fail
      go_ret2
      rw [HT.out, HFE.out]
      have n1 := fun {gg : Nat} {T : TypeId} {cs : List Value} (hr : Row wq gg T cs) => hr.drew.grown HGZ.out (by simpa using fun e => (HMQ.out.row hr) e.symm)
      have hez : EX (cS g h c m) w wz := (HEQ.out.drew).trans (EX.of_grown HGZ.out (fun k e _ => by cases e; exact .inr (.inl rfl)))
      refine ⟨rfl, ⟨ws, n1 HCQ.out, ⟨n1 HPOQ.out.pool, n1 HPOQ.out.frames, n1 HPOQ.out.words, HPOQ.out.ok, HPOQ.out.n1, HPOQ.out.n2, HPOQ.out.wl, HPOQ.out.wb, HPOQ.out.c0⟩, HCM.out, HH.out.files, hez.below HH.out.low (fun k hk => by
        have h1 := HH.out.lg; have h2 := HH.out.lh; have h3 := HH.out.lc; have h4 := HH.out.lm
        rcases hk with rfl | rfl | rfl | rfl <;> assumption) HH.out.low.size, HH.out.lg, HH.out.lh, HH.out.lc, HH.out.lm, HFEW.out, HH.out.tb⟩, hez⟩
    · clear c0 c1 c2 c3 hlc p0 p1 hpl hl0 hl1
      obtain ⟨w3, hw3⟩ : ∃ w3, w3 = (w2.alloc (.cells #[.int .i64 x.f, .int .u64 x.t] 109)).drew := ⟨_, rfl⟩
      have HB3 := hid (show Below w2.heap.size w2 w3 by rw [hw3]; exact bdN (bal _) 1)
      have HC3 := hid (HC2.out.below HB3.out)
      have HK3 := hid (show Row w3 w2.heap.size 109 [.int .i64 x.f, .int .u64 x.t] by rw [hw3]; exact (Row.new w2 _ _).drew)
      have HP3 := hid (HP2.out.below HB3.out HP2.out.lt)
      have HE3 := hid (show EX (cS g h c m) w w3 from (EX.of_below HB1.out).trans ((EX.of_below HB2.out).trans (EX.of_below HB3.out)))
      have HKB := hid (show w.heap.size ≤ w2.heap.size from Nat.le_trans HB1.out.size HB2.out.size)
      rw [← hw3]
      have HW3 := hid hw3
      clear hw3
      have ePL := HP3.out.lt
      have eKL := HK3.out.lt
      have nKP := row_tys HK3.out HP3.out (by decide)
      have nCK := row_tys HC3.out.cache HK3.out (by decide)
      have nCP := row_tys HC3.out.cache HP3.out (by decide)
      obtain ⟨c0, c1, c2, c3⟩ := HC3.out.cells
      have hlc := HC3.out.cache.lt
      have hcf := HC3.out.cache.frozen 3
      have hkf := HK3.out.frozen 1
      have hkf0 := HK3.out.frozen 0
      obtain ⟨p0, p1⟩ := HP3.out.two
      obtain ⟨k0, k1⟩ := HK3.out.two
      have hkl0 := HK3.out.lt
      have hew : IntKind.u64.wrap ((s.tn : Int) + 1) = (s.tn : Int) + 1 := IntWalk.u64_in _ ⟨by omega, by have := HC3.out.few; omega⟩
      obtain ⟨t1, ht1⟩ : ∃ t1 : Int, t1 = (s.tn : Int) + 1 := ⟨_, rfl⟩
      have HT1 := hid ht1
      obtain ⟨wq, hwq⟩ : ∃ wq, wq = (w3.setCell ⟨c, 3, none⟩ (.int .u64 ((s.tn : Int) + 1))).setCell ⟨w2.heap.size, 1, none⟩ (.int .u64 ((s.tn : Int) + 1)) := ⟨_, rfl⟩
      have HWQ := hid hwq
      have HCQ := hid (show Row wq c 105 [.pointer (some ⟨p, 0, none⟩), .pointer (some ⟨F, 0, none⟩), .map (some m), .int .u64 ((s.tn : Int) + 1)] by rw [hwq]; exact (HC3.out.cache.set 3 _).other nCK _)
      have HPQ := hid (show Row wq w1.heap.size 107 [.int .i64 i, .int .i64 pg] by rw [hwq]; exact (HP3.out.other (Ne.symm nCP) _).other (Ne.symm nKP) _)
      have HKQ := hid (show Row wq w2.heap.size 109 [.int .i64 x.f, .int .u64 ((s.tn : Int) + 1)] by rw [hwq]; exact (HK3.out.other (Ne.symm nCK) _).set 1 _)
      have HEQ := hid (show EX (cS g h c m) w wq by rw [hwq]; exact (HE3.out.set (.inl (.inl rfl)) 3 _).set (.inr HKB.out) 1 _)
      have HMQ := hid (show CM wq m s.tn s.sl by rw [hwq]; exact HC3.out.map.same ((heap_setCell_other _ _ m _ (Ne.symm (Ne.symm (HC3.out.map.row HK3.out)))).trans (heap_setCell_other _ _ m _ (HC3.out.map.row HC3.out.cache))))
      have HPOQ := hid (show Pl wq p g h s.fs ws by
        have q1 := HC3.out.ne
        have o1 := row_tys HC3.out.pool.pool HK3.out (by decide)
        have o2 := row_tys HC3.out.pool.frames HK3.out (by decide)
        have o3 := row_tys HC3.out.pool.words HK3.out (by decide)
        rw [hwq]
        exact ⟨(HC3.out.pool.pool.other (Ne.symm q1.1) _).other o1 _, (HC3.out.pool.frames.other (Ne.symm q1.2.1) _).other o2 _, (HC3.out.pool.words.other (Ne.symm q1.2.2.1) _).other o3 _, HC3.out.pool.ok, HC3.out.pool.n1, HC3.out.pool.n2, HC3.out.pool.wl, HC3.out.pool.wb, HC3.out.pool.c0⟩)
      clear hwq ht1
      go_wp2_with fail
      rw [← HWQ.out]
      clear hkf0 hkl0 c0 c1 c2 c3 hlc hcf hkf p0 p1 k0 k1 hew ePL eKL nKP nCK nCP
      obtain ⟨wz, hrun, hcm, hgz, hzz⟩ := (show CM wq.drew m s.tn s.sl from HMQ.out.same rfl).put (f := x.f) (t := (s.tn : Int) + 1) (by have := HC3.out.few; unfold maxLen; omega) HIP.out.1 HIP.out.2
      unfold plK keV at hrun
      have HCM := hid hcm
      have HGZ := hid hgz
      obtain ⟨c0, c1, c2, c3⟩ := HCQ.out.four
      have hlc := HCQ.out.lt
      obtain ⟨p0, p1⟩ := HPQ.out.two
      have hpl := HPQ.out.lt
      obtain ⟨k0, k1⟩ := HKQ.out.two
      have hkl := HKQ.out.lt
      clear hcm hgz
      go_wp2_with fail
      go_region
      clear c0 c1 c2 c3 hlc p0 p1 hpl k0 k1 hkl hrun hzz
      have kz := (HKQ.out.drew.grown HGZ.out (by simpa using fun e => (HMQ.out.row HKQ.out) e.symm)).two
      obtain ⟨k0, k1⟩ := kz
      have hkl := (HKQ.out.drew.grown HGZ.out (by simpa using fun e => (HMQ.out.row HKQ.out) e.symm)).lt
      go_wp2_with fail
      go_ret2
      rw [HT.out, HFE.out]
      have n1 := fun {gg : Nat} {T : TypeId} {cs : List Value} (hr : Row wq gg T cs) => hr.drew.grown HGZ.out (by simpa using fun e => (HMQ.out.row hr) e.symm)
      have hez : EX (cS g h c m) w wz := (HEQ.out.drew).trans (EX.of_grown HGZ.out (fun k e _ => by cases e; exact .inr (.inl rfl)))
      refine ⟨rfl, ⟨ws, n1 HCQ.out, ⟨n1 HPOQ.out.pool, n1 HPOQ.out.frames, n1 HPOQ.out.words, HPOQ.out.ok, HPOQ.out.n1, HPOQ.out.n2, HPOQ.out.wl, HPOQ.out.wb, HPOQ.out.c0⟩, HCM.out, HH.out.files, hez.below HH.out.low (fun k hk => by
        have h1 := HH.out.lg; have h2 := HH.out.lh; have h3 := HH.out.lc; have h4 := HH.out.lm
        rcases hk with rfl | rfl | rfl | rfl <;> assumption) HH.out.low.size, HH.out.lg, HH.out.lh, HH.out.lc, HH.out.lm, HFEW.out, HH.out.tb⟩, hez⟩
  | none =>
    rw [hlk] at HFE
    have hl0 := (show CM (w2.alloc (.cells #[.int .i64 0, .int .u64 0] 109)).drew m s.tn s.sl from (HC2.out.map.below (bal _)).same rfl).look HIP.out.1 HIP.out.2
    have hl1 := (show CM w2.drew m s.tn s.sl from HC2.out.map.same rfl).look HIP.out.1 HIP.out.2
    rw [hlk] at hl0 hl1
    unfold plK at hl0 hl1
    simp only [Option.isSome_none] at hl0 hl1
    unfold keV at hl0 hl1
    obtain ⟨c0, c1, c2, c3⟩ := HC2.out.cells
    have hlc := HC2.out.cache.lt
    obtain ⟨p0, p1⟩ := HP2.out.two
    have hpl := HP2.out.lt
    clear hlk
    go_wp2_with fail
    go_region
    · clear c0 c1 c2 c3 hlc p0 p1 hpl hl0 hl1
      obtain ⟨w3, hw3⟩ : ∃ w3, w3 = (w2.alloc (.cells #[.int .i64 0, .int .u64 0] 109)).drew := ⟨_, rfl⟩
      have HB3 := hid (show Below w2.heap.size w2 w3 by rw [hw3]; exact bdN (bal _) 1)
      have HC3 := hid (HC2.out.below HB3.out)
      have HK3 := hid (show Row w3 w2.heap.size 109 [.int .i64 0, .int .u64 0] by rw [hw3]; exact (Row.new w2 _ _).drew)
      have HP3 := hid (HP2.out.below HB3.out HP2.out.lt)
      have HE3 := hid (show EX (cS g h c m) w w3 from (EX.of_below HB1.out).trans ((EX.of_below HB2.out).trans (EX.of_below HB3.out)))
      have HKB := hid (show w.heap.size ≤ w2.heap.size from Nat.le_trans HB1.out.size HB2.out.size)
      rw [← hw3]
      have HW3 := hid hw3
      clear hw3
      have HFI := hid (fill_any w0 F t p g h c m s ws (rdP16 t.L) hx w3 HC3.out HG.out HS.out bb va vc ⟨HBB2.out.hlen, fun i hi => by
        obtain ⟨g, off, e, hc⟩ := HBB2.out.cell i hi
        exact ⟨g, off, e, St.cell hc HB3.out⟩⟩ HVA.out (by rw [← HRB.out]; exact rdP16_len _ _ _))
      have hcc := HC3.out.cache.lt
      go_wp2_with fail
      refine (HFI.out).mono ?_
      rintro e w4 ⟨rfl, ⟨ws4, hc4⟩, he4⟩
      have HC4 := hid hc4
      have HE4 := hid he4
      have nS : ∀ {gg : Nat} {T : TypeId} {cs : List Value}, Row w3 gg T cs → T ≠ 105 → T ≠ 116 → T ≠ 23 → ¬ cS g h c m gg := fun hr h1 h2 h3 hk => by
        rcases hk with rfl | rfl | rfl | rfl
        · exact row_tys hr HC3.out.cache h1 rfl
        · exact HC3.out.map.row hr rfl
        · exact row_tys hr HC3.out.pool.frames h2 rfl
        · exact row_tys hr HC3.out.pool.words h3 rfl
      have HK4 := hid (he4.row HK3.out (nS HK3.out (by decide) (by decide) (by decide)))
      have HP4 := hid (he4.row HP3.out (nS HP3.out (by decide) (by decide) (by decide)))
      have hkf := HK4.out.frozen 0
      obtain ⟨k0, k1⟩ := HK4.out.two
      have hkl := HK4.out.lt
      clear hc4 he4 nS hcc
      rcases takC_case HG.out with ⟨kk, sa, hta, TT⟩ | ⟨hta, h0⟩
      · have hfc := filC_ok hta TT bb (by rw [← HRB.out]; exact rdP16_len _ _ _)
        obtain ⟨sb, hsb⟩ : ∃ sb : CC, sb = { sa with fs := sa.fs.set kk ⟨b2i bb ++ List.replicate (4096 - bb.length) 0, 1⟩ } := ⟨_, rfl⟩
        rw [← hsb] at hfc
        have HTN := hid (show sb.tn + 1 < 1000000000 by rw [hsb]; simp only [TT.tn]; exact HFEW.out)
        rw [hfc] at HC4 HFE
        rw [hfc]
        simp only [if_pos] at HFE
        have HFC := hid hfc
        clear hfc hta TT hsb
        obtain ⟨w5, hw5⟩ : ∃ w5, w5 = w4.setCell ⟨w2.heap.size, 0, none⟩ (.int .i64 (kk : Int)) := ⟨_, rfl⟩
        have HW5 := hid hw5
        have HC5 := hid (show CW w0 F t p g h c m sb ws4 w5 by rw [hw5]; exact HC4.out.setK HK4.out (Nat.le_trans HH.out.low.size HKB.out) _ _)
        have HK5 := hid (show Row w5 w2.heap.size 109 [.int .i64 (kk : Int), .int .u64 0] by rw [hw5]; exact HK4.out.set 0 _)
        have HP5 := hid (show Row w5 w1.heap.size 107 [.int .i64 i, .int .i64 pg] by rw [hw5]; exact HP4.out.other (row_tys HP4.out HK4.out (by decide)) _)
        have HE5 := hid (show EX (cS g h c m) w w5 by rw [hw5]; exact (HE3.out.trans HE4.out).set (.inr HKB.out) _ _)
        clear hw5 k0 k1 hkl hkf
        have ePL := HP5.out.lt
        have eKL := HK5.out.lt
        have nKP := row_tys HK5.out HP5.out (by decide)
        have nCK := row_tys HC5.out.cache HK5.out (by decide)
        have nCP := row_tys HC5.out.cache HP5.out (by decide)
        obtain ⟨c0, c1, c2, c3⟩ := HC4.out.cells
        have hlc := HC4.out.cache.lt
        have hcf := HC4.out.cache.frozen 3
        have hkf := HK4.out.frozen 1
        have hkf0 := HK4.out.frozen 0
        obtain ⟨p0, p1⟩ := HP4.out.two
        obtain ⟨k0, k1⟩ := HK4.out.two
        have hkl0 := HK4.out.lt
        have hew : IntKind.u64.wrap ((sb.tn : Int) + 1) = (sb.tn : Int) + 1 := IntWalk.u64_in _ ⟨by omega, by have := HC5.out.few; omega⟩
        obtain ⟨t1, ht1⟩ : ∃ t1 : Int, t1 = (sb.tn : Int) + 1 := ⟨_, rfl⟩
        have HT1 := hid ht1
        obtain ⟨wq, hwq⟩ : ∃ wq, wq = (w5.setCell ⟨c, 3, none⟩ (.int .u64 ((sb.tn : Int) + 1))).setCell ⟨w2.heap.size, 1, none⟩ (.int .u64 ((sb.tn : Int) + 1)) := ⟨_, rfl⟩
        have HWQ := hid hwq
        have HCQ := hid (show Row wq c 105 [.pointer (some ⟨p, 0, none⟩), .pointer (some ⟨F, 0, none⟩), .map (some m), .int .u64 ((sb.tn : Int) + 1)] by rw [hwq]; exact (HC5.out.cache.set 3 _).other nCK _)
        have HPQ := hid (show Row wq w1.heap.size 107 [.int .i64 i, .int .i64 pg] by rw [hwq]; exact (HP5.out.other (Ne.symm nCP) _).other (Ne.symm nKP) _)
        have HKQ := hid (show Row wq w2.heap.size 109 [.int .i64 (kk : Int), .int .u64 ((sb.tn : Int) + 1)] by rw [hwq]; exact (HK5.out.other (Ne.symm nCK) _).set 1 _)
        have HEQ := hid (show EX (cS g h c m) w wq by rw [hwq]; exact (HE5.out.set (.inl (.inl rfl)) 3 _).set (.inr HKB.out) 1 _)
        have HMQ := hid (show CM wq m sb.tn sb.sl by rw [hwq]; exact HC5.out.map.same ((heap_setCell_other _ _ m _ (Ne.symm (Ne.symm (HC5.out.map.row HK5.out)))).trans (heap_setCell_other _ _ m _ (HC5.out.map.row HC5.out.cache))))
        have HPOQ := hid (show Pl wq p g h sb.fs ws4 by
          have q1 := HC5.out.ne
          have o1 := row_tys HC5.out.pool.pool HK5.out (by decide)
          have o2 := row_tys HC5.out.pool.frames HK5.out (by decide)
          have o3 := row_tys HC5.out.pool.words HK5.out (by decide)
          rw [hwq]
          exact ⟨(HC5.out.pool.pool.other (Ne.symm q1.1) _).other o1 _, (HC5.out.pool.frames.other (Ne.symm q1.2.1) _).other o2 _, (HC5.out.pool.words.other (Ne.symm q1.2.2.1) _).other o3 _, HC5.out.pool.ok, HC5.out.pool.n1, HC5.out.pool.n2, HC5.out.pool.wl, HC5.out.pool.wb, HC5.out.pool.c0⟩)
        clear hwq ht1
        go_wp2_with fail
        rw [← HW5.out]
        rw [← HWQ.out]
        clear hkf0 hkl0 c0 c1 c2 c3 hlc hcf hkf p0 p1 k0 k1 hew ePL eKL nKP nCK nCP
        obtain ⟨wz, hrun, hcm, hgz, hzz⟩ := (show CM wq.drew m sb.tn sb.sl from HMQ.out.same rfl).put (f := (kk : Int)) (t := (sb.tn : Int) + 1) (by have := HC5.out.few; unfold maxLen; omega) HIP.out.1 HIP.out.2
        unfold plK keV at hrun
        have HCM := hid hcm
        have HGZ := hid hgz
        obtain ⟨c0, c1, c2, c3⟩ := HCQ.out.four
        have hlc := HCQ.out.lt
        obtain ⟨p0, p1⟩ := HPQ.out.two
        have hpl := HPQ.out.lt
        obtain ⟨k0, k1⟩ := HKQ.out.two
        have hkl := HKQ.out.lt
        clear hcm hgz
        go_wp2_with fail
        go_region
        clear c0 c1 c2 c3 hlc p0 p1 hpl k0 k1 hkl hrun hzz
        have kz := (HKQ.out.drew.grown HGZ.out (by simpa using fun e => (HMQ.out.row HKQ.out) e.symm)).two
        obtain ⟨k0, k1⟩ := kz
        have hkl := (HKQ.out.drew.grown HGZ.out (by simpa using fun e => (HMQ.out.row HKQ.out) e.symm)).lt
        go_wp2_with fail
        go_ret2
        rw [HT.out, HFE.out]
        have n1 := fun {gg : Nat} {T : TypeId} {cs : List Value} (hr : Row wq gg T cs) => hr.drew.grown HGZ.out (by simpa using fun e => (HMQ.out.row hr) e.symm)
        have hez : EX (cS g h c m) w wz := (HEQ.out.drew).trans (EX.of_grown HGZ.out (fun k e _ => by cases e; exact .inr (.inl rfl)))
        refine ⟨rfl, ⟨ws4, n1 HCQ.out, ⟨n1 HPOQ.out.pool, n1 HPOQ.out.frames, n1 HPOQ.out.words, HPOQ.out.ok, HPOQ.out.n1, HPOQ.out.n2, HPOQ.out.wl, HPOQ.out.wb, HPOQ.out.c0⟩, HCM.out, HH.out.files, hez.below HH.out.low (fun k hk => by
          have h1 := HH.out.lg; have h2 := HH.out.lh; have h3 := HH.out.lc; have h4 := HH.out.lm
          rcases hk with rfl | rfl | rfl | rfl <;> assumption) HH.out.low.size, HH.out.lg, HH.out.lh, HH.out.lc, HH.out.lm, HTN.out, HH.out.tb⟩, hez⟩
      · have hfc : filC s bb = (0, 4, s) := by
          unfold filC
          rw [hta]
          rfl
        rw [hfc] at HC4 HFE
        rw [hfc]
        simp only [show ¬ ((4 : Int) = 0) by decide, if_false] at HFE
        clear hfc hta h0
        go_wp2_with fail
        go_ret2
        rw [HT.out, HFE.out]
        exact ⟨rfl, ⟨ws4, HC4.out.setK HK4.out (Nat.le_trans HH.out.low.size HKB.out) _ _⟩, (HE3.out.trans HE4.out).set (.inr HKB.out) _ _⟩
    · clear c0 c1 c2 c3 hlc p0 p1 hpl hl0 hl1
      obtain ⟨w3, hw3⟩ : ∃ w3, w3 = (w2.alloc (.cells #[.int .i64 0, .int .u64 0] 109)).drew := ⟨_, rfl⟩
      have HB3 := hid (show Below w2.heap.size w2 w3 by rw [hw3]; exact bdN (bal _) 1)
      have HC3 := hid (HC2.out.below HB3.out)
      have HK3 := hid (show Row w3 w2.heap.size 109 [.int .i64 0, .int .u64 0] by rw [hw3]; exact (Row.new w2 _ _).drew)
      have HP3 := hid (HP2.out.below HB3.out HP2.out.lt)
      have HE3 := hid (show EX (cS g h c m) w w3 from (EX.of_below HB1.out).trans ((EX.of_below HB2.out).trans (EX.of_below HB3.out)))
      have HKB := hid (show w.heap.size ≤ w2.heap.size from Nat.le_trans HB1.out.size HB2.out.size)
      rw [← hw3]
      have HW3 := hid hw3
      clear hw3
      have HFI := hid (fill_any w0 F t p g h c m s ws (rdP16 t.L) hx w3 HC3.out HG.out HS.out bb va vc ⟨HBB2.out.hlen, fun i hi => by
        obtain ⟨g, off, e, hc⟩ := HBB2.out.cell i hi
        exact ⟨g, off, e, St.cell hc HB3.out⟩⟩ HVA.out (by rw [← HRB.out]; exact rdP16_len _ _ _))
      have hcc := HC3.out.cache.lt
      go_wp2_with fail
      refine (HFI.out).mono ?_
      rintro e w4 ⟨rfl, ⟨ws4, hc4⟩, he4⟩
      have HC4 := hid hc4
      have HE4 := hid he4
      have nS : ∀ {gg : Nat} {T : TypeId} {cs : List Value}, Row w3 gg T cs → T ≠ 105 → T ≠ 116 → T ≠ 23 → ¬ cS g h c m gg := fun hr h1 h2 h3 hk => by
        rcases hk with rfl | rfl | rfl | rfl
        · exact row_tys hr HC3.out.cache h1 rfl
        · exact HC3.out.map.row hr rfl
        · exact row_tys hr HC3.out.pool.frames h2 rfl
        · exact row_tys hr HC3.out.pool.words h3 rfl
      have HK4 := hid (he4.row HK3.out (nS HK3.out (by decide) (by decide) (by decide)))
      have HP4 := hid (he4.row HP3.out (nS HP3.out (by decide) (by decide) (by decide)))
      have hkf := HK4.out.frozen 0
      obtain ⟨k0, k1⟩ := HK4.out.two
      have hkl := HK4.out.lt
      clear hc4 he4 nS hcc
      rcases takC_case HG.out with ⟨kk, sa, hta, TT⟩ | ⟨hta, h0⟩
      · have hfc := filC_ok hta TT bb (by rw [← HRB.out]; exact rdP16_len _ _ _)
        obtain ⟨sb, hsb⟩ : ∃ sb : CC, sb = { sa with fs := sa.fs.set kk ⟨b2i bb ++ List.replicate (4096 - bb.length) 0, 1⟩ } := ⟨_, rfl⟩
        rw [← hsb] at hfc
        have HTN := hid (show sb.tn + 1 < 1000000000 by rw [hsb]; simp only [TT.tn]; exact HFEW.out)
        rw [hfc] at HC4 HFE
        rw [hfc]
        simp only [if_pos] at HFE
        have HFC := hid hfc
        clear hfc hta TT hsb
        obtain ⟨w5, hw5⟩ : ∃ w5, w5 = w4.setCell ⟨w2.heap.size, 0, none⟩ (.int .i64 (kk : Int)) := ⟨_, rfl⟩
        have HW5 := hid hw5
        have HC5 := hid (show CW w0 F t p g h c m sb ws4 w5 by rw [hw5]; exact HC4.out.setK HK4.out (Nat.le_trans HH.out.low.size HKB.out) _ _)
        have HK5 := hid (show Row w5 w2.heap.size 109 [.int .i64 (kk : Int), .int .u64 0] by rw [hw5]; exact HK4.out.set 0 _)
        have HP5 := hid (show Row w5 w1.heap.size 107 [.int .i64 i, .int .i64 pg] by rw [hw5]; exact HP4.out.other (row_tys HP4.out HK4.out (by decide)) _)
        have HE5 := hid (show EX (cS g h c m) w w5 by rw [hw5]; exact (HE3.out.trans HE4.out).set (.inr HKB.out) _ _)
        clear hw5 k0 k1 hkl hkf
        have ePL := HP5.out.lt
        have eKL := HK5.out.lt
        have nKP := row_tys HK5.out HP5.out (by decide)
        have nCK := row_tys HC5.out.cache HK5.out (by decide)
        have nCP := row_tys HC5.out.cache HP5.out (by decide)
        obtain ⟨c0, c1, c2, c3⟩ := HC4.out.cells
        have hlc := HC4.out.cache.lt
        have hcf := HC4.out.cache.frozen 3
        have hkf := HK4.out.frozen 1
        have hkf0 := HK4.out.frozen 0
        obtain ⟨p0, p1⟩ := HP4.out.two
        obtain ⟨k0, k1⟩ := HK4.out.two
        have hkl0 := HK4.out.lt
        have hew : IntKind.u64.wrap ((sb.tn : Int) + 1) = (sb.tn : Int) + 1 := IntWalk.u64_in _ ⟨by omega, by have := HC5.out.few; omega⟩
        obtain ⟨t1, ht1⟩ : ∃ t1 : Int, t1 = (sb.tn : Int) + 1 := ⟨_, rfl⟩
        have HT1 := hid ht1
        obtain ⟨wq, hwq⟩ : ∃ wq, wq = (w5.setCell ⟨c, 3, none⟩ (.int .u64 ((sb.tn : Int) + 1))).setCell ⟨w2.heap.size, 1, none⟩ (.int .u64 ((sb.tn : Int) + 1)) := ⟨_, rfl⟩
        have HWQ := hid hwq
        have HCQ := hid (show Row wq c 105 [.pointer (some ⟨p, 0, none⟩), .pointer (some ⟨F, 0, none⟩), .map (some m), .int .u64 ((sb.tn : Int) + 1)] by rw [hwq]; exact (HC5.out.cache.set 3 _).other nCK _)
        have HPQ := hid (show Row wq w1.heap.size 107 [.int .i64 i, .int .i64 pg] by rw [hwq]; exact (HP5.out.other (Ne.symm nCP) _).other (Ne.symm nKP) _)
        have HKQ := hid (show Row wq w2.heap.size 109 [.int .i64 (kk : Int), .int .u64 ((sb.tn : Int) + 1)] by rw [hwq]; exact (HK5.out.other (Ne.symm nCK) _).set 1 _)
        have HEQ := hid (show EX (cS g h c m) w wq by rw [hwq]; exact (HE5.out.set (.inl (.inl rfl)) 3 _).set (.inr HKB.out) 1 _)
        have HMQ := hid (show CM wq m sb.tn sb.sl by rw [hwq]; exact HC5.out.map.same ((heap_setCell_other _ _ m _ (Ne.symm (Ne.symm (HC5.out.map.row HK5.out)))).trans (heap_setCell_other _ _ m _ (HC5.out.map.row HC5.out.cache))))
        have HPOQ := hid (show Pl wq p g h sb.fs ws4 by
          have q1 := HC5.out.ne
          have o1 := row_tys HC5.out.pool.pool HK5.out (by decide)
          have o2 := row_tys HC5.out.pool.frames HK5.out (by decide)
          have o3 := row_tys HC5.out.pool.words HK5.out (by decide)
          rw [hwq]
          exact ⟨(HC5.out.pool.pool.other (Ne.symm q1.1) _).other o1 _, (HC5.out.pool.frames.other (Ne.symm q1.2.1) _).other o2 _, (HC5.out.pool.words.other (Ne.symm q1.2.2.1) _).other o3 _, HC5.out.pool.ok, HC5.out.pool.n1, HC5.out.pool.n2, HC5.out.pool.wl, HC5.out.pool.wb, HC5.out.pool.c0⟩)
        clear hwq ht1
        go_wp2_with fail
        rw [← HW5.out]
        rw [← HWQ.out]
        clear hkf0 hkl0 c0 c1 c2 c3 hlc hcf hkf p0 p1 k0 k1 hew ePL eKL nKP nCK nCP
        obtain ⟨wz, hrun, hcm, hgz, hzz⟩ := (show CM wq.drew m sb.tn sb.sl from HMQ.out.same rfl).put (f := (kk : Int)) (t := (sb.tn : Int) + 1) (by have := HC5.out.few; unfold maxLen; omega) HIP.out.1 HIP.out.2
        unfold plK keV at hrun
        have HCM := hid hcm
        have HGZ := hid hgz
        obtain ⟨c0, c1, c2, c3⟩ := HCQ.out.four
        have hlc := HCQ.out.lt
        obtain ⟨p0, p1⟩ := HPQ.out.two
        have hpl := HPQ.out.lt
        obtain ⟨k0, k1⟩ := HKQ.out.two
        have hkl := HKQ.out.lt
        clear hcm hgz
        go_wp2_with fail
        go_region
        clear c0 c1 c2 c3 hlc p0 p1 hpl k0 k1 hkl hrun hzz
        have kz := (HKQ.out.drew.grown HGZ.out (by simpa using fun e => (HMQ.out.row HKQ.out) e.symm)).two
        obtain ⟨k0, k1⟩ := kz
        have hkl := (HKQ.out.drew.grown HGZ.out (by simpa using fun e => (HMQ.out.row HKQ.out) e.symm)).lt
        go_wp2_with fail
        go_ret2
        rw [HT.out, HFE.out]
        have n1 := fun {gg : Nat} {T : TypeId} {cs : List Value} (hr : Row wq gg T cs) => hr.drew.grown HGZ.out (by simpa using fun e => (HMQ.out.row hr) e.symm)
        have hez : EX (cS g h c m) w wz := (HEQ.out.drew).trans (EX.of_grown HGZ.out (fun k e _ => by cases e; exact .inr (.inl rfl)))
        refine ⟨rfl, ⟨ws4, n1 HCQ.out, ⟨n1 HPOQ.out.pool, n1 HPOQ.out.frames, n1 HPOQ.out.words, HPOQ.out.ok, HPOQ.out.n1, HPOQ.out.n2, HPOQ.out.wl, HPOQ.out.wb, HPOQ.out.c0⟩, HCM.out, HH.out.files, hez.below HH.out.low (fun k hk => by
          have h1 := HH.out.lg; have h2 := HH.out.lh; have h3 := HH.out.lc; have h4 := HH.out.lm
          rcases hk with rfl | rfl | rfl | rfl <;> assumption) HH.out.low.size, HH.out.lg, HH.out.lh, HH.out.lc, HH.out.lm, HTN.out, HH.out.tb⟩, hez⟩
      · have hfc : filC s bb = (0, 4, s) := by
          unfold filC
          rw [hta]
          rfl
        rw [hfc] at HC4 HFE
        rw [hfc]
        simp only [show ¬ ((4 : Int) = 0) by decide, if_false] at HFE
        clear hfc hta h0
        go_wp2_with fail
        go_ret2
        rw [HT.out, HFE.out]
        exact ⟨rfl, ⟨ws4, HC4.out.setK HK4.out (Nat.le_trans HH.out.low.size HKB.out) _ _⟩, (HE3.out.trans HE4.out).set (.inr HKB.out) _ _⟩
end Go.Proofs.YtncikcllhjhjmaaGreatDoor
