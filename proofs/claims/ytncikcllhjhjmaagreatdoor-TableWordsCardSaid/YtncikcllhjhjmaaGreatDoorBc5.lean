
/- cache.New, Pool, Files, oldest. -/
import Derived.Test.YtncikcllhjhjmaaGreatDoorBc4
namespace Go.Proofs.YtncikcllhjhjmaaGreatDoor
open Go.RowKit Go.Sort Go.WideMaps Go.Maps Go.WideShapes Go.WideElems Go.MapKept Go.ChangeMaps
attribute [local go_sem] Oper.semAt_some

/-- What oldest keeps. -/
structure OI (w : World) (rb ab m rI N : Nat) (D : DataW Unit) (b : Option SLO) (left : Lit → Bool) (cnt : Nat) (W : World) : Prop where
  rg : W.ranges Tryz.prog 107 rdK m rI N D left cnt
  res : Row W rb 107 [.int .i64 0, .int .i64 0]
  at_ : Row W ab 107 [.int .i64 (oI b), .int .i64 (oP b)]
  low : Below w.heap.size w W
  ne : rb ≠ ab
  hr : w.heap.size ≤ rb
  ha : w.heap.size ≤ ab
  hI : w.heap.size ≤ rI
section
variable {w W W' : World} {rb ab m rI N : Nat} {D : DataW Unit} {b : Option SLO} {left left' : Lit → Bool} {cnt cnt' : Nat}
theorem OI.below (h : OI w rb ab m rI N D b left cnt W) (hb : Below W.heap.size W W') : OI w rb ab m rI N D b left cnt W' :=
  ⟨cmr_below h.rg hb, h.res.below hb h.res.lt, h.at_.below hb h.at_.lt, h.low.trans (hb.mono h.low.size), h.ne, h.hr, h.ha, h.hI⟩
theorem OI.next (h : OI w rb ab m rI N D b left cnt W) (hr : W'.ranges Tryz.prog 107 rdK m rI N D left' cnt') (hg : W.grownBy W' (some rI)) : OI w rb ab m rI N D b left' cnt' W' :=
  ⟨hr, h.res.grown hg (by simpa using rg_row h.rg h.res), h.at_.grown hg (by simpa using rg_row h.rg h.at_), low_grown h.low hg h.hI, h.ne, h.hr, h.ha, h.hI⟩
theorem rg_set {R : Value → Option (DataW Unit × List MemPlace)} (h : W.ranges Tryz.prog 107 R m rI N D left cnt) {a : Addr} (h1 : m ≠ a.block) (h2 : rI ≠ a.block) (u : Value) : (W.setCell a u).ranges Tryz.prog 107 R m rI N D left cnt := by
  obtain ⟨es, clock, since, seen, c0, hb, F, hs, hD, hr, r⟩ := h
  exact ⟨es, clock, since, seen, c0, by rw [heap_setCell_other W a m u h1]; exact hb, F, hs, hD, by rw [heap_setCell_other W a rI u h2]; exact hr, r⟩
theorem rg_map {R : Value → Option (DataW Unit × List MemPlace)} (h : W.ranges Tryz.prog 107 R m rI N D left cnt) {g : Nat} {T : TypeId} {cs : List Value} (hr : Row W g T cs) : m ≠ g := by
  rintro rfl
  obtain ⟨es, clock, since, seen, c0, hb, _⟩ := h
  have := hr.heap
  rw [hb] at this
  cases this
theorem OI.set (h : OI w rb ab m rI N D b left cnt W) (x : SLO) : OI w rb ab m rI N D (some x) left cnt ((W.setCell ⟨ab, 0, none⟩ (.int .i64 x.i)).setCell ⟨ab, 1, none⟩ (.int .i64 x.p)) := by
  have n1 := rg_map h.rg h.at_
  have n2 := Ne.symm (rg_row h.rg h.at_)
  exact ⟨rg_set (rg_set h.rg n1 n2 _) n1 n2 _, (h.res.other h.ne _).other h.ne _, (h.at_.set 0 _).set 1 _, bset (bset h.low h.ha _) h.ha _, h.ne, h.hr, h.ha, h.hI⟩
end

theorem rl_set2 {w W : World} {rb ab m rI N : Nat} {D : DataW Unit} {b : Option SLO} {left : Lit → Bool} {cnt : Nat} (h : OI w rb ab m rI N D b left cnt W) (x : SLO) :
    ((W.setCell ⟨ab, 0, none⟩ (.int .i64 x.i)).setCell ⟨ab, 1, none⟩ (.int .i64 x.p)).rangeLeft m rI = W.rangeLeft m rI := by
  rw [(h.set x).rg.left_eq, h.rg.left_eq]
theorem rangeLeft_drew (w : World) (n m r : Nat) : (w.drewN n).rangeLeft m r = w.rangeLeft m r := rfl
set_option maxRecDepth 100000 in
set_option maxHeartbeats 8000000 in
theorem oldest_any (w0 : World) (F : Nat) (t : FT) (p g h c m : Nat) (s : CC) (ws : List Nat) (rd : Int → Int → List UInt8 × Int) (hx : List Nat) (w : World) (H : CW w0 F t p g h c m s ws w) (G : Good rd s hx) :
    Calls Tryz.prog 79 #[.pointer (some ⟨c, 0, none⟩)] w fun e w' => e = .returned (.tuple #[oldV (s.sl.find? (loB s.fs)), .bool (s.sl.find? (loB s.fs)).isSome]) ∧ Below w.heap.size w w' := by
  obtain ⟨W, hW⟩ : ∃ W, W = (w.alloc (.cells #[.int .i64 0, .int .i64 0] 107)).alloc (.cells #[.int .i64 0, .int .i64 0] 107) := ⟨_, rfl⟩
  have HW := hid hW
  have hb0 : Below w.heap.size w W := by rw [hW]; exact bthen (bal _) (bal _)
  have HLOW := hid hb0
  have HRES := hid (show Row W w.heap.size 107 [.int .i64 0, .int .i64 0] by rw [hW]; exact (Row.new w _ _).alloc _)
  have HAT := hid (show Row W (w.heap.size + 1) 107 [.int .i64 0, .int .i64 0] by
    rw [hW]
    have := Row.new (w.alloc (.cells #[.int .i64 0, .int .i64 0] 107)) 107 [.int .i64 0, .int .i64 0]
    rw [World.size_alloc] at this
    exact this)
  obtain ⟨c0, c1, c2, c3⟩ := H.cells
  have hlc := H.cache.lt
  have HH := hid (fun (w' : World) (hb : Below w.heap.size w w') => H.below hb)
  have HCO := hid (fun (w' : World) (hb : Below w.heap.size w w') (f : Int) => count_any p g h s.fs ws f w' (H.below hb).pool)
  obtain ⟨D, hD, hv⟩ := (H.below hb0).map
  have HV := hid hv
  have HD := hid hD
  have HG := hid G
  obtain ⟨R, hR⟩ : ∃ R, R = s.sl.find? (loB s.fs) := ⟨_, rfl⟩
  rw [← hR]
  have HR := hid hR
  obtain ⟨sn, hsn⟩ : ∃ sn, sn = s.tn := ⟨_, rfl⟩
  clear hW hb0 hD hv H G hR
  go_enter Tryz.func79, Tryz.ntmps79
  have HDX := hid (show ((w.alloc (.cells #[.int .i64 0, .int .i64 0] 107)).alloc (.cells #[.int .i64 0, .int .i64 0] 107)).ownsMap Tryz.prog 107 rdK m s.tn D by rw [← HW.out]; exact HD.out)
  go_wp2_with (at_range; refine wpList_range_own _ rfl _ 103 rfl 107 109 keyedPl Tryz.underlying103 rdK m s.tn D rfl HDX.out ?_; intro w1 hrg0 hg0 hs0)
  go_frame
  rw [← HW.out] at hrg0 hg0 hs0 ⊢
  obtain ⟨rI, hrI⟩ : ∃ rI, rI = W.heap.size := ⟨_, rfl⟩
  rw [← hrI] at hrg0 ⊢
  have HOI0 := hid (show OI w w.heap.size (w.heap.size + 1) m rI s.tn D none (Maps.has D) (Maps.size D) w1 from
    ⟨hrg0, HRES.out.grown hg0 (by simp), HAT.out.grown hg0 (by simp), HLOW.out.trans ⟨hg0.os, hg0.tape, hg0.output, hg0.size, fun k hk => hg0.block k (Nat.lt_of_lt_of_le hk HLOW.out.size) (by simp)⟩, by omega, Nat.le_refl _, by omega, by rw [hrI]; exact HLOW.out.size⟩)
  have HB0 := hid (show Best s.fs s.sl (Maps.has D) none from ⟨fun x h => (by cases h), fun y hy hl hlo => by
    have h1 := HV.out.has (HV.out.ok y hy).1 (HV.out.ok y hy).2
    rw [look_of HG.out hy] at h1
    rw [h1] at hl
    cases hl⟩)
  clear hrg0 hg0 hs0 hrI c0 c1 c2 c3 hlc
  go_loopw [5, 6] (fun v5 v6 wz => ∃ (b : Option SLO) (left : Lit → Bool) (cnt : Nat), OI w w.heap.size (w.heap.size + 1) m rI s.tn D b left cnt wz ∧ Best s.fs s.sl left b ∧ v5 = .int .u64 (oT b) ∧ v6 = .bool b.isSome) (fun _ _ wz => wz.rangeLeft m rI)
  case atStart => exact ⟨none, _, _, HOI0.out, HB0.out, rfl, rfl⟩
  case round =>
    obtain ⟨b, left, cnt, hoi, hbe, rfl, rfl⟩ := hrel
    rename World => wz
    have HOI := hid hoi
    have HBE := hid hbe
    clear hoi hbe
    go_wp2_with (at_next; refine wpList_next_cm rfl _ rfl m rI s.tn D s.sl HV.out left cnt rfl HOI.out.rg ?_ ?_)
    · intro hl0
      have HF := hid (show R = b by rw [HR.out]; exact HBE.out.done hl0 HG.out.asked)
      have a0 := HOI.out.at_.two
      have r0 := HOI.out.res.two
      obtain ⟨a0, a1⟩ := a0
      obtain ⟨r0, r1⟩ := r0
      have hal := HOI.out.at_.lt
      have hrl := HOI.out.res.lt
      have hrf := HOI.out.res.frozen
      have hrf0 := hrf 0
      have hrf1 := hrf 1
      have hne := HOI.out.ne
      clear hl0 hrf
      go_wp2_with fail
      refine bodyPost_ret (v := .tuple #[.agg #[.int .i64 (oI b), .int .i64 (oP b)], .bool b.isSome]) (by simp [results, Tryz.results79, Tryz.f79, go_sem, r0, r1, hrl]) rfl ⟨by rw [HF.out, oldV_is]; rfl, ?_⟩
      exact bset (bset HOI.out.low (Nat.le_refl _) _) (Nat.le_refl _) _
    · intro x w8 cnt8 hxm hxl hlk hrg8 hlt8 hg8 hs8 hen
      have HOI8 := hid (HOI.out.next hrg8 hg8)
      have HXM := hid hxm
      have HXL := hid hxl
      have HLT8 := hid hlt8
      clear hxm hxl hlk hrg8 hlt8 hg8 hs8
      unfold plK keV at hen ⊢
      obtain ⟨w9, hw9⟩ : ∃ w9, w9 = (w8.alloc (.cells #[.int .i64 x.i, .int .i64 x.p] 107)).alloc (.cells #[.int .i64 x.f, .int .u64 x.t] 109) := ⟨_, rfl⟩
      have hb9 : Below w8.heap.size w8 w9 := by rw [hw9]; exact bthen (bal _) (bal _)
      have HOI9 := hid (HOI8.out.below hb9)
      have HP9 := hid (show Row w9 w8.heap.size 107 [.int .i64 x.i, .int .i64 x.p] by rw [hw9]; exact (Row.new w8 _ _).alloc _)
      have HK9 := hid (show Row w9 (w8.heap.size + 1) 109 [.int .i64 x.f, .int .u64 x.t] by rw [hw9]; exact Row.new1 w8 _ _ _)
      have HC9 := hid (HH.out w9 HOI9.out.low)
      have HUN := hid (show ∀ y ∈ s.sl, y.i = x.i → y.p = x.p → y = x from fun y hy e1 e2 => by
        have h1 := look_of HG.out hy
        rw [e1, e2, HXL.out] at h1
        exact (Option.some.inj h1).symm)
      have HOK := hid (HV.out.ok)
      obtain ⟨c0, c1, c2, c3⟩ := HC9.out.cells
      have hlc := HC9.out.cache.lt
      obtain ⟨p0, p1⟩ := HP9.out.two
      obtain ⟨k0, k1⟩ := HK9.out.two
      have hpl := HP9.out.lt
      have hkl := HK9.out.lt
      have HCN := hid (fun n => HCO.out (w9.drewN n) (bdN HOI9.out.low n) x.f)
      obtain ⟨q, hq⟩ : ∃ q, q = cntF s.fs x.f := ⟨_, rfl⟩
      rw [← hq] at HCN
      have HQ := hid hq
      go_wp2_with fail
      rw [← hw9]
      clear hw9 hb9 hen hq hsn
      by_cases h1 : q = 1
      · have e1 : decide (q = 1) = true := decide_eq_true h1
        have e1b : (q == 1) = true := by simp [h1]
        have HLO := hid (show loB s.fs x = true by unfold loB; rw [← HQ.out]; exact e1)
        clear h1
        cases b with
        | none =>
          simp only [oT, Option.isSome_none]
          go_wp2_with fail
          go_quiet ((go_at_call 22; exact Calls.quiet_of_same ((HCN.out _).mono (fun _ _ h => ⟨h.1, h.2.symm⟩))))
          have a0 := HOI9.out.at_.two
          obtain ⟨a0, a1⟩ := a0
          have hal := HOI9.out.at_.lt
          have hfa0 := HOI9.out.at_.frozen 0
          have hfa1 := HOI9.out.at_.frozen 1
          have hq8 := HOI8.out.at_.lt
          have hne0 : ¬ w8.heap.size = w.heap.size + 1 := by omega
          have hne1 : ¬ w8.heap.size + 1 = w.heap.size + 1 := by omega
          go_wp2_with fail
          go_region
          go_wp2_with fail
          go_roundw
          case rel => exact ⟨some x, _, _, (HOI9.out.below (bdN (Below.refl _ _) _)).set x, HBE.out.next HXM.out HUN.out HOK.out (fun z e => .inr ⟨(Option.some.inj e).symm, HLO.out⟩) (fun z e => (by cases e)) (fun _ => ⟨x, rfl, Int.le_refl _⟩), rfl, rfl⟩
          case measure => rw [rl_set2 (HOI9.out.below (bdN (Below.refl _ _) _)) x, (HOI9.out.below (bdN (Below.refl _ _) _)).rg.left_eq, HOI.out.rg.left_eq]; exact HLT8.out
        | some y =>
          simp only [oT, Option.isSome_some]
          by_cases h2 : x.t < y.t
          · have e2 : decide (x.t < y.t) = true := decide_eq_true h2
            have HT := hid h2
            clear h2
            go_wp2_with fail
            go_quiet ((go_at_call 22; exact Calls.quiet_of_same ((HCN.out _).mono (fun _ _ h => ⟨h.1, h.2.symm⟩))))
            have a0 := HOI9.out.at_.two
            obtain ⟨a0, a1⟩ := a0
            have hal := HOI9.out.at_.lt
            have hfa0 := HOI9.out.at_.frozen 0
            have hfa1 := HOI9.out.at_.frozen 1
            have hq8 := HOI8.out.at_.lt
            have hne0 : ¬ w8.heap.size = w.heap.size + 1 := by omega
            have hne1 : ¬ w8.heap.size + 1 = w.heap.size + 1 := by omega
            go_wp2_with fail
            go_region
            go_wp2_with fail
            go_roundw
            case rel => exact ⟨some x, _, _, (HOI9.out.below (bdN (Below.refl _ _) _)).set x, HBE.out.next HXM.out HUN.out HOK.out (fun z e => .inr ⟨(Option.some.inj e).symm, HLO.out⟩) (fun z e => ⟨x, rfl, by cases e; have := HT.out; omega⟩) (fun _ => ⟨x, rfl, Int.le_refl _⟩), rfl, rfl⟩
            case measure => rw [rl_set2 (HOI9.out.below (bdN (Below.refl _ _) _)) x, (HOI9.out.below (bdN (Below.refl _ _) _)).rg.left_eq, HOI.out.rg.left_eq]; exact HLT8.out
          · have e2 : decide (x.t < y.t) = false := decide_eq_false h2
            have HT := hid h2
            clear h2
            go_wp2_with fail
            go_quiet ((go_at_call 22; exact Calls.quiet_of_same ((HCN.out _).mono (fun _ _ h => ⟨h.1, h.2.symm⟩))))
            go_wp2_with fail
            go_roundw
            case rel => exact ⟨some y, _, _, HOI9.out.below (bdN (Below.refl _ _) _), HBE.out.next HXM.out HUN.out HOK.out (fun z e => .inl e) (fun z e => ⟨z, e, Int.le_refl _⟩) (fun _ => ⟨y, rfl, by have := HT.out; omega⟩), rfl, rfl⟩
            case measure => rw [(rangeLeft_drew w9 nq m rI), HOI9.out.rg.left_eq, HOI.out.rg.left_eq]; exact HLT8.out
      · have e1 : decide (q = 1) = false := decide_eq_false h1
        have e1b : (q == 1) = false := by simp [h1]
        have HLO := hid (show loB s.fs x = false by unfold loB; rw [← HQ.out]; exact e1)
        clear h1
        go_wp2_with fail
        go_quiet ((go_at_call 22; exact Calls.quiet_of_same ((HCN.out _).mono (fun _ _ h => ⟨h.1, h.2.symm⟩))))
        go_wp2_with fail
        go_roundw
        case rel => exact ⟨b, _, _, HOI9.out.below (bdN (Below.refl _ _) _), HBE.out.next HXM.out HUN.out HOK.out (fun z e => .inl e) (fun z e => ⟨z, e, Int.le_refl _⟩) (fun e => by rw [HLO.out] at e; cases e), rfl, rfl⟩
        case measure => rw [(rangeLeft_drew w9 nq m rI), HOI9.out.rg.left_eq, HOI.out.rg.left_eq]; exact HLT8.out
end Go.Proofs.YtncikcllhjhjmaaGreatDoor
