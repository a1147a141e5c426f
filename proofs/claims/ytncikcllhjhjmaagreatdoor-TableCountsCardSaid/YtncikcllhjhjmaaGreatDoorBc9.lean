
/- cache.Drop. -/
import Derived.Test.YtncikcllhjhjmaaGreatDoorBc8
namespace Go.Proofs.YtncikcllhjhjmaaGreatDoor
open Go.RowKit Go.Sort Go.WideMaps Go.Maps Go.WideShapes Go.WideElems Go.MapKept Go.ChangeMaps
attribute [local go_sem] Oper.semAt_some

def isF (sl : List SLO) (f : Nat) : Bool := sl.any fun x => decide (x.f = (f : Int))
def seenF (sl : List SLO) (left : Lit → Bool) (f : Nat) : Bool := sl.any fun x => !left (plL x.i x.p) && decide (x.f = (f : Int))
def drpF (fs : List FR) (q : Nat → Bool) : List FR := fs.mapIdx fun f y => if q f = true then ⟨y.bs, y.cnt - 1⟩ else y
def drpC (s : CC) : CC := { s with fs := drpF s.fs (isF s.sl), sl := [] }
theorem drpF_len (fs : List FR) (q : Nat → Bool) : (drpF fs q).length = fs.length := by unfold drpF; simp
theorem drpF_at (fs : List FR) (q : Nat → Bool) (f : Nat) (hf : f < fs.length) : (drpF fs q)[f]'(by rw [drpF_len]; exact hf) = if q f = true then ⟨fs[f].bs, fs[f].cnt - 1⟩ else fs[f] := by unfold drpF; simp
theorem drpF_same {fs : List FR} {q r : Nat → Bool} (h : ∀ f, f < fs.length → q f = r f) : drpF fs q = drpF fs r := by
  refine List.ext_getElem (by rw [drpF_len, drpF_len]) fun f h1 h2 => ?_
  rw [drpF_len] at h1
  rw [drpF_at _ _ _ h1, drpF_at _ _ _ h1, h f h1]
theorem drpF_none {fs : List FR} {q : Nat → Bool} (h : ∀ f, f < fs.length → q f = false) : drpF fs q = fs := by
  refine List.ext_getElem (by rw [drpF_len]) fun f h1 h2 => ?_
  rw [drpF_len] at h1
  rw [drpF_at _ _ _ h1, h f h1]
  simp
section
variable {rd : Int → Int → List UInt8 × Int} {s : CC} {hx : List Nat}
theorem seen_next {left : Lit → Bool} {x : SLO} (G : Good rd s hx) (ho : ∀ y ∈ s.sl, I64 y.i ∧ I64 y.p) (h : x ∈ s.sl) {k : Nat} (ek : x.f = (k : Int)) (f : Nat) :
    seenF s.sl (fun z => left z && !z.sameKey (plL x.i x.p)) f = (seenF s.sl left f || decide (f = k)) := by
  rw [Bool.eq_iff_iff]
  unfold seenF
  rw [Bool.or_eq_true, List.any_eq_true, List.any_eq_true]
  constructor
  · rintro ⟨y, hy, e⟩
    rw [Bool.and_eq_true, Bool.not_eq_true', Bool.and_eq_false_iff] at e
    rcases e.1 with e1 | e1
    · exact .inl ⟨y, hy, by rw [e1, e.2]; rfl⟩
    · refine .inr ?_
      rw [Bool.not_eq_false'] at e1
      obtain ⟨e2, e3⟩ := plL_inj (ho y hy).1 (ho y hy).2 (ho x h).1 (ho x h).2 (WideAt.sameKey_eq e1)
      have h1 := look_of G hy
      rw [e2, e3, look_of G h] at h1
      have e4 := Option.some.inj h1
      rw [← e4, ek] at e
      have e5 := of_decide_eq_true e.2
      simp
      omega
  · rintro (⟨y, hy, e⟩ | e)
    · rw [Bool.and_eq_true, Bool.not_eq_true'] at e
      exact ⟨y, hy, by
        show (!(left (plL y.i y.p) && !(plL y.i y.p).sameKey (plL x.i x.p)) && decide (y.f = (f : Int))) = true
        rw [e.1, e.2]
        rfl⟩
    · refine ⟨x, h, ?_⟩
      have e1 := of_decide_eq_true e
      subst e1
      show (!(left (plL x.i x.p) && !(plL x.i x.p).sameKey (plL x.i x.p)) && decide (x.f = (f : Int))) = true
      rw [WideAt.sameKey_self (show WideAt.IsKeyLit (plL x.i x.p) by trivial), ek]
      simp
theorem drop_next {left : Lit → Bool} {x : SLO} (G : Good rd s hx) (ho : ∀ y ∈ s.sl, I64 y.i ∧ I64 y.p) (h : x ∈ s.sl) (hl : left (plL x.i x.p) = true) :
    downS (drpF s.fs (seenF s.sl left)) x.f = drpF s.fs (seenF s.sl fun z => left z && !z.sameKey (plL x.i x.p)) := by
  obtain ⟨k, ek, hk, hc⟩ := G.cntF h
  have hs : seenF s.sl left k = false := by
    unfold seenF
    rw [List.any_eq_false]
    intro y hy e
    rw [Bool.and_eq_true, Bool.not_eq_true'] at e
    have e1 := of_decide_eq_true e.2
    by_cases c : y = x
    · subst c
      rw [hl] at e
      cases e.1
    · have h2 := apart_count G.apart (k : Int)
      have h3 : 2 ≤ s.sl.countP (fun z => decide (z.f = (k : Int))) := by
        have hfx : x ∈ s.sl.filter (fun z => decide (z.f = (k : Int))) := List.mem_filter.2 ⟨h, by simpa using ek⟩
        have hfy : y ∈ s.sl.filter (fun z => decide (z.f = (k : Int))) := List.mem_filter.2 ⟨hy, by simpa using e1⟩
        rw [List.countP_eq_length_filter]
        generalize s.sl.filter (fun z => decide (z.f = (k : Int))) = l at *
        match l, hfx, hfy with
        | [], h, _ => cases h
        | [a], h, h' =>
          rw [List.mem_singleton] at h h'
          exact absurd (h'.trans h.symm) c
        | a :: b :: l, _, _ => simp
      omega
  have hk' : k < (drpF s.fs (seenF s.sl left)).length := by rw [drpF_len]; exact hk
  have ea := drpF_at s.fs (seenF s.sl left) k hk
  rw [hs] at ea
  simp only [Bool.false_eq_true, if_false] at ea
  rw [ek, downS_at hk' (by rw [ea, hc]; omega)]
  refine List.ext_getElem (by rw [List.length_set, drpF_len, drpF_len]) fun f h1 h2 => ?_
  rw [List.length_set, drpF_len] at h1
  rw [drpF_at _ _ _ h1, seen_next G ho h ek f]
  by_cases c : k = f
  · subst c
    rw [List.getElem_set_self, ea]
    simp
  · rw [List.getElem_set_ne c, drpF_at _ _ _ h1]
    have : decide (f = k) = false := by simp; omega
    rw [this, Bool.or_false]
theorem Good.drop (G : Good rd s hx) : Good rd (drpC s) hx := by
  refine ⟨fun f hf => ?_, List.Pairwise.nil, List.Pairwise.nil, fun x h => (by cases h), fun x h => (by cases h), List.Pairwise.nil, fun f hf => ?_, by simp [drpC], fun x hx' => ?_, fun x h => (by cases h), fun x h => (by cases h)⟩
  · unfold drpC at hf ⊢
    simp only [drpF_len] at hf
    simp only [List.countP_nil, Nat.add_zero]
    rw [drpF_at _ _ _ hf]
    have h1 := G.cnt f hf
    have h2 := apart_count G.apart (f : Int)
    have h3 : isF s.sl f = decide (0 < s.sl.countP (fun x => decide (x.f = (f : Int)))) := by
      rw [Bool.eq_iff_iff]
      unfold isF
      rw [List.any_eq_true, decide_eq_true_eq, List.countP_pos_iff]
    rw [h3]
    by_cases c : 0 < s.sl.countP (fun x => decide (x.f = (f : Int)))
    · rw [if_pos (decide_eq_true c)]
      simp only
      omega
    · rw [decide_eq_false c]
      simp only [Bool.false_eq_true, if_false]
      omega
  · have := G.hold f hf
    unfold drpC
    simp only [drpF_len]
    exact this
  · unfold drpC at hx'
    simp only at hx'
    obtain ⟨f, hf, rfl⟩ := List.mem_iff_getElem.1 hx'
    rw [drpF_len] at hf
    rw [drpF_at _ _ _ hf]
    have := G.lens _ (List.getElem_mem hf)
    split
    · exact this
    · exact this
end
theorem cmr_same {W W' : World} {R : Value → Option (DataW Unit × List MemPlace)} {m rI N : Nat} {D : DataW Unit} {left : Lit → Bool} {cnt : Nat} (h : W.ranges Tryz.prog 107 R m rI N D left cnt) (e1 : W'.heap[m]? = W.heap[m]?) (e2 : W'.heap[rI]? = W.heap[rI]?) : W'.ranges Tryz.prog 107 R m rI N D left cnt := by
  obtain ⟨es, clock, since, seen, c0, hb, F, hs, hD, hr, r⟩ := h
  exact ⟨es, clock, since, seen, c0, by rw [e1]; exact hb, F, hs, hD, by rw [e2]; exact hr, r⟩
theorem CW.iter {w0 w w' : World} {F : Nat} {t : FT} {p g h c m rI N : Nat} {s : CC} {ws : List Nat} {R : Value → Option (DataW Unit × List MemPlace)} {D : DataW Unit} {left : Lit → Bool} {cnt : Nat} (H : CW w0 F t p g h c m s ws w) (hr : w.ranges Tryz.prog 107 R m rI N D left cnt) (hg : w.grownBy w' (some rI)) (hI : w0.heap.size ≤ rI) : CW w0 F t p g h c m s ws w' :=
  have n := fun {gg : Nat} {T : TypeId} {cs : List Value} (hh : Row w gg T cs) => hh.grown hg (by simpa using rg_row hr hh)
  ⟨n H.cache, ⟨n H.pool.pool, n H.pool.frames, n H.pool.words, H.pool.ok, H.pool.n1, H.pool.n2, H.pool.wl, H.pool.wb, H.pool.c0⟩, H.map.same (hg.block m H.map.lt (by simpa using fun e => hr.ne e.symm)), H.files, low_grown H.low hg hI, H.lg, H.lh, H.lc, H.lm, H.few, H.tb⟩
theorem drpF_small {fs : List FR} {q : Nat → Bool} {K : Int} (h : ∀ x ∈ fs, x.cnt < K) : ∀ x ∈ drpF fs q, x.cnt < K := by
  intro x hx
  obtain ⟨f, hf, rfl⟩ := List.mem_iff_getElem.1 hx
  rw [drpF_len] at hf
  rw [drpF_at _ _ _ hf]
  have := h _ (List.getElem_mem hf)
  split
  · simp only; omega
  · exact this
/-- What Drop keeps. -/
structure DI (w0 : World) (F : Nat) (t : FT) (p g h c m rI : Nat) (s : CC) (D : DataW Unit) (w : World) (left : Lit → Bool) (cnt : Nat) (W : World) : Prop where
  rg : W.ranges Tryz.prog 107 rdK m rI s.tn D left cnt
  cw : ∃ ws, CW w0 F t p g h c m { s with fs := drpF s.fs (seenF s.sl left) } ws W
  ex : EX (cS g h c m) w W
  hI : w.heap.size ≤ rI
set_option maxRecDepth 100000 in
set_option maxHeartbeats 8000000 in
theorem drop_any (w0 : World) (F : Nat) (t : FT) (p g h c m : Nat) (s : CC) (ws : List Nat) (rd : Int → Int → List UInt8 × Int) (hx : List Nat) (w : World) (H : CW w0 F t p g h c m s ws w) (G : Good rd s hx) (hs : hx.length ≤ 1000000000) :
    Calls Tryz.prog 29 #[.pointer (some ⟨c, 0, none⟩)] w fun e w' => e = .returned (.tuple #[]) ∧ (∃ ws', CW w0 F t p g h c m (drpC s) ws' w') ∧ EX (cS g h c m) w w' := by
  obtain ⟨c0, c1, c2, c3⟩ := H.cells
  have hlc := H.cache.lt
  obtain ⟨D, hD, hv⟩ := H.map
  have HV := hid hv
  have HD := hid hD
  have HG := hid G
  have HH := hid H
  have HM := hid (show ∀ x ∈ s.fs, x.cnt < 9223372036854775807 from fun x hx' => by have := G.small x hx'; have := H.few; omega)
  obtain ⟨rI, hrI⟩ : ∃ rI, rI = w.heap.size := ⟨_, rfl⟩
  have HRI := hid hrI
  clear hD hv G H hs
  go_enter Tryz.func29, Tryz.ntmps29
  go_wp2_with (at_range; refine wpList_range_own _ rfl _ 103 rfl 107 109 keyedPl Tryz.underlying103 rdK m s.tn D rfl HD.out ?_; intro w1 hrg0 hg0 hs0)
  go_frame
  rw [← hrI] at hrg0 ⊢
  have HDI0 := hid (show DI w0 F t p g h c m rI s D w (Maps.has D) (Maps.size D) w1 from by
    have hb : Below w.heap.size w w1 := ⟨hg0.os, hg0.tape, hg0.output, hg0.size, fun k hk => hg0.block k hk (by simp)⟩
    refine ⟨hrg0, ⟨ws, ?_⟩, EX.of_below hb, by omega⟩
    have e : drpF s.fs (seenF s.sl (Maps.has D)) = s.fs := drpF_none fun f _ => by
      unfold seenF
      rw [List.any_eq_false]
      intro y hy e
      have h1 := HV.out.has (HV.out.ok y hy).1 (HV.out.ok y hy).2
      rw [look_of HG.out hy] at h1
      rw [h1] at e
      cases e
    rw [e]
    exact HH.out.below hb)
  clear hrg0 hg0 hs0 hrI c0 c1 c2 c3 hlc
  go_loopw [] (fun wz => ∃ (left : Lit → Bool) (cnt : Nat), DI w0 F t p g h c m rI s D w left cnt wz) (fun wz => wz.rangeLeft m rI)
  case atStart => exact ⟨_, _, HDI0.out⟩
  case round =>
    obtain ⟨left, cnt, hdi⟩ := hrel
    rename World => wz
    have HDI := hid hdi
    obtain ⟨wsz, hcz⟩ := hdi.cw
    have HCZ := hid hcz
    clear hdi hcz
    go_wp2_with (at_next; refine wpList_next_cm rfl _ rfl m rI s.tn D s.sl HV.out left cnt rfl HDI.out.rg ?_ ?_)
    · intro hl0
      have HF := hid (show drpF s.fs (seenF s.sl left) = drpF s.fs (isF s.sl) from drpF_same fun f _ => by
        unfold seenF isF
        congr 1
        funext x
        rw [hl0]
        rfl)
      obtain ⟨c0, c1, c2, c3⟩ := HCZ.out.cells
      have hlc := HCZ.out.cache.lt
      obtain ⟨wc, hrun, hcm, hgc, hzc⟩ := HCZ.out.map.clear 0
      have HCM := hid hcm
      have HGC := hid hgc
      clear hl0 hcm hgc
      go_wp2_with fail
      refine bodyPost_end (results_none rfl _ _ _) rfl ⟨rfl, ⟨wsz, ?_⟩, HDI.out.ex.trans (EX.of_grown HGC.out (fun k e _ => by cases e; exact .inr (.inl rfl)))⟩
      have n1 := fun {gg : Nat} {T : TypeId} {cs : List Value} (hr : Row wz gg T cs) => hr.grown HGC.out (by simpa using fun e => (HCZ.out.map.row hr) e.symm)
      have hp := HCZ.out.pool
      have hl := HCZ.out.low
      unfold drpC
      rw [← HF.out]
      exact ⟨n1 HCZ.out.cache, ⟨n1 hp.pool, n1 hp.frames, n1 hp.words, hp.ok, hp.n1, hp.n2, hp.wl, hp.wb, hp.c0⟩, HCM.out, HCZ.out.files, low_grown hl HGC.out HCZ.out.lm, HCZ.out.lg, HCZ.out.lh, HCZ.out.lc, HCZ.out.lm, HCZ.out.few, HCZ.out.tb⟩
    · intro x w8 cnt8 hxm hxl hlk hrg8 hlt8 hg8 hs8 hen
      have HRIZ := hid (show w0.heap.size ≤ rI from Nat.le_trans HH.out.low.size HDI.out.hI)
      have HC8 := hid (HCZ.out.iter HDI.out.rg hg8 HRIZ.out)
      have HRG8 := hid hrg8
      have HE8 := hid (show EX (cS g h c m) w w8 from
        have hd := HDI.out.ex
        ⟨hg8.os.trans hd.os, hg8.tape.trans hd.tape, hg8.output.trans hd.output, Nat.le_trans hd.size hg8.size, fun k hk hn => (hg8.block k (Nat.lt_of_lt_of_le hk hd.size) (by have := HDI.out.hI; simp; omega)).trans (hd.block k hk hn)⟩)
      have HXM := hid hxm
      have HLT8 := hid hlt8
      have HDN := hid (drop_next HG.out HV.out.ok hxm hlk)
      clear hxm hxl hlk hrg8 hlt8 hg8 hs8
      unfold plK keV at hen ⊢
      obtain ⟨w9, hw9⟩ : ∃ w9, w9 = w8.alloc (.cells #[.int .i64 x.f, .int .u64 x.t] 109) := ⟨_, rfl⟩
      have HB9 := hid (show Below w8.heap.size w8 w9 by rw [hw9]; exact bal _)
      have HC9 := hid (HC8.out.below HB9.out)
      have HK9 := hid (show Row w9 w8.heap.size 109 [.int .i64 x.f, .int .u64 x.t] by rw [hw9]; exact Row.new w8 _ _)
      have HW9 := hid hw9
      clear hw9
      go_wp2_with fail
      rw [← HW9.out]
      clear hen
      obtain ⟨c0, c1, c2, c3⟩ := HC9.out.cells
      have hlc := HC9.out.cache.lt
      obtain ⟨k0, k1⟩ := HK9.out.two
      have hkl := HK9.out.lt
      have HDW := hid (down_any p g h (drpF s.fs (seenF s.sl left)) wsz x.f w9.drew HC9.out.pool.drew (drpF_small HM.out))
      go_wp2_with fail
      go_still_tail 6, (by kernel_rfl)
      show wpList _ _ _ _ _ w9.drew
      go_wp2_with fail
      refine (HDW.out).mono ?_
      rintro e w10 ⟨rfl, ⟨ws10, hp10⟩, he10⟩
      rw [HDN.out] at hp10
      have HP10 := hid hp10
      have HE10 := hid he10
      clear hp10 he10 c0 c1 c2 c3 hlc k0 k1 hkl
      have n9 := HC9.out.ne
      have HRG10 := hid (show w10.ranges Tryz.prog 107 rdK m rI s.tn D (fun z => left z && !z.sameKey (plL x.i x.p)) cnt8 from
        cmr_same (cmr_below HRG8.out HB9.out) (HE10.out.block m HC9.out.map.lt n9.2.2.2.2.2.1 n9.2.2.2.2.2.2) (HE10.out.block rI (cmr_below HRG8.out HB9.out).lt (rg_row (cmr_below HRG8.out HB9.out) HC9.out.pool.frames).symm (rg_row (cmr_below HRG8.out HB9.out) HC9.out.pool.words).symm))
      have HC10 := hid (show CW w0 F t p g h c m { s with fs := drpF s.fs (seenF s.sl fun z => left z && !z.sameKey (plL x.i x.p)) } ws10 w10 from (HC9.out.below (bdN (Below.refl _ _) 1)).pool' HP10.out HE10.out)
      have HE11 := hid (show EX (cS g h c m) w w10 from (HE8.out.trans (EX.of_below HB9.out)).trans ((EX.drew (EX.refl _)).trans (ex_cS HE10.out)))
      clear n9
      go_wp2_with fail
      go_roundw
      case rel => exact ⟨_, _, HRG10.out, ⟨ws10, HC10.out⟩, HE11.out, HDI.out.hI⟩
      case measure => rw [HRG10.out.left_eq, HDI.out.rg.left_eq]; exact HLT8.out
end Go.Proofs.YtncikcllhjhjmaaGreatDoor
