
/- elf.Parse. -/
import Derived.Test.YtaaohcpiideaaaaDoorNa4
import Derived.Test.YtaaohcpiideaaaaDoorNa5
import Derived.StillTailTactics
namespace Go.Proofs.YtaaohcpiideaaaaDoor
open Go.RowKit Go.Sort Go.Shelf
attribute [local go_sem] Oper.semAt_some

/-- What Parse answers. -/
structure ParseP (l : List UInt8) (w : World) (e : Ending) (w' : World) : Prop where
  ex : ∃ a c, e = .returned (.tuple #[.agg #[.int .u16 (psH l).typ, .int .u64 (psH l).entry, .int .u64 (psH l).phoff, .slice a (psH l).sg.length c], .int .i64 (psE l)]) ∧ Sgs w' a (psH l).sg.length (psH l).sg
  low : Below w.heap.size w w'
theorem psH_none {l : List UInt8} (h : ps12 l = none) : psH l = noHD := by unfold psH; rw [h]; rfl
theorem parseP_no {l : List UInt8} {w w' : World} (h : ps12 l = none) (hb : Below w.heap.size w w') {er : Int} (he : er = psE l) : ParseP l w (.returned (.tuple #[.agg #[.int .u16 0, .int .u64 0, .int .u64 0, .slice none 0 0], .int .i64 er])) w' :=
  ⟨⟨none, 0, by rw [psH_none h, he]; rfl, by rw [psH_none h]; exact ⟨rfl, fun i hi => by simp [noHD] at hi⟩⟩, hb⟩

theorem parseP_yes {l : List UInt8} {w w' : World} {typ entry ph : Int} {xs : List SG} {a : Option Addr} {c : Nat} (h : ps12 l = some ⟨typ, entry, ph, xs⟩) (hh : hdB l = true) (hs : Sgs w' a xs.length xs) (hb : Below w.heap.size w w') : ParseP l w (.returned (.tuple #[.agg #[.int .u16 typ, .int .u64 entry, .int .u64 ph, .slice a xs.length c], .int .i64 0])) w' := by
  have e1 : psH l = ⟨typ, entry, ph, xs⟩ := by unfold psH; rw [h]; rfl
  have e2 : psE l = 0 := by unfold psE; rw [if_neg (by rw [hh]; decide), h]; rfl
  exact ⟨⟨a, c, by rw [e1, e2], by rw [e1]; exact hs⟩, hb⟩
/-- What the loop has made. -/
structure PR (l : List UInt8) (w : World) (typ entry ph : Int) (k : Nat) (xs : List SG) (free : Int) (sv : Value) (W : World) : Prop where
  hd : Row W w.heap.size 26 [.int .u16 typ, .int .u64 entry, .int .u64 ph, sv]
  er : Row W (w.heap.size + 1) 34 [.int .i64 0]
  own : OwnG W (w.heap.size + 2) sv xs
  run : segsL l ph (finOf typ) k = some (xs, free)
  ok : ∀ s ∈ xs, SGok s
  low : Below w.heap.size w W
  len : xs.length = k
  free0 : 0 ≤ free ∧ free ≤ 18446744073709551615
theorem PR.below {l : List UInt8} {w : World} {typ entry ph : Int} {k : Nat} {xs : List SG} {free : Int} {sv : Value} {W W' : World} (h : PR l w typ entry ph k xs free sv W) (hb : Below W.heap.size W W') : PR l w typ entry ph k xs free sv W' :=
  ⟨h.hd.below hb h.hd.lt, h.er.below hb h.er.lt, own_below h.own hb, h.run, h.ok, h.low.trans (hb.mono h.low.size), h.len, h.free0⟩
theorem segsL_none {l : List UInt8} {ph fin : Int} {k n : Nat} (h : segsL l ph fin k = none) (hkn : k ≤ n) : segsL l ph fin n = none := by
  obtain ⟨d, rfl⟩ := Nat.exists_eq_add_of_le hkn
  clear hkn
  induction d with
  | zero => exact h
  | succ d ih => rw [show k + (d + 1) = (k + d) + 1 from rfl, segsL, ih]
theorem segsL_bad {l : List UInt8} {ph fin free : Int} {k n : Nat} {xs : List SG} (h : segsL l ph fin k = some (xs, free)) (hb : okSeg l (ph + k * 56) fin free = false) (hkn : k < n) : segsL l ph fin n = none :=
  segsL_none (k := k + 1) (by rw [segsL, h]; simp only; rw [if_neg (by rw [show ph + 56 * (k : Int) = ph + k * 56 by omega, hb]; decide)]) hkn
theorem segsL_good {l : List UInt8} {ph fin free : Int} {k : Nat} {xs : List SG} (h : segsL l ph fin k = some (xs, free)) (hb : okSeg l (ph + k * 56) fin free = true) : segsL l ph fin (k + 1) = some (xs ++ [segL l (ph + k * 56)], nextF (segL l (ph + k * 56)) free) := by
  rw [segsL, h]
  simp only
  rw [if_pos (by rw [show ph + 56 * (k : Int) = ph + k * 56 by omega, hb]), show ph + 56 * (k : Int) = ph + k * 56 by omega]
theorem okSeg_no {l : List UInt8} {p fin free : Int} (h : ¬ ((segL l p).flags ≤ 7 ∧ ckS (segL l p) l.length fin = true ∧ ((segL l p).kind = 1 → ckL (segL l p) (wgetV l (p + 48) 8) free = true))) : okSeg l p fin free = false := by
  rw [← Bool.not_eq_true]
  intro e
  unfold okSeg at e
  rw [Bool.and_eq_true, Bool.and_eq_true, decide_eq_true_eq] at e
  refine h ⟨e.1.1, e.1.2, fun hk => ?_⟩
  have := e.2
  rw [decide_eq_true hk] at this
  simpa using this
theorem okSeg_yes {l : List UInt8} {p fin free : Int} (h1 : (segL l p).flags ≤ 7) (h2 : ckS (segL l p) l.length fin = true) (h3 : (segL l p).kind = 1 → ckL (segL l p) (wgetV l (p + 48) 8) free = true) : okSeg l p fin free = true := by
  unfold okSeg
  rw [decide_eq_true h1, h2]
  by_cases hk : (segL l p).kind = 1
  · rw [h3 hk]; simp
  · rw [decide_eq_false hk]; rfl

set_option maxRecDepth 100000 in
set_option maxHeartbeats 16000000 in
theorem parse12_any (a : Option Addr) (cap : Nat) (l : List UInt8) (w : World) (hs : Sizes w) (hB : Byt w a l.length l) (hl : l.length ≤ 1000000) (hlc : l.length ≤ cap) :
    Calls Tryd.prog 21 #[.slice a l.length cap] w (ParseP l w) := by
  have hmf : ∀ (fn : Fn) (first cp : Array Value) (w : World), (Instr.makeFunc fn first cp).run Tryd.prog w = .ok (.func fn first cp) w := fun _ _ _ _ => rfl
  obtain ⟨W, hW⟩ : ∃ W, W = (w.alloc (.cells #[.int .u16 0, .int .u64 0, .int .u64 0, .slice none 0 0] 26)).alloc (.cells #[.int .i64 0] 34) := ⟨_, rfl⟩
  have HW := hid hW
  have HLOW := hid (show Below w.heap.size w W by rw [hW]; exact (bal _).alloc (bal (w := w) _).size _)
  have HS := hid (fun (W' : World) (hb : Below w.heap.size w W') => hs.below hb)
  have HB := hid (fun (W' : World) (hb : Below w.heap.size w W') => hB.below' hb)
  have HH := hid (show Row W w.heap.size 26 [.int .u16 0, .int .u64 0, .int .u64 0, .slice none 0 0] by rw [hW]; exact (Row.new w 26 [.int .u16 0, .int .u64 0, .int .u64 0, .slice none 0 0]).alloc _)
  have HE := hid (show Row W (w.heap.size + 1) 34 [.int .i64 0] by
    rw [hW]
    have := Row.new (w.alloc (.cells #[.int .u16 0, .int .u64 0, .int .u64 0, .slice none 0 0] 26)) 34 [.int .i64 0]
    rw [World.size_alloc] at this
    exact this)
  have HWZ := hid (show W.heap.size = w.heap.size + 2 by rw [hW, World.size_alloc, World.size_alloc])
  have HHD := hid (header_any a cap l W (HS.out W HLOW.out) (HB.out W HLOW.out) hl hlc)
  have HLC := hid hlc
  clear hs hB hW hlc
  by_cases hh : hdB l = true
  rotate_left
  · have HPN := hid (show ps12 l = none by unfold ps12; rw [if_neg (fun h => hh h.1)])
    have HPE := hid (show 13 = psE l by unfold psE; rw [if_pos (by simpa using hh)])
    have HNO := hid hh
    clear hh
    go_enter_defers Tryd.func21, Tryd.ntmps21
    go_wp2_with fail
    rw [← HW.out]
    refine HHD.out.mono ?_
    rintro e w2 ⟨h, hb⟩
    rw [if_neg HNO.out] at h
    subst h
    have HB2 := hid (HLOW.out.trans (hb.mono HLOW.out.size))
    have HH2 := hid (HH.out.below hb (by rw [HWZ.out]; omega))
    have HE2 := hid (HE.out.below hb (by rw [HWZ.out]; omega))
    clear hb
    go_wp2_with fail
    refine leaves_cons (f := 37) (args := #[.pointer (some ⟨w.heap.size, 0, none⟩), .pointer (some ⟨w.heap.size + 1, 0, none⟩)]) (by simp) (by simp [go_sem]) ?_
    refine (catch_refused _ _ 13 _ _ _ _ _ [] _ HH2.out HE2.out (by omega)).mono ?_
    rintro e u' w3 ⟨rfl, rfl, h1, h2, h3⟩
    have y0 := h1.cell' 0
    have y1 := h1.cell' 1
    have y2 := h1.cell' 2
    have y3 := h1.cell' 3
    have y4 := h2.cell' 0
    have HF := hid (parseP_no HPN.out (HB2.out.trans (h3 _ (Nat.le_refl _) (by omega))) HPE.out)
    simp [Leaves, settle, results, Tryd.results21, go_sem, y0, y1, y2, y3, y4]
    exact HF.out
  have HYES := hid hh
  have HPE25 := hid (fun (h : ps12 l = none) => show 25 = psE l by unfold psE; rw [if_neg (by rw [HYES.out]; decide), h]; rfl)
  have HM := hid (show ∃ m : Nat, wgetV l 56 2 = (m : Int) ∧ m ≤ 8 ∧ wgetV l 32 8 ≤ 18446744073709551615 ∧ 0 ≤ wgetV l 32 8 ∧ 0 ≤ wgetV l 24 8 ∧ wgetV l 24 8 ≤ 18446744073709551615 from by
    have h8 : wgetV l 56 2 ≤ 8 := by
      have := hh
      unfold hdB at this
      simp only [Bool.and_eq_true, decide_eq_true_eq] at this
      exact this.2.2.2.2.2.2
    obtain ⟨m, hm⟩ := Int.eq_ofNat_of_zero_le (@wgetV_u l 56 2)
    exact ⟨m, hm, by omega, wget8, wgetV_u, wgetV_u, wget8⟩)
  have HPS := hid (show ps12 l = if insB (wgetV l 32 8) (wgetV l 56 2 * 56) l.length = true then
      match segsL l (wgetV l 32 8) (finOf (wgetV l 16 2)) (wgetV l 56 2).toNat with
      | none => none
      | some x => if togB x.1 = true ∧ entB (wgetV l 16 2) (wgetV l 24 8) x.1 = true then some ⟨wgetV l 16 2, wgetV l 24 8, wgetV l 32 8, x.1⟩ else none
    else none from by
      unfold ps12
      by_cases h : insB (wgetV l 32 8) (wgetV l 56 2 * 56) l.length = true
      · rw [if_pos ⟨hh, h⟩, if_pos h]
        rfl
      · rw [if_neg (fun h2 => h h2.2), if_neg h])
  have HHD2 := hid (show ∀ e w', HeadP l W e w' → e = .returned (.tuple #[.agg #[.int .u16 (wgetV l 16 2), .int .u64 (wgetV l 24 8), .int .u64 (wgetV l 32 8), .slice none 0 0], .int .u64 (wgetV l 56 2)]) ∧ Below W.heap.size W w' from fun e w' h => ⟨by have := h.1; rwa [if_pos hh] at this, h.2⟩)
  clear hh
  obtain ⟨many, hmany, hm8, hp1, hp0, he0, he1⟩ := HM.out
  rw [hmany] at HPS HHD2
  rw [Int.toNat_natCast] at HPS
  generalize wgetV l 16 2 = typ at *
  generalize wgetV l 24 8 = entry at *
  generalize wgetV l 32 8 = ph at *
  clear HM hmany
  go_enter_defers Tryd.func21, Tryd.ntmps21
  go_wp2_with fail
  rw [← HW.out]
  refine HHD.out.mono ?_
  intro e w2 h
  obtain ⟨rfl, hb⟩ := HHD2.out _ _ h
  have HB2 := hid (HLOW.out.trans (hb.mono HLOW.out.size))
  have HH2 := hid (HH.out.below hb (by rw [HWZ.out]; omega))
  have HE2 := hid (HE.out.below hb (by rw [HWZ.out]; omega))
  have HZ2 := hid (show w.heap.size + 2 ≤ w2.heap.size by rw [← HWZ.out]; exact hb.size)
  have z0 := HH2.out.frozen 0
  have z1 := HH2.out.frozen 1
  have z2 := HH2.out.frozen 2
  have z3 := HH2.out.frozen 3
  have k0 := HH2.out.cell' 0
  have k1 := HH2.out.cell' 1
  have k2 := HH2.out.cell' 2
  have k3 := HH2.out.cell' 3
  obtain ⟨W3, hW3⟩ : ∃ W3, W3 = (((w2.setCell ⟨w.heap.size, 0, none⟩ (.int .u16 typ)).setCell ⟨w.heap.size, 1, none⟩ (.int .u64 entry)).setCell ⟨w.heap.size, 2, none⟩ (.int .u64 ph)).setCell ⟨w.heap.size, 3, none⟩ (.slice none 0 0) := ⟨_, rfl⟩
  have HW3 := hid hW3
  have HH3 := hid (show Row W3 w.heap.size 26 [.int .u16 typ, .int .u64 entry, .int .u64 ph, .slice none 0 0] by rw [hW3]; exact (((HH2.out.set 0 _).set 1 _).set 2 _).set 3 _)
  have HE3 := hid (show Row W3 (w.heap.size + 1) 34 [.int .i64 0] by
    rw [hW3]
    exact ((((HE2.out.other (a := ⟨w.heap.size, 0, none⟩) (by simp) _).other (a := ⟨w.heap.size, 1, none⟩) (by simp) _).other (a := ⟨w.heap.size, 2, none⟩) (by simp) _).other (a := ⟨w.heap.size, 3, none⟩) (by simp) _))
  have HB3 := hid (show Below w.heap.size w W3 by rw [hW3]; exact bset (bset (bset (bset HB2.out (Nat.le_refl _) _) (Nat.le_refl _) _) (Nat.le_refl _) _) (Nat.le_refl _) _)
  have HZ3 := hid (show w.heap.size + 2 ≤ W3.heap.size by have := HE3.out.lt; omega)
  have HIN := hid (inside_any ph ((many : Int) * 56) l.length W3 (by omega) (by omega))
  have ewm := IntWalk.u64_in ((many : Int) * 56) ⟨by omega, by omega⟩
  have ewl := IntWalk.u64_in (l.length : Int) ⟨by omega, by omega⟩
  have q2 := HH3.out.cell' 2
  clear h hb hW3
  go_wp2_with fail
  rw [← HW3.out]
  clear z0 z1 z2 z3 k0 k1 k2 k3 HW3
  go_wp2_with fail
  refine HIN.out.mono ?_
  rintro e' w' ⟨rfl, rfl⟩
  cases hins : insB ph ((many : Int) * 56) l.length
  · have HPN := hid (show ps12 l = none by rw [HPS.out, if_neg (by rw [hins]; decide)])
    have HPE := hid (HPE25.out HPN.out)
    clear hins
    go_wp2_with fail
    refine (refuse_yes 25 W3).mono ?_
    rintro e' w' ⟨rfl, rfl⟩
    go_wp2_with fail
    refine leaves_cons (f := 37) (args := #[.pointer (some ⟨w.heap.size, 0, none⟩), .pointer (some ⟨w.heap.size + 1, 0, none⟩)]) (by simp) (by simp [go_sem]) ?_
    refine (catch_refused _ _ 25 _ _ _ _ _ [] _ HH3.out HE3.out (by omega)).mono ?_
    rintro e u' w9 ⟨rfl, rfl, h1, h2, h3⟩
    have y0 := h1.cell' 0
    have y1 := h1.cell' 1
    have y2 := h1.cell' 2
    have y3 := h1.cell' 3
    have y4 := h2.cell' 0
    have HF := hid (parseP_no HPN.out (Below.trans HB3.out (h3 _ (Nat.le_refl _) (by omega))) HPE.out)
    simp [Leaves, settle, results, Tryd.results21, go_sem, y0, y1, y2, y3, y4]
    exact HF.out
  have HINS := hid (show ph + many * 56 ≤ l.length from by
    unfold insB at hins
    simp at hins
    omega)
  rw [if_pos hins] at HPS
  clear hins
  go_wp2_with fail
  refine (refuse_no 25 W3).mono ?_
  rintro e' w' ⟨rfl, rfl⟩
  clear q2 ewm ewl
  go_wp2_with fail
  have HRUN0 := hid (show segsL l ph (finOf typ) 0 = some ([], 0) from rfl)
  go_loopw [5, 25] (fun fr i wr => ∃ (k : Nat) (xs : List SG) (free : Int) (sv : Value), k ≤ many ∧ i = .int .u64 k ∧ fr = .int .u64 free ∧ PR l w typ entry ph k xs free sv wr) (fun _ i _ => many - (intOf i).toNat)
  case atStart => exact ⟨0, [], 0, _, Nat.zero_le _, rfl, rfl, HH3.out, HE3.out, ownG_nil _ _, rfl, (fun s h => by cases h), HB3.out, rfl, by omega⟩
  case round =>
    obtain ⟨k, xs, free, sv, hk, rfl, rfl, hr⟩ := hrel
    rename World => wA
    have HR := hid hr
    clear hr
    by_cases hlt : k < many
    · have d1 : decide ((k : Int) < (many : Int)) = true := by simp; omega
      have d1n : decide (k < many) = true := by simp; omega
      have HLT := hid hlt
      have ek := IntWalk.u64_in ((k : Int) * 56) ⟨by omega, by omega⟩
      have ek2 := IntWalk.u64_in (ph + (k : Int) * 56) ⟨by omega, by have := HINS.out; omega⟩
      have ek3 := IntWalk.u64_in (ph + (k : Int) * 56 + 48) ⟨by omega, by have := HINS.out; omega⟩
      have HIN56 := hid (show 0 ≤ ph + (k : Int) * 56 ∧ ph + (k : Int) * 56 + 56 ≤ l.length by have := HINS.out; omega)
      have HSG := hid (segment_any a cap (ph + (k : Int) * 56) l wA (HS.out wA HR.out.low) (HB.out wA HR.out.low) hl HIN56.out.1 HIN56.out.2)
      have HBAD := hid (fun (h : okSeg l (ph + k * 56) (finOf typ) free = false) => show ps12 l = none by rw [HPS.out, segsL_bad HR.out.run h HLT.out])
      have HGOOD := hid (fun (h : okSeg l (ph + k * 56) (finOf typ) free = true) => segsL_good HR.out.run h)
      have y2 := HR.out.hd.cell' 2
      clear hlt
      go_wp2_with fail
      refine HSG.out.mono ?_
      intro e4 w4 h4
      obtain ⟨h5, hb4⟩ : (if (segL l (ph + (k : Int) * 56)).flags ≤ 7 then e4 = .returned (sgV (segL l (ph + (k : Int) * 56))) else e4 = .panicked (refusal 25)) ∧ Below wA.heap.size wA w4 := h4
      have HR4 := hid (HR.out.below hb4)
      clear hb4 y2
      by_cases hfl : (segL l (ph + (k : Int) * 56)).flags ≤ 7
      rotate_left
      · rw [if_neg hfl] at h5
        subst h5
        have HPN := hid (HBAD.out (okSeg_no (fun h => hfl h.1)))
        have HPE := hid (HPE25.out HPN.out)
        clear hfl
        go_wp2_with fail
        refine leaves_cons (f := 37) (args := #[.pointer (some ⟨w.heap.size, 0, none⟩), .pointer (some ⟨w.heap.size + 1, 0, none⟩)]) (by simp) (by simp [go_sem]) ?_
        refine (catch_refused _ _ 25 _ _ _ _ _ [] _ HR4.out.hd HR4.out.er (by omega)).mono ?_
        rintro e u' w9 ⟨rfl, rfl, h1, h2, h3⟩
        have y0 := h1.cell' 0
        have y1 := h1.cell' 1
        have y2 := h1.cell' 2
        have y3 := h1.cell' 3
        have y4 := h2.cell' 0
        have HF := hid (parseP_no HPN.out (Below.trans HR4.out.low (h3 _ (Nat.le_refl _) (by omega))) HPE.out)
        simp [Leaves, settle, results, Tryd.results21, go_sem, y0, y1, y2, y3, y4]
        exact HF.out
      rw [if_pos hfl] at h5
      subst h5
      have HSO := hid (segL_ok hfl)
      have HFL := hid hfl
      clear hfl
      obtain ⟨s, hs⟩ : ∃ s, s = segL l (ph + (k : Int) * 56) := ⟨_, rfl⟩
      have HSE := hid hs
      rw [← hs] at HSO HFL ⊢
      rw [show sgV s = .agg #[.int .u32 s.kind, .int .u8 s.flags, .int .u64 s.off, .int .u64 s.addr, .int .u64 s.fsz, .int .u64 s.msz] from rfl]
      clear hs
      obtain ⟨W5, hW5⟩ : ∃ W5, W5 = w4.alloc (.cells #[.int .u32 s.kind, .int .u8 s.flags, .int .u64 s.off, .int .u64 s.addr, .int .u64 s.fsz, .int .u64 s.msz] 41) := ⟨_, rfl⟩
      have HW5 := hid hW5
      have HR5 := hid (show PR l w typ entry ph k xs free sv W5 by rw [hW5]; exact HR4.out.below (bal _))
      have HX5 := hid (show Row W5 w4.heap.size 41 (sgC s) by rw [hW5]; exact Row.new _ _ _)
      clear hW5
      go_wp2_with fail
      rw [← HW5.out]
      obtain ⟨W6, hW6⟩ : ∃ W6, W6 = W5.drew := ⟨_, rfl⟩
      have HR6 := hid (show PR l w typ entry ph k xs free sv W6 by rw [hW6]; exact HR5.out.below (Below.refl _ _).drew)
      have HX6 := hid (show Row W6 w4.heap.size 41 (sgC s) by rw [hW6]; exact HX5.out.drew)
      obtain ⟨c0, c1, c2, c3, c4, c5⟩ := HX6.out.six
      have y0 := HR6.out.hd.cell' 0
      have ewl := IntWalk.u64_in (l.length : Int) ⟨by omega, by omega⟩
      refine wp_region_still_tail 7 (by kernel_rfl) (by kernel_rfl) ?_
      simp only [List.take_succ_cons, List.take_zero, List.drop_succ_cons, List.drop_zero]
      change wpStill _ _ W5.drew (fun a' => wpList _ _ _ _ a' W5.drew) _ _
      rw [← hW6]
      clear hW6
      repeat still_step
      still_call ((addressEnd_any typ W6).mono (fun _ _ h => ⟨h.1, h.2.symm⟩))
      refine wpStill_nil ?_
      show wpList _ _ _ _ _ _
      have HCK := hid (checkSegment_any s l.length (finOf typ) W6 HSO.out (by omega) (by have := finOf_le typ; omega))
      go_wp2_with fail
      refine HCK.out.mono ?_
      intro e7 w7 h7
      obtain ⟨h8, hb7⟩ : (if ckS s l.length (finOf typ) = true then e7 = .returned (.tuple #[]) else e7 = .panicked (refusal 25)) ∧ Below W6.heap.size W6 w7 := h7
      have HR7 := hid (HR6.out.below hb7)
      have HX7 := hid (HX6.out.below hb7 HX6.out.lt)
      clear hb7 c0 c1 c2 c3 c4 c5 y0
      by_cases hck : ckS s l.length (finOf typ) = true
      rotate_left
      · rw [if_neg hck] at h8
        subst h8
        have HPN := hid (HBAD.out (okSeg_no (fun h => hck (by rw [HSE.out]; exact h.2.1))))
        have HPE := hid (HPE25.out HPN.out)
        clear hck
        go_wp2_with fail
        refine leaves_cons (f := 37) (args := #[.pointer (some ⟨w.heap.size, 0, none⟩), .pointer (some ⟨w.heap.size + 1, 0, none⟩)]) (by simp) (by simp [go_sem]) ?_
        refine (catch_refused _ _ 25 _ _ _ _ _ [] _ HR7.out.hd HR7.out.er (by omega)).mono ?_
        rintro e u' w9 ⟨rfl, rfl, h1, h2, h3⟩
        have y0 := h1.cell' 0
        have y1 := h1.cell' 1
        have y2 := h1.cell' 2
        have y3 := h1.cell' 3
        have y4 := h2.cell' 0
        have HF := hid (parseP_no HPN.out (Below.trans HR7.out.low (h3 _ (Nat.le_refl _) (by omega))) HPE.out)
        simp [Leaves, settle, results, Tryd.results21, go_sem, y0, y1, y2, y3, y4]
        exact HF.out
      rw [if_pos hck] at h8
      subst h8
      have HCS := hid hck
      obtain ⟨c0, c1, c2, c3, c4, c5⟩ := HX7.out.six
      clear hck
      by_cases hk1 : s.kind = 1
      · have ek1 : (s.kind == 1) = true := by simpa using hk1
        have HK1 := hid hk1
        clear hk1
        go_wp2_with fail
        obtain ⟨W8, hW8⟩ : ∃ W8, W8 = w7.drew := ⟨_, rfl⟩
        have HR8 := hid (show PR l w typ entry ph k xs free sv W8 by rw [hW8]; exact HR7.out.below (Below.refl _ _).drew)
        have HX8 := hid (show Row W8 w4.heap.size 41 (sgC s) by rw [hW8]; exact HX7.out.drew)
        clear c0 c1 c2 c3 c4 c5
        obtain ⟨c0, c1, c2, c3, c4, c5⟩ := HX8.out.six
        have y2 := HR8.out.hd.cell' 2
        have HFD := hid (field_ok a l.length cap (ph + (k : Int) * 56 + 48) 8 l W8 (HS.out W8 HR8.out.low) (by omega) (HB.out W8 HR8.out.low) (by have := HIN56.out; omega) (chk_in rfl (by have := HIN56.out; omega) (by have := HIN56.out; omega)))
        refine wp_region_still_tail 10 (by kernel_rfl) (by kernel_rfl) ?_
        simp only [List.take_succ_cons, List.take_zero, List.drop_succ_cons, List.drop_zero]
        change wpStill _ _ w7.drew (fun a' => wpList _ _ _ _ a' w7.drew) _ _
        rw [← hW8]
        clear hW8
        repeat still_step
        still_call (HFD.out.mono (fun _ _ h => ⟨h.1, h.2.symm⟩))
        repeat still_step
        refine wpStill_nil ?_
        show wpList _ _ _ _ _ _
        have HCL := hid (checkLoad_any s (wgetV l (ph + (k : Int) * 56 + 48) 8) free W8 HSO.out)
        go_wp2_with fail
        refine HCL.out.mono ?_
        intro e9 w9 h9
        obtain ⟨h10, hb9⟩ : (if ckL s (wgetV l (ph + (k : Int) * 56 + 48) 8) free = true then e9 = .returned (.tuple #[]) else e9 = .panicked (refusal 25)) ∧ Below W8.heap.size W8 w9 := h9
        have HR9 := hid (HR8.out.below hb9)
        have HX9 := hid (HX8.out.below hb9 HX8.out.lt)
        clear hb9 c0 c1 c2 c3 c4 c5 y2
        by_cases hcl : ckL s (wgetV l (ph + (k : Int) * 56 + 48) 8) free = true
        rotate_left
        · rw [if_neg hcl] at h10
          subst h10
          have HPN := hid (HBAD.out (okSeg_no (fun h => hcl (by have := h.2.2 (by rw [← HSE.out]; exact HK1.out); rw [← HSE.out] at this; exact this))))
          have HPE := hid (HPE25.out HPN.out)
          clear hcl
          go_wp2_with fail
          refine leaves_cons (f := 37) (args := #[.pointer (some ⟨w.heap.size, 0, none⟩), .pointer (some ⟨w.heap.size + 1, 0, none⟩)]) (by simp) (by simp [go_sem]) ?_
          refine (catch_refused _ _ 25 _ _ _ _ _ [] _ HR9.out.hd HR9.out.er (by omega)).mono ?_
          rintro e u' w9 ⟨rfl, rfl, h1, h2, h3⟩
          have y0 := h1.cell' 0
          have y1 := h1.cell' 1
          have y2 := h1.cell' 2
          have y3 := h1.cell' 3
          have y4 := h2.cell' 0
          have HF := hid (parseP_no HPN.out (Below.trans HR9.out.low (h3 _ (Nat.le_refl _) (by omega))) HPE.out)
          simp [Leaves, settle, results, Tryd.results21, go_sem, y0, y1, y2, y3, y4]
          exact HF.out
        rw [if_pos hcl] at h10
        subst h10
        have HOKS := hid (okSeg_yes (p := ph + (k : Int) * 56) (fin := finOf typ) (free := free) (by rw [← HSE.out]; exact HFL.out) (by rw [← HSE.out]; exact HCS.out) (by rw [← HSE.out]; exact fun _ => hcl))
        have HNF := hid (show segsL l ph (finOf typ) (k + 1) = some (xs ++ [s], upV (IntKind.u64.wrap (s.addr + s.msz))) from by
          have := HGOOD.out HOKS.out
          rw [← HSE.out, show nextF s free = upV (IntKind.u64.wrap (s.addr + s.msz)) from if_pos HK1.out] at this
          exact this)
        have HFU := hid (show 0 ≤ upV (IntKind.u64.wrap (s.addr + s.msz)) ∧ upV (IntKind.u64.wrap (s.addr + s.msz)) ≤ 18446744073709551615 from frU_u s)
        have HUP := hid (fun wx => up_any (IntKind.u64.wrap (s.addr + s.msz)) wx (w64_u _).1 (w64_u _).2)
        clear hcl
        obtain ⟨c0, c1, c2, c3, c4, c5⟩ := HX9.out.six
        generalize upV (IntKind.u64.wrap (s.addr + s.msz)) = nf at *
        go_wp2_with fail
        refine (HUP.out _).mono ?_
        rintro e' w' ⟨rfl, rfl⟩
        clear c0 c1 c2 c3 c4 c5
        have HONE := hid (sgC_one [s])
        have HNR := hid (show Rk (w9.alloc (.cells #[.int .u32 s.kind, .int .u8 s.flags, .int .u64 s.off, .int .u64 s.addr, .int .u64 s.fsz, .int .u64 s.msz] 41)) 6 (some ⟨w9.heap.size, 0, none⟩) 1 [sgC s] from row_rk (Row.new w9 41 (sgC s)) rfl)
        have HRA := hid (HR9.out.below (@bal w9 (.cells #[.int .u32 s.kind, .int .u8 s.flags, .int .u64 s.off, .int .u64 s.addr, .int .u64 s.fsz, .int .u64 s.msz] 41)))
        have HN1 := hid (show ((xs.map sgC).length + 1) * 40 ≤ 140737488355328 by rw [List.length_map, HR9.out.len]; omega)
        have HN2 := hid (show (xs.map sgC).length + 1 ≤ maxLen by rw [List.length_map, HR9.out.len]; unfold maxLen; omega)
        have HNZ := hid (show w.heap.size + 2 ≤ (w9.alloc (.cells #[.int .u32 s.kind, .int .u8 s.flags, .int .u64 s.off, .int .u64 s.addr, .int .u64 s.fsz, .int .u64 s.msz] 41)).heap.size by have := HRA.out.er.lt; omega)
        have y3 := HR9.out.hd.cell' 3
        obtain ⟨c0, c1, c2, c3, c4, c5⟩ := HX9.out.six
        go_wp2_with (at_builtin; go_must (refine wpList_appKg Tryd.underlying24 infoSeg rfl (by decide) rfl _ _ rfl (w.heap.size + 2) sv (xs.map sgC) [sgC s] rfl (some ⟨w9.heap.size, 0, none⟩) 1 1 rfl HRA.out.own HNR.out HONE.out (fun h => by cases h) HN1.out HN2.out HNZ.out ?_; intro v' wE hown hgrow hbE; obtain ⟨va, vc, rfl⟩ := own_hd2 hown; rw [show (List.map sgC xs ++ [sgC s]).length = xs.length + 1 by simp] at hown; have HOE := hid hown; have HDE := hid (HRA.out.hd.grown hgrow (own_ne_row HRA.out.own HRA.out.hd (by decide))); have HEE := hid (HRA.out.er.grown hgrow (own_ne_row HRA.out.own HRA.out.er (by decide))); have HLE := hid (HRA.out.low.trans (hbE.mono (by omega))); have j3 := HDE.out.cell' 3; have f3 := HDE.out.frozen 3; clear hown hgrow hbE y3 c0 c1 c2 c3 c4 c5))
        go_roundw
        case rel => exact ⟨k + 1, xs ++ [s], _, _, HLT.out, by go_num, rfl, HDE.out.set 3 _, HEE.out.other (a := ⟨w.heap.size, 3, none⟩) (by simp) _, own_setOther (show OwnG wE (w.heap.size + 2) _ (xs ++ [s]) from own_ext HOE.out (by simp) (by simp)) (own_ne_row HOE.out HDE.out (by decide)) _, HNF.out, (fun y hy => by
          rcases List.mem_append.1 hy with hy | hy
          · exact HR.out.ok y hy
          · rw [List.mem_singleton.1 hy]; exact HSO.out), bset HLE.out (Nat.le_refl _) _, by rw [List.length_append, HR.out.len]; rfl, HFU.out⟩
        case measure => simp [intOf]; have := HLT.out; omega
      · have ek1 : (s.kind == 1) = false := by simpa using hk1
        have HOKS := hid (okSeg_yes (p := ph + (k : Int) * 56) (fin := finOf typ) (free := free) (by rw [← HSE.out]; exact HFL.out) (by rw [← HSE.out]; exact HCS.out) (by rw [← HSE.out]; exact fun h => absurd h hk1))
        have HNF := hid (show segsL l ph (finOf typ) (k + 1) = some (xs ++ [s], free) from by
          have := HGOOD.out HOKS.out
          rw [← HSE.out, show nextF s free = free from if_neg hk1] at this
          exact this)
        clear hk1
        have HONE := hid (sgC_one [s])
        have HNR := hid (show Rk (w7.alloc (.cells #[.int .u32 s.kind, .int .u8 s.flags, .int .u64 s.off, .int .u64 s.addr, .int .u64 s.fsz, .int .u64 s.msz] 41)) 6 (some ⟨w7.heap.size, 0, none⟩) 1 [sgC s] from row_rk (Row.new w7 41 (sgC s)) rfl)
        have HRA := hid (HR7.out.below (@bal w7 (.cells #[.int .u32 s.kind, .int .u8 s.flags, .int .u64 s.off, .int .u64 s.addr, .int .u64 s.fsz, .int .u64 s.msz] 41)))
        have HN1 := hid (show ((xs.map sgC).length + 1) * 40 ≤ 140737488355328 by rw [List.length_map, HR7.out.len]; omega)
        have HN2 := hid (show (xs.map sgC).length + 1 ≤ maxLen by rw [List.length_map, HR7.out.len]; unfold maxLen; omega)
        have HNZ := hid (show w.heap.size + 2 ≤ (w7.alloc (.cells #[.int .u32 s.kind, .int .u8 s.flags, .int .u64 s.off, .int .u64 s.addr, .int .u64 s.fsz, .int .u64 s.msz] 41)).heap.size by have := HRA.out.er.lt; omega)
        have y3 := HR7.out.hd.cell' 3
        obtain ⟨c0, c1, c2, c3, c4, c5⟩ := HX7.out.six
        go_wp2_with (at_builtin; go_must (refine wpList_appKg Tryd.underlying24 infoSeg rfl (by decide) rfl _ _ rfl (w.heap.size + 2) sv (xs.map sgC) [sgC s] rfl (some ⟨w7.heap.size, 0, none⟩) 1 1 rfl HRA.out.own HNR.out HONE.out (fun h => by cases h) HN1.out HN2.out HNZ.out ?_; intro v' wE hown hgrow hbE; obtain ⟨va, vc, rfl⟩ := own_hd2 hown; rw [show (List.map sgC xs ++ [sgC s]).length = xs.length + 1 by simp] at hown; have HOE := hid hown; have HDE := hid (HRA.out.hd.grown hgrow (own_ne_row HRA.out.own HRA.out.hd (by decide))); have HEE := hid (HRA.out.er.grown hgrow (own_ne_row HRA.out.own HRA.out.er (by decide))); have HLE := hid (HRA.out.low.trans (hbE.mono (by omega))); have j3 := HDE.out.cell' 3; have f3 := HDE.out.frozen 3; clear hown hgrow hbE y3 c0 c1 c2 c3 c4 c5))
        go_roundw
        case rel => exact ⟨k + 1, xs ++ [s], _, _, HLT.out, by go_num, rfl, HDE.out.set 3 _, HEE.out.other (a := ⟨w.heap.size, 3, none⟩) (by simp) _, own_setOther (show OwnG wE (w.heap.size + 2) _ (xs ++ [s]) from own_ext HOE.out (by simp) (by simp)) (own_ne_row HOE.out HDE.out (by decide)) _, HNF.out, (fun y hy => by
          rcases List.mem_append.1 hy with hy | hy
          · exact HR.out.ok y hy
          · rw [List.mem_singleton.1 hy]; exact HSO.out), bset HLE.out (Nat.le_refl _) _, by rw [List.length_append, HR.out.len]; rfl, HR.out.free0⟩
        case measure => simp [intOf]; have := HLT.out; omega
    · have d1 : decide ((k : Int) < (many : Int)) = false := by simp; omega
      have d1n : decide (k < many) = false := by simp; omega
      obtain rfl : k = many := by omega
      obtain ⟨a2, c2, rfl, hs2, _⟩ := ownG_open HR.out.own
      have HSX := hid hs2
      have HXL := hid (show xs.length ≤ 1000000000 by rw [HR.out.len]; omega)
      have HPV := hid (show ps12 l = if togB xs = true ∧ entB typ entry xs = true then some ⟨typ, entry, ph, xs⟩ else none by rw [HPS.out, HR.out.run])
      have HCT := hid (checkTogether_any typ entry ph a2 c2 xs wA hs2 HXL.out HR.out.ok)
      have y0 := HR.out.hd.cell' 0
      have y1 := HR.out.hd.cell' 1
      have y2 := HR.out.hd.cell' 2
      have y3 := HR.out.hd.cell' 3
      clear hs2
      go_wp2_with fail
      refine HCT.out.mono ?_
      intro e4 w4 h4
      obtain ⟨h5, hb4⟩ : (if togB xs = true then e4 = .returned (.tuple #[]) else e4 = .panicked (refusal 25)) ∧ Below wA.heap.size wA w4 := h4
      have HR4 := hid (HR.out.below hb4)
      have HS4 := hid (HSX.out.below' hb4)
      clear hb4 y0 y1 y2 y3
      by_cases htg : togB xs = true
      rotate_left
      · rw [if_neg htg] at h5
        subst h5
        have HPN := hid (show ps12 l = none by rw [HPV.out, if_neg (fun h => htg h.1)])
        have HPE := hid (HPE25.out HPN.out)
        clear htg
        go_wp2_with fail
        refine leaves_cons (f := 37) (args := #[.pointer (some ⟨w.heap.size, 0, none⟩), .pointer (some ⟨w.heap.size + 1, 0, none⟩)]) (by simp) (by simp [go_sem]) ?_
        refine (catch_refused _ _ 25 _ _ _ _ _ [] _ HR4.out.hd HR4.out.er (by omega)).mono ?_
        rintro e u' w9 ⟨rfl, rfl, h1, h2, h3⟩
        have y0 := h1.cell' 0
        have y1 := h1.cell' 1
        have y2 := h1.cell' 2
        have y3 := h1.cell' 3
        have y4 := h2.cell' 0
        have HF := hid (parseP_no HPN.out (Below.trans HR4.out.low (h3 _ (Nat.le_refl _) (by omega))) HPE.out)
        simp [Leaves, settle, results, Tryd.results21, go_sem, y0, y1, y2, y3, y4]
        exact HF.out
      rw [if_pos htg] at h5
      subst h5
      have HTG := hid htg
      clear htg
      have HRE := hid (rightEntry_any typ entry ph a2 c2 xs w4 HS4.out HXL.out HR4.out.ok he0 he1)
      have y0 := HR4.out.hd.cell' 0
      have y1 := HR4.out.hd.cell' 1
      have y2 := HR4.out.hd.cell' 2
      have y3 := HR4.out.hd.cell' 3
      go_wp2_with fail
      refine HRE.out.mono ?_
      rintro e6 w6 ⟨rfl, hb6⟩
      have HR6 := hid (HR4.out.below hb6)
      have HS6 := hid (HS4.out.below' hb6)
      clear hb6 y0 y1 y2 y3
      cases hen : entB typ entry xs
      · have HPN := hid (show ps12 l = none by rw [HPV.out, if_neg (fun h => by rw [hen] at h; exact absurd h.2 (by decide))])
        have HPE := hid (HPE25.out HPN.out)
        clear hen
        go_wp2_with fail
        refine (refuse_yes 25 w6).mono ?_
        rintro e' w' ⟨rfl, rfl⟩
        go_wp2_with fail
        refine leaves_cons (f := 37) (args := #[.pointer (some ⟨w.heap.size, 0, none⟩), .pointer (some ⟨w.heap.size + 1, 0, none⟩)]) (by simp) (by simp [go_sem]) ?_
        refine (catch_refused _ _ 25 _ _ _ _ _ [] _ HR6.out.hd HR6.out.er (by omega)).mono ?_
        rintro e u' w9 ⟨rfl, rfl, h1, h2, h3⟩
        have y0 := h1.cell' 0
        have y1 := h1.cell' 1
        have y2 := h1.cell' 2
        have y3 := h1.cell' 3
        have y4 := h2.cell' 0
        have HF := hid (parseP_no HPN.out (Below.trans HR6.out.low (h3 _ (Nat.le_refl _) (by omega))) HPE.out)
        simp [Leaves, settle, results, Tryd.results21, go_sem, y0, y1, y2, y3, y4]
        exact HF.out
      have HPY := hid (show ps12 l = some ⟨typ, entry, ph, xs⟩ by rw [HPV.out, if_pos ⟨HTG.out, hen⟩])
      clear hen
      go_wp2_with fail
      refine (refuse_no 25 w6).mono ?_
      rintro e' w' ⟨rfl, rfl⟩
      have y0 := HR6.out.hd.cell' 0
      have y1 := HR6.out.hd.cell' 1
      have y2 := HR6.out.hd.cell' 2
      have y3 := HR6.out.hd.cell' 3
      have y4 := HR6.out.er.cell' 0
      have f0 := HR6.out.hd.frozen 0
      have f1 := HR6.out.hd.frozen 1
      have f2 := HR6.out.hd.frozen 2
      have f3 := HR6.out.hd.frozen 3
      have f4 := HR6.out.er.frozen 0
      go_wp2_with fail
      obtain ⟨W7, hW7⟩ : ∃ W7, W7 = ((((w6.setCell ⟨w.heap.size, 0, none⟩ (.int .u16 typ)).setCell ⟨w.heap.size, 1, none⟩ (.int .u64 entry)).setCell ⟨w.heap.size, 2, none⟩ (.int .u64 ph)).setCell ⟨w.heap.size, 3, none⟩ (.slice a2 xs.length c2)).setCell ⟨w.heap.size + 1, 0, none⟩ (.int .i64 0) := ⟨_, rfl⟩
      rw [← hW7]
      have hnH := own_ne_row HR6.out.own HR6.out.hd (by decide)
      have hnE := own_ne_row HR6.out.own HR6.out.er (by decide)
      have HD7 := hid (show Row W7 w.heap.size 26 [.int .u16 typ, .int .u64 entry, .int .u64 ph, .slice a2 xs.length c2] by
        rw [hW7]
        exact ((((HR6.out.hd.set 0 _).set 1 _).set 2 _).set 3 _).other (a := ⟨w.heap.size + 1, 0, none⟩) (by simp) _)
      have HE7 := hid (show Row W7 (w.heap.size + 1) 34 [.int .i64 0] by
        rw [hW7]
        exact ((((HR6.out.er.other (a := ⟨w.heap.size, 0, none⟩) (by simp) _).other (a := ⟨w.heap.size, 1, none⟩) (by simp) _).other (a := ⟨w.heap.size, 2, none⟩) (by simp) _).other (a := ⟨w.heap.size, 3, none⟩) (by simp) _).set 0 _)
      have HS7 := hid (show Sgs W7 a2 xs.length xs by
        obtain ⟨a9, c9, e9, h9, _⟩ := ownG_open (show OwnG W7 (w.heap.size + 2) (.slice a2 xs.length c2) xs by
          rw [hW7]
          exact own_setOther (own_setOther (own_setOther (own_setOther (own_setOther HR6.out.own hnH _) hnH _) hnH _) hnH _) hnE _)
        cases e9
        exact h9)
      have HL7 := hid (show Below w.heap.size w W7 by
        rw [hW7]
        exact bset (bset (bset (bset (bset HR6.out.low (Nat.le_refl _) _) (Nat.le_refl _) _) (Nat.le_refl _) _) (Nat.le_refl _) _) (by omega) _)
      clear hW7 hnH hnE y0 y1 y2 y3 y4 f0 f1 f2 f3 f4
      refine leaves_cons (f := 37) (args := #[.pointer (some ⟨w.heap.size, 0, none⟩), .pointer (some ⟨w.heap.size + 1, 0, none⟩)]) (by simp) (by simp [go_sem]) ?_
      refine (catch_idle _ _ W7).mono ?_
      rintro e u' w8 ⟨rfl, rfl, hb8⟩
      have h1 := HD7.out.below hb8 HD7.out.lt
      have h2 := HE7.out.below hb8 HE7.out.lt
      have y0 := h1.cell' 0
      have y1 := h1.cell' 1
      have y2 := h1.cell' 2
      have y3 := h1.cell' 3
      have y4 := h2.cell' 0
      have HF := hid (parseP_yes (c := c2) HPY.out HYES.out (HS7.out.below' hb8) (HL7.out.trans (hb8.mono HL7.out.size)))
      simp [Leaves, settle, results, Tryd.results21, go_sem, y0, y1, y2, y3, y4]
      exact HF.out
end Go.Proofs.YtaaohcpiideaaaaDoor
