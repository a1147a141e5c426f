
/- dynamic: a text of the string table; the string table. -/
import Derived.Test.YtkkadknijjninaaDoorQa7
import Derived.Test.YtkkadknijjninaaDoorSF
import Derived.Test.YtkkadknijjninaaDoorShelf
namespace Go.Proofs.YtkkadknijjninaaDoor
open Go.RowKit Go.Sort Go.Shelf Go.WideMaps Go.Maps
attribute [local go_sem] Oper.semAt_some

/-- The text at a place of a string table. -/
def textAt (t : BL) (q : Nat) : Option BL := match (t.drop q).findIdx? (· == 0) with
  | none => none
  | some i => some ((t.drop q).take i)
def textO (t : BL) (p : Int) : Option BL := if (t.length : Int) ≤ p then none else textAt t p.toNat
def tres (R : Option BL) : Ending := .returned (.tuple #[.string (ba (R.getD [])), .bool R.isSome])
set_option maxRecDepth 100000 in
set_option maxHeartbeats 8000000 in
theorem text_any (a : Option Addr) (n cap : Nat) (t : BL) (p : Int) (w : World) (hB : Byt w a n t) (hcap : n ≤ cap) (hn : n ≤ 1000000000) (hp0 : 0 ≤ p) (hp1 : p ≤ 18446744073709551615) :
    Calls Tryd.prog 71 #[.slice a n cap, .int .u64 p] w fun e w' => e = tres (textO t p) ∧ w = w' := by
  have hlen := hB.hlen
  obtain ⟨R, hR⟩ : ∃ R, R = textO t p := ⟨_, rfl⟩
  rw [← hR]
  have HR := hid hR
  clear hR
  have ewn := IntWalk.u64_in (n : Int) ⟨by omega, by omega⟩
  by_cases hbig : (n : Int) ≤ p
  · have d1 : decide ((n : Int) ≤ p) = true := by simp; omega
    have HF := hid (show R = none by rw [HR.out]; unfold textO; rw [if_pos (by rw [hlen]; exact hbig)])
    clear hbig
    go_enter Tryd.func71, Tryd.ntmps71
    go_wp2_with fail
    go_ret2
    exact ⟨by rw [HF.out]; rfl, rfl⟩
  obtain ⟨q, rfl⟩ := Int.eq_ofNat_of_zero_le hp0
  have d1 : decide ((n : Int) ≤ (q : Int)) = false := by simp; omega
  have d1n : decide (n ≤ q) = false := by simp; omega
  have hq : q < n := by omega
  obtain ⟨b, off, rfl, _⟩ := hB.some_of (by omega)
  have hs1 := slFrom .u64 b off n cap q (q : Int) rfl (by omega) hcap (by omega)
  have HBY := hid (hB.from (f := q) (by omega))
  have HBB := hid hB
  have HSZ := hid (show n - q = (ba (t.drop q)).size by rw [ba_size, List.length_drop]; omega)
  have HIB := hid (Tryd.bytes_IndexByte_bytes b (off + q) (cap - q) (ba (t.drop q)) 0 w HBY.out.lib)
  rw [← HSZ.out] at HIB
  have H0 : (0 : Int).toNat.toUInt8 = 0 := rfl
  rw [H0] at HIB
  rw [show (ba (t.drop q)).data.toList = t.drop q from rfl] at HIB
  have HIX := hid (idx0 (t.drop q))
  have HQ := hid hq
  have HCAP := hid hcap
  have HN := hid hn
  have HLN := hid hlen
  have HRT := hid (show R = textAt t q by rw [HR.out]; unfold textO; rw [if_neg (by rw [hlen]; omega)]; rfl)
  clear hB H0 hbig hp0 hp1 hq hcap hn hlen
  go_enter Tryd.func71, Tryd.ntmps71
  go_wp2_with fail
  refine HIB.out.mono ?_
  rintro e' w3 ⟨rfl, rfl⟩
  rcases HIX.out with ⟨i1, i2⟩ | ⟨i, i1, i2, hi⟩
  · have HF := hid (show R = none by rw [HRT.out]; unfold textAt; rw [i2])
    rw [i1]
    clear i1 i2
    go_wp2_with fail
    go_ret2
    exact ⟨by rw [HF.out]; rfl, rfl⟩
  · have HF := hid (show R = some ((t.drop q).take i) by rw [HRT.out]; unfold textAt; rw [i2])
    rw [i1]
    rw [List.length_drop] at hi
    have hn := HN.out
    have hln := HLN.out
    have hqq := HQ.out
    have d4 : decide ((i : Int) < 0) = false := by simp
    obtain ⟨z, hz⟩ : ∃ z, z = q + i := ⟨_, rfl⟩
    have ewi := IntWalk.u64_in (i : Int) ⟨by omega, by omega⟩
    have ewq : IntKind.u64.wrap ((q : Int) + (i : Int)) = (z : Int) := by rw [show (q : Int) + (i : Int) = (z : Int) by omega]; exact IntWalk.u64_in (z : Int) ⟨by omega, by omega⟩
    have hs2 := slFT .u64 .u64 b off n cap q z (q : Int) (z : Int) rfl rfl (by omega) (by have := HCAP.out; omega) (by have := HCAP.out; omega)
    have hb3 := HBB.out.mid (f := q) (n := z - q) (by omega)
    have hcv := hb3.str (P := Tryd.prog) 22 9 5 (cap - q) Tryd.underlying22 Tryd.underlying5 Tryd.underlying9
    have hcv2 : (convert 22 9 (.slice (some ⟨b, off + q, none⟩) (z - q) (cap - q))).run Tryd.prog w3 = .ok (.string (ba ((t.drop q).take i))) w3 := by
      rw [hcv, show z - q = i by omega]
      rfl
    clear hcv hb3 i1 i2 hi hz hn hln hqq
    go_wp2_with fail
    go_ret2
    exact ⟨by rw [HF.out]; rfl, rfl⟩
theorem slZ (k1 k2 : IntKind) (a : Option Addr) (len cap f : Nat) (x y : Int) (hx : x = (f : Int)) (hy : y = (f : Int)) (ht : f ≤ cap) : ∃ a', ∀ w,
    (Instr.slice 22 (.slice a len cap) (some (.int k1 x)) (some (.int k2 y)) none).run Tryd.prog w = .ok (.slice a' 0 (cap - f)) w := by
  subst hx
  subst hy
  refine ⟨if cap = f then a else a.map (·.add (f * 1)), fun w => ?_⟩
  have hz : ∀ w, (sizeOf (Tryd.prog.elem 22)).run Tryd.prog w = .ok 1 w := fun w => by kernel_rfl
  rw [run_slice_lh w 22 _ _ _ (by kernel_rfl) k1 k2 f f (by omega) (by omega) (by omega), hz]
  simp only [Result.andThen, sliced, Int.toNat_natCast, Nat.sub_self]
/-- What a section says under a tag. -/
def vv (vals : EL) (t : Int) : Int := (lk vals t).getD 0
structure ValOk (vals : EL) : Prop where
  ok : ∀ x ∈ vals, 0 ≤ x.2 ∧ x.2 ≤ 18446744073709551615
theorem ValOk.v {vals : EL} (h : ValOk vals) (t : Int) : 0 ≤ vv vals t ∧ vv vals t ≤ 18446744073709551615 := by
  unfold vv
  cases hl : lk vals t with
  | none => exact ⟨by decide, by decide⟩
  | some v => exact h.ok _ (lk_mem hl)
/-- The string table: none, where it should be and is not. -/
def tabO (l : BL) (L : List SG) (vals : EL) : Option BL := if (lk vals 5).isSome = true then (match laidO l.length L (vv vals 5) (vv vals 10) with
  | none => none
  | some p => some ((l.drop p.toNat).take (vv vals 10).toNat)) else some []
structure TabP (R : Option BL) (l : BL) (w : World) (e : Ending) (w' : World) : Prop where
  ex : (R = none ∧ e = .returned (.tuple #[.slice none 0 0, .int .i64 25])) ∨ (∃ t a n c, R = some t ∧ e = .returned (.tuple #[.slice a n c, .int .i64 0]) ∧ n ≤ l.length ∧ n ≤ c ∧ ∀ W, Below w.heap.size w W → Byt W a n t)
  low : Below w.heap.size w w'
/-- A reader and a section, as arguments. -/
structure RS (W : World) (ab : Option Addr) (cap : Nat) (l : BL) (la : Option Addr) (lc : Nat) (L : List SG) (sv : Value) (mv : Nat) (vals : EL) : Prop where
  sz : Sizes W
  byt : Byt W ab l.length l
  hcap : l.length ≤ cap
  hl : l.length ≤ 1000000000
  segs : Sgs W la L.length L
  hn : L.length ≤ 1000000000
  sok : ∀ s ∈ L, SGok s
  sv : ∃ a n c, sv = .slice a n c
  map : MM meU W mv vals
  vok : ValOk vals
theorem RS.below {W W' : World} {ab la : Option Addr} {cap lc mv : Nat} {l : BL} {L : List SG} {sv : Value} {vals : EL} (h : RS W ab cap l la lc L sv mv vals) (hb : Below W.heap.size W W') : RS W' ab cap l la lc L sv mv vals :=
  ⟨h.sz.below hb, h.byt.below' hb, h.hcap, h.hl, h.segs.below' hb, h.hn, h.sok, h.sv, h.map.below hb, h.vok⟩
set_option maxRecDepth 100000 in
set_option maxHeartbeats 8000000 in
theorem texts_any (ab : Option Addr) (cap : Nat) (l : BL) (la : Option Addr) (lc : Nat) (L : List SG) (sv : Value) (mv : Nat) (vals : EL) (w : World) (h : RS w ab cap l la lc L sv mv vals) :
    Calls Tryd.prog 53 #[.agg #[.slice ab l.length cap, .slice la L.length lc], .agg #[sv, .map (some mv)]] w (TabP (tabO l L vals) l w) := by
  obtain ⟨sa, sn, sc, hsv⟩ := h.sv
  subst hsv
  obtain ⟨W, hW⟩ : ∃ W, W = (w.alloc (.cells #[.slice ab l.length cap, .slice la L.length lc] 90)).alloc (.cells #[.slice sa sn sc, .map (some mv)] 85) := ⟨_, rfl⟩
  have HW := hid hW
  have HLOW := hid (show Below w.heap.size w W by rw [hW]; exact (bal _).alloc (bal (w := w) _).size _)
  have HRA := hid (show Row W w.heap.size 90 [.slice ab l.length cap, .slice la L.length lc] by rw [hW]; exact (Row.new _ _ _).alloc _)
  have HRB := hid (show Row W (w.heap.size + 1) 85 [.slice sa sn sc, .map (some mv)] by
    rw [hW]
    have := Row.new (w.alloc (.cells #[.slice ab l.length cap, .slice la L.length lc] 90)) 85 [.slice sa sn sc, .map (some mv)]
    rw [World.size_alloc] at this
    exact this)
  have HH := hid (h.below HLOW.out)
  have HBY := hid (fun W (hb : Below w.heap.size w W) => h.byt.below' hb)
  obtain ⟨R, hR⟩ : ∃ R, R = tabO l L vals := ⟨_, rfl⟩
  rw [← hR]
  have HR := hid hR
  have HHAS := hid (has_any (.slice sa sn sc) mv vals 5 W HH.out.map (by decide) (by decide) sa sn sc rfl)
  have x0 := HRA.out.cell' 0
  have x1 := HRA.out.cell' 1
  have y0 := HRB.out.cell' 0
  have y1 := HRB.out.cell' 1
  clear hW hR h
  go_enter Tryd.func53, Tryd.ntmps53
  go_wp2_with fail
  rw [← HW.out]
  go_wp2_with fail
  refine HHAS.out.mono ?_
  rintro e' w1 ⟨rfl, hb1⟩
  have HB1 := hid (HLOW.out.trans (hb1.mono HLOW.out.size))
  have HRA1 := hid (HRA.out.below hb1 HRA.out.lt)
  have HRB1 := hid (HRB.out.below hb1 HRB.out.lt)
  have HH1 := hid (HH.out.below hb1)
  clear hb1 x0 x1 y0 y1
  cases h5 : (lk vals 5).isSome
  · have HF := hid (show R = some [] by rw [HR.out]; unfold tabO; rw [h5, if_neg (by decide)])
    clear h5
    go_wp2_with fail
    go_ret2
    exact ⟨.inr ⟨[], none, 0, 0, HF.out, rfl, Nat.zero_le _, Nat.le_refl _, fun W hb => Byt.nil _ _⟩, HB1.out⟩
  have HF := hid (show R = (match laidO l.length L (vv vals 5) (vv vals 10) with | none => none | some p => some ((l.drop p.toNat).take (vv vals 10).toNat)) by rw [HR.out]; unfold tabO; rw [h5, if_pos rfl])
  clear h5
  have x0 := HRA1.out.cell' 0
  have x1 := HRA1.out.cell' 1
  have y0 := HRB1.out.cell' 0
  have y1 := HRB1.out.cell' 1
  have hg10 := HH1.out.map.getU 10 (by decide) (by decide)
  have hg5 := HH1.out.map.getU 5 (by decide) (by decide)
  have v10 := HH1.out.vok.v 10
  have v5 := HH1.out.vok.v 5
  have HV10 := hid v10
  have HLD := hid (laid_any ab l.length cap la lc L (vv vals 5) (vv vals 10) w1 HH1.out.hl HH1.out.segs HH1.out.hn HH1.out.sok v5.1 v5.2 v10.1)
  change _ = Result.ok (Value.int .u64 (vv vals 10)) _ at hg10
  change _ = Result.ok (Value.int .u64 (vv vals 5)) _ at hg5
  obtain ⟨P, hP⟩ : ∃ P, P = laidO l.length L (vv vals 5) (vv vals 10) := ⟨_, rfl⟩
  have HPI := hid (fun p (h : P = some p) => laidO_in (hP.symm.trans h))
  rw [← hP] at HLD HF
  obtain ⟨A5, hA5⟩ : ∃ A5, A5 = vv vals 5 := ⟨_, rfl⟩
  obtain ⟨A10, hA10⟩ : ∃ A10, A10 = vv vals 10 := ⟨_, rfl⟩
  rw [← hA5, ← hA10] at HLD
  rw [← hA5] at hg5
  rw [← hA10] at hg10 HPI HF HV10
  clear v10 v5 hP hA5 hA10
  go_wp2_with fail
  refine HLD.out.mono ?_
  rintro e' w2 ⟨rfl, hb2⟩
  have HB2 := hid (HB1.out.trans (hb2.mono HB1.out.size))
  have HRA2 := hid (HRA1.out.below hb2 HRA1.out.lt)
  clear hb2 x0 x1 y0 y1 hg10 hg5
  unfold lres
  cases P
  · have HG := hid (show R = none from HF.out)
    go_wp2_with fail
    go_ret2
    exact ⟨.inl ⟨HG.out, rfl⟩, HB2.out⟩
  rename_i p
  obtain ⟨hp0, hp1⟩ := HPI.out p rfl
  have hv0 := HV10.out.1
  have hll := HH1.out.hl
  obtain ⟨q, rfl⟩ := Int.eq_ofNat_of_zero_le hp0
  obtain ⟨z, rfl⟩ := Int.eq_ofNat_of_zero_le hv0
  have HG := hid (show R = some ((l.drop q).take z) from HF.out)
  obtain ⟨u, hu⟩ : ∃ u, u = q + z := ⟨_, rfl⟩
  have ewu : IntKind.u64.wrap ((q : Int) + (z : Int)) = (u : Int) := by rw [show (q : Int) + (z : Int) = (u : Int) by omega]; exact IntWalk.u64_in (u : Int) ⟨by omega, by omega⟩
  have HUL := hid (show u ≤ l.length by omega)
  have HZ := hid (show z ≤ l.length ∧ u - q = z ∧ z ≤ cap - q by have := HH1.out.hcap; omega)
  have x0 := HRA2.out.cell' 0
  have hcap := HH1.out.hcap
  by_cases hcz : z = 0
  · obtain ⟨a', hs2⟩ := slZ .u64 .u64 ab l.length cap q (q : Int) (u : Int) rfl (by omega) (by omega)
    have HC := hid (show (l.drop q).take z = [] by rw [hcz]; rfl)
    clear hu hcz hll hv0 hp0 hp1 hcap
    go_wp2_with fail
    go_ret2
    exact ⟨.inr ⟨_, a', 0, cap - q, HG.out, rfl, Nat.zero_le _, Nat.zero_le _, fun W hb => by rw [HC.out]; exact Byt.nil _ _⟩, HB2.out⟩
  · obtain ⟨b, off, rfl, _⟩ := (HBY.out w (Below.refl _ _)).some_of (by omega)
    have hs2 := slFT .u64 .u64 b off l.length cap q u (q : Int) (u : Int) rfl rfl (by omega) (by omega) (by omega)
    have HMID := hid (fun W (hb : Below w.heap.size w W) => (HBY.out W hb).mid (f := q) (n := z) (by omega))
    rw [show u - q = z by omega] at hs2
    clear hu hcz hll hv0 hp0 hp1 hcap
    go_wp2_with fail
    go_ret2
    exact ⟨.inr ⟨_, some ⟨b, off + q, none⟩, z, cap - q, HG.out, rfl, HZ.out.1, HZ.out.2.2, fun W hb => HMID.out W hb⟩, HB2.out⟩
end Go.Proofs.YtkkadknijjninaaDoor
