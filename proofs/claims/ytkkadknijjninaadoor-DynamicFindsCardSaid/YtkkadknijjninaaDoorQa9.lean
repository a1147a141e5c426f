
/- dynamic: the hash table and the symbols. -/
import Derived.Test.YtkkadknijjninaaDoorQa8
import Derived.Test.YtkkadknijjninaaDoorKA
import Derived.Deep.QuietTactic
import Derived.BigQuiet
import Derived.Deep.RegionHeld3
namespace Go.Proofs.YtkkadknijjninaaDoor
open Go.RowKit Go.Sort Go.Shelf Go.WideMaps Go.Maps
attribute [local go_sem] Oper.semAt_some

structure SYM where
  bs : List Int
  cs : List Int
  ss : List RSY
def symT (l : BL) (nb nc : Int) (p q : Int) : SYM := ⟨rowsL (lnkG l) (p + 8) 4 nb.toNat, rowsL (lnkG l) (p + 8 + 4 * nb) 4 nc.toNat, rowsL (symG l) q 24 nc.toNat⟩
def symF (l : BL) (L : List SG) (vals : EL) (nb nc : Int) : Int ⊕ SYM := if 65 < nc then .inl 12 else match laidO l.length L (vv vals 4) (8 + 4 * (nb + nc)), laidO l.length L (vv vals 6) (24 * nc) with
  | some p, some q => .inr (symT l nb nc p q)
  | _, _ => .inl 25
/-- What symbols answers. -/
def symO (l : BL) (L : List SG) (vals : EL) : Int ⊕ SYM := if (lk vals 4).isSome = true then (match laidO l.length L (vv vals 4) 8 with
  | none => .inl 25
  | some f => symF l L vals (wgetV l f 4) (wgetV l (f + 4) 4)) else .inr ⟨[], [], []⟩
abbrev OwnU (W : World) (base : Nat) (v : Value) (xs : List Int) : Prop := OwnK W base 24 1 v (xs.map lnkC)
abbrev OwnY (W : World) (base : Nat) (v : Value) (xs : List RSY) : Prop := OwnK W base 142 6 v (xs.map symC)
structure SymP (R : Int ⊕ SYM) (w : World) (e : Ending) (w' : World) : Prop where
  ex : (∃ er, R = .inl er ∧ ¬ er = 0 ∧ e = .returned (.tuple #[.agg #[.slice none 0 0, .slice none 0 0], .slice none 0 0, .int .i64 er])) ∨ (∃ s va vb vs, R = .inr s ∧ e = .returned (.tuple #[.agg #[va, vb], vs, .int .i64 0]) ∧ OwnU w' w.heap.size va s.bs ∧ OwnU w' w.heap.size vb s.cs ∧ OwnY w' w.heap.size vs s.ss)
  low : Below w.heap.size w w'
theorem ownU_open {W : World} {base : Nat} {v : Value} {xs : List Int} (h : OwnU W base v xs) : ∃ a c, v = .slice a xs.length c := by
  obtain ⟨a, c, hv, _⟩ := own_rk h (lnkC_len xs) (by decide)
  rw [List.length_map] at hv
  exact ⟨a, c, hv⟩
theorem ownY_open {W : World} {base : Nat} {v : Value} {xs : List RSY} (h : OwnY W base v xs) : ∃ a c, v = .slice a xs.length c := by
  obtain ⟨a, c, hv, _⟩ := own_rk h (symC_len xs) (by decide)
  rw [List.length_map] at hv
  exact ⟨a, c, hv⟩
/-- What stands while the rows are made. -/
structure SH (w : World) (ra rb : Nat) (rs : List Value) (ww : World) : Prop where
  low : Below w.heap.size w ww
  rd : Row ww ra 90 rs
  res : ∃ u v, Row ww rb 58 [u, v]
  ne : ra ≠ rb
  hb : w.heap.size ≤ rb
theorem SH.call {w ww w' : World} {ra rb : Nat} {rs : List Value} (h : SH w ra rb rs ww) (hb : Below ww.heap.size ww w') : SH w ra rb rs w' := by
  obtain ⟨u, v, hr⟩ := h.res
  exact ⟨h.low.trans (hb.mono h.low.size), h.rd.below hb h.rd.lt, ⟨u, v, hr.below hb hr.lt⟩, h.ne, h.hb⟩
theorem SH.drew {w ww : World} {ra rb : Nat} {rs : List Value} (h : SH w ra rb rs ww) : SH w ra rb rs ww.drew := h.call ((Below.refl _ ww).drew)
theorem SH.set0 {w ww : World} {ra rb : Nat} {rs : List Value} (h : SH w ra rb rs ww) (x : Value) : SH w ra rb rs (ww.setCell ⟨rb, 0, none⟩ x) := by
  obtain ⟨u, v, hr⟩ := h.res
  exact ⟨bset h.low h.hb _, h.rd.other (by simpa using h.ne) _, ⟨x, v, hr.set 0 x⟩, h.ne, h.hb⟩
theorem SH.set1 {w ww : World} {ra rb : Nat} {rs : List Value} (h : SH w ra rb rs ww) (x : Value) : SH w ra rb rs (ww.setCell ⟨rb, 1, none⟩ x) := by
  obtain ⟨u, v, hr⟩ := h.res
  exact ⟨bset h.low h.hb _, h.rd.other (by simpa using h.ne) _, ⟨u, x, hr.set 1 x⟩, h.ne, h.hb⟩
def c0V (rb i : Nat) (ww : World) : Value := (ww.cell? ⟨rb, i, none⟩).getD (.bool false)
theorem SH.c0 {w ww : World} {ra rb : Nat} {rs : List Value} (h : SH w ra rb rs ww) : ww.cell? ⟨rb, 0, none⟩ = some (c0V rb 0 ww) := by
  obtain ⟨u, v, hr⟩ := h.res
  unfold c0V
  rw [hr.cell 0 (by simp)]
  rfl
theorem SH.c1 {w ww : World} {ra rb : Nat} {rs : List Value} (h : SH w ra rb rs ww) : ww.cell? ⟨rb, 1, none⟩ = some (c0V rb 1 ww) := by
  obtain ⟨u, v, hr⟩ := h.res
  unfold c0V
  rw [hr.cell 1 (by simp)]
  rfl
theorem SH.fz {w ww : World} {ra rb : Nat} {rs : List Value} (h : SH w ra rb rs ww) (i : Nat) : ww.frozen? ⟨rb, i, none⟩ = false := by
  obtain ⟨u, v, hr⟩ := h.res
  exact hr.frozen i
theorem SH.lt {w ww : World} {ra rb : Nat} {rs : List Value} (h : SH w ra rb rs ww) : rb < ww.heap.size := by
  obtain ⟨u, v, hr⟩ := h.res
  exact hr.lt
theorem Row.two {w : World} {g : Nat} {E : TypeId} {a b : Value} (h : Row w g E [a, b]) : w.cell? ⟨g, 0, none⟩ = some a ∧ w.cell? ⟨g, 1, none⟩ = some b := ⟨h.cell 0 (by simp), h.cell 1 (by simp)⟩
set_option maxRecDepth 100000 in
set_option maxHeartbeats 16000000 in
theorem symbols_any (ab : Option Addr) (cap : Nat) (l : BL) (la : Option Addr) (lc : Nat) (L : List SG) (sv : Value) (mv : Nat) (vals : EL) (w : World) (h : RS w ab cap l la lc L sv mv vals) :
    Calls Tryd.prog 54 #[.agg #[.slice ab l.length cap, .slice la L.length lc], .agg #[sv, .map (some mv)]] w (SymP (symO l L vals) w) := by
  obtain ⟨sa, sn, sc, hsv⟩ := h.sv
  subst hsv
  obtain ⟨W, hW⟩ : ∃ W, W = ((w.alloc (.cells #[.slice ab l.length cap, .slice la L.length lc] 90)).alloc (.cells #[.slice sa sn sc, .map (some mv)] 85)).alloc (.cells #[.slice none 0 0, .slice none 0 0] 58) := ⟨_, rfl⟩
  have HW := hid hW
  have HLOW := hid (show Below w.heap.size w W by rw [hW]; exact ((bal _).alloc (bal (w := w) _).size _).alloc ((bal _).alloc (bal (w := w) _).size _).size _)
  have HRA := hid (show Row W w.heap.size 90 [.slice ab l.length cap, .slice la L.length lc] by rw [hW]; exact ((Row.new _ _ _).alloc _).alloc _)
  have HRB := hid (show Row W (w.heap.size + 1) 85 [.slice sa sn sc, .map (some mv)] by
    rw [hW]
    have := Row.new (w.alloc (.cells #[.slice ab l.length cap, .slice la L.length lc] 90)) 85 [.slice sa sn sc, .map (some mv)]
    rw [World.size_alloc] at this
    exact this.alloc _)
  have HRC := hid (show Row W (w.heap.size + 1 + 1) 58 [.slice none 0 0, .slice none 0 0] by
    rw [hW]
    have := Row.new ((w.alloc (.cells #[.slice ab l.length cap, .slice la L.length lc] 90)).alloc (.cells #[.slice sa sn sc, .map (some mv)] 85)) 58 [.slice none 0 0, .slice none 0 0]
    rw [World.size_alloc, World.size_alloc] at this
    exact this)
  have HH := hid (h.below HLOW.out)
  have HRS := hid (fun W (hb : Below w.heap.size w W) => h.below hb)
  obtain ⟨R, hR⟩ : ∃ R, R = symO l L vals := ⟨_, rfl⟩
  rw [← hR]
  have HR := hid hR
  have HHAS := hid (has_any (.slice sa sn sc) mv vals 4 W HH.out.map (by decide) (by decide) sa sn sc rfl)
  obtain ⟨x0, x1⟩ := HRA.out.two
  obtain ⟨y0, y1⟩ := HRB.out.two
  clear hW hR h
  go_enter Tryd.func54, Tryd.ntmps54
  go_wp2_with fail
  rw [← HW.out]
  go_wp2_with fail
  refine HHAS.out.mono ?_
  rintro e' w1 ⟨rfl, hb1⟩
  have HB1 := hid (HLOW.out.trans (hb1.mono HLOW.out.size))
  have HRA1 := hid (HRA.out.below hb1 HRA.out.lt)
  have HRB1 := hid (HRB.out.below hb1 HRB.out.lt)
  have HRC1 := hid (HRC.out.below hb1 HRC.out.lt)
  have HH1 := hid (HH.out.below hb1)
  clear hb1 x0 x1 y0 y1
  obtain ⟨x0, x1⟩ := HRA1.out.two
  obtain ⟨y0, y1⟩ := HRB1.out.two
  obtain ⟨z0, z1⟩ := HRC1.out.two
  have f0 := HRC1.out.frozen 0
  have f1 := HRC1.out.frozen 1
  have hzl := HRC1.out.lt
  cases h4 : (lk vals 4).isSome
  · have HF := hid (show R = .inr ⟨[], [], []⟩ by rw [HR.out]; unfold symO; rw [h4, if_neg (by decide)])
    clear h4
    go_wp2_with fail
    refine bodyPost_ret (v := .tuple #[.agg #[.slice none 0 0, .slice none 0 0], .slice none 0 0, .int .i64 0]) (by simp [results, Tryd.results54, Tryd.f54, go_sem, z0, z1, hzl]) rfl ⟨.inr ⟨⟨[], [], []⟩, .slice none 0 0, .slice none 0 0, .slice none 0 0, HF.out, rfl, ⟨rfl, .inl ⟨rfl, rfl⟩⟩, ⟨rfl, .inl ⟨rfl, rfl⟩⟩, ⟨rfl, .inl ⟨rfl, rfl⟩⟩⟩, ?_⟩
    exact bset (bset HB1.out (by omega) _) (by omega) _
  have HF := hid (show R = (match laidO l.length L (vv vals 4) 8 with | none => .inl 25 | some f => symF l L vals (wgetV l f 4) (wgetV l (f + 4) 4)) by rw [HR.out]; unfold symO; rw [h4, if_pos rfl])
  clear h4
  have hg4 := HH1.out.map.getU 4 (by decide) (by decide)
  change _ = Result.ok (Value.int .u64 (vv vals 4)) _ at hg4
  have v4 := HH1.out.vok.v 4
  have HV4 := hid v4
  have HLD := hid (laid_any ab l.length cap la lc L (vv vals 4) 8 w1 HH1.out.hl HH1.out.segs HH1.out.hn HH1.out.sok v4.1 v4.2 (by decide))
  obtain ⟨P, hP⟩ : ∃ P, P = laidO l.length L (vv vals 4) 8 := ⟨_, rfl⟩
  have HPI := hid (fun p (h : P = some p) => laidO_in (hP.symm.trans h))
  rw [← hP] at HLD HF
  clear v4 hP
  go_wp2_with fail
  refine HLD.out.mono ?_
  rintro e' w2 ⟨rfl, hb2⟩
  have HB2 := hid (HB1.out.trans (hb2.mono HB1.out.size))
  have HRA2 := hid (HRA1.out.below hb2 HRA1.out.lt)
  have HRB2 := hid (HRB1.out.below hb2 HRB1.out.lt)
  have HRC2 := hid (HRC1.out.below hb2 HRC1.out.lt)
  have HH2 := hid (HH1.out.below hb2)
  clear hb2 x0 x1 y0 y1 z0 z1 f0 f1 hzl hg4
  obtain ⟨x0, x1⟩ := HRA2.out.two
  obtain ⟨y0, y1⟩ := HRB2.out.two
  obtain ⟨z0, z1⟩ := HRC2.out.two
  have f0 := HRC2.out.frozen 0
  have f1 := HRC2.out.frozen 1
  have hzl := HRC2.out.lt
  unfold lres
  cases P
  · have HG := hid (show R = .inl 25 from HF.out)
    go_wp2_with fail
    refine bodyPost_ret (v := .tuple #[.agg #[.slice none 0 0, .slice none 0 0], .slice none 0 0, .int .i64 25]) (by simp [results, Tryd.results54, Tryd.f54, go_sem, z0, z1, hzl]) rfl ⟨.inl ⟨25, HG.out, by decide, rfl⟩, ?_⟩
    exact bset (bset HB2.out (by omega) _) (by omega) _
  rename_i f
  have HPF := hid (HPI.out f rfl)
  have HG := hid (show R = symF l L vals (wgetV l f 4) (wgetV l (f + 4) 4) from HF.out)
  have ewf := IntWalk.u64_in (f + 4) ⟨by have := HPF.out; omega, by have := HPF.out; have := HH2.out.hl; omega⟩
  have HN1 := hid (fun n => number_any ab l.length cap f 4 l (w2.drewN n) (HRS.out _ (bdN HB2.out n)).sz (by have := HH2.out.hl; omega) (HRS.out _ (bdN HB2.out n)).byt HPF.out.1)
  have HN2 := hid (fun n => number_any ab l.length cap (f + 4) 4 l (w2.drewN n) (HRS.out _ (bdN HB2.out n)).sz (by have := HH2.out.hl; omega) (HRS.out _ (bdN HB2.out n)).byt (by have := HPF.out; omega))
  have hnb : 0 ≤ wgetV l f 4 ∧ wgetV l f 4 ≤ 4294967295 := ⟨wget_u, wg4⟩
  have hnc : 0 ≤ wgetV l (f + 4) 4 ∧ wgetV l (f + 4) 4 ≤ 4294967295 := ⟨wget_u, wg4⟩
  generalize wgetV l f 4 = nb at *
  generalize wgetV l (f + 4) 4 = nc at *
  have HNB := hid hnb
  have HNC := hid hnc
  have HBL := hid (fun n => bdN HB2.out n)
  clear hnb hnc HF
  go_wp2_with fail
  go_quiet ((go_at_call 63; first | with_reducible exact Calls.quiet_of_same ((HN1.out _).mono (fun _ _ h => ⟨h.1, h.2.symm⟩)) | with_reducible exact Calls.quiet_of_same ((HN2.out _).mono (fun _ _ h => ⟨h.1, h.2.symm⟩)) | fail))
  have HB3 := hid (HBL.out nq)
  have HRA3 := hid (HRA2.out.drewN nq)
  have HRB3 := hid (HRB2.out.drewN nq)
  have HRC3 := hid (HRC2.out.drewN nq)
  have HH3 := hid (HH2.out.below (bdN (Below.refl _ _) nq))
  generalize World.drewN w2 nq = w3 at HB3 HRA3 HRB3 HRC3 HH3 ⊢
  clear x0 x1 y0 y1 z0 z1 f0 f1 hzl
  obtain ⟨x0, x1⟩ := HRA3.out.two
  obtain ⟨y0, y1⟩ := HRB3.out.two
  obtain ⟨z0, z1⟩ := HRC3.out.two
  have f0 := HRC3.out.frozen 0
  have f1 := HRC3.out.frozen 1
  have hzl := HRC3.out.lt
  by_cases hbig : 65 < nc
  · have d1 : decide ((65 : Int) < nc) = true := by simp; omega
    have HE := hid (show R = .inl 12 by rw [HG.out]; unfold symF; rw [if_pos hbig])
    clear hbig
    go_wp2_with fail
    refine bodyPost_ret (v := .tuple #[.agg #[.slice none 0 0, .slice none 0 0], .slice none 0 0, .int .i64 12]) (by simp [results, Tryd.results54, Tryd.f54, go_sem, z0, z1, hzl]) rfl ⟨.inl ⟨12, HE.out, by decide, rfl⟩, ?_⟩
    exact bset (bset HB3.out (by omega) _) (by omega) _
  have d1 : decide ((65 : Int) < nc) = false := by simp; omega
  have HG2 := hid (show R = (match laidO l.length L (vv vals 4) (8 + 4 * (nb + nc)), laidO l.length L (vv vals 6) (24 * nc) with | some p, some q => .inr (symT l nb nc p q) | _, _ => .inl 25) by rw [HG.out]; unfold symF; rw [if_neg hbig])
  have HNC2 := hid (show nc ≤ 65 by omega)
  have hnb := HNB.out
  have hnc := HNC.out
  have ew1 := IntWalk.u64_in (nb + nc) ⟨by omega, by omega⟩
  have ew2 := IntWalk.u64_in (4 * (nb + nc)) ⟨by omega, by omega⟩
  have ew3 := IntWalk.u64_in (8 + 4 * (nb + nc)) ⟨by omega, by omega⟩
  have ew4 := IntWalk.u64_in (24 * nc) ⟨by omega, by omega⟩
  have v4 := HH3.out.vok.v 4
  have v6 := HH3.out.vok.v 6
  have HLD2 := hid (laid_any ab l.length cap la lc L (vv vals 4) (8 + 4 * (nb + nc)) w3 HH3.out.hl HH3.out.segs HH3.out.hn HH3.out.sok v4.1 v4.2 (by omega))
  obtain ⟨P, hP⟩ : ∃ P, P = laidO l.length L (vv vals 4) (8 + 4 * (nb + nc)) := ⟨_, rfl⟩
  have HPI2 := hid (fun p (h : P = some p) => laidO_in (hP.symm.trans h))
  rw [← hP] at HLD2 HG2
  clear v4 hP hbig hnb hnc
  go_wp2_with fail
  refine HLD2.out.mono ?_
  rintro e' w4 ⟨rfl, hb4⟩
  have HB4 := hid (HB3.out.trans (hb4.mono HB3.out.size))
  have HRA4 := hid (HRA3.out.below hb4 HRA3.out.lt)
  have HRB4 := hid (HRB3.out.below hb4 HRB3.out.lt)
  have HRC4 := hid (HRC3.out.below hb4 HRC3.out.lt)
  have HH4 := hid (HH3.out.below hb4)
  clear hb4 x0 x1 y0 y1 z0 z1 f0 f1 hzl ew1 ew2 ew3
  obtain ⟨x0, x1⟩ := HRA4.out.two
  obtain ⟨y0, y1⟩ := HRB4.out.two
  have hg6 := HH4.out.map.getU 6 (by decide) (by decide)
  change _ = Result.ok (Value.int .u64 (vv vals 6)) _ at hg6
  have HLD3 := hid (laid_any ab l.length cap la lc L (vv vals 6) (24 * nc) w4 HH4.out.hl HH4.out.segs HH4.out.hn HH4.out.sok v6.1 v6.2 (by have := HNC.out; omega))
  obtain ⟨Q, hQ⟩ : ∃ Q, Q = laidO l.length L (vv vals 6) (24 * nc) := ⟨_, rfl⟩
  have HQI := hid (fun p (h : Q = some p) => laidO_in (hQ.symm.trans h))
  rw [← hQ] at HLD3 HG2
  clear v6 hQ
  unfold lres
  obtain ⟨PV, hPV⟩ : ∃ PV, PV = P.getD 0 := ⟨_, rfl⟩
  obtain ⟨PB, hPB⟩ : ∃ PB, PB = P.isSome := ⟨_, rfl⟩
  have HPV := hid hPV
  have HPB := hid hPB
  rw [← hPV, ← hPB]
  clear hPV hPB
  go_wp2_with fail
  refine HLD3.out.mono ?_
  rintro e' w5 ⟨rfl, hb5⟩
  have HB5 := hid (HB4.out.trans (hb5.mono HB4.out.size))
  have HRA5 := hid (HRA4.out.below hb5 HRA4.out.lt)
  have HRC5 := hid (HRC4.out.below hb5 HRC4.out.lt)
  have HH5 := hid (HH4.out.below hb5)
  clear hb5 x0 x1 y0 y1 hg6 ew4
  obtain ⟨x0, x1⟩ := HRA5.out.two
  obtain ⟨z0, z1⟩ := HRC5.out.two
  have f0 := HRC5.out.frozen 0
  have f1 := HRC5.out.frozen 1
  have hzl := HRC5.out.lt
  cases P
  · have HE := hid (show R = .inl 25 from HG2.out)
    rw [HPB.out]
    clear HPV HPB
    unfold lres
    go_wp2_with fail
    refine bodyPost_ret (v := .tuple #[.agg #[.slice none 0 0, .slice none 0 0], .slice none 0 0, .int .i64 25]) (by simp [results, Tryd.results54, Tryd.f54, go_sem, z0, z1, hzl]) rfl ⟨.inl ⟨25, HE.out, by decide, rfl⟩, ?_⟩
    exact bset (bset HB5.out (by omega) _) (by omega) _
  rename_i p
  rw [HPB.out, HPV.out]
  clear HPV HPB
  cases Q
  · have HE := hid (show R = .inl 25 from HG2.out)
    unfold lres
    go_wp2_with fail
    refine bodyPost_ret (v := .tuple #[.agg #[.slice none 0 0, .slice none 0 0], .slice none 0 0, .int .i64 25]) (by simp [results, Tryd.results54, Tryd.f54, go_sem, z0, z1, hzl]) rfl ⟨.inl ⟨25, HE.out, by decide, rfl⟩, ?_⟩
    exact bset (bset HB5.out (by omega) _) (by omega) _
  rename_i q
  have HE := hid (show R = .inr (symT l nb nc p q) from HG2.out)
  have hp := HPI2.out p rfl
  have hq := HQI.out q rfl
  have hll := HH5.out.hl
  obtain ⟨NB, rfl⟩ := Int.eq_ofNat_of_zero_le HNB.out.1
  obtain ⟨NC, rfl⟩ := Int.eq_ofNat_of_zero_le HNC.out.1
  have ew1 := IntWalk.u64_in (p + 8) ⟨by omega, by omega⟩
  have ew2 := IntWalk.u64_in (4 * (NB : Int)) ⟨by omega, by omega⟩
  have ew3 := IntWalk.u64_in (p + 8 + 4 * (NB : Int)) ⟨by omega, by omega⟩
  have HR1 := hid (fun ww (hs : SH w w.heap.size (w.heap.size + 1 + 1) [.slice ab l.length cap, .slice la L.length lc] ww) => rowsU_any ab l.length cap l (p + 8) NB ww (HRS.out ww hs.low).sz HH5.out.hl (HRS.out ww hs.low).byt (by omega) (by omega))
  have HR2 := hid (fun ww (hs : SH w w.heap.size (w.heap.size + 1 + 1) [.slice ab l.length cap, .slice la L.length lc] ww) => rowsU_any ab l.length cap l (p + 8 + 4 * (NB : Int)) NC ww (HRS.out ww hs.low).sz HH5.out.hl (HRS.out ww hs.low).byt (by omega) (by omega))
  have HR3 := hid (fun ww (hs : SH w w.heap.size (w.heap.size + 1 + 1) [.slice ab l.length cap, .slice la L.length lc] ww) => rowsS_any ab l.length cap l q NC ww (HRS.out ww hs.low).sz HH5.out.hl (HRS.out ww hs.low).byt (by omega) (by omega))
  have HSH := hid (show SH w w.heap.size (w.heap.size + 1 + 1) [.slice ab l.length cap, .slice la L.length lc] w5 from ⟨HB5.out, HRA5.out, ⟨_, _, HRC5.out⟩, by omega, by omega⟩)
  have HOU := hid (fun W base v xs (h : OwnU W base v xs) => ownU_open h)
  have HOY := hid (fun W base v xs (h : OwnY W base v xs) => ownY_open h)
  clear x0 x1 z0 z1 f0 f1 hzl hp hq hll
  unfold lres
  go_wp2_with fail
  have e0 : ∀ ww, SH w w.heap.size (w.heap.size + 1 + 1) [.slice ab l.length cap, .slice la L.length lc] ww → ww.cell? ⟨w.heap.size, 0, none⟩ = some (.slice ab l.length cap) := fun ww h => h.rd.two.1
  have g0 : ∀ ww, SH w w.heap.size (w.heap.size + 1 + 1) [.slice ab l.length cap, .slice la L.length lc] ww → ww.cell? ⟨w.heap.size + 1 + 1, 0, none⟩ = some (c0V (w.heap.size + 1 + 1) 0 ww) := fun ww h => h.c0
  have g1 : ∀ ww, SH w w.heap.size (w.heap.size + 1 + 1) [.slice ab l.length cap, .slice la L.length lc] ww → ww.cell? ⟨w.heap.size + 1 + 1, 1, none⟩ = some (c0V (w.heap.size + 1 + 1) 1 ww) := fun ww h => h.c1
  have j0 : ∀ ww, SH w w.heap.size (w.heap.size + 1 + 1) [.slice ab l.length cap, .slice la L.length lc] ww → ww.frozen? ⟨w.heap.size + 1 + 1, 0, none⟩ = false := fun ww h => h.fz 0
  have j1 : ∀ ww, SH w w.heap.size (w.heap.size + 1 + 1) [.slice ab l.length cap, .slice la L.length lc] ww → ww.frozen? ⟨w.heap.size + 1 + 1, 1, none⟩ = false := fun ww h => h.fz 1
  go_region_held3 (SH w w.heap.size (w.heap.size + 1 + 1) [.slice ab l.length cap, .slice la L.length lc]) (first | exact HSH.out.drew | exact HS1.out | exact HS2.out | exact HS3.out | assumption | exact SH.set1 (SH.set0 (by assumption) _) _ | exact SH.set0 (by assumption) _) (first | (go_at_call 65; with_reducible refine ((HR1.out _ (by assumption)).mono ?_); rintro e' wx1 ⟨v1, rfl, ho1, hb1⟩; obtain ⟨a1, k1, rfl⟩ := HOU.out _ _ _ _ ho1; have HO1 := hid ho1; have HS1 : Hid (SH w w.heap.size (w.heap.size + 1 + 1) [.slice ab l.length cap, .slice la L.length lc] wx1) := hid (SH.call (by assumption) hb1); clear ho1) | (go_at_call 65; with_reducible refine ((HR2.out _ (by assumption)).mono ?_); rintro e' wx2 ⟨v2, rfl, ho2, hb2⟩; obtain ⟨a2, k2, rfl⟩ := HOU.out _ _ _ _ ho2; have HO2 := hid ho2; have HS2 : Hid (SH w w.heap.size (w.heap.size + 1 + 1) [.slice ab l.length cap, .slice la L.length lc] wx2) := hid (SH.call (by assumption) hb2); clear ho2) | (go_at_call 67; with_reducible refine ((HR3.out _ (by assumption)).mono ?_); rintro e' wx3 ⟨v3, rfl, ho3, hb3⟩; obtain ⟨a3, k3, rfl⟩ := HOY.out _ _ _ _ ho3; have HO3 := hid ho3; have HS3 : Hid (SH w w.heap.size (w.heap.size + 1 + 1) [.slice ab l.length cap, .slice la L.length lc] wx3) := hid (SH.call (by assumption) hb3); clear ho3))
  obtain ⟨ru, rv, hrow⟩ := HS3.out.res
  have z0 := HS3.out.c0
  have z1 := HS3.out.c1
  have hzl := HS3.out.lt
  have HP1 := hid (own_from (own_below (own_below HO1.out hb2) hb3) (base' := w.heap.size) HB5.out.size)
  have HP2 := hid (own_from (own_below HO2.out hb3) (base' := w.heap.size) HS1.out.low.size)
  have HP3 := hid (own_from HO3.out (base' := w.heap.size) HS2.out.low.size)
  have HROW := hid hrow
  have HLW := hid HS3.out.low
  clear hrow hb1 hb2 hb3 e0 g0 g1 j0 j1
  go_wp2_with fail
  refine bodyPost_ret (v := .tuple #[.agg #[.slice a1 (rowsL (lnkG l) (p + 8) 4 NB).length k1, .slice a2 (rowsL (lnkG l) (p + 8 + 4 * (NB : Int)) 4 NC).length k2], .slice a3 (rowsL (symG l) q 24 NC).length k3, .int .i64 0]) (by simp [results, Tryd.results54, Tryd.f54, go_sem, z0, z1, hzl]) rfl ⟨.inr ⟨_, _, _, _, HE.out, rfl, ?_, ?_, ?_⟩, ?_⟩
  · have n1 := own_row_ne HP1.out HROW.out (by decide)
    exact own_setOther (own_setOther HP1.out n1 _) n1 _
  · have n1 := own_row_ne HP2.out HROW.out (by decide)
    exact own_setOther (own_setOther HP2.out n1 _) n1 _
  · exact own_setOther (own_setOther HP3.out (own_ne_row HP3.out HROW.out (by decide)) _) (own_ne_row HP3.out HROW.out (by decide)) _
  · exact bset (bset HLW.out (by omega) _) (by omega) _
end Go.Proofs.YtkkadknijjninaaDoor
