
/- dynamic: a section's texts. -/
import Derived.Test.YtkkadknijjninaaDoorQb0
import Derived.Test.YtkkadknijjninaaDoorKE
namespace Go.Proofs.YtkkadknijjninaaDoor
open Go.RowKit Go.Sort Go.Shelf Go.WideMaps Go.Maps
attribute [local go_sem] Oper.semAt_some

def namK (t : BL) (nd : List Int) : Option (List BL) := nd.foldl (fun o p => o.bind fun ts => (textO t p).map fun x => ts ++ [x]) (some [])
theorem namK_snoc (t : BL) (nd : List Int) (p : Int) : namK t (nd ++ [p]) = (namK t nd).bind fun ts => (textO t p).map fun x => ts ++ [x] := by simp [namK, List.foldl_append]
theorem namK_none {t : BL} {nd : List Int} {k : Nat} (h : namK t (nd.take k) = none) : namK t nd = none := by
  have e : nd = nd.take k ++ nd.drop k := (List.take_append_drop k nd).symm
  have key : ∀ (ys : List Int), ys.foldl (fun (o : Option (List BL)) p => o.bind fun ts => (textO t p).map fun x => ts ++ [x]) none = none := by
    intro ys
    induction ys with
    | nil => rfl
    | cons y ys ih => exact ih
  rw [e]
  unfold namK at *
  rw [List.foldl_append, h]
  exact key _
theorem namK_len {t : BL} {nd : List Int} {ts : List BL} (h : namK t nd = some ts) : ts.length = nd.length := by
  rcases nd.eq_nil_or_concat with rfl | ⟨e, x, rfl⟩
  · cases h; rfl
  · rw [List.concat_eq_append, namK_snoc] at h
    cases hg : namK t e with
    | none => rw [hg] at h; cases h
    | some us =>
      rw [hg] at h
      have h1 := namK_len hg
      have h2 : (textO t x).map (fun y => us ++ [y]) = some ts := h
      cases hx : textO t x with
      | none => rw [hx] at h2; cases h2
      | some y =>
        rw [hx] at h2
        cases h2
        rw [List.concat_eq_append, List.length_append, List.length_append, h1]
        rfl
termination_by nd.length
decreasing_by simp_all
/-- The texts under three tags. -/
def namT (t : BL) (vals : EL) : Nat → Option (BL × BL)
  | 0 => some ([], [])
  | k + 1 => match namT t vals k with
    | none => none
    | some s => match lk vals (if k = 0 then 14 else if k = 1 then 15 else 29) with
      | none => some s
      | some p => match textO t p with
        | none => none
        | some x => if k = 0 then some (x, s.2) else some (s.1, x)
theorem namT_up {t : BL} {vals : EL} {k : Nat} (h : namT t vals k = none) : namT t vals (k + 1) = none := by
  rw [namT, h]
theorem namT_no {t : BL} {vals : EL} {k : Nat} (h : namT t vals (k + 1) = none) (hk : k < 3) : namT t vals 3 = none := by
  rcases (show k = 0 ∨ k = 1 ∨ k = 2 by omega) with rfl | rfl | rfl
  · exact namT_up (namT_up h)
  · exact namT_up h
  · exact h
def namO (t : BL) (nd : List Int) (vals : EL) : Option (List BL × BL × BL) := match namK t nd with
  | none => none
  | some ts => match namT t vals 3 with
    | none => none
    | some s => some (ts, s.1, s.2)
structure NamP (R : Option (List BL × BL × BL)) (ob : Nat) (c3 c4 c5 c6 : Value) (w : World) (e : Ending) (w' : World) : Prop where
  ex : (R = none ∧ e = .returned (.int .i64 25)) ∨ (∃ r v, R = some r ∧ e = .returned (.int .i64 0) ∧ Row w' ob 60 [v, .string (ba r.2.1), .string (ba r.2.2), c3, c4, c5, c6] ∧ OwnS w' w.heap.size v r.1)
  low : X1 w w' ob
theorem iy0 (w : World) : (Instr.index 148 (.agg #[.int .u64 14, .int .u64 15, .int .u64 29]) (.int .i64 0)).run Tryd.prog w = .ok (.int .u64 14) w := by kernel_rfl
theorem iy1 (w : World) : (Instr.index 148 (.agg #[.int .u64 14, .int .u64 15, .int .u64 29]) (.int .i64 1)).run Tryd.prog w = .ok (.int .u64 15) w := by kernel_rfl
theorem iy2 (w : World) : (Instr.index 148 (.agg #[.int .u64 14, .int .u64 15, .int .u64 29]) (.int .i64 2)).run Tryd.prog w = .ok (.int .u64 29) w := by kernel_rfl
/-- What the loops keep. -/
structure NM (w : World) (ob : Nat) (c3 c4 c5 c6 : Value) (sv : Value) (ts : List BL) (sn rn : BL) (W : World) : Prop where
  row : Row W ob 60 [sv, .string (ba sn), .string (ba rn), c3, c4, c5, c6]
  own : OwnS W w.heap.size sv ts
  low : X1 w W ob
  lt : ob < w.heap.size
section
variable {w W W' : World} {ob : Nat} {c3 c4 c5 c6 sv : Value} {ts : List BL} {sn rn : BL}
theorem NM.below (h : NM w ob c3 c4 c5 c6 sv ts sn rn W) (hb : Below W.heap.size W W') : NM w ob c3 c4 c5 c6 sv ts sn rn W' := ⟨h.row.below hb h.row.lt, own_below h.own hb, h.low.trans (X1.of ob hb), h.lt⟩
theorem NM.app (h : NM w ob c3 c4 c5 c6 sv ts sn rn W) (x : BL) {v' : Value} {o : Obj} (ho : W'.ownsRow w.heap.size 9 1 v' (ts.length + 1) (strs (ts ++ [x]))) (hg : (W.alloc o).grownBy W' sv.ownBlock) :
    NM w ob c3 c4 c5 c6 v' (ts ++ [x]) sn rn (W'.setCell ⟨ob, 0, none⟩ v') := by
  have h1 := h.below (bal o)
  have r1 := h1.row.grown hg (own_row_ne h1.own h1.row (by decide))
  refine ⟨r1.set 0 v', ?_, ?_, h.lt⟩
  · have := own_setOther ho (own_row_ne ho r1 (by decide)) v' (o := 0)
    exact ownS_of this rfl
  · have hl : Below w.heap.size (W.alloc o) W' := (Below.refl _ _).grown hg (h1.low.size) (fun k hk => own_low h1.own (Nat.le_refl _) k hk)
    exact (h1.low.then hl).set 0 v'
theorem NM.set1 (h : NM w ob c3 c4 c5 c6 sv ts sn rn W) (x : BL) : NM w ob c3 c4 c5 c6 sv ts x rn (W.setCell ⟨ob, 1, none⟩ (.string (ba x))) :=
  ⟨h.row.set 1 _, own_setOther h.own (own_row_ne h.own h.row (by decide)) _, h.low.set 1 _, h.lt⟩
theorem NM.set2 (h : NM w ob c3 c4 c5 c6 sv ts sn rn W) (x : BL) : NM w ob c3 c4 c5 c6 sv ts sn x (W.setCell ⟨ob, 2, none⟩ (.string (ba x))) :=
  ⟨h.row.set 2 _, own_setOther h.own (own_row_ne h.own h.row (by decide)) _, h.low.set 2 _, h.lt⟩
end
theorem Nums.x1 {w w' : World} {k : IntKind} {a : Option Addr} {len r : Nat} {l : List Int} (h : Nums w k a len l) (hx : X1 w w' r) (hne : 0 < l.length → ∀ b, a = some b → b.block ≠ r) : Nums w' k a len l :=
  ⟨h.hlen, fun i hi => by
    obtain ⟨b, off, e, h1⟩ := h.cell i hi
    refine ⟨b, off, e, ?_⟩
    have hlt := World.block_lt_of_cell? w _ h1
    have := hx.block b hlt (by have := hne (by omega) _ e; exact this)
    unfold World.cell? at h1 ⊢
    rw [this]; exact h1⟩
theorem Byt.x1 {w w' : World} {a : Option Addr} {len r : Nat} {l : BL} (h : Byt w a len l) (hx : X1 w w' r) (hne : 0 < l.length → ∀ b, a = some b → b.block ≠ r) : Byt w' a len l :=
  ⟨h.hlen, fun i hi => by
    obtain ⟨b, off, e, h1⟩ := h.cell i hi
    refine ⟨b, off, e, ?_⟩
    have hlt := World.block_lt_of_cell? w _ h1
    have := hx.block b hlt (by have := hne (by omega) _ e; exact this)
    unfold World.cell? at h1 ⊢
    rw [this]; exact h1⟩
set_option maxRecDepth 100000 in
set_option maxHeartbeats 16000000 in
theorem named_any (na : Option Addr) (nc : Nat) (nd : List Int) (mv : Nat) (vals : EL) (ob : Nat) (c3 c4 c5 c6 : Value) (ta : Option Addr) (tn tc : Nat) (t : BL) (w : World)
    (hN : Nums w .u64 na nd.length nd) (hnl : nd.length ≤ 8) (hnu : ∀ x ∈ nd, 0 ≤ x ∧ x ≤ 18446744073709551615) (hM : MM meU w mv vals) (hV : ValOk vals) (hO : Row w ob 60 [.slice none 0 0, .string ⟨#[]⟩, .string ⟨#[]⟩, c3, c4, c5, c6])
    (hT : Byt w ta tn t) (htc : tn ≤ tc) (htn : tn ≤ 1000000000) (hna : 0 < nd.length → ∀ b, na = some b → b.block ≠ ob) (hta : 0 < t.length → ∀ b, ta = some b → b.block ≠ ob) :
    Calls Tryd.prog 56 #[.agg #[.slice na nd.length nc, .map (some mv)], .pointer (some ⟨ob, 0, none⟩), .slice ta tn tc] w (NamP (namO t nd vals) ob c3 c4 c5 c6 w) := by
  obtain ⟨W, hW⟩ : ∃ W, W = w.alloc (.cells #[.slice na nd.length nc, .map (some mv)] 85) := ⟨_, rfl⟩
  have HW := hid hW
  have hoblt := hO.lt
  have HWZ := hid (show W.heap.size = w.heap.size + 1 by rw [hW, World.size_alloc])
  have HNM := hid (show NM W ob c3 c4 c5 c6 (.slice none 0 0) [] [] [] W from by
    have hr : Row w ob 60 [.slice none 0 0, .string (ba []), .string (ba []), c3, c4, c5, c6] := hO
    refine ⟨?_, ownS_nil _ _, X1.refl _ _, by rw [HWZ.out]; omega⟩
    rw [hW]
    exact hr.alloc _)
  have HLOW := hid (show Below w.heap.size w W by rw [hW]; exact bal _)
  have HX0 := hid (fun (wr : World) (hx : X1 W wr ob) => show X1 w wr ob from (X1.of ob HLOW.out).trans hx)
  have HRS := hid (show Row W w.heap.size 85 [.slice na nd.length nc, .map (some mv)] by rw [hW]; exact Row.new _ _ _)
  have HNE := hid (show w.heap.size ≠ ob from by omega)
  have HNU := hid hnu
  have HNL := hid hnl
  have HV := hid hV
  have HTX := hid (fun (W : World) (hx : X1 w W ob) (p : Int) (h0 : 0 ≤ p) (h1 : p ≤ 18446744073709551615) => text_any ta tn tc t p W (hT.x1 hx hta) htc htn h0 h1)
  have HNX := hid (fun (W : World) (hx : X1 w W ob) => hN.x1 hx hna)
  have HMX := hid (fun (W : World) (hx : X1 w W ob) => show MM meU W mv vals from hM.same (hx.block mv hM.lt (by
    intro e
    exact row_mm hO hM e.symm)))
  obtain ⟨R, hR⟩ : ∃ R, R = namO t nd vals := ⟨_, rfl⟩
  rw [← hR]
  have HR := hid hR
  obtain ⟨y0, y1⟩ := HRS.out.two
  clear hW hN hnu hM hV hO hT htc htn hna hta hR hnl hoblt
  go_enter Tryd.func56, Tryd.ntmps56
  go_wp2_with fail
  rw [← HW.out]
  go_wp2_with fail
  clear y0 y1
  go_loopw [20] (fun i wr => ∃ (k : Nat) (sv : Value) (ts : List BL), k ≤ nd.length ∧ i = .int .i64 k ∧ namK t (nd.take k) = some ts ∧ NM W ob c3 c4 c5 c6 sv ts [] [] wr) (fun i _ => nd.length - (intOf i).toNat)
  case atStart => exact ⟨0, _, _, Nat.zero_le _, rfl, rfl, HNM.out⟩
  case round =>
    obtain ⟨k, sv, ts, hk, rfl, hts, hnm⟩ := hrel
    have HNMr := hid hnm
    have HTS := hid hts
    have hnl := HNL.out
    clear hts
    by_cases hlt : k < nd.length
    rotate_left
    · have d1 : decide ((k : Int) < (nd.length : Int)) = false := by simp; omega
      have d1n : decide (k < nd.length) = false := by simp; omega
      have HK := hid (show namK t nd = some ts by
        obtain rfl : k = nd.length := by omega
        have := HTS.out
        rwa [List.take_length] at this)
      clear hnl hnm hlt hk
      have hi0 := iy0
      have hi1 := iy1
      have hi2 := iy2
      go_wp2_with fail
      go_loopw [44] (fun i wr => ∃ (k : Nat) (sn rn : BL), k ≤ 3 ∧ i = .int .i64 k ∧ namT t vals k = some (sn, rn) ∧ NM W ob c3 c4 c5 c6 sv ts sn rn wr) (fun i _ => 3 - (intOf i).toNat)
      case atStart => exact ⟨0, [], [], by decide, rfl, rfl, HNMr.out⟩
      case round =>
        obtain ⟨k2, sn, rn, hk2, rfl, hst, hnm⟩ := hrel
        have HNMr := hid hnm
        rcases (show k2 = 0 ∨ k2 = 1 ∨ k2 = 2 ∨ k2 = 3 by omega) with rfl | rfl | rfl | rfl
        · have HLK := (HMX.out wr (HX0.out wr hnm.low)).lookU 14 (by decide) (by decide)
          obtain ⟨y0, y1⟩ := (hnm.low.row HRS.out HNE.out).two
          have hsl := (hnm.low.row HRS.out HNE.out).lt
          have HSTP := hid (show namT t vals (0 + 1) = (match lk vals 14 with | none => some (sn, rn) | some p => match textO t p with | none => none | some x => some (x, rn)) from by
            rw [namT, hst]
            rfl)
          cases hl : lk vals 14
          · have HG := hid (show namT t vals (0 + 1) = some (sn, rn) by rw [HSTP.out, hl])
            rw [hl] at HLK
            clear hl hnm hst
            go_wp2_with fail
            go_roundw
            case rel => exact ⟨0 + 1, sn, rn, by decide, by go_num, HG.out, HNMr.out⟩
            case measure => decide
          rename_i p
          have HPU := hid (HV.out.ok _ (lk_mem hl))
          have HST2 := hid (show namT t vals (0 + 1) = (match textO t p with | none => none | some x => some (x, rn)) by rw [HSTP.out, hl])
          rw [hl] at HLK
          have HTXT := hid (HTX.out wr (HX0.out wr hnm.low) p HPU.out.1 HPU.out.2)
          obtain ⟨T, hT⟩ : ∃ T, T = textO t p := ⟨_, rfl⟩
          rw [← hT] at HTXT HST2
          have fz1 := hnm.row.frozen 1
          have q1 := hnm.row.cell' 1
          have hob := hnm.row.lt
          clear hl hT hnm hst
          go_wp2_with fail
          refine HTXT.out.mono ?_
          rintro e' w2 ⟨rfl, rfl⟩
          unfold tres
          cases T
          · have HF := hid (show R = none by rw [HR.out]; unfold namO; rw [HK.out]; simp only; rw [namT_no (k := 0) HST2.out (by decide)])
            go_wp2_with fail
            go_ret
            exact ⟨.inl ⟨HF.out, rfl⟩, HX0.out _ HNMr.out.low⟩
          rename_i x
          go_wp2_with fail
          go_roundw
          case rel => exact ⟨0 + 1, _, _, by decide, by go_num, HST2.out, HNMr.out.set1 x⟩
          case measure => decide
        · have HLK := (HMX.out wr (HX0.out wr hnm.low)).lookU 15 (by decide) (by decide)
          obtain ⟨y0, y1⟩ := (hnm.low.row HRS.out HNE.out).two
          have hsl := (hnm.low.row HRS.out HNE.out).lt
          have HSTP := hid (show namT t vals (1 + 1) = (match lk vals 15 with | none => some (sn, rn) | some p => match textO t p with | none => none | some x => some (sn, x)) from by
            rw [namT, hst]
            rfl)
          cases hl : lk vals 15
          · have HG := hid (show namT t vals (1 + 1) = some (sn, rn) by rw [HSTP.out, hl])
            rw [hl] at HLK
            clear hl hnm hst
            go_wp2_with fail
            go_roundw
            case rel => exact ⟨1 + 1, sn, rn, by decide, by go_num, HG.out, HNMr.out⟩
            case measure => decide
          rename_i p
          have HPU := hid (HV.out.ok _ (lk_mem hl))
          have HST2 := hid (show namT t vals (1 + 1) = (match textO t p with | none => none | some x => some (sn, x)) by rw [HSTP.out, hl])
          rw [hl] at HLK
          have HTXT := hid (HTX.out wr (HX0.out wr hnm.low) p HPU.out.1 HPU.out.2)
          obtain ⟨T, hT⟩ : ∃ T, T = textO t p := ⟨_, rfl⟩
          rw [← hT] at HTXT HST2
          have fz1 := hnm.row.frozen 2
          have q1 := hnm.row.cell' 2
          have hob := hnm.row.lt
          clear hl hT hnm hst
          go_wp2_with fail
          refine HTXT.out.mono ?_
          rintro e' w2 ⟨rfl, rfl⟩
          unfold tres
          cases T
          · have HF := hid (show R = none by rw [HR.out]; unfold namO; rw [HK.out]; simp only; rw [namT_no (k := 1) HST2.out (by decide)])
            go_wp2_with fail
            go_ret
            exact ⟨.inl ⟨HF.out, rfl⟩, HX0.out _ HNMr.out.low⟩
          rename_i x
          go_wp2_with fail
          go_roundw
          case rel => exact ⟨1 + 1, _, _, by decide, by go_num, HST2.out, HNMr.out.set2 x⟩
          case measure => decide
        · have HLK := (HMX.out wr (HX0.out wr hnm.low)).lookU 29 (by decide) (by decide)
          obtain ⟨y0, y1⟩ := (hnm.low.row HRS.out HNE.out).two
          have hsl := (hnm.low.row HRS.out HNE.out).lt
          have HSTP := hid (show namT t vals (2 + 1) = (match lk vals 29 with | none => some (sn, rn) | some p => match textO t p with | none => none | some x => some (sn, x)) from by
            rw [namT, hst]
            rfl)
          cases hl : lk vals 29
          · have HG := hid (show namT t vals (2 + 1) = some (sn, rn) by rw [HSTP.out, hl])
            rw [hl] at HLK
            clear hl hnm hst
            go_wp2_with fail
            go_roundw
            case rel => exact ⟨2 + 1, sn, rn, by decide, by go_num, HG.out, HNMr.out⟩
            case measure => decide
          rename_i p
          have HPU := hid (HV.out.ok _ (lk_mem hl))
          have HST2 := hid (show namT t vals (2 + 1) = (match textO t p with | none => none | some x => some (sn, x)) by rw [HSTP.out, hl])
          rw [hl] at HLK
          have HTXT := hid (HTX.out wr (HX0.out wr hnm.low) p HPU.out.1 HPU.out.2)
          obtain ⟨T, hT⟩ : ∃ T, T = textO t p := ⟨_, rfl⟩
          rw [← hT] at HTXT HST2
          have fz1 := hnm.row.frozen 2
          have q1 := hnm.row.cell' 2
          have hob := hnm.row.lt
          clear hl hT hnm hst
          go_wp2_with fail
          refine HTXT.out.mono ?_
          rintro e' w2 ⟨rfl, rfl⟩
          unfold tres
          cases T
          · have HF := hid (show R = none by rw [HR.out]; unfold namO; rw [HK.out]; simp only; rw [namT_no (k := 2) HST2.out (by decide)])
            go_wp2_with fail
            go_ret
            exact ⟨.inl ⟨HF.out, rfl⟩, HX0.out _ HNMr.out.low⟩
          rename_i x
          go_wp2_with fail
          go_roundw
          case rel => exact ⟨2 + 1, _, _, by decide, by go_num, HST2.out, HNMr.out.set2 x⟩
          case measure => decide
        · have HF := hid (show R = some (ts, sn, rn) by rw [HR.out]; unfold namO; rw [HK.out]; simp only; rw [hst])
          have HOW := hid (own_from hnm.own (base' := w.heap.size) HLOW.out.size)
          have HRO := hid hnm.row
          clear hnm hst
          go_wp2_with fail
          go_ret
          exact ⟨.inr ⟨(ts, sn, rn), _, HF.out, rfl, HRO.out, HOW.out⟩, HX0.out _ HNMr.out.low⟩
    have d1 : decide ((k : Int) < (nd.length : Int)) = true := by simp; omega
    have d1n : decide (k < nd.length) = true := by simp; omega
    obtain ⟨b, off, rfl, hcc⟩ := (HNX.out wr (HX0.out _ hnm.low)).cell k hlt
    have HSN := hid (show namK t (nd.take (k + 1)) = (textO t nd[k]).map fun x => ts ++ [x] by rw [List.take_succ_eq_append_getElem hlt, namK_snoc, HTS.out]; rfl)
    have HPU := hid (HNU.out nd[k] (List.getElem_mem hlt))
    have HTL := hid (namK_len HTS.out)
    have HTK := hid (show (nd.take k).length = k by rw [List.length_take]; omega)
    generalize nd[k] = p at *
    have HTXT := hid (HTX.out wr (HX0.out _ hnm.low) p HPU.out.1 HPU.out.2)
    obtain ⟨T, hT⟩ : ∃ T, T = textO t p := ⟨_, rfl⟩
    rw [← hT] at HTXT HSN
    have hbl := World.block_lt_of_cell? wr _ hcc
    have r0 := hnm.row.cell' 0
    have fz := hnm.row.frozen 0
    have hob := hnm.row.lt
    clear hT hnm
    go_wp2_with fail
    refine HTXT.out.mono ?_
    rintro e' w2 ⟨rfl, rfl⟩
    unfold tres
    cases T
    · have HF := hid (show R = none by rw [HR.out]; unfold namO; rw [namK_none (k := k + 1) HSN.out])
      clear hnl
      go_wp2_with fail
      go_ret
      exact ⟨.inl ⟨HF.out, rfl⟩, HX0.out _ HNMr.out.low⟩
    rename_i x
    have HOS := hid HNMr.out.own
    have HN1 := hid (show ts.length ≤ 8000000000000 by have := HTL.out; have := HTK.out; omega)
    have HNZ := hid (show W.heap.size ≤ wr.heap.size from HNMr.out.low.size)
    have HAP := hid (fun (v' : Value) (w9 : World) (o : Obj) (ho : w9.ownsRow W.heap.size 9 1 v' (ts.length + 1) (strs (ts ++ [x]))) (hg : (wr.alloc o).grownBy w9 sv.ownBlock) => HNMr.out.app x ho hg)
    have HAR := hid (fun (w9 : World) (o : Obj) (hg : (wr.alloc o).grownBy w9 sv.ownBlock) => show Row w9 ob 60 [sv, .string (ba []), .string (ba []), c3, c4, c5, c6] from (HNMr.out.below (bal o)).row.grown hg (own_row_ne (HNMr.out.below (bal o)).own (HNMr.out.below (bal o)).row (by decide)))
    have HO2 := hid (show (HNMr.out.own.2 = HNMr.out.own.2) from rfl)
    clear HO2
    go_wp2_with (at_builtin; go_must (refine wpList_appS rfl _ _ rfl W.heap.size sv ts (ba x) rfl rfl HOS.out HN1.out HNZ.out ?_; intro v' w9 hown hgrow hb9 hz9 ho9; have HA9 := hid (HAP.out v' w9 _ hown hgrow); have hr9 := HAR.out w9 _ hgrow; have c9 := hr9.cell' 0; have f9 := hr9.frozen 0; have l9 := hr9.lt; obtain ⟨a9, c9', hv9, _⟩ := own_cel hown; subst hv9; clear hown hgrow hb9 hz9 ho9 hr9))
    go_roundw
    case rel => exact ⟨k + 1, _, _, by omega, by go_num, HSN.out, HA9.out⟩
    case measure => simp [intOf]; omega
end Go.Proofs.YtkkadknijjninaaDoor
