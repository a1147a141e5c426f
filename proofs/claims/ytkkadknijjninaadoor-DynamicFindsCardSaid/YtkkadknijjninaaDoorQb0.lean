
/- dynamic: the relocations. -/
import Derived.Test.YtkkadknijjninaaDoorQa9
namespace Go.Proofs.YtkkadknijjninaaDoor
open Go.RowKit Go.Sort Go.Shelf Go.WideMaps Go.Maps
attribute [local go_sem] Oper.semAt_some

abbrev OwnL (W : World) (base : Nat) (v : Value) (xs : List RLA) : Prop := OwnK W base 49 4 v (xs.map relC)
def relT (l : BL) (L : List SG) (vals : EL) (tag size : Int) : Option (List RLA) := if (lk vals tag).isSome = true then (match laidO l.length L (vv vals tag) size with
  | none => none
  | some p => some (rowsL (relG l) p 24 (size / 24).toNat)) else some []
def relF (l : BL) (L : List SG) (vals : EL) (s a : Int) : Int ⊕ List RLA := match relT l L vals 7 s with
  | none => .inl 25
  | some x => match relT l L vals 23 a with
    | none => .inl 25
    | some y => .inr (x ++ y)
/-- What relas answers. -/
def relO (l : BL) (L : List SG) (vals : EL) : Int ⊕ List RLA := if vv vals 8 % 24 = 0 ∧ vv vals 2 % 24 = 0 then (if 64 < vv vals 8 / 24 + vv vals 2 / 24 then .inl 12 else relF l L vals (vv vals 8) (vv vals 2)) else .inl 25
structure RelP (R : Int ⊕ List RLA) (w : World) (e : Ending) (w' : World) : Prop where
  ex : (∃ er, R = .inl er ∧ ¬ er = 0 ∧ e = .returned (.tuple #[.slice none 0 0, .int .i64 er])) ∨ (∃ xs v, R = .inr xs ∧ e = .returned (.tuple #[v, .int .i64 0]) ∧ OwnL w' w.heap.size v xs)
  low : Below w.heap.size w w'
theorem ix0 (a b c d : Int) (w : World) : (Instr.index 144 (.agg #[.int .u64 a, .int .u64 b, .int .u64 c, .int .u64 d]) (.int .i64 0)).run Tryd.prog w = .ok (.agg #[.int .u64 a, .int .u64 b]) w := by kernel_rfl
theorem ix1 (a b c d : Int) (w : World) : (Instr.index 144 (.agg #[.int .u64 a, .int .u64 b, .int .u64 c, .int .u64 d]) (.int .i64 1)).run Tryd.prog w = .ok (.agg #[.int .u64 c, .int .u64 d]) w := by kernel_rfl
/-- What stands at a round's head: so many tables are read. -/
def relN (l : BL) (L : List SG) (vals : EL) (s a : Int) (k : Nat) : Option (List RLA) := if k = 0 then some [] else if k = 1 then relT l L vals 7 s else (match relT l L vals 7 s, relT l L vals 23 a with
  | some x, some y => some (x ++ y)
  | _, _ => none)
theorem relN0 {l : BL} {L : List SG} {vals : EL} {s a : Int} {xs ys zs : List RLA} (h : relT l L vals 7 s = some ys) (h0 : relN l L vals s a 0 = some xs) (hz : zs = xs ++ ys) : relN l L vals s a (0 + 1) = some zs := by
  cases h0
  subst hz
  exact h
theorem relN1 {l : BL} {L : List SG} {vals : EL} {s a : Int} {xs ys zs : List RLA} (h : relT l L vals 23 a = some ys) (h0 : relN l L vals s a 1 = some xs) (hz : zs = xs ++ ys) : relN l L vals s a (1 + 1) = some zs := by
  have h1 : relT l L vals 7 s = some xs := h0
  subst hz
  unfold relN
  rw [if_neg (by decide), if_neg (by decide), h1, h]
theorem relF_no0 {l : BL} {L : List SG} {vals : EL} {s a : Int} {xs : List RLA} (h : relT l L vals 7 s = none) (_ : relN l L vals s a 0 = some xs) : relF l L vals s a = .inl 25 := by unfold relF; rw [h]
theorem relF_no1 {l : BL} {L : List SG} {vals : EL} {s a : Int} {xs : List RLA} (h : relT l L vals 23 a = none) (h0 : relN l L vals s a 1 = some xs) : relF l L vals s a = .inl 25 := by
  have h1 : relT l L vals 7 s = some xs := h0
  unfold relF
  rw [h1, h]
theorem relF_yes {l : BL} {L : List SG} {vals : EL} {s a : Int} {xs : List RLA} (h0 : relN l L vals s a 2 = some xs) : relF l L vals s a = .inr xs := by
  unfold relN at h0
  rw [if_neg (by decide), if_neg (by decide)] at h0
  unfold relF
  cases h1 : relT l L vals 7 s with
  | none => rw [h1] at h0; cases h0
  | some x =>
    cases h2 : relT l L vals 23 a with
    | none => rw [h1, h2] at h0; cases h0
    | some y =>
      rw [h1, h2] at h0
      cases h0
      rfl
theorem relT_len {l : BL} {L : List SG} {vals : EL} {t s : Int} {xs : List RLA} (h : relT l L vals t s = some xs) : xs.length ≤ (s / 24).toNat := by
  unfold relT at h
  split at h
  · split at h
    · cases h
    · cases h; rw [rowsL_len]; exact Nat.le_refl _
  · cases h; exact Nat.zero_le _
theorem relN_len {l : BL} {L : List SG} {vals : EL} {s a : Int} {k : Nat} {xs : List RLA} (hb : (s / 24).toNat + (a / 24).toNat ≤ 1000) (h : relN l L vals s a k = some xs) : xs.length ≤ 1000000000 := by
  unfold relN at h
  split at h
  · cases h; exact Nat.zero_le _
  · split at h
    · have := relT_len h; omega
    · split at h
      · rename_i x y h1 h2
        cases h
        have := relT_len h1
        have := relT_len h2
        rw [List.length_append]
        omega
      · cases h
set_option maxRecDepth 100000 in
set_option maxHeartbeats 16000000 in
theorem relas_any (ab : Option Addr) (cap : Nat) (l : BL) (la : Option Addr) (lc : Nat) (L : List SG) (sv : Value) (mv : Nat) (vals : EL) (w : World) (h : RS w ab cap l la lc L sv mv vals) :
    Calls Tryd.prog 55 #[.agg #[.slice ab l.length cap, .slice la L.length lc], .agg #[sv, .map (some mv)]] w (RelP (relO l L vals) w) := by
  obtain ⟨sa, sn, sc, hsv⟩ := h.sv
  subst hsv
  obtain ⟨W, hW⟩ : ∃ W, W = (w.alloc (.cells #[.slice ab l.length cap, .slice la L.length lc] 90)).alloc (.cells #[.slice sa sn sc, .map (some mv)] 85) := ⟨_, rfl⟩
  have HW := hid hW
  have HLOW := hid (show Below w.heap.size w W by rw [hW]; exact (bal _).alloc (bal (w := w) _).size _)
  have HRA := hid (show Row W w.heap.size 90 [.slice ab l.length cap, .slice la L.length lc] by rw [hW]; exact (Row.new _ _ _).alloc _)
  have HRB := hid (show Row W (w.heap.size + 1) 85 [.slice sa sn sc, .map (some mv)] by
    rw [hW]
    have := Row.new (w.alloc (.cells #[.slice ab l.length cap, .slice la L.length lc] 90)) 85 [.slice sa sn sc, .map (some mv)]
    rw [World.size_alloc] at this
    exact this)
  have HH := hid (h.below HLOW.out)
  have HRS := hid (fun W (hb : Below w.heap.size w W) => h.below hb)
  obtain ⟨R, hR⟩ : ∃ R, R = relO l L vals := ⟨_, rfl⟩
  rw [← hR]
  have HR := hid hR
  obtain ⟨y0, y1⟩ := HRB.out.two
  have hg8 := fun n => (HH.out.below (bdN (Below.refl _ _) n)).map.getU 8 (by decide) (by decide)
  have hg2 := fun n => (HH.out.below (bdN (Below.refl _ _) n)).map.getU 2 (by decide) (by decide)
  change ∀ n, _ = Result.ok (Value.int .u64 (vv vals 8)) _ at hg8
  change ∀ n, _ = Result.ok (Value.int .u64 (vv vals 2)) _ at hg2
  have v8 := HH.out.vok.v 8
  have v2 := HH.out.vok.v 2
  unfold relO at hR
  generalize vv vals 8 = S at *
  generalize vv vals 2 = A at *
  have em8 : S.tmod 24 = S % 24 := Int.tmod_eq_emod_of_nonneg v8.1
  have em2 : A.tmod 24 = A % 24 := Int.tmod_eq_emod_of_nonneg v2.1
  have HR2 := hid hR
  have HS := hid v8
  have HA := hid v2
  clear hW hR h v8 v2
  go_enter Tryd.func55, Tryd.ntmps55
  go_wp2_with fail
  rw [← HW.out]
  go_quiet (fail)
  have HBL := hid (fun n => bdN HLOW.out n)
  have HB1 := hid (HBL.out nq)
  have HRA1 := hid (HRA.out.drewN nq)
  have HRB1 := hid (HRB.out.drewN nq)
  have HH1 := hid (HH.out.below (bdN (Below.refl _ _) nq))
  generalize World.drewN W nq = w1 at HB1 HRA1 HRB1 HH1 ⊢
  clear y0 y1 hg8 hg2
  by_cases h8 : S % 24 = 0
  rotate_left
  · have d1 : (S.tmod 24 != 0) = true := by rw [em8]; simpa using h8
    have HE := hid (show R = .inl 25 by rw [HR2.out, if_neg (fun h => h8 h.1)])
    clear h8 em8 em2
    go_wp2_with fail
    go_ret2
    exact ⟨.inl ⟨25, HE.out, by decide, rfl⟩, HB1.out⟩
  have d1 : (S.tmod 24 != 0) = false := by rw [em8]; simpa using h8
  by_cases h2 : A % 24 = 0
  rotate_left
  · have d2 : (A.tmod 24 != 0) = true := by rw [em2]; simpa using h2
    have HE := hid (show R = .inl 25 by rw [HR2.out, if_neg (fun h => h2 h.2)])
    clear h8 h2 em8 em2
    go_wp2_with fail
    go_ret2
    exact ⟨.inl ⟨25, HE.out, by decide, rfl⟩, HB1.out⟩
  have d2 : (A.tmod 24 != 0) = false := by rw [em2]; simpa using h2
  have hS := HS.out
  have hA := HA.out
  obtain ⟨m, hm⟩ : ∃ m : Nat, (m : Int) = S / 24 := ⟨(S / 24).toNat, by omega⟩
  obtain ⟨n, hn⟩ : ∃ n : Nat, (n : Int) = A / 24 := ⟨(A / 24).toNat, by omega⟩
  have HM := hid hm
  have HN := hid hn
  have H8 := hid h8
  have H2 := hid h2
  have ed8 : IntKind.u64.wrap (S.tdiv 24) = (m : Int) := by rw [Int.tdiv_eq_ediv_of_nonneg hS.1, ← hm]; exact IntWalk.u64_in (m : Int) ⟨by omega, by omega⟩
  have ed2 : IntKind.u64.wrap (A.tdiv 24) = (n : Int) := by rw [Int.tdiv_eq_ediv_of_nonneg hA.1, ← hn]; exact IntWalk.u64_in (n : Int) ⟨by omega, by omega⟩
  have ews := IntWalk.u64_in ((m : Int) + (n : Int)) ⟨by omega, by omega⟩
  have HR3 := hid (show R = if 64 < S / 24 + A / 24 then .inl 12 else relF l L vals S A by rw [HR2.out, if_pos ⟨h8, h2⟩])
  by_cases hbig : (64 : Int) < (m : Int) + (n : Int)
  · have d3 : decide ((64 : Int) < (m : Int) + (n : Int)) = true := by simp; omega
    have d3n : decide (64 < m + n) = true := by simp; omega
    have HE := hid (show R = .inl 12 by rw [HR3.out, if_pos (by omega)])
    clear h8 h2 em8 em2 hS hA hm hn hbig
    go_wp2_with fail
    go_ret2
    exact ⟨.inl ⟨12, HE.out, by decide, rfl⟩, HB1.out⟩
  have d3 : decide ((64 : Int) < (m : Int) + (n : Int)) = false := by simp; omega
  have d3n : decide (64 < m + n) = false := by simp; omega
  have HE := hid (show R = relF l L vals S A by rw [HR3.out, if_neg (by omega)])
  have HBIG := hid (show (m : Int) + (n : Int) ≤ 64 by omega)
  have hi0 := ix0 7 S 23 A
  have hi1 := ix1 7 S 23 A
  clear h8 h2 em8 em2 hS hA hm hn hbig
  go_wp2_with fail
  clear ews
  go_loopw [8, 38] (fun v i wr => ∃ (k : Nat) (sv : Value) (xs : List RLA), k ≤ 2 ∧ sv = v ∧ i = .int .i64 k ∧ OwnL wr w1.heap.size sv xs ∧ relN l L vals S A k = some xs ∧ Below w1.heap.size w1 wr) (fun _ i _ => 2 - (intOf i).toNat)
  case atStart => exact ⟨0, _, [], by decide, rfl, rfl, ⟨rfl, .inl ⟨rfl, rfl⟩⟩, rfl, Below.refl _ _⟩
  case round =>
    obtain ⟨k, sv, xs, hk, rfl, rfl, hown, hre, hb⟩ := hrel
    have HO := hid hown
    have HB := hid hb
    have HXL := hid (relN_len (by have := HM.out; have := HN.out; have := HS.out; have := HA.out; have := HBIG.out; omega) hre)
    rcases (show k = 0 ∨ k = 1 ∨ k = 2 by omega) with rfl | rfl | rfl
    · have HF0 := hid (show relN l L vals S A 0 = some xs from hre)
      have HHAS := hid (fun o => has_any (.slice sa sn sc) mv vals 7 (wr.alloc o) ((HH1.out.below HB.out).map.below (bal o)) (by decide) (by decide) sa sn sc rfl)
      have HBA := hid (fun o => show Below w1.heap.size w1 (wr.alloc o) from HB.out.alloc HB.out.size o)
      obtain ⟨y0, y1⟩ := (HRB1.out.below HB.out HRB1.out.lt).two
      have hbl := (HRB1.out.below HB.out HRB1.out.lt).lt
      clear hre hown hb
      go_wp2_with fail
      refine (HHAS.out _).mono ?_
      rintro e' w2 ⟨rfl, hb2⟩
      have HB2 := hid ((HBA.out (.cells #[.int .u64 7, .int .u64 S] 113)).trans (hb2.mono (HBA.out _).size))
      have HE2 := hid ((Row.new wr 113 [.int .u64 7, .int .u64 S]).below hb2 (by rw [World.size_alloc]; omega))
      have HO2 := hid (own_below (HO.out.alloc (.cells #[.int .u64 7, .int .u64 S] 113)) hb2)
      clear hb2 y0 y1 hbl
      cases hh : (lk vals 7).isSome
      · have HT := hid (show relT l L vals 7 S = some [] by unfold relT; rw [hh, if_neg (by decide)])
        clear hh
        go_wp2_with fail
        go_roundw
        case rel => exact ⟨0 + 1, _, xs, by decide, rfl, by go_num, HO2.out, relN0 HT.out HF0.out (by simp), HB2.out⟩
        case measure => decide
      have HTT := hid (show relT l L vals 7 S = (match laidO l.length L (vv vals 7) S with | none => none | some p => some (rowsL (relG l) p 24 (S / 24).toNat)) by unfold relT; rw [hh, if_pos rfl])
      clear hh
      obtain ⟨y0, y1⟩ := (HRB1.out.below HB2.out HRB1.out.lt).two
      obtain ⟨x0, x1⟩ := (HRA1.out.below HB2.out HRA1.out.lt).two
      obtain ⟨e0, e1⟩ := HE2.out.two
      have HH2 := hid (HH1.out.below HB2.out)
      have hgT := HH2.out.map.getU 7 (by decide) (by decide)
      change _ = Result.ok (Value.int .u64 (vv vals 7)) _ at hgT
      have vT := HH2.out.vok.v 7
      have HLD := hid (laid_any ab l.length cap la lc L (vv vals 7) S w2 HH2.out.hl HH2.out.segs HH2.out.hn HH2.out.sok vT.1 vT.2 HS.out.1)
      obtain ⟨P, hP⟩ : ∃ P, P = laidO l.length L (vv vals 7) S := ⟨_, rfl⟩
      have HPI := hid (fun p (h : P = some p) => laidO_in (hP.symm.trans h))
      rw [← hP] at HLD HTT
      clear hP vT
      go_wp2_with fail
      refine HLD.out.mono ?_
      rintro e' w3 ⟨rfl, hb3⟩
      have HB3 := hid (HB2.out.trans (hb3.mono HB2.out.size))
      have HE3 := hid (HE2.out.below hb3 HE2.out.lt)
      have HO3 := hid (own_below HO2.out hb3)
      clear hb3 y0 y1 x0 x1 e0 e1 hgT
      unfold lres
      cases P
      · have HG := hid (show R = .inl 25 by rw [HE.out]; exact relF_no0 HTT.out HF0.out)
        go_wp2_with fail
        go_ret2
        exact ⟨.inl ⟨25, HG.out, by decide, rfl⟩, HB1.out.trans (HB3.out.mono HB1.out.size)⟩
      rename_i p
      have hpi := HPI.out p rfl
      have hcn := HM.out
      have hmz := H8.out
      have HTS := hid (show relT l L vals 7 S = some (rowsL (relG l) p 24 m) by rw [HTT.out]; simp only; rw [show (S / 24).toNat = m by omega])
      have HH3 := hid (HH1.out.below HB3.out)
      obtain ⟨x0, x1⟩ := (HRA1.out.below HB3.out HRA1.out.lt).two
      obtain ⟨e0, e1⟩ := HE3.out.two
      have HRW := hid (rowsR_any ab l.length cap l p m w3 HH3.out.sz HH3.out.hl HH3.out.byt hpi.1 (by omega))
      have HML := hid (show m ≤ l.length ∧ xs.length ≤ 1000000000 from ⟨by have := HH3.out.hl; omega, HXL.out⟩)
      clear hpi hcn hmz
      go_wp2_with fail
      refine HRW.out.mono ?_
      rintro e' w4 ⟨v4, rfl, ho4, hb4⟩
      obtain ⟨a4, c4, hv4, hk4, hn4, _⟩ := own_rk ho4 (relC_len _) (by decide)
      have HB4 := hid (HB3.out.trans (hb4.mono HB3.out.size))
      have HO4 := hid (own_below HO3.out hb4)
      rw [List.length_map] at hk4
      have HK4 := hid hk4
      have HN4 := hid hn4
      subst hv4
      have HONE := hid (relC_one (rowsL (relG l) p 24 m))
      have HN1 := hid (show ((xs.map relC).length + (rowsL (relG l) p 24 m).length) * 32 ≤ 140737488355328 by rw [List.length_map, rowsL_len]; have := HML.out; have := HH3.out.hl; omega)
      have HN2 := hid (show (xs.map relC).length + (rowsL (relG l) p 24 m).length ≤ maxLen by rw [List.length_map, rowsL_len]; have := HML.out; have := HH3.out.hl; unfold maxLen; omega)
      have HNZ := hid (show w1.heap.size ≤ w4.heap.size from HB4.out.size)
      clear ho4 hb4 hk4 hn4 x0 x1 e0 e1
      go_wp2_with (at_builtin; go_must (refine wpList_appKg Tryd.underlying39 infoRowR rfl (by decide) rfl _ _ rfl w1.heap.size sv (xs.map relC) ((rowsL (relG l) p 24 m).map relC) rfl a4 _ c4 rfl HO4.out HK4.out HONE.out HN4.out HN1.out HN2.out HNZ.out ?_; intro v' w9 hown hgrow hb9; have HO9 := hid hown; have HB9 := hid (HB4.out.trans hb9); clear hown hgrow hb9))
      go_roundw
      case rel => exact ⟨0 + 1, _, xs ++ rowsL (relG l) p 24 m, by decide, rfl, by go_num, by unfold OwnL; rw [List.map_append]; exact HO9.out, relN0 HTS.out HF0.out rfl, HB9.out⟩
      case measure => decide
    · have HF0 := hid (show relN l L vals S A 1 = some xs from hre)
      have HHAS := hid (fun o => has_any (.slice sa sn sc) mv vals 23 (wr.alloc o) ((HH1.out.below HB.out).map.below (bal o)) (by decide) (by decide) sa sn sc rfl)
      have HBA := hid (fun o => show Below w1.heap.size w1 (wr.alloc o) from HB.out.alloc HB.out.size o)
      obtain ⟨y0, y1⟩ := (HRB1.out.below HB.out HRB1.out.lt).two
      have hbl := (HRB1.out.below HB.out HRB1.out.lt).lt
      clear hre hown hb
      go_wp2_with fail
      refine (HHAS.out _).mono ?_
      rintro e' w2 ⟨rfl, hb2⟩
      have HB2 := hid ((HBA.out (.cells #[.int .u64 23, .int .u64 A] 113)).trans (hb2.mono (HBA.out _).size))
      have HE2 := hid ((Row.new wr 113 [.int .u64 23, .int .u64 A]).below hb2 (by rw [World.size_alloc]; omega))
      have HO2 := hid (own_below (HO.out.alloc (.cells #[.int .u64 23, .int .u64 A] 113)) hb2)
      clear hb2 y0 y1 hbl
      cases hh : (lk vals 23).isSome
      · have HT := hid (show relT l L vals 23 A = some [] by unfold relT; rw [hh, if_neg (by decide)])
        clear hh
        go_wp2_with fail
        go_roundw
        case rel => exact ⟨1 + 1, _, xs, by decide, rfl, by go_num, HO2.out, relN1 HT.out HF0.out (by simp), HB2.out⟩
        case measure => decide
      have HTT := hid (show relT l L vals 23 A = (match laidO l.length L (vv vals 23) A with | none => none | some p => some (rowsL (relG l) p 24 (A / 24).toNat)) by unfold relT; rw [hh, if_pos rfl])
      clear hh
      obtain ⟨y0, y1⟩ := (HRB1.out.below HB2.out HRB1.out.lt).two
      obtain ⟨x0, x1⟩ := (HRA1.out.below HB2.out HRA1.out.lt).two
      obtain ⟨e0, e1⟩ := HE2.out.two
      have HH2 := hid (HH1.out.below HB2.out)
      have hgT := HH2.out.map.getU 23 (by decide) (by decide)
      change _ = Result.ok (Value.int .u64 (vv vals 23)) _ at hgT
      have vT := HH2.out.vok.v 23
      have HLD := hid (laid_any ab l.length cap la lc L (vv vals 23) A w2 HH2.out.hl HH2.out.segs HH2.out.hn HH2.out.sok vT.1 vT.2 HA.out.1)
      obtain ⟨P, hP⟩ : ∃ P, P = laidO l.length L (vv vals 23) A := ⟨_, rfl⟩
      have HPI := hid (fun p (h : P = some p) => laidO_in (hP.symm.trans h))
      rw [← hP] at HLD HTT
      clear hP vT
      go_wp2_with fail
      refine HLD.out.mono ?_
      rintro e' w3 ⟨rfl, hb3⟩
      have HB3 := hid (HB2.out.trans (hb3.mono HB2.out.size))
      have HE3 := hid (HE2.out.below hb3 HE2.out.lt)
      have HO3 := hid (own_below HO2.out hb3)
      clear hb3 y0 y1 x0 x1 e0 e1 hgT
      unfold lres
      cases P
      · have HG := hid (show R = .inl 25 by rw [HE.out]; exact relF_no1 HTT.out HF0.out)
        go_wp2_with fail
        go_ret2
        exact ⟨.inl ⟨25, HG.out, by decide, rfl⟩, HB1.out.trans (HB3.out.mono HB1.out.size)⟩
      rename_i p
      have hpi := HPI.out p rfl
      have hcn := HN.out
      have hmz := H2.out
      have HTS := hid (show relT l L vals 23 A = some (rowsL (relG l) p 24 n) by rw [HTT.out]; simp only; rw [show (A / 24).toNat = n by omega])
      have HH3 := hid (HH1.out.below HB3.out)
      obtain ⟨x0, x1⟩ := (HRA1.out.below HB3.out HRA1.out.lt).two
      obtain ⟨e0, e1⟩ := HE3.out.two
      have HRW := hid (rowsR_any ab l.length cap l p n w3 HH3.out.sz HH3.out.hl HH3.out.byt hpi.1 (by omega))
      have HML := hid (show n ≤ l.length ∧ xs.length ≤ 1000000000 from ⟨by have := HH3.out.hl; omega, HXL.out⟩)
      clear hpi hcn hmz
      go_wp2_with fail
      refine HRW.out.mono ?_
      rintro e' w4 ⟨v4, rfl, ho4, hb4⟩
      obtain ⟨a4, c4, hv4, hk4, hn4, _⟩ := own_rk ho4 (relC_len _) (by decide)
      have HB4 := hid (HB3.out.trans (hb4.mono HB3.out.size))
      have HO4 := hid (own_below HO3.out hb4)
      rw [List.length_map] at hk4
      have HK4 := hid hk4
      have HN4 := hid hn4
      subst hv4
      have HONE := hid (relC_one (rowsL (relG l) p 24 n))
      have HN1 := hid (show ((xs.map relC).length + (rowsL (relG l) p 24 n).length) * 32 ≤ 140737488355328 by rw [List.length_map, rowsL_len]; have := HML.out; have := HH3.out.hl; omega)
      have HN2 := hid (show (xs.map relC).length + (rowsL (relG l) p 24 n).length ≤ maxLen by rw [List.length_map, rowsL_len]; have := HML.out; have := HH3.out.hl; unfold maxLen; omega)
      have HNZ := hid (show w1.heap.size ≤ w4.heap.size from HB4.out.size)
      clear ho4 hb4 hk4 hn4 x0 x1 e0 e1
      go_wp2_with (at_builtin; go_must (refine wpList_appKg Tryd.underlying39 infoRowR rfl (by decide) rfl _ _ rfl w1.heap.size sv (xs.map relC) ((rowsL (relG l) p 24 n).map relC) rfl a4 _ c4 rfl HO4.out HK4.out HONE.out HN4.out HN1.out HN2.out HNZ.out ?_; intro v' w9 hown hgrow hb9; have HO9 := hid hown; have HB9 := hid (HB4.out.trans hb9); clear hown hgrow hb9))
      go_roundw
      case rel => exact ⟨1 + 1, _, xs ++ rowsL (relG l) p 24 n, by decide, rfl, by go_num, by unfold OwnL; rw [List.map_append]; exact HO9.out, relN1 HTS.out HF0.out rfl, HB9.out⟩
      case measure => decide
    · have HG := hid (show R = .inr xs by rw [HE.out]; exact relF_yes hre)
      clear hre hown hb
      go_wp2_with fail
      go_ret2
      exact ⟨.inr ⟨xs, _, HG.out, rfl, own_from HO.out HB1.out.size⟩, HB1.out.trans (HB.out.mono HB1.out.size)⟩
end Go.Proofs.YtkkadknijjninaaDoor
