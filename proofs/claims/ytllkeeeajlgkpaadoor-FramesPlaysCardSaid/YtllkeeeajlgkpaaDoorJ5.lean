
/- Package frames: Take, Up, Down. -/
import Derived.Test.YtllkeeeajlgkpaaDoorJ4
namespace Go.Proofs.YtllkeeeajlgkpaaDoor
open Go.RowKit Go.Sort

def one0 : FR := ⟨List.replicate 4096 0, 1⟩
def takeS (fs : List FR) : List FR := match lowR fs with
  | some f => fs.set f one0
  | none => fs
def takeE (fs : List FR) : Int := match lowR fs with
  | some _ => 0
  | none => 4
def takeV (fs : List FR) : Int := match lowR fs with
  | some f => (f : Int)
  | none => 0
theorem one0_len : one0.bs.length = 4096 := List.length_replicate
theorem sizeFr : (Tryd.prog.info? 60).map (·.size) = some 4097 := by kernel_rfl
def zFr : Array Value := (frC fr0).toArray
theorem zFr_size : zFr.size = 4097 := by kernel_rfl
theorem zero_fr (w : World) : (zeroValue 60).run Tryd.prog w = .ok (.agg zFr) w := by kernel_rfl
theorem zFr_one : zFr.setIfInBounds 4096 (.int .i64 1) = (frC one0).toArray := by kernel_rfl
theorem frC_one (x : FR) : ∀ v ∈ frC x, v.oneCell' = true := by
  intro v hv
  rcases List.mem_append.1 hv with h | h
  · obtain ⟨y, _, rfl⟩ := List.mem_map.1 h; rfl
  · simp only [List.mem_singleton] at h; subst h; rfl
theorem there_row {w : World} {g : Nat} {E : TypeId} {cs : List Value} (h : Row w g E cs) (o n : Nat) (hn : o + n ≤ cs.length) : w.there g o n := fun j hj => by
  rw [h.cell', List.getElem?_eq_getElem (by omega)]
  exact ⟨rfl, h.frozen _⟩
theorem fr_end {fs : List FR} (h : FsOk fs) (f : Nat) (hf : f < fs.length) : f * 4097 + 4097 ≤ (flatF fs).length := by
  rw [flatF_len h]
  have : (f + 1) * 4097 ≤ fs.length * 4097 := Nat.mul_le_mul_right _ hf
  omega
theorem free_set (fs : List FR) (f : Nat) (y : FR) (hf : f < fs.length) : freeF (fs.set f y) = upd (freeF fs) f (y.cnt == 0) := by
  funext j
  unfold freeF upd
  rw [List.getElem?_set]
  by_cases c : f = j
  · subst c; simp [hf]
  · have : ¬ j = f := fun h => c h.symm
    simp [c, this]
theorem low_is {fs : List FR} {f : Nat} (h : lowR fs = some f) : f < fs.length ∧ freeF fs f = true ∧ ∀ j, j < f → freeF fs j = false := by
  unfold lowR at h
  rw [List.find?_eq_some_iff_getElem] at h
  obtain ⟨h1, i, hi, e, h2⟩ := h
  simp only [List.length_range] at hi
  simp only [List.getElem_range] at e
  subst e
  refine ⟨hi, h1, fun j hj => ?_⟩
  have := h2 j hj
  simpa using this
theorem low_not {fs : List FR} (h : lowR fs = none) : ∀ j, freeF fs j = false := by
  intro j
  unfold lowR at h
  rw [List.find?_eq_none] at h
  by_cases c : j < fs.length
  · have := h j (List.mem_range.2 c)
    simpa using this
  · unfold freeF
    rw [List.getElem?_eq_none (by omega)]

set_option maxRecDepth 100000 in
set_option maxHeartbeats 1000000 in
theorem take_any (p g h : Nat) (fs : List FR) (ws : List Nat) (w : World) (H : Pl w p g h fs ws) (hT : Tb w) :
    Calls Tryd.prog 11 #[.pointer (some ⟨p, 0, none⟩)] w fun e w' => e = .returned (.tuple #[.int .i64 (takeV fs), .int .i64 (takeE fs)]) ∧ (∃ ws', Pl w' p g h (takeS fs) ws') ∧ Ex w w' g h := by
  have HH := hid H
  have HL := hid (lowest_any p g h fs ws w H hT)
  clear H hT
  go_enter Tryd.func11, Tryd.ntmps11
  go_wp2_with fail
  refine (HL.out).mono ?_
  rintro e' w' ⟨rfl, rfl⟩
  cases hl : lowR fs with
  | none =>
    have HF := hid (show takeV fs = 0 ∧ takeE fs = 4 ∧ takeS fs = fs by unfold takeV takeE takeS; rw [hl]; exact ⟨rfl, rfl, rfl⟩)
    go_wp2_with fail
    go_ret2
    rw [HF.out.1, HF.out.2.1, HF.out.2.2]
    exact ⟨rfl, ⟨ws, HH.out⟩, Ex.refl _ _ _⟩
  | some f =>
    have HF := hid (show takeV fs = (f : Int) ∧ takeE fs = 0 ∧ takeS fs = fs.set f one0 by unfold takeV takeE takeS; rw [hl]; exact ⟨rfl, rfl, rfl⟩)
    obtain ⟨hf, hfr, _⟩ := low_is hl
    clear hl
    have hf64 : f / 64 < ws.length := by have := HH.out.wl; omega
    have HM := hid (unmark_at p g h fs.length ws f (f / 64) (f % 64) w HH.out.pool HH.out.words (by omega) (Nat.mod_lt _ (by omega)) hf64 (HH.out.wb _ hf64).1 (by have := HH.out.wl; have := HH.out.n2; omega))
    have HWB := hid (wb_unmark HH.out.wb f hf64)
    go_wp2_with fail
    refine (HM.out).mono ?_
    rintro e' w2 ⟨rfl, hw2⟩
    obtain ⟨n1, n2, n3⟩ := HH.out.ne
    have HP2 := hid (show Row w2 p 54 (poolC g h fs.length ws.length) by rw [hw2]; exact HH.out.pool.drew.other n2 _)
    have HF2 := hid (show Row w2 g 60 (flatF fs) by rw [hw2]; exact HH.out.frames.drew.other n3 _)
    have HW2 := hid (show Row w2 h 61 ((ws.set (f / 64) (ws[f / 64] &&& (18446744073709551615 - 2 ^ (f % 64)))).map W8) by rw [hw2]; exact row_set_word HH.out.words.drew _ _)
    have HE2 := hid (show Ex w w2 g h by rw [hw2]; exact ((Ex.refl w g h).drewN 1).trans (Ex.set _ h _ _ (.inr rfl)))
    have HWL := hid (show (ws.set (f / 64) (ws[f / 64] &&& (18446744073709551615 - 2 ^ (f % 64)))).length = ws.length from List.length_set)
    generalize ws.set (f / 64) (ws[f / 64] &&& (18446744073709551615 - 2 ^ (f % 64))) = ws2 at *
    clear hw2 HM
    have p0 := HP2.out.cell 0 (by simp)
    simp only [poolC, List.getElem_cons_zero] at p0
    have hlp := HP2.out.lt
    have hlg := HF2.out.lt
    have ez : (0 : Int) ≤ (f : Int) := by omega
    have eb : (f : Int) < (fs.length : Int) := by omega
    have hz1 := zero_fr
    have hz2 : zFr.size = 4097 := zFr_size
    have hz3 := zFr_one
    have HTH := hid (show w2.there g (f * 4097) (frC one0).toArray.size from there_row HF2.out _ _ (by rw [List.size_toArray, frC_len one0_len]; exact fr_end HH.out.ok f hf))
    have HSZ := hid (show (Tryd.prog.info? 60).map (·.size) = some (frC one0).toArray.size by rw [List.size_toArray, frC_len one0_len]; exact sizeFr)
    have HON := hid (all_oneCell_toArray (frC_one one0))
    go_wp2_with (refine wpList_store_mid rfl 60 _ _ rfl g (f * 4097) (frC one0).toArray rfl rfl HTH.out HSZ.out HON.out ?_)
    go_ret2
    rw [HF.out.1, HF.out.2.1, HF.out.2.2]
    have hX : Ex w2 (w2.setCells g (f * 4097) (frC one0)) g h := Ex.setCells w2 g _ _ (.inl rfl)
    have hfl := HH.out.ok.set f (y := one0) one0_len
    refine ⟨rfl, ⟨ws2, ⟨?_, ?_, ?_, hfl, by rw [List.length_set]; exact HH.out.n1, by rw [List.length_set]; exact HH.out.n2, by rw [List.length_set, HWL.out]; exact HH.out.wl, ?_, ?_⟩⟩, HE2.out.trans hX⟩
    · rw [List.length_set, HWL.out]; exact hX.row HP2.out n1 n2
    · have := Row.setCells (frC one0) (f * 4097) w2 _ HF2.out (by rw [frC_len one0_len]; exact fr_end HH.out.ok f hf)
      rw [flatF_frame HH.out.ok f one0 one0_len hf] at this
      exact this
    · exact ⟨by rw [setCells_block w2 g h (fun e => n3 e.symm)]; exact HW2.out.heap⟩
    · rw [free_set fs f one0 hf]; exact HWB.out
    · intro x hx
      rcases List.mem_or_eq_of_mem_set hx with hx | rfl
      · exact HH.out.c0 x hx
      · decide

def upS (fs : List FR) (f : Int) : List FR := if cntF fs f = 0 then fs else fs.set f.toNat ⟨(fs.getD f.toNat default).bs, cntF fs f + 1⟩
def downS (fs : List FR) (f : Int) : List FR := if cntF fs f = 0 then fs else fs.set f.toNat ⟨(fs.getD f.toNat default).bs, cntF fs f - 1⟩
/-- A frame that is counted. -/
theorem cnt_is {fs : List FR} {f : Int} (h : cntF fs f ≠ 0) : ∃ k : Nat, ∃ hk : k < fs.length, f = (k : Int) ∧ cntF fs f = fs[k].cnt := by
  unfold cntF at h ⊢
  by_cases c : 0 ≤ f ∧ f < fs.length
  · rw [if_pos c] at h ⊢
    obtain ⟨k, rfl⟩ := Int.eq_ofNat_of_zero_le c.1
    have hk : k < fs.length := by omega
    exact ⟨k, hk, rfl, by rw [Int.toNat_natCast, getF_at _ _ _ hk]⟩
  · rw [if_neg c] at h; exact absurd rfl h
theorem take_upd (fr : Nat → Bool) (f : Nat) (b : Bool) (h : fr f = b) : upd fr f b = fr := by
  funext j
  unfold upd
  by_cases c : j = f
  · subst c; rw [if_pos rfl, h]
  · rw [if_neg c]
theorem free_at (fs : List FR) (f : Nat) (hf : f < fs.length) : freeF fs f = (fs[f].cnt == 0) := by
  unfold freeF; rw [List.getElem?_eq_getElem hf]

theorem both_ne {a b : Int} (h : a ≠ 0) (k : b ≠ 0) : (a == 0) = (b == 0) := by
  rw [beq_eq_false_iff_ne.2 h, beq_eq_false_iff_ne.2 k]

set_option maxRecDepth 100000 in
set_option maxHeartbeats 1000000 in
theorem up_any (p g h : Nat) (fs : List FR) (ws : List Nat) (f : Int) (w : World) (H : Pl w p g h fs ws) (hM : ∀ x ∈ fs, x.cnt < 9223372036854775807) :
    Calls Tryd.prog 17 #[.pointer (some ⟨p, 0, none⟩), .int .i64 f] w fun e w' => e = .returned (.int .i64 (takE fs f)) ∧ Pl w' p g h (upS fs f) ws ∧ Ex w w' g h := by
  have HH := hid H
  have HL := hid (taken_any p g h fs ws f w H)
  clear H
  go_enter Tryd.func17, Tryd.ntmps17
  go_wp2_with fail
  refine (HL.out).mono ?_
  rintro e' w' ⟨rfl, rfl⟩
  by_cases h0 : cntF fs f = 0
  · have HF := hid (show takE fs f = 1 ∧ upS fs f = fs by unfold takE upS; rw [h0]; exact ⟨rfl, rfl⟩)
    rw [HF.out.1]
    clear h0
    go_wp2_with fail
    go_ret
    rw [HF.out.1, HF.out.2]
    exact ⟨rfl, HH.out, Ex.refl _ _ _⟩
  · obtain ⟨k, hk, rfl, hc⟩ := cnt_is h0
    have HF := hid (show takE fs (k : Int) = 0 ∧ upS fs (k : Int) = fs.set k ⟨fs[k].bs, fs[k].cnt + 1⟩ by unfold takE upS; rw [if_neg h0, if_neg h0, hc, Int.toNat_natCast, getF_at _ _ _ hk]; exact ⟨rfl, rfl⟩)
    rw [HF.out.1]
    obtain ⟨p0, p1⟩ := HH.out.cells
    have hlp := HH.out.pool.lt
    have hlg := HH.out.frames.lt
    have hx := HH.out.count k hk
    have hfz := HH.out.frames.frozen (k * 4097 + 4096)
    have hx0 := HH.out.c0 _ (List.getElem_mem hk)
    have hx1 := hM _ (List.getElem_mem hk)
    have HFC := hid (flatF_count HH.out.ok k (fs[k].cnt + 1) hk)
    have hcn : fs[k].cnt ≠ 0 := fun e => h0 (by rw [hc]; exact e)
    have HWF := hid (take_upd (freeF fs) k (fs[k].cnt + 1 == 0) ((free_at fs k hk).trans (both_ne hcn (by omega))))
    clear hcn
    have HFS := hid (free_set fs k ⟨fs[k].bs, fs[k].cnt + 1⟩ hk)
    have HLN := hid (HH.out.ok _ (List.getElem_mem hk))
    obtain ⟨n1, n2, n3⟩ := HH.out.ne
    have ez : (0 : Int) ≤ (k : Int) := by omega
    have eb : (k : Int) < (fs.length : Int) := by omega
    clear h0 hc hM
    generalize fs[k] = x at *
    have ew := IntWalk.wrap64_in (x.cnt + 1) ⟨by omega, by omega⟩
    go_wp2_with fail
    go_ret
    rw [HF.out.1, HF.out.2]
    have hX : Ex w (w.setCell ⟨g, k * 4097 + 4096, none⟩ (.int .i64 (x.cnt + 1))) g h := Ex.set w g _ _ (.inl rfl)
    refine ⟨rfl, ⟨?_, ?_, ?_, HH.out.ok.set k HLN.out, by rw [List.length_set]; exact HH.out.n1, by rw [List.length_set]; exact HH.out.n2, by rw [List.length_set]; exact HH.out.wl, ?_, ?_⟩, hX⟩
    · rw [List.length_set]; exact hX.row HH.out.pool n1 n2
    · rw [← HFC.out]; exact HH.out.frames.set _ _
    · exact HH.out.words.other (fun e => n3 e.symm) _
    · rw [HFS.out, HWF.out]; exact HH.out.wb
    · intro y hy
      rcases List.mem_or_eq_of_mem_set hy with hy | rfl
      · exact HH.out.c0 y hy
      · show 0 ≤ x.cnt + 1; omega
end Go.Proofs.YtllkeeeajlgkpaaDoor
