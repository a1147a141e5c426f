
/- cache.Take. -/
import Derived.Test.YtncikcllhjhjmaaGreatDoorBc5
namespace Go.Proofs.YtncikcllhjhjmaaGreatDoor
open Go.RowKit Go.Sort Go.WideMaps Go.Maps Go.WideShapes Go.WideElems Go.MapKept Go.ChangeMaps
attribute [local go_sem] Oper.semAt_some

theorem fld_fr (f t : Int) (w : World) : (Instr.field 109 (.agg #[.int .i64 f, .int .u64 t]) 0).run Tryz.prog w = .ok (.int .i64 f) w := by kernel_rfl
section
variable {w0 w w' : World} {F : Nat} {t : FT} {p g h c m : Nat} {s : CC} {ws : List Nat}
/-- The pool alone turned. -/
theorem CW.pool' (H : CW w0 F t p g h c m s ws w) {fs' : List FR} {ws' : List Nat} (hp : Pl w' p g h fs' ws') (he : Ex w w' g h) : CW w0 F t p g h c m { s with fs := fs' } ws' w' :=
  have n := H.ne
  ⟨he.row H.cache n.2.1 n.2.2.1, hp, H.map.ex (S := fun k => k = g ∨ k = h) (EX.of_ex he (.inl rfl) (.inr rfl)) (by rintro (e | e); (· exact n.2.2.2.2.2.1 e); (· exact n.2.2.2.2.2.2 e)), H.files, he.below H.low H.lg H.lh H.low.size, H.lg, H.lh, H.lc, H.lm, H.few, H.tb⟩
end
theorem ex_cS {w w' : World} {g h c m : Nat} (he : Ex w w' g h) : EX (cS g h c m) w w' := EX.of_ex he (.inr (.inr (.inl rfl))) (.inr (.inr (.inr rfl)))
set_option maxRecDepth 100000 in
set_option maxHeartbeats 8000000 in
theorem ctake_any (w0 : World) (F : Nat) (t : FT) (p g h c m : Nat) (s : CC) (ws : List Nat) (rd : Int → Int → List UInt8 × Int) (hx : List Nat) (w : World) (H : CW w0 F t p g h c m s ws w) (G : Good rd s hx) (hs : hx.length ≤ 1000000000) :
    Calls Tryz.prog 48 #[.pointer (some ⟨c, 0, none⟩)] w fun e w' => e = .returned (.tuple #[.int .i64 (takC s).1, .int .i64 (takC s).2.1]) ∧ (∃ ws', CW w0 F t p g h c m (takC s).2.2 ws' w') ∧ EX (cS g h c m) w w' := by
  obtain ⟨c0, c1, c2, c3⟩ := H.cells
  have hlc := H.cache.lt
  have HTK := hid (take_any p g h s.fs ws w H.pool H.tbl)
  have HM := hid (show ∀ x ∈ s.fs, x.cnt < 9223372036854775807 from fun x hx' => by have := G.small x hx'; have := H.few; omega)
  have HH := hid H
  have HG := hid G
  clear H G hs
  cases hl : lowR s.fs with
  | some k =>
    have ht := takC_free hl
    have e1 : takeE s.fs = 0 := by unfold takeE; rw [hl]
    have e2 : takeV s.fs = (k : Int) := by unfold takeV; rw [hl]
    have e3 : takeS s.fs = s.fs.set k one0 := by unfold takeS; rw [hl]
    rw [e1, e2, e3] at HTK
    rw [ht]
    clear ht e1 e2 e3 hl
    go_enter Tryz.func48, Tryz.ntmps48
    go_wp2_with fail
    refine (HTK.out).mono ?_
    rintro e w1 ⟨rfl, ⟨ws1, hp1⟩, he1⟩
    have HP1 := hid hp1
    have HE1 := hid he1
    clear hp1 he1
    go_wp2_with fail
    go_ret2
    exact ⟨rfl, ⟨ws1, HH.out.pool' HP1.out HE1.out⟩, ex_cS HE1.out⟩
  | none =>
    have e1 : takeE s.fs = 4 := by unfold takeE; rw [hl]
    have e2 : takeV s.fs = 0 := by unfold takeV; rw [hl]
    have e3 : takeS s.fs = s.fs := by unfold takeS; rw [hl]
    rw [e1, e2, e3] at HTK
    have HL := hid hl
    obtain ⟨R, hR⟩ : ∃ R, R = s.sl.find? (loB s.fs) := ⟨_, rfl⟩
    have HR := hid hR
    obtain ⟨T, hTk⟩ : ∃ T, T = takC s := ⟨_, rfl⟩
    rw [← hTk]
    have HTC := hid hTk
    have HOL := hid (fun (w' : World) (ws' : List Nat) (hc : CW w0 F t p g h c m s ws' w') => by
      have := oldest_any w0 F t p g h c m s ws' rd hx w' hc HG.out
      rw [← hR] at this
      exact this)
    clear e1 e2 e3 hl hR hTk
    go_enter Tryz.func48, Tryz.ntmps48
    go_wp2_with fail
    refine (HTK.out).mono ?_
    rintro e w1 ⟨rfl, ⟨ws1, hp1⟩, he1⟩
    have HC1 := hid (show CW w0 F t p g h c m s ws1 w1 from HH.out.pool' hp1 he1)
    have HE1 := hid he1
    clear hp1 he1 c0 c1 c2 c3 hlc
    obtain ⟨c0, c1, c2, c3⟩ := HC1.out.cells
    have hlc := HC1.out.cache.lt
    cases hRc : R with
    | none =>
      have HRN := hid hRc
      subst hRc
      go_wp2_with fail
      refine (HOL.out w1 ws1 HC1.out).mono ?_
      rintro e w2 ⟨rfl, hb2⟩
      have HB2 := hid hb2
      simp only [Option.isSome_none, oldV, plK]
      clear hb2
      go_wp2_with fail
      go_ret2
      have ht : T = (0, 4, s) := by rw [HTC.out]; exact takC_none HL.out HR.out.symm
      rw [ht]
      exact ⟨rfl, ⟨ws1, HC1.out.below (HB2.out.trans ((bal _).mono HB2.out.size))⟩, (ex_cS HE1.out).trans ((EX.of_below HB2.out).alloc _)⟩
    | some x =>
      subst hRc
      obtain ⟨k, ek, hk, h1, h0⟩ := HG.out.oldest (List.mem_of_find?_eq_some HR.out.symm) (List.find?_some HR.out.symm)
      have HX := hid (List.mem_of_find?_eq_some HR.out.symm)
      obtain ⟨D, hD, hv⟩ := HC1.out.map
      have HIP := hid (hv.ok x HX.out)
      have HLX := hid (look_of HG.out HX.out)
      have ht : T = ((k : Int), 0, { s with fs := s.fs.set k one0, sl := strikeS s.sl x.i x.p }) := by
        obtain ⟨e1, e2, e3, e4⟩ := take_down HL.out hk h1
        rw [HTC.out, takC_old HL.out HR.out.symm, ek, e2, e3, e4]
      have HT := hid ht
      have HTD := hid (take_down HL.out hk h1)
      have HEK := hid ek
      clear hD hv ek hk h1 h0 ht
      simp only [Option.isSome_some, oldV] at HOL
      go_wp2_with fail
      refine (HOL.out w1 ws1 HC1.out).mono ?_
      rintro e w2 ⟨rfl, hb2⟩
      have HB2 := hid hb2
      unfold plK
      obtain ⟨w3, hw3⟩ : ∃ w3, w3 = w2.alloc (.cells #[.int .i64 x.i, .int .i64 x.p] 107) := ⟨_, rfl⟩
      have HB3 := hid (show Below w1.heap.size w1 w3 by rw [hw3]; exact hb2.trans ((bal _).mono hb2.size))
      have HC3 := hid (HC1.out.below HB3.out)
      have HP3 := hid (show Row w3 w2.heap.size 107 [.int .i64 x.i, .int .i64 x.p] by rw [hw3]; exact Row.new w2 _ _)
      have HW3 := hid hw3
      clear hb2 hw3 c0 c1 c2 c3 hlc
      go_wp2_with fail
      rw [← HW3.out]
      obtain ⟨c0, c1, c2, c3⟩ := HC3.out.cells
      have hlc := HC3.out.cache.lt
      obtain ⟨p0, p1⟩ := HP3.out.two
      have hpl := HP3.out.lt
      have hlk := (show CM w3.drew m s.tn s.sl from HC3.out.map.same rfl).get HIP.out.1 HIP.out.2 HLX.out
      unfold plK keV at hlk
      have hfld := fld_fr x.f x.t
      have HDN := hid (down_any p g h s.fs ws1 x.f w3.drew HC3.out.pool.drew HM.out)
      go_wp2_with fail
      go_still_tail 11, (by kernel_rfl)
      show wpList _ _ _ _ _ w3.drew
      go_wp2_with fail
      refine (HDN.out).mono ?_
      rintro e w4 ⟨rfl, ⟨ws4, hp4⟩, he4⟩
      have HE4 := hid (show EX (cS g h c m) w3 w4 from (EX.drew (EX.refl _)).trans (ex_cS he4))
      have HC4 := hid (show CW w0 F t p g h c m { s with fs := downS s.fs x.f } ws4 w4 from (HC3.out.below (bdN (Below.refl _ _) 1)).pool' hp4 he4)
      have HP4 := hid (he4.row (HP3.out.drew) (fun e => row_tys HP3.out HC3.out.pool.frames (by decide) e) (fun e => row_tys HP3.out HC3.out.pool.words (by decide) e))
      clear hp4 he4 c0 c1 c2 c3 hlc p0 p1 hpl hlk hfld
      obtain ⟨w5, hrun, hcm, hg5, hz5⟩ := (show CM w4.drew m s.tn s.sl from HC4.out.map.same rfl).del HIP.out.1 HIP.out.2 0
      have HG5 := hid hg5
      have HCM5 := hid hcm
      clear hg5 hcm
      unfold plK at hrun
      obtain ⟨c0, c1, c2, c3⟩ := HC4.out.cells
      have hlc := HC4.out.cache.lt
      obtain ⟨p0, p1⟩ := HP4.out.two
      have hpl := HP4.out.lt
      go_wp2_with fail
      go_region
      clear c0 c1 c2 c3 hlc p0 p1 hpl hrun hz5
      have n := HC4.out.ne
      have HE5 := hid (show EX (cS g h c m) w4 w5 from (EX.drew (EX.refl _)).trans (EX.of_grown HG5.out (fun k e _ => by cases e; exact .inr (.inl rfl))))
      have HC5 := hid (show CW w0 F t p g h c m { s with fs := downS s.fs x.f, sl := strikeS s.sl x.i x.p } ws4 w5 from
        ⟨HC4.out.cache.drew.grown HG5.out (by simpa using fun e => n.2.2.2.1 e.symm), ⟨HC4.out.pool.pool.drew.grown HG5.out (by simpa using fun e => n.2.2.2.2.1 e.symm), HC4.out.pool.frames.drew.grown HG5.out (by simpa using fun e => n.2.2.2.2.2.1 e.symm), HC4.out.pool.words.drew.grown HG5.out (by simpa using fun e => n.2.2.2.2.2.2 e.symm), HC4.out.pool.ok, HC4.out.pool.n1, HC4.out.pool.n2, HC4.out.pool.wl, HC4.out.pool.wb, HC4.out.pool.c0⟩, HCM5.out, HC4.out.files,
          (show EX (cS g h c m) w4 w5 from HE5.out).below HC4.out.low (fun k hk => by
            have h1 := HC4.out.lg; have h2 := HC4.out.lh; have h3 := HC4.out.lc; have h4 := HC4.out.lm
            rcases hk with rfl | rfl | rfl | rfl <;> assumption) HC4.out.low.size, HC4.out.lg, HC4.out.lh, HC4.out.lc, HC4.out.lm, HC4.out.few, HC4.out.tb⟩)
      clear n
      have HTK5 := hid (take_any p g h (downS s.fs x.f) ws4 w5 HC5.out.pool HC5.out.tbl)
      obtain ⟨c0, c1, c2, c3⟩ := HC5.out.cells
      have hlc := HC5.out.cache.lt
      go_wp2_with fail
      refine (HTK5.out).mono ?_
      rintro e w6 ⟨rfl, ⟨ws6, hp6⟩, he6⟩
      have HP6 := hid hp6
      have HE6 := hid he6
      rw [HEK.out, HTD.out.2.2.1, HTD.out.2.2.2]
      clear hp6 he6
      go_wp2_with fail
      go_ret2
      rw [HT.out]
      refine ⟨rfl, ⟨ws6, ?_⟩, (((ex_cS HE1.out).trans (EX.of_below HB3.out)).trans HE4.out).trans (HE5.out.trans (ex_cS HE6.out))⟩
      have := HC5.out.pool' HP6.out HE6.out
      rw [HEK.out, HTD.out.2.1] at this
      exact this
end Go.Proofs.YtncikcllhjhjmaaGreatDoor
