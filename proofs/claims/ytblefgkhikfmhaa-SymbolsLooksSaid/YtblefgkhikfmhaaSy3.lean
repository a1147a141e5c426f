/- same of objects and their copies. -/
import Derived.Test.YtblefgkhikfmhaaSy2
namespace Go.Proofs.Ytblefgkhikfmhaa
open Go.RowKit Go.Sort Go.Shelf
attribute [local go_sem] Oper.semAt_some

theorem Twin.lens {w : World} {x y : OB} (h : Twin x y) (hx : Full w x) (hy : Full w y) : y = { x with na := y.na, nc := y.nc, sa := y.sa, sc := y.sc, ra := y.ra, rc := y.rc } := by
  have e := h.eq
  have e1 : y.nn = x.nn := by rw [← hy.nds, ← hx.nds, h.nd]
  have e2 : y.sn = x.sn := by rw [← hy.sys, ← hx.sys, h.sy]
  have e3 : y.rn = x.rn := by rw [← hy.rls, ← hx.rls, h.rl]
  rw [e1, e2, e3] at e
  exact e

set_option maxRecDepth 100000 in
set_option maxHeartbeats 4000000 in
theorem same_any (a b : Option Addr) (len cap cap2 : Nat) (xs ys : List OB) (w : World) (hX : Objs w a len xs) (hY : Objs w b len ys) (hFX : ∀ x ∈ xs, Full w x) (hFY : ∀ y ∈ ys, Full w y) (hT : ∀ i (h : i < ys.length) (h' : i < xs.length), Twin xs[i] ys[i]) (hl : len ≤ 800000000000) :
    Calls Try.prog 16 #[.slice b len cap2, .slice a len cap] w fun e w' => e = .returned (.bool true) ∧ Below w.heap.size w w' := by
  have hxl := hX.hlen
  have hyl := hY.hlen
  have HX := hid hX
  have HY := hid hY
  have HFX := hid hFX
  have HFY := hid hFY
  have HT := hid hT
  clear hX hY hFX hFY hT
  go_enter Try.func16, Try.ntmps16
  go_wp2_with fail
  go_loopw [5] (fun i wr => ∃ k : Nat, k ≤ len ∧ i = .int .i64 k ∧ Below w.heap.size w wr) (fun i _ => len - (intOf i).toNat)
  case atStart => exact ⟨0, Nat.zero_le _, rfl, Below.refl _ _⟩
  case round =>
    obtain ⟨k, hk, rfl, hb⟩ := hrel
    have HB := hid hb
    clear hb
    by_cases hlt : k < len
    · have d1 : decide ((k : Int) < (len : Int)) = true := by simp; omega
      have hkx : k < xs.length := by omega
      have hky : k < ys.length := by omega
      obtain ⟨b1, o1, rfl, ⟨x0, x1, _⟩, x6, x7, x8, x9, x10⟩ := (HX.out.below' HB.out).cells hkx
      obtain ⟨b2, o2, rfl, ⟨y0, y1, _⟩, y6, y7, y8, y9, y10⟩ := (HY.out.below' HB.out).cells hky
      have F1 := (HFX.out _ (List.getElem_mem hkx)).below' HB.out
      have F2 := (HFY.out _ (List.getElem_mem hky)).below' HB.out
      have TT := HT.out k hky hkx
      generalize xs[k] = x at *
      generalize ys[k] = y at *
      obtain ⟨na, nc, sa, sc, ra, rc, rfl⟩ : ∃ na nc sa sc ra rc, y = { x with na := na, nc := nc, sa := sa, sc := sc, ra := ra, rc := rc } := ⟨_, _, _, _, _, _, TT.lens F1 F2⟩
      dsimp only at y0 y1 y6 y7 y8 y9 y10
      have HF1 := hid F1
      have HF2 := hid F2
      have c0 := rg_cell x0
      have c1 := rg_cell x1
      have c6 := rg_cell x6
      have c7 := rg_cell x7
      have c8 := rg_cell x8
      have c9 := rg_cell x9
      have c10 := rg_cell x10
      have e0 := rg_cell y0
      have e1 := rg_cell y1
      have e6 := rg_cell y6
      have e7 := rg_cell y7
      have e8 := rg_cell y8
      have e9 := rg_cell y9
      have e10 := rg_cell y10
      clear x0 x1 x6 x7 x8 x9 x10 y0 y1 y6 y7 y8 y9 y10 F1 F2 TT
      have cc := hid (fun (d : Nat) (os : Array Obj) => rg_call (sameD_any { x with na := na, nc := nc, sa := sa, sc := sc, ra := ra, rc := rc } x.na x.sa x.ra x.nc x.sc x.rc (rg wr d os) (HF2.out.below' (rg_below wr d os)) (HF1.out.below' (rg_below wr d os))))
      dsimp only at cc
      have HZ := hid HB.out
      clear HB
      go_wp2_with fail
      refine region_rg (by kernel_rfl) (by kernel_rfl) ?_
      repeat (quiet_step (with_reducible exact cc.out _ _))
      refine wpQuiet_nil ?_
      intro _ hw'
      obtain ⟨⟨dq, osq⟩, hw''⟩ := hw'
      subst hw''
      go_wp2_with fail
      go_roundw
      case rel => exact ⟨k + 1, by omega, by go_num, HZ.out.trans ((rg_below _ _ _).mono HZ.out.size)⟩
      case measure => simp [intOf]; omega
    · have d1 : decide ((k : Int) < (len : Int)) = false := by simp; omega
      have d1n : decide (k < len) = false := by simp; omega
      go_wp2_with fail
      go_ret
      exact ⟨rfl, HB.out⟩
end Go.Proofs.Ytblefgkhikfmhaa
