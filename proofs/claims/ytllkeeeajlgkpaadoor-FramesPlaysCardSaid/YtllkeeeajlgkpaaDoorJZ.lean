
/- hostellaw07.does: Take, Up, Down, Copy, and a kind that is none. -/
import Derived.Test.YtllkeeeajlgkpaaDoorJY
namespace Go.Proofs.YtllkeeeajlgkpaaDoor
open Go.RowKit Go.Sort

/-- Both pools behind a call. -/
def Mds (w0 w : World) (n : Nat) (K : Int) (p g h q a b : Nat) : Prop := ∃ fs ws vs Ls, Md w0 w n K p g h q a b fs fs ws vs Ls

set_option maxRecDepth 100000 in
set_option maxHeartbeats 4000000 in
theorem does_take (w0 w : World) (n : Nat) (K : Int) (p g h q a b : Nat) (fs : List FR) (ws : List Nat) (vs : List Value) (Ls : List (List Int)) (x : OP) (hT : Tb w0) (HM : Md w0 w n K p g h q a b fs fs ws vs Ls) (hK0 : 0 ≤ K) (hx0 : x.kind = 0) :
    Calls Tryd.prog 7 #[.pointer (some ⟨p, 0, none⟩), .pointer (some ⟨q, 0, none⟩), opV x] w fun e w' => e = .returned (.bool true) ∧ Mds w0 w' n (K + 1) p g h q a b := by
  have HO1 := hid (show Row (w.alloc (.cells (opA x) 32)) w.heap.size 32 (opC x) from Row.new w 32 (opC x))
  have HM1 := hid (HM.still (bal (.cells (opA x) 32)))
  have HB := hid (take_bd HM.pd.bd hK0)
  have HT := hid (HM1.out.pd.tb hT)
  obtain ⟨x0, x1, x2, x3, x4⟩ := HO1.out.o5
  have hlx := HO1.out.lt
  rw [hx0] at x0
  clear HM hT hx0
  go_enter Tryd.func7, Tryd.ntmps7
  go_wp2_with fail
  refine (take_any p g h fs ws _ HM1.out.pd.pl HT.out).mono ?_
  rintro e' w2 ⟨rfl, ⟨ws2, hpl⟩, hx⟩
  have HM2 := hid (HM1.out.prog hpl hx HB.out)
  have HO2 := hid (hx.row HO1.out (row_tys HO1.out HM1.out.pd.pl.frames (by decide)) (row_tys HO1.out HM1.out.pd.pl.words (by decide)))
  obtain ⟨y0, y1, y2, y3, y4⟩ := HO2.out.o5
  clear hpl hx y0
  go_wp2_with fail
  refine (rtake_any w0.heap.size q a b fs vs Ls _ HM2.out.rs).mono ?_
  rintro e' w3 ⟨rfl, hrs, he⟩
  have HM3 := hid (HM2.out.refr3 hrs (holds_take HM2.out.hd) he)
  clear hrs he x0 x1 x2 x3 x4 hlx y1 y2 y3 y4
  generalize takeV fs = tv at *
  generalize takeE fs = te at *
  go_wp2_with fail
  go_ret
  exact ⟨rfl, _, _, _, _, HM3.out⟩
set_option maxRecDepth 100000 in
set_option maxHeartbeats 4000000 in
theorem does_up (w0 w : World) (n : Nat) (K : Int) (p g h q a b : Nat) (fs : List FR) (ws : List Nat) (vs : List Value) (Ls : List (List Int)) (x : OP) (hT : Tb w0) (HM : Md w0 w n K p g h q a b fs fs ws vs Ls) (hK0 : 0 ≤ K) (hK1 : K < 9223372036854775807) (hx0 : x.kind = 1) :
    Calls Tryd.prog 7 #[.pointer (some ⟨p, 0, none⟩), .pointer (some ⟨q, 0, none⟩), opV x] w fun e w' => e = .returned (.bool true) ∧ Mds w0 w' n (K + 1) p g h q a b := by
  have HO1 := hid (show Row (w.alloc (.cells (opA x) 32)) w.heap.size 32 (opC x) from Row.new w 32 (opC x))
  have HM1 := hid (HM.still (bal (.cells (opA x) 32)))
  have HB := hid (up_bd HM.pd.bd hK0 x.f)
  have HT := hid (HM1.out.max hK1)
  have HC := hid (HM1.out.maxC hK1)
  have H0 := hid HM.h0
  obtain ⟨x0, x1, x2, x3, x4⟩ := HO1.out.o5
  have hlx := HO1.out.lt
  rw [hx0] at x0
  clear HM hT hx0
  go_enter Tryd.func7, Tryd.ntmps7
  go_wp2_with fail
  refine (up_any p g h fs ws x.f _ HM1.out.pd.pl HT.out).mono ?_
  rintro e' w2 ⟨rfl, hpl, hx⟩
  have HM2 := hid (HM1.out.prog hpl hx HB.out)
  have HO2 := hid (hx.row HO1.out (row_tys HO1.out HM1.out.pd.pl.frames (by decide)) (row_tys HO1.out HM1.out.pd.pl.words (by decide)))
  obtain ⟨y0, y1, y2, y3, y4⟩ := HO2.out.o5
  clear hpl hx y0
  go_wp2_with fail
  refine (rup_any w0.heap.size q a b (cnts fs) vs Ls x.f _ HM2.out.rs HC.out).mono ?_
  rintro e' w3 ⟨rfl, hrs, he⟩
  rw [rtk_zero H0.out]
  rw [cnts_up H0.out] at hrs
  have HM3 := hid (HM2.out.refr3 hrs (holds_up HM2.out.hd x.f) he)
  clear hrs he x0 x1 x2 x3 x4 hlx y1 y2 y3 y4
  generalize takE fs x.f = te at *
  go_wp2_with fail
  go_ret
  exact ⟨rfl, _, _, _, _, HM3.out⟩
set_option maxRecDepth 100000 in
set_option maxHeartbeats 4000000 in
theorem does_down (w0 w : World) (n : Nat) (K : Int) (p g h q a b : Nat) (fs : List FR) (ws : List Nat) (vs : List Value) (Ls : List (List Int)) (x : OP) (hT : Tb w0) (HM : Md w0 w n K p g h q a b fs fs ws vs Ls) (hK0 : 0 ≤ K) (hK1 : K < 9223372036854775807) (hx0 : x.kind = 2) :
    Calls Tryd.prog 7 #[.pointer (some ⟨p, 0, none⟩), .pointer (some ⟨q, 0, none⟩), opV x] w fun e w' => e = .returned (.bool true) ∧ Mds w0 w' n (K + 1) p g h q a b := by
  have HO1 := hid (show Row (w.alloc (.cells (opA x) 32)) w.heap.size 32 (opC x) from Row.new w 32 (opC x))
  have HM1 := hid (HM.still (bal (.cells (opA x) 32)))
  have HB := hid (down_bd HM.pd.bd hK0 x.f)
  have HT := hid (HM1.out.max hK1)
  have HC := hid (HM1.out.maxC hK1)
  have H0 := hid HM.h0
  obtain ⟨x0, x1, x2, x3, x4⟩ := HO1.out.o5
  have hlx := HO1.out.lt
  rw [hx0] at x0
  clear HM hT hx0
  go_enter Tryd.func7, Tryd.ntmps7
  go_wp2_with fail
  refine (down_any p g h fs ws x.f _ HM1.out.pd.pl HT.out).mono ?_
  rintro e' w2 ⟨rfl, ⟨ws2, hpl⟩, hx⟩
  have HM2 := hid (HM1.out.prog hpl hx HB.out)
  have HO2 := hid (hx.row HO1.out (row_tys HO1.out HM1.out.pd.pl.frames (by decide)) (row_tys HO1.out HM1.out.pd.pl.words (by decide)))
  obtain ⟨y0, y1, y2, y3, y4⟩ := HO2.out.o5
  clear hpl hx y0
  go_wp2_with fail
  refine (rdown_any w0.heap.size q a b (cnts fs) vs Ls x.f _ HM2.out.rs HC.out).mono ?_
  rintro e' w3 ⟨rfl, hrs, he⟩
  rw [rtk_zero H0.out]
  rw [cnts_down H0.out] at hrs
  have HM3 := hid (HM2.out.refr3 hrs (holds_down HM2.out.hd x.f) he)
  clear hrs he x0 x1 x2 x3 x4 hlx y1 y2 y3 y4
  generalize takE fs x.f = te at *
  go_wp2_with fail
  go_ret
  exact ⟨rfl, _, _, _, _, HM3.out⟩
set_option maxRecDepth 100000 in
set_option maxHeartbeats 4000000 in
theorem does_copy (w0 w : World) (n : Nat) (K : Int) (p g h q a b : Nat) (fs : List FR) (ws : List Nat) (vs : List Value) (Ls : List (List Int)) (x : OP) (hT : Tb w0) (HM : Md w0 w n K p g h q a b fs fs ws vs Ls) (hK0 : 0 ≤ K) (hx0 : x.kind = 5) :
    Calls Tryd.prog 7 #[.pointer (some ⟨p, 0, none⟩), .pointer (some ⟨q, 0, none⟩), opV x] w fun e w' => e = .returned (.bool true) ∧ Mds w0 w' n (K + 1) p g h q a b := by
  have HO1 := hid (show Row (w.alloc (.cells (opA x) 32)) w.heap.size 32 (opC x) from Row.new w 32 (opC x))
  have HM1 := hid (HM.still (bal (.cells (opA x) 32)))
  have HB := hid (copy_bd HM.pd.bd hK0 x.f)
  have HT := hid (HM1.out.pd.tb hT)
  have H0 := hid HM.h0
  obtain ⟨x0, x1, x2, x3, x4⟩ := HO1.out.o5
  have hlx := HO1.out.lt
  rw [hx0] at x0
  clear HM hT hx0
  go_enter Tryd.func7, Tryd.ntmps7
  go_wp2_with fail
  refine (copy_any p g h fs ws x.f _ HM1.out.pd.pl HT.out).mono ?_
  rintro e' w2 ⟨rfl, ⟨ws2, hpl⟩, hx⟩
  have HM2 := hid (HM1.out.prog hpl hx HB.out)
  have HO2 := hid (hx.row HO1.out (row_tys HO1.out HM1.out.pd.pl.frames (by decide)) (row_tys HO1.out HM1.out.pd.pl.words (by decide)))
  obtain ⟨y0, y1, y2, y3, y4⟩ := HO2.out.o5
  clear hpl hx y0
  go_wp2_with fail
  refine (rcopy_any w0.heap.size q a b fs vs Ls x.f _ HM2.out.rs H0.out HM2.out.hd HM2.out.size).mono ?_
  rintro e' w3 ⟨rfl, vs3, Ls3, hrs, hh, ho, he⟩
  have HM3 := hid (HM2.out.refr hrs hh ho he)
  clear hh ho
  clear hrs he x0 x1 x2 x3 x4 hlx y1 y2 y3 y4
  generalize copyV fs x.f = tv at *
  generalize copyE fs x.f = te at *
  go_wp2_with fail
  go_ret
  exact ⟨rfl, _, _, _, _, HM3.out⟩
set_option maxRecDepth 100000 in
set_option maxHeartbeats 4000000 in
theorem does_not (w0 w : World) (n : Nat) (K : Int) (p g h q a b : Nat) (fs : List FR) (ws : List Nat) (vs : List Value) (Ls : List (List Int)) (x : OP) (HM : Md w0 w n K p g h q a b fs fs ws vs Ls) (hx : x.kind ≠ 0 ∧ x.kind ≠ 1 ∧ x.kind ≠ 2 ∧ x.kind ≠ 3 ∧ x.kind ≠ 4 ∧ x.kind ≠ 5) :
    Calls Tryd.prog 7 #[.pointer (some ⟨p, 0, none⟩), .pointer (some ⟨q, 0, none⟩), opV x] w fun e w' => e = .returned (.bool true) ∧ Mds w0 w' n (K + 1) p g h q a b := by
  have HO1 := hid (show Row (w.alloc (.cells (opA x) 32)) w.heap.size 32 (opC x) from Row.new w 32 (opC x))
  have HM1 := hid (HM.still (bal (.cells (opA x) 32)))
  have HM2 := hid (HM1.out.prog HM1.out.pd.pl (Ex.refl _ _ _) ⟨bd_mono HM.pd.bd, rfl⟩)
  obtain ⟨x0, x1, x2, x3, x4⟩ := HO1.out.o5
  have hlx := HO1.out.lt
  obtain ⟨h0, h1, h2, h3, h4, h5⟩ := hx
  have q0 : (x.kind == 0) = false := by simpa using h0
  have q1 : (x.kind == 1) = false := by simpa using h1
  have q2 : (x.kind == 2) = false := by simpa using h2
  have q3 : (x.kind == 3) = false := by simpa using h3
  have q4 : (x.kind == 4) = false := by simpa using h4
  have q5 : (x.kind == 5) = false := by simpa using h5
  clear HM h0 h1 h2 h3 h4 h5
  go_enter Tryd.func7, Tryd.ntmps7
  go_wp2_with fail
  go_ret
  exact ⟨rfl, _, _, _, _, HM2.out⟩
end Go.Proofs.YtllkeeeajlgkpaaDoor
