
/- hostelref25.Only. -/
import Derived.Test.YtcbkikioapdbbaaDoorCd0
import Derived.Test.YtcbkikioapdbbaaDoorCd1
namespace Go.Proofs.YtcbkikioapdbbaaDoor
open Go.RowKit Go.Sort
attribute [local go_sem] Oper.semAt_some

/-- A call with its kind alone. -/
def kindC (x : CG) : CG := ⟨x.kind, 0, 0, 0, 0, 0, [], none, 0, [], none, 0, [], none, 0, []⟩
def OnlyP (x : CG) (w : World) (e : Ending) (w' : World) : Prop := ∃ y, e = .returned (cgV y) ∧ (pcOf x = pcOf y ↔ badF x = false) ∧ CGok w' y ∧ Below w.heap.size w w'
theorem CGok.kindC {w : World} {x : CG} (h : CGok w x) : CGok w (kindC x) := ⟨Cel.nil _ _, Cel.nil _ _, Byt.nil _ _, h.kind, Nat.zero_lt_succ _, Nat.zero_lt_succ _, Nat.zero_lt_succ _, Nat.zero_lt_succ _, Nat.zero_lt_succ _, Nat.zero_le _, Nat.zero_le _, Nat.zero_le _, (fun _ h => by cases h), (fun _ h => by cases h), Nat.zero_le _, fun _ => rfl, fun _ => rfl, fun _ => rfl⟩
theorem isz_nil (l : List BL) : (l.length == 0) = decide (l = []) := by cases l <;> simp
theorem Row.three3 {w : World} {g : Nat} {E : TypeId} {x : CG} (h : Row w g E (cgC x)) : Row w g E (cgC x) := h
theorem only_end {x y : CG} {w W : World} {r o : Nat} (hr : Row W r 26 (cgC y)) (hb : Below w.heap.size w W) : Row W.drew r 26 (cgC y) := ⟨hr.heap⟩

set_option maxRecDepth 100000 in
set_option maxHeartbeats 4000000 in
theorem only_PV (x : CG) (w : World) (hx : CGok w x) (tA : hasR x.kind 65 = false) (tB : hasR x.kind 66 = false) (tC : hasR x.kind 67 = false) (tD : hasR x.kind 68 = false) (tP : hasR x.kind 80 = true) (tV : hasR x.kind 86 = true) (tX : hasR x.kind 88 = false) :
    Calls Tryd.prog 36 #[cgV x] w fun e w' => ∃ y, e = .returned (cgV y) ∧ y = { kindC x with kind := x.kind, path := x.path, va := x.va, vc := x.vc, argv := x.argv, ea := x.ea, ec := x.ec, env := x.env } ∧ CGok w' y ∧ Below w.heap.size w w' := by
  have hbox := box_cg x
  obtain ⟨wa, hwa⟩ : ∃ wa, wa = ((w.alloc (.cells (cgC x).toArray 26)).alloc (.cells #[.int .u8 0, .int .u64 0, .int .u64 0, .int .u64 0, .int .u64 0, .int .u64 0, .string { data := #[] }, .slice none 0 0, .slice none 0 0, .slice none 0 0] 26)).alloc (.cells #[.int .u8 x.kind, .int .u64 0, .int .u64 0, .int .u64 0, .int .u64 0, .int .u64 0, .string { data := #[] }, .slice none 0 0, .slice none 0 0, .slice none 0 0] 26) := ⟨_, rfl⟩
  have HB := hid (show Below w.heap.size w wa by rw [hwa]; exact bal2' (bal2' (bal _) _) _)
  have HX := hid (show Row wa w.heap.size 26 (cgC x) by rw [hwa]; exact ((Row.new w _ _).alloc _).alloc _)
  have HR := hid (show Row wa (w.heap.size + 1) 26 (cgC (cgOf (pc0 0))) by
    rw [hwa]
    have h := (Row.new (w.alloc (.cells (cgC x).toArray 26)) 26 (cgC (cgOf (pc0 0)))).alloc (.cells (cgC (kindC x)).toArray 26)
    rw [World.size_alloc] at h; exact h)
  have HO := hid (show Row wa (w.heap.size + 1 + 1) 26 (cgC (kindC x)) by
    rw [hwa]
    have h := Row.new ((w.alloc (.cells (cgC x).toArray 26)).alloc (.cells (cgC (cgOf (pc0 0))).toArray 26)) 26 (cgC (kindC x))
    rw [World.size_alloc, World.size_alloc] at h; exact h)
  have HOK := hid hx
  have HW := hid hwa
  clear hwa hx
  have c0 := HX.out.cell' 0
  simp only [List.getElem?_cons_zero] at c0
  go_enter Tryd.func36, Tryd.ntmps36
  go_wp2_with fail
  rw [← HW.out]
  clear c0
  refine (has_any x.kind 65 _ rfl _ HOK.out.kind).mono ?_
  rintro e' WA ⟨rfl, hb⟩
  rw [tA]
  replace HX := hid (HX.out.below hb HX.out.lt)
  replace HR := hid (HR.out.below hb HR.out.lt)
  replace HO := hid (HO.out.below hb HO.out.lt)
  replace HB := hid (HB.out.trans (hb.mono HB.out.size))
  clear hb
  have c0 : WA.cell? ⟨w.heap.size, 0, none⟩ = some (.int .u8 x.kind) := HX.out.cell' 0
  go_wp2_with fail
  clear c0
  refine (has_any x.kind 66 _ rfl _ HOK.out.kind).mono ?_
  rintro e' WB ⟨rfl, hb⟩
  rw [tB]
  replace HX := hid (HX.out.below hb HX.out.lt)
  replace HR := hid (HR.out.below hb HR.out.lt)
  replace HO := hid (HO.out.below hb HO.out.lt)
  replace HB := hid (HB.out.trans (hb.mono HB.out.size))
  clear hb
  have c0 : WB.cell? ⟨w.heap.size, 0, none⟩ = some (.int .u8 x.kind) := HX.out.cell' 0
  go_wp2_with fail
  clear c0
  refine (has_any x.kind 67 _ rfl _ HOK.out.kind).mono ?_
  rintro e' WC ⟨rfl, hb⟩
  rw [tC]
  replace HX := hid (HX.out.below hb HX.out.lt)
  replace HR := hid (HR.out.below hb HR.out.lt)
  replace HO := hid (HO.out.below hb HO.out.lt)
  replace HB := hid (HB.out.trans (hb.mono HB.out.size))
  clear hb
  have c0 : WC.cell? ⟨w.heap.size, 0, none⟩ = some (.int .u8 x.kind) := HX.out.cell' 0
  go_wp2_with fail
  clear c0
  refine (has_any x.kind 68 _ rfl _ HOK.out.kind).mono ?_
  rintro e' WD ⟨rfl, hb⟩
  rw [tD]
  replace HX := hid (HX.out.below hb HX.out.lt)
  replace HR := hid (HR.out.below hb HR.out.lt)
  replace HO := hid (HO.out.below hb HO.out.lt)
  replace HB := hid (HB.out.trans (hb.mono HB.out.size))
  clear hb
  have c0 : WD.cell? ⟨w.heap.size, 0, none⟩ = some (.int .u8 x.kind) := HX.out.cell' 0
  go_wp2_with fail
  clear c0
  refine (has_any x.kind 80 _ rfl _ HOK.out.kind).mono ?_
  rintro e' WP ⟨rfl, hb⟩
  rw [tP]
  replace HX := hid (HX.out.below hb HX.out.lt)
  replace HR := hid (HR.out.below hb HR.out.lt)
  replace HO := hid (HO.out.below hb HO.out.lt)
  replace HB := hid (HB.out.trans (hb.mono HB.out.size))
  clear hb
  have c0 : WP.cell? ⟨w.heap.size, 0, none⟩ = some (.int .u8 x.kind) := HX.out.cell' 0
  have x6 : WP.cell? ⟨w.heap.size, 6, none⟩ = some (.string (ba x.path)) := HX.out.cell' 6
  have z6 := HO.out.frozen 6
  have o6 : WP.cell? ⟨w.heap.size + 1 + 1, 6, none⟩ = some (.string { data := #[] }) := HO.out.cell' 6
  have hlt := HO.out.lt
  go_wp2_with fail
  have HO6 := hid (show Row _ _ 26 (cgC { kindC x with path := x.path }) from HO.out.set 6 (.string (ba x.path)))
  have HX6 := hid (HX.out.other (a := ⟨w.heap.size + 1 + 1, 6, none⟩) (by simp only [ne_eq]; omega) (.string (ba x.path)))
  have HR6 := hid (HR.out.other (a := ⟨w.heap.size + 1 + 1, 6, none⟩) (by simp only [ne_eq]; omega) (.string (ba x.path)))
  have HB6 := hid (bset HB.out (b := w.heap.size + 1 + 1) (o := 6) (by omega) (.string (ba x.path)))
  clear HO HX HR HB
  have HO := HO6
  have HX := HX6
  have HR := HR6
  have HB := HB6
  clear HO6 HX6 HR6 HB6
  clear c0 hlt x6 z6 o6
  generalize hWW : World.setCell _ ⟨w.heap.size + 1 + 1, 6, none⟩ _ = Wq at *
  clear hWW
  have c0 : Wq.cell? ⟨w.heap.size, 0, none⟩ = some (.int .u8 x.kind) := HX.out.cell' 0
  clear c0
  refine (has_any x.kind 86 _ rfl _ HOK.out.kind).mono ?_
  rintro e' WV ⟨rfl, hb⟩
  rw [tV]
  replace HX := hid (HX.out.below hb HX.out.lt)
  replace HR := hid (HR.out.below hb HR.out.lt)
  replace HO := hid (HO.out.below hb HO.out.lt)
  replace HB := hid (HB.out.trans (hb.mono HB.out.size))
  clear hb
  have c0 : WV.cell? ⟨w.heap.size, 0, none⟩ = some (.int .u8 x.kind) := HX.out.cell' 0
  have x7 : WV.cell? ⟨w.heap.size, 7, none⟩ = some (.slice x.va x.argv.length x.vc) := HX.out.cell' 7
  have z7 := HO.out.frozen 7
  have o7 : WV.cell? ⟨w.heap.size + 1 + 1, 7, none⟩ = some (.slice none 0 0) := HO.out.cell' 7
  have x8 : WV.cell? ⟨w.heap.size, 8, none⟩ = some (.slice x.ea x.env.length x.ec) := HX.out.cell' 8
  have z8 := HO.out.frozen 8
  have o8 : WV.cell? ⟨w.heap.size + 1 + 1, 8, none⟩ = some (.slice none 0 0) := HO.out.cell' 8
  have hlt := HO.out.lt
  go_wp2_with fail
  have HO7 := hid (show Row _ _ 26 (cgC { kindC x with path := x.path, va := x.va, vc := x.vc, argv := x.argv }) from HO.out.set 7 (.slice x.va x.argv.length x.vc))
  have HX7 := hid (HX.out.other (a := ⟨w.heap.size + 1 + 1, 7, none⟩) (by simp only [ne_eq]; omega) (.slice x.va x.argv.length x.vc))
  have HR7 := hid (HR.out.other (a := ⟨w.heap.size + 1 + 1, 7, none⟩) (by simp only [ne_eq]; omega) (.slice x.va x.argv.length x.vc))
  have HB7 := hid (bset HB.out (b := w.heap.size + 1 + 1) (o := 7) (by omega) (.slice x.va x.argv.length x.vc))
  clear HO HX HR HB
  have HO := HO7
  have HX := HX7
  have HR := HR7
  have HB := HB7
  clear HO7 HX7 HR7 HB7
  have HO8 := hid (show Row _ _ 26 (cgC { kindC x with path := x.path, va := x.va, vc := x.vc, argv := x.argv, ea := x.ea, ec := x.ec, env := x.env }) from HO.out.set 8 (.slice x.ea x.env.length x.ec))
  have HX8 := hid (HX.out.other (a := ⟨w.heap.size + 1 + 1, 8, none⟩) (by simp only [ne_eq]; omega) (.slice x.ea x.env.length x.ec))
  have HR8 := hid (HR.out.other (a := ⟨w.heap.size + 1 + 1, 8, none⟩) (by simp only [ne_eq]; omega) (.slice x.ea x.env.length x.ec))
  have HB8 := hid (bset HB.out (b := w.heap.size + 1 + 1) (o := 8) (by omega) (.slice x.ea x.env.length x.ec))
  clear HO HX HR HB
  have HO := HO8
  have HX := HX8
  have HR := HR8
  have HB := HB8
  clear HO8 HX8 HR8 HB8
  clear c0 hlt x7 z7 o7 x8 z8 o8
  generalize hWW : World.setCell _ ⟨w.heap.size + 1 + 1, 8, none⟩ _ = Wq at *
  clear hWW
  have c0 : Wq.cell? ⟨w.heap.size, 0, none⟩ = some (.int .u8 x.kind) := HX.out.cell' 0
  clear c0
  refine (has_any x.kind 88 _ rfl _ HOK.out.kind).mono ?_
  rintro e' WX ⟨rfl, hb⟩
  rw [tX]
  replace HX := hid (HX.out.below hb HX.out.lt)
  replace HR := hid (HR.out.below hb HR.out.lt)
  replace HO := hid (HO.out.below hb HO.out.lt)
  replace HB := hid (HB.out.trans (hb.mono HB.out.size))
  clear hb
  have c0 : WX.cell? ⟨w.heap.size, 0, none⟩ = some (.int .u8 x.kind) := HX.out.cell' 0
  have HO : Hid (Row WX (w.heap.size + 1 + 1) 26 (cgC { kindC x with kind := x.kind, path := x.path, va := x.va, vc := x.vc, argv := x.argv, ea := x.ea, ec := x.ec, env := x.env })) := HO
  have HYK : Hid (CGok w { kindC x with kind := x.kind, path := x.path, va := x.va, vc := x.vc, argv := x.argv, ea := x.ea, ec := x.ec, env := x.env }) := hid { HOK.out.kindC with kind := HOK.out.kind, pn := HOK.out.pn, argv := HOK.out.argv, env := HOK.out.env, an := HOK.out.an, en := HOK.out.en, at' := HOK.out.at', et := HOK.out.et, ani := HOK.out.ani, eni := HOK.out.eni }
  obtain ⟨y0, hy0⟩ : ∃ y0 : CG, y0 = { kindC x with kind := x.kind, path := x.path, va := x.va, vc := x.vc, argv := x.argv, ea := x.ea, ec := x.ec, env := x.env } := ⟨_, rfl⟩
  rw [← hy0] at HO
  have HYE : Hid (y0 = { kindC x with kind := x.kind, path := x.path, va := x.va, vc := x.vc, argv := x.argv, ea := x.ea, ec := x.ec, env := x.env }) := hid (by rw [hy0])
  rw [← HYE.out] at HYK
  clear hy0
  obtain ⟨k0, k1, k2, k3, k4, k5, k6, k7, k8, k9⟩ := HO.out.ten
  obtain ⟨r0, r1, r2, r3, r4, r5, r6, r7, r8, r9⟩ := HR.out.ten
  obtain ⟨z0, z1, z2, z3, z4, z5, z6, z7, z8, z9⟩ := HR.out.tenF
  have hltr := HR.out.lt
  go_wp2_with fail
  generalize hW10 : World.setCell _ ⟨w.heap.size + 1, 9, none⟩ _ = W10
  have hr : Row W10 (w.heap.size + 1) 26 (cgC y0) := by rw [← hW10]; exact Row.set10 HR.out (y0)
  have hb : Below w.heap.size w W10 := by rw [← hW10]; exact set10 HB.out (w.heap.size + 1) (by omega) _ _ _ _ _ _ _ _ _ _
  clear hW10 k0 k1 k2 k3 k4 k5 k6 k7 k8 k9 r0 r1 r2 r3 r4 r5 r6 r7 r8 r9 z0 z1 z2 z3 z4 z5 z6 z7 z8 z9
  obtain ⟨k0, k1, k2, k3, k4, k5, k6, k7, k8, k9⟩ := hr.ten
  refine bodyPost_ret (v := cgV y0) (by simp [results, Tryd.results36, go_sem, k0, k1, k2, k3, k4, k5, k6, k7, k8, k9]) rfl ⟨_, rfl, HYE.out, HYK.out.below hb, hb⟩

set_option maxRecDepth 100000 in
set_option maxHeartbeats 4000000 in
theorem only_none (x : CG) (w : World) (hx : CGok w x) (tA : hasR x.kind 65 = false) (tB : hasR x.kind 66 = false) (tC : hasR x.kind 67 = false) (tD : hasR x.kind 68 = false) (tP : hasR x.kind 80 = false) (tV : hasR x.kind 86 = false) (tX : hasR x.kind 88 = false) :
    Calls Tryd.prog 36 #[cgV x] w fun e w' => ∃ y, e = .returned (cgV y) ∧ y = { kindC x with kind := x.kind } ∧ CGok w' y ∧ Below w.heap.size w w' := by
  have hbox := box_cg x
  obtain ⟨wa, hwa⟩ : ∃ wa, wa = ((w.alloc (.cells (cgC x).toArray 26)).alloc (.cells #[.int .u8 0, .int .u64 0, .int .u64 0, .int .u64 0, .int .u64 0, .int .u64 0, .string { data := #[] }, .slice none 0 0, .slice none 0 0, .slice none 0 0] 26)).alloc (.cells #[.int .u8 x.kind, .int .u64 0, .int .u64 0, .int .u64 0, .int .u64 0, .int .u64 0, .string { data := #[] }, .slice none 0 0, .slice none 0 0, .slice none 0 0] 26) := ⟨_, rfl⟩
  have HB := hid (show Below w.heap.size w wa by rw [hwa]; exact bal2' (bal2' (bal _) _) _)
  have HX := hid (show Row wa w.heap.size 26 (cgC x) by rw [hwa]; exact ((Row.new w _ _).alloc _).alloc _)
  have HR := hid (show Row wa (w.heap.size + 1) 26 (cgC (cgOf (pc0 0))) by
    rw [hwa]
    have h := (Row.new (w.alloc (.cells (cgC x).toArray 26)) 26 (cgC (cgOf (pc0 0)))).alloc (.cells (cgC (kindC x)).toArray 26)
    rw [World.size_alloc] at h; exact h)
  have HO := hid (show Row wa (w.heap.size + 1 + 1) 26 (cgC (kindC x)) by
    rw [hwa]
    have h := Row.new ((w.alloc (.cells (cgC x).toArray 26)).alloc (.cells (cgC (cgOf (pc0 0))).toArray 26)) 26 (cgC (kindC x))
    rw [World.size_alloc, World.size_alloc] at h; exact h)
  have HOK := hid hx
  have HW := hid hwa
  clear hwa hx
  have c0 := HX.out.cell' 0
  simp only [List.getElem?_cons_zero] at c0
  go_enter Tryd.func36, Tryd.ntmps36
  go_wp2_with fail
  rw [← HW.out]
  clear c0
  refine (has_any x.kind 65 _ rfl _ HOK.out.kind).mono ?_
  rintro e' WA ⟨rfl, hb⟩
  rw [tA]
  replace HX := hid (HX.out.below hb HX.out.lt)
  replace HR := hid (HR.out.below hb HR.out.lt)
  replace HO := hid (HO.out.below hb HO.out.lt)
  replace HB := hid (HB.out.trans (hb.mono HB.out.size))
  clear hb
  have c0 : WA.cell? ⟨w.heap.size, 0, none⟩ = some (.int .u8 x.kind) := HX.out.cell' 0
  go_wp2_with fail
  clear c0
  refine (has_any x.kind 66 _ rfl _ HOK.out.kind).mono ?_
  rintro e' WB ⟨rfl, hb⟩
  rw [tB]
  replace HX := hid (HX.out.below hb HX.out.lt)
  replace HR := hid (HR.out.below hb HR.out.lt)
  replace HO := hid (HO.out.below hb HO.out.lt)
  replace HB := hid (HB.out.trans (hb.mono HB.out.size))
  clear hb
  have c0 : WB.cell? ⟨w.heap.size, 0, none⟩ = some (.int .u8 x.kind) := HX.out.cell' 0
  go_wp2_with fail
  clear c0
  refine (has_any x.kind 67 _ rfl _ HOK.out.kind).mono ?_
  rintro e' WC ⟨rfl, hb⟩
  rw [tC]
  replace HX := hid (HX.out.below hb HX.out.lt)
  replace HR := hid (HR.out.below hb HR.out.lt)
  replace HO := hid (HO.out.below hb HO.out.lt)
  replace HB := hid (HB.out.trans (hb.mono HB.out.size))
  clear hb
  have c0 : WC.cell? ⟨w.heap.size, 0, none⟩ = some (.int .u8 x.kind) := HX.out.cell' 0
  go_wp2_with fail
  clear c0
  refine (has_any x.kind 68 _ rfl _ HOK.out.kind).mono ?_
  rintro e' WD ⟨rfl, hb⟩
  rw [tD]
  replace HX := hid (HX.out.below hb HX.out.lt)
  replace HR := hid (HR.out.below hb HR.out.lt)
  replace HO := hid (HO.out.below hb HO.out.lt)
  replace HB := hid (HB.out.trans (hb.mono HB.out.size))
  clear hb
  have c0 : WD.cell? ⟨w.heap.size, 0, none⟩ = some (.int .u8 x.kind) := HX.out.cell' 0
  go_wp2_with fail
  clear c0
  refine (has_any x.kind 80 _ rfl _ HOK.out.kind).mono ?_
  rintro e' WP ⟨rfl, hb⟩
  rw [tP]
  replace HX := hid (HX.out.below hb HX.out.lt)
  replace HR := hid (HR.out.below hb HR.out.lt)
  replace HO := hid (HO.out.below hb HO.out.lt)
  replace HB := hid (HB.out.trans (hb.mono HB.out.size))
  clear hb
  have c0 : WP.cell? ⟨w.heap.size, 0, none⟩ = some (.int .u8 x.kind) := HX.out.cell' 0
  go_wp2_with fail
  clear c0
  refine (has_any x.kind 86 _ rfl _ HOK.out.kind).mono ?_
  rintro e' WV ⟨rfl, hb⟩
  rw [tV]
  replace HX := hid (HX.out.below hb HX.out.lt)
  replace HR := hid (HR.out.below hb HR.out.lt)
  replace HO := hid (HO.out.below hb HO.out.lt)
  replace HB := hid (HB.out.trans (hb.mono HB.out.size))
  clear hb
  have c0 : WV.cell? ⟨w.heap.size, 0, none⟩ = some (.int .u8 x.kind) := HX.out.cell' 0
  go_wp2_with fail
  clear c0
  refine (has_any x.kind 88 _ rfl _ HOK.out.kind).mono ?_
  rintro e' WX ⟨rfl, hb⟩
  rw [tX]
  replace HX := hid (HX.out.below hb HX.out.lt)
  replace HR := hid (HR.out.below hb HR.out.lt)
  replace HO := hid (HO.out.below hb HO.out.lt)
  replace HB := hid (HB.out.trans (hb.mono HB.out.size))
  clear hb
  have c0 : WX.cell? ⟨w.heap.size, 0, none⟩ = some (.int .u8 x.kind) := HX.out.cell' 0
  have HO : Hid (Row WX (w.heap.size + 1 + 1) 26 (cgC { kindC x with kind := x.kind })) := HO
  have HYK : Hid (CGok w { kindC x with kind := x.kind }) := hid { HOK.out.kindC with kind := HOK.out.kind }
  obtain ⟨y0, hy0⟩ : ∃ y0 : CG, y0 = { kindC x with kind := x.kind } := ⟨_, rfl⟩
  rw [← hy0] at HO
  have HYE : Hid (y0 = { kindC x with kind := x.kind }) := hid (by rw [hy0])
  rw [← HYE.out] at HYK
  clear hy0
  obtain ⟨k0, k1, k2, k3, k4, k5, k6, k7, k8, k9⟩ := HO.out.ten
  obtain ⟨r0, r1, r2, r3, r4, r5, r6, r7, r8, r9⟩ := HR.out.ten
  obtain ⟨z0, z1, z2, z3, z4, z5, z6, z7, z8, z9⟩ := HR.out.tenF
  have hltr := HR.out.lt
  go_wp2_with fail
  generalize hW10 : World.setCell _ ⟨w.heap.size + 1, 9, none⟩ _ = W10
  have hr : Row W10 (w.heap.size + 1) 26 (cgC y0) := by rw [← hW10]; exact Row.set10 HR.out (y0)
  have hb : Below w.heap.size w W10 := by rw [← hW10]; exact set10 HB.out (w.heap.size + 1) (by omega) _ _ _ _ _ _ _ _ _ _
  clear hW10 k0 k1 k2 k3 k4 k5 k6 k7 k8 k9 r0 r1 r2 r3 r4 r5 r6 r7 r8 r9 z0 z1 z2 z3 z4 z5 z6 z7 z8 z9
  obtain ⟨k0, k1, k2, k3, k4, k5, k6, k7, k8, k9⟩ := hr.ten
  refine bodyPost_ret (v := cgV y0) (by simp [results, Tryd.results36, go_sem, k0, k1, k2, k3, k4, k5, k6, k7, k8, k9]) rfl ⟨_, rfl, HYE.out, HYK.out.below hb, hb⟩

set_option maxRecDepth 100000 in
set_option maxHeartbeats 4000000 in
theorem only_A (x : CG) (w : World) (hx : CGok w x) (tA : hasR x.kind 65 = true) (tB : hasR x.kind 66 = false) (tC : hasR x.kind 67 = false) (tD : hasR x.kind 68 = false) (tP : hasR x.kind 80 = false) (tV : hasR x.kind 86 = false) (tX : hasR x.kind 88 = false) :
    Calls Tryd.prog 36 #[cgV x] w fun e w' => ∃ y, e = .returned (cgV y) ∧ y = { kindC x with kind := x.kind, a := x.a } ∧ CGok w' y ∧ Below w.heap.size w w' := by
  have hbox := box_cg x
  obtain ⟨wa, hwa⟩ : ∃ wa, wa = ((w.alloc (.cells (cgC x).toArray 26)).alloc (.cells #[.int .u8 0, .int .u64 0, .int .u64 0, .int .u64 0, .int .u64 0, .int .u64 0, .string { data := #[] }, .slice none 0 0, .slice none 0 0, .slice none 0 0] 26)).alloc (.cells #[.int .u8 x.kind, .int .u64 0, .int .u64 0, .int .u64 0, .int .u64 0, .int .u64 0, .string { data := #[] }, .slice none 0 0, .slice none 0 0, .slice none 0 0] 26) := ⟨_, rfl⟩
  have HB := hid (show Below w.heap.size w wa by rw [hwa]; exact bal2' (bal2' (bal _) _) _)
  have HX := hid (show Row wa w.heap.size 26 (cgC x) by rw [hwa]; exact ((Row.new w _ _).alloc _).alloc _)
  have HR := hid (show Row wa (w.heap.size + 1) 26 (cgC (cgOf (pc0 0))) by
    rw [hwa]
    have h := (Row.new (w.alloc (.cells (cgC x).toArray 26)) 26 (cgC (cgOf (pc0 0)))).alloc (.cells (cgC (kindC x)).toArray 26)
    rw [World.size_alloc] at h; exact h)
  have HO := hid (show Row wa (w.heap.size + 1 + 1) 26 (cgC (kindC x)) by
    rw [hwa]
    have h := Row.new ((w.alloc (.cells (cgC x).toArray 26)).alloc (.cells (cgC (cgOf (pc0 0))).toArray 26)) 26 (cgC (kindC x))
    rw [World.size_alloc, World.size_alloc] at h; exact h)
  have HOK := hid hx
  have HW := hid hwa
  clear hwa hx
  have c0 := HX.out.cell' 0
  simp only [List.getElem?_cons_zero] at c0
  go_enter Tryd.func36, Tryd.ntmps36
  go_wp2_with fail
  rw [← HW.out]
  clear c0
  refine (has_any x.kind 65 _ rfl _ HOK.out.kind).mono ?_
  rintro e' WA ⟨rfl, hb⟩
  rw [tA]
  replace HX := hid (HX.out.below hb HX.out.lt)
  replace HR := hid (HR.out.below hb HR.out.lt)
  replace HO := hid (HO.out.below hb HO.out.lt)
  replace HB := hid (HB.out.trans (hb.mono HB.out.size))
  clear hb
  have c0 : WA.cell? ⟨w.heap.size, 0, none⟩ = some (.int .u8 x.kind) := HX.out.cell' 0
  have x1 : WA.cell? ⟨w.heap.size, 1, none⟩ = some (.int .u64 x.a) := HX.out.cell' 1
  have z1 := HO.out.frozen 1
  have o1 : WA.cell? ⟨w.heap.size + 1 + 1, 1, none⟩ = some (.int .u64 0) := HO.out.cell' 1
  have hlt := HO.out.lt
  go_wp2_with fail
  have HO1 := hid (show Row _ _ 26 (cgC { kindC x with a := x.a }) from HO.out.set 1 (.int .u64 x.a))
  have HX1 := hid (HX.out.other (a := ⟨w.heap.size + 1 + 1, 1, none⟩) (by simp only [ne_eq]; omega) (.int .u64 x.a))
  have HR1 := hid (HR.out.other (a := ⟨w.heap.size + 1 + 1, 1, none⟩) (by simp only [ne_eq]; omega) (.int .u64 x.a))
  have HB1 := hid (bset HB.out (b := w.heap.size + 1 + 1) (o := 1) (by omega) (.int .u64 x.a))
  clear HO HX HR HB
  have HO := HO1
  have HX := HX1
  have HR := HR1
  have HB := HB1
  clear HO1 HX1 HR1 HB1
  clear c0 hlt x1 z1 o1
  generalize hWW : World.setCell _ ⟨w.heap.size + 1 + 1, 1, none⟩ _ = Wq at *
  clear hWW
  have c0 : Wq.cell? ⟨w.heap.size, 0, none⟩ = some (.int .u8 x.kind) := HX.out.cell' 0
  clear c0
  refine (has_any x.kind 66 _ rfl _ HOK.out.kind).mono ?_
  rintro e' WB ⟨rfl, hb⟩
  rw [tB]
  replace HX := hid (HX.out.below hb HX.out.lt)
  replace HR := hid (HR.out.below hb HR.out.lt)
  replace HO := hid (HO.out.below hb HO.out.lt)
  replace HB := hid (HB.out.trans (hb.mono HB.out.size))
  clear hb
  have c0 : WB.cell? ⟨w.heap.size, 0, none⟩ = some (.int .u8 x.kind) := HX.out.cell' 0
  go_wp2_with fail
  clear c0
  refine (has_any x.kind 67 _ rfl _ HOK.out.kind).mono ?_
  rintro e' WC ⟨rfl, hb⟩
  rw [tC]
  replace HX := hid (HX.out.below hb HX.out.lt)
  replace HR := hid (HR.out.below hb HR.out.lt)
  replace HO := hid (HO.out.below hb HO.out.lt)
  replace HB := hid (HB.out.trans (hb.mono HB.out.size))
  clear hb
  have c0 : WC.cell? ⟨w.heap.size, 0, none⟩ = some (.int .u8 x.kind) := HX.out.cell' 0
  go_wp2_with fail
  clear c0
  refine (has_any x.kind 68 _ rfl _ HOK.out.kind).mono ?_
  rintro e' WD ⟨rfl, hb⟩
  rw [tD]
  replace HX := hid (HX.out.below hb HX.out.lt)
  replace HR := hid (HR.out.below hb HR.out.lt)
  replace HO := hid (HO.out.below hb HO.out.lt)
  replace HB := hid (HB.out.trans (hb.mono HB.out.size))
  clear hb
  have c0 : WD.cell? ⟨w.heap.size, 0, none⟩ = some (.int .u8 x.kind) := HX.out.cell' 0
  go_wp2_with fail
  clear c0
  refine (has_any x.kind 80 _ rfl _ HOK.out.kind).mono ?_
  rintro e' WP ⟨rfl, hb⟩
  rw [tP]
  replace HX := hid (HX.out.below hb HX.out.lt)
  replace HR := hid (HR.out.below hb HR.out.lt)
  replace HO := hid (HO.out.below hb HO.out.lt)
  replace HB := hid (HB.out.trans (hb.mono HB.out.size))
  clear hb
  have c0 : WP.cell? ⟨w.heap.size, 0, none⟩ = some (.int .u8 x.kind) := HX.out.cell' 0
  go_wp2_with fail
  clear c0
  refine (has_any x.kind 86 _ rfl _ HOK.out.kind).mono ?_
  rintro e' WV ⟨rfl, hb⟩
  rw [tV]
  replace HX := hid (HX.out.below hb HX.out.lt)
  replace HR := hid (HR.out.below hb HR.out.lt)
  replace HO := hid (HO.out.below hb HO.out.lt)
  replace HB := hid (HB.out.trans (hb.mono HB.out.size))
  clear hb
  have c0 : WV.cell? ⟨w.heap.size, 0, none⟩ = some (.int .u8 x.kind) := HX.out.cell' 0
  go_wp2_with fail
  clear c0
  refine (has_any x.kind 88 _ rfl _ HOK.out.kind).mono ?_
  rintro e' WX ⟨rfl, hb⟩
  rw [tX]
  replace HX := hid (HX.out.below hb HX.out.lt)
  replace HR := hid (HR.out.below hb HR.out.lt)
  replace HO := hid (HO.out.below hb HO.out.lt)
  replace HB := hid (HB.out.trans (hb.mono HB.out.size))
  clear hb
  have c0 : WX.cell? ⟨w.heap.size, 0, none⟩ = some (.int .u8 x.kind) := HX.out.cell' 0
  have HO : Hid (Row WX (w.heap.size + 1 + 1) 26 (cgC { kindC x with kind := x.kind, a := x.a })) := HO
  have HYK : Hid (CGok w { kindC x with kind := x.kind, a := x.a }) := hid { HOK.out.kindC with kind := HOK.out.kind, na := HOK.out.na }
  obtain ⟨y0, hy0⟩ : ∃ y0 : CG, y0 = { kindC x with kind := x.kind, a := x.a } := ⟨_, rfl⟩
  rw [← hy0] at HO
  have HYE : Hid (y0 = { kindC x with kind := x.kind, a := x.a }) := hid (by rw [hy0])
  rw [← HYE.out] at HYK
  clear hy0
  obtain ⟨k0, k1, k2, k3, k4, k5, k6, k7, k8, k9⟩ := HO.out.ten
  obtain ⟨r0, r1, r2, r3, r4, r5, r6, r7, r8, r9⟩ := HR.out.ten
  obtain ⟨z0, z1, z2, z3, z4, z5, z6, z7, z8, z9⟩ := HR.out.tenF
  have hltr := HR.out.lt
  go_wp2_with fail
  generalize hW10 : World.setCell _ ⟨w.heap.size + 1, 9, none⟩ _ = W10
  have hr : Row W10 (w.heap.size + 1) 26 (cgC y0) := by rw [← hW10]; exact Row.set10 HR.out (y0)
  have hb : Below w.heap.size w W10 := by rw [← hW10]; exact set10 HB.out (w.heap.size + 1) (by omega) _ _ _ _ _ _ _ _ _ _
  clear hW10 k0 k1 k2 k3 k4 k5 k6 k7 k8 k9 r0 r1 r2 r3 r4 r5 r6 r7 r8 r9 z0 z1 z2 z3 z4 z5 z6 z7 z8 z9
  obtain ⟨k0, k1, k2, k3, k4, k5, k6, k7, k8, k9⟩ := hr.ten
  refine bodyPost_ret (v := cgV y0) (by simp [results, Tryd.results36, go_sem, k0, k1, k2, k3, k4, k5, k6, k7, k8, k9]) rfl ⟨_, rfl, HYE.out, HYK.out.below hb, hb⟩

set_option maxRecDepth 100000 in
set_option maxHeartbeats 4000000 in
theorem only_ABCD (x : CG) (w : World) (hx : CGok w x) (tA : hasR x.kind 65 = true) (tB : hasR x.kind 66 = true) (tC : hasR x.kind 67 = true) (tD : hasR x.kind 68 = true) (tP : hasR x.kind 80 = false) (tV : hasR x.kind 86 = false) (tX : hasR x.kind 88 = false) :
    Calls Tryd.prog 36 #[cgV x] w fun e w' => ∃ y, e = .returned (cgV y) ∧ y = { kindC x with kind := x.kind, a := x.a, b := x.b, c := x.c, d := x.d, e := x.e } ∧ CGok w' y ∧ Below w.heap.size w w' := by
  have hbox := box_cg x
  obtain ⟨wa, hwa⟩ : ∃ wa, wa = ((w.alloc (.cells (cgC x).toArray 26)).alloc (.cells #[.int .u8 0, .int .u64 0, .int .u64 0, .int .u64 0, .int .u64 0, .int .u64 0, .string { data := #[] }, .slice none 0 0, .slice none 0 0, .slice none 0 0] 26)).alloc (.cells #[.int .u8 x.kind, .int .u64 0, .int .u64 0, .int .u64 0, .int .u64 0, .int .u64 0, .string { data := #[] }, .slice none 0 0, .slice none 0 0, .slice none 0 0] 26) := ⟨_, rfl⟩
  have HB := hid (show Below w.heap.size w wa by rw [hwa]; exact bal2' (bal2' (bal _) _) _)
  have HX := hid (show Row wa w.heap.size 26 (cgC x) by rw [hwa]; exact ((Row.new w _ _).alloc _).alloc _)
  have HR := hid (show Row wa (w.heap.size + 1) 26 (cgC (cgOf (pc0 0))) by
    rw [hwa]
    have h := (Row.new (w.alloc (.cells (cgC x).toArray 26)) 26 (cgC (cgOf (pc0 0)))).alloc (.cells (cgC (kindC x)).toArray 26)
    rw [World.size_alloc] at h; exact h)
  have HO := hid (show Row wa (w.heap.size + 1 + 1) 26 (cgC (kindC x)) by
    rw [hwa]
    have h := Row.new ((w.alloc (.cells (cgC x).toArray 26)).alloc (.cells (cgC (cgOf (pc0 0))).toArray 26)) 26 (cgC (kindC x))
    rw [World.size_alloc, World.size_alloc] at h; exact h)
  have HOK := hid hx
  have HW := hid hwa
  clear hwa hx
  have c0 := HX.out.cell' 0
  simp only [List.getElem?_cons_zero] at c0
  go_enter Tryd.func36, Tryd.ntmps36
  go_wp2_with fail
  rw [← HW.out]
  clear c0
  refine (has_any x.kind 65 _ rfl _ HOK.out.kind).mono ?_
  rintro e' WA ⟨rfl, hb⟩
  rw [tA]
  replace HX := hid (HX.out.below hb HX.out.lt)
  replace HR := hid (HR.out.below hb HR.out.lt)
  replace HO := hid (HO.out.below hb HO.out.lt)
  replace HB := hid (HB.out.trans (hb.mono HB.out.size))
  clear hb
  have c0 : WA.cell? ⟨w.heap.size, 0, none⟩ = some (.int .u8 x.kind) := HX.out.cell' 0
  have x1 : WA.cell? ⟨w.heap.size, 1, none⟩ = some (.int .u64 x.a) := HX.out.cell' 1
  have z1 := HO.out.frozen 1
  have o1 : WA.cell? ⟨w.heap.size + 1 + 1, 1, none⟩ = some (.int .u64 0) := HO.out.cell' 1
  have hlt := HO.out.lt
  go_wp2_with fail
  have HO1 := hid (show Row _ _ 26 (cgC { kindC x with a := x.a }) from HO.out.set 1 (.int .u64 x.a))
  have HX1 := hid (HX.out.other (a := ⟨w.heap.size + 1 + 1, 1, none⟩) (by simp only [ne_eq]; omega) (.int .u64 x.a))
  have HR1 := hid (HR.out.other (a := ⟨w.heap.size + 1 + 1, 1, none⟩) (by simp only [ne_eq]; omega) (.int .u64 x.a))
  have HB1 := hid (bset HB.out (b := w.heap.size + 1 + 1) (o := 1) (by omega) (.int .u64 x.a))
  clear HO HX HR HB
  have HO := HO1
  have HX := HX1
  have HR := HR1
  have HB := HB1
  clear HO1 HX1 HR1 HB1
  clear c0 hlt x1 z1 o1
  generalize hWW : World.setCell _ ⟨w.heap.size + 1 + 1, 1, none⟩ _ = Wq at *
  clear hWW
  have c0 : Wq.cell? ⟨w.heap.size, 0, none⟩ = some (.int .u8 x.kind) := HX.out.cell' 0
  clear c0
  refine (has_any x.kind 66 _ rfl _ HOK.out.kind).mono ?_
  rintro e' WB ⟨rfl, hb⟩
  rw [tB]
  replace HX := hid (HX.out.below hb HX.out.lt)
  replace HR := hid (HR.out.below hb HR.out.lt)
  replace HO := hid (HO.out.below hb HO.out.lt)
  replace HB := hid (HB.out.trans (hb.mono HB.out.size))
  clear hb
  have c0 : WB.cell? ⟨w.heap.size, 0, none⟩ = some (.int .u8 x.kind) := HX.out.cell' 0
  have x2 : WB.cell? ⟨w.heap.size, 2, none⟩ = some (.int .u64 x.b) := HX.out.cell' 2
  have z2 := HO.out.frozen 2
  have o2 : WB.cell? ⟨w.heap.size + 1 + 1, 2, none⟩ = some (.int .u64 0) := HO.out.cell' 2
  have hlt := HO.out.lt
  go_wp2_with fail
  have HO2 := hid (show Row _ _ 26 (cgC { kindC x with a := x.a, b := x.b }) from HO.out.set 2 (.int .u64 x.b))
  have HX2 := hid (HX.out.other (a := ⟨w.heap.size + 1 + 1, 2, none⟩) (by simp only [ne_eq]; omega) (.int .u64 x.b))
  have HR2 := hid (HR.out.other (a := ⟨w.heap.size + 1 + 1, 2, none⟩) (by simp only [ne_eq]; omega) (.int .u64 x.b))
  have HB2 := hid (bset HB.out (b := w.heap.size + 1 + 1) (o := 2) (by omega) (.int .u64 x.b))
  clear HO HX HR HB
  have HO := HO2
  have HX := HX2
  have HR := HR2
  have HB := HB2
  clear HO2 HX2 HR2 HB2
  clear c0 hlt x2 z2 o2
  generalize hWW : World.setCell _ ⟨w.heap.size + 1 + 1, 2, none⟩ _ = Wq at *
  clear hWW
  have c0 : Wq.cell? ⟨w.heap.size, 0, none⟩ = some (.int .u8 x.kind) := HX.out.cell' 0
  clear c0
  refine (has_any x.kind 67 _ rfl _ HOK.out.kind).mono ?_
  rintro e' WC ⟨rfl, hb⟩
  rw [tC]
  replace HX := hid (HX.out.below hb HX.out.lt)
  replace HR := hid (HR.out.below hb HR.out.lt)
  replace HO := hid (HO.out.below hb HO.out.lt)
  replace HB := hid (HB.out.trans (hb.mono HB.out.size))
  clear hb
  have c0 : WC.cell? ⟨w.heap.size, 0, none⟩ = some (.int .u8 x.kind) := HX.out.cell' 0
  have x3 : WC.cell? ⟨w.heap.size, 3, none⟩ = some (.int .u64 x.c) := HX.out.cell' 3
  have z3 := HO.out.frozen 3
  have o3 : WC.cell? ⟨w.heap.size + 1 + 1, 3, none⟩ = some (.int .u64 0) := HO.out.cell' 3
  have hlt := HO.out.lt
  go_wp2_with fail
  have HO3 := hid (show Row _ _ 26 (cgC { kindC x with a := x.a, b := x.b, c := x.c }) from HO.out.set 3 (.int .u64 x.c))
  have HX3 := hid (HX.out.other (a := ⟨w.heap.size + 1 + 1, 3, none⟩) (by simp only [ne_eq]; omega) (.int .u64 x.c))
  have HR3 := hid (HR.out.other (a := ⟨w.heap.size + 1 + 1, 3, none⟩) (by simp only [ne_eq]; omega) (.int .u64 x.c))
  have HB3 := hid (bset HB.out (b := w.heap.size + 1 + 1) (o := 3) (by omega) (.int .u64 x.c))
  clear HO HX HR HB
  have HO := HO3
  have HX := HX3
  have HR := HR3
  have HB := HB3
  clear HO3 HX3 HR3 HB3
  clear c0 hlt x3 z3 o3
  generalize hWW : World.setCell _ ⟨w.heap.size + 1 + 1, 3, none⟩ _ = Wq at *
  clear hWW
  have c0 : Wq.cell? ⟨w.heap.size, 0, none⟩ = some (.int .u8 x.kind) := HX.out.cell' 0
  clear c0
  refine (has_any x.kind 68 _ rfl _ HOK.out.kind).mono ?_
  rintro e' WD ⟨rfl, hb⟩
  rw [tD]
  replace HX := hid (HX.out.below hb HX.out.lt)
  replace HR := hid (HR.out.below hb HR.out.lt)
  replace HO := hid (HO.out.below hb HO.out.lt)
  replace HB := hid (HB.out.trans (hb.mono HB.out.size))
  clear hb
  have c0 : WD.cell? ⟨w.heap.size, 0, none⟩ = some (.int .u8 x.kind) := HX.out.cell' 0
  have x4 : WD.cell? ⟨w.heap.size, 4, none⟩ = some (.int .u64 x.d) := HX.out.cell' 4
  have z4 := HO.out.frozen 4
  have o4 : WD.cell? ⟨w.heap.size + 1 + 1, 4, none⟩ = some (.int .u64 0) := HO.out.cell' 4
  have x5 : WD.cell? ⟨w.heap.size, 5, none⟩ = some (.int .u64 x.e) := HX.out.cell' 5
  have z5 := HO.out.frozen 5
  have o5 : WD.cell? ⟨w.heap.size + 1 + 1, 5, none⟩ = some (.int .u64 0) := HO.out.cell' 5
  have hlt := HO.out.lt
  go_wp2_with fail
  have HO4 := hid (show Row _ _ 26 (cgC { kindC x with a := x.a, b := x.b, c := x.c, d := x.d }) from HO.out.set 4 (.int .u64 x.d))
  have HX4 := hid (HX.out.other (a := ⟨w.heap.size + 1 + 1, 4, none⟩) (by simp only [ne_eq]; omega) (.int .u64 x.d))
  have HR4 := hid (HR.out.other (a := ⟨w.heap.size + 1 + 1, 4, none⟩) (by simp only [ne_eq]; omega) (.int .u64 x.d))
  have HB4 := hid (bset HB.out (b := w.heap.size + 1 + 1) (o := 4) (by omega) (.int .u64 x.d))
  clear HO HX HR HB
  have HO := HO4
  have HX := HX4
  have HR := HR4
  have HB := HB4
  clear HO4 HX4 HR4 HB4
  have HO5 := hid (show Row _ _ 26 (cgC { kindC x with a := x.a, b := x.b, c := x.c, d := x.d, e := x.e }) from HO.out.set 5 (.int .u64 x.e))
  have HX5 := hid (HX.out.other (a := ⟨w.heap.size + 1 + 1, 5, none⟩) (by simp only [ne_eq]; omega) (.int .u64 x.e))
  have HR5 := hid (HR.out.other (a := ⟨w.heap.size + 1 + 1, 5, none⟩) (by simp only [ne_eq]; omega) (.int .u64 x.e))
  have HB5 := hid (bset HB.out (b := w.heap.size + 1 + 1) (o := 5) (by omega) (.int .u64 x.e))
  clear HO HX HR HB
  have HO := HO5
  have HX := HX5
  have HR := HR5
  have HB := HB5
  clear HO5 HX5 HR5 HB5
  clear c0 hlt x4 z4 o4 x5 z5 o5
  generalize hWW : World.setCell _ ⟨w.heap.size + 1 + 1, 5, none⟩ _ = Wq at *
  clear hWW
  have c0 : Wq.cell? ⟨w.heap.size, 0, none⟩ = some (.int .u8 x.kind) := HX.out.cell' 0
  clear c0
  refine (has_any x.kind 80 _ rfl _ HOK.out.kind).mono ?_
  rintro e' WP ⟨rfl, hb⟩
  rw [tP]
  replace HX := hid (HX.out.below hb HX.out.lt)
  replace HR := hid (HR.out.below hb HR.out.lt)
  replace HO := hid (HO.out.below hb HO.out.lt)
  replace HB := hid (HB.out.trans (hb.mono HB.out.size))
  clear hb
  have c0 : WP.cell? ⟨w.heap.size, 0, none⟩ = some (.int .u8 x.kind) := HX.out.cell' 0
  go_wp2_with fail
  clear c0
  refine (has_any x.kind 86 _ rfl _ HOK.out.kind).mono ?_
  rintro e' WV ⟨rfl, hb⟩
  rw [tV]
  replace HX := hid (HX.out.below hb HX.out.lt)
  replace HR := hid (HR.out.below hb HR.out.lt)
  replace HO := hid (HO.out.below hb HO.out.lt)
  replace HB := hid (HB.out.trans (hb.mono HB.out.size))
  clear hb
  have c0 : WV.cell? ⟨w.heap.size, 0, none⟩ = some (.int .u8 x.kind) := HX.out.cell' 0
  go_wp2_with fail
  clear c0
  refine (has_any x.kind 88 _ rfl _ HOK.out.kind).mono ?_
  rintro e' WX ⟨rfl, hb⟩
  rw [tX]
  replace HX := hid (HX.out.below hb HX.out.lt)
  replace HR := hid (HR.out.below hb HR.out.lt)
  replace HO := hid (HO.out.below hb HO.out.lt)
  replace HB := hid (HB.out.trans (hb.mono HB.out.size))
  clear hb
  have c0 : WX.cell? ⟨w.heap.size, 0, none⟩ = some (.int .u8 x.kind) := HX.out.cell' 0
  have HO : Hid (Row WX (w.heap.size + 1 + 1) 26 (cgC { kindC x with kind := x.kind, a := x.a, b := x.b, c := x.c, d := x.d, e := x.e })) := HO
  have HYK : Hid (CGok w { kindC x with kind := x.kind, a := x.a, b := x.b, c := x.c, d := x.d, e := x.e }) := hid { HOK.out.kindC with kind := HOK.out.kind, na := HOK.out.na, nb := HOK.out.nb, nc := HOK.out.nc, nd := HOK.out.nd, ne := HOK.out.ne }
  obtain ⟨y0, hy0⟩ : ∃ y0 : CG, y0 = { kindC x with kind := x.kind, a := x.a, b := x.b, c := x.c, d := x.d, e := x.e } := ⟨_, rfl⟩
  rw [← hy0] at HO
  have HYE : Hid (y0 = { kindC x with kind := x.kind, a := x.a, b := x.b, c := x.c, d := x.d, e := x.e }) := hid (by rw [hy0])
  rw [← HYE.out] at HYK
  clear hy0
  obtain ⟨k0, k1, k2, k3, k4, k5, k6, k7, k8, k9⟩ := HO.out.ten
  obtain ⟨r0, r1, r2, r3, r4, r5, r6, r7, r8, r9⟩ := HR.out.ten
  obtain ⟨z0, z1, z2, z3, z4, z5, z6, z7, z8, z9⟩ := HR.out.tenF
  have hltr := HR.out.lt
  go_wp2_with fail
  generalize hW10 : World.setCell _ ⟨w.heap.size + 1, 9, none⟩ _ = W10
  have hr : Row W10 (w.heap.size + 1) 26 (cgC y0) := by rw [← hW10]; exact Row.set10 HR.out (y0)
  have hb : Below w.heap.size w W10 := by rw [← hW10]; exact set10 HB.out (w.heap.size + 1) (by omega) _ _ _ _ _ _ _ _ _ _
  clear hW10 k0 k1 k2 k3 k4 k5 k6 k7 k8 k9 r0 r1 r2 r3 r4 r5 r6 r7 r8 r9 z0 z1 z2 z3 z4 z5 z6 z7 z8 z9
  obtain ⟨k0, k1, k2, k3, k4, k5, k6, k7, k8, k9⟩ := hr.ten
  refine bodyPost_ret (v := cgV y0) (by simp [results, Tryd.results36, go_sem, k0, k1, k2, k3, k4, k5, k6, k7, k8, k9]) rfl ⟨_, rfl, HYE.out, HYK.out.below hb, hb⟩

set_option maxRecDepth 100000 in
set_option maxHeartbeats 4000000 in
theorem only_AB (x : CG) (w : World) (hx : CGok w x) (tA : hasR x.kind 65 = true) (tB : hasR x.kind 66 = true) (tC : hasR x.kind 67 = false) (tD : hasR x.kind 68 = false) (tP : hasR x.kind 80 = false) (tV : hasR x.kind 86 = false) (tX : hasR x.kind 88 = false) :
    Calls Tryd.prog 36 #[cgV x] w fun e w' => ∃ y, e = .returned (cgV y) ∧ y = { kindC x with kind := x.kind, a := x.a, b := x.b } ∧ CGok w' y ∧ Below w.heap.size w w' := by
  have hbox := box_cg x
  obtain ⟨wa, hwa⟩ : ∃ wa, wa = ((w.alloc (.cells (cgC x).toArray 26)).alloc (.cells #[.int .u8 0, .int .u64 0, .int .u64 0, .int .u64 0, .int .u64 0, .int .u64 0, .string { data := #[] }, .slice none 0 0, .slice none 0 0, .slice none 0 0] 26)).alloc (.cells #[.int .u8 x.kind, .int .u64 0, .int .u64 0, .int .u64 0, .int .u64 0, .int .u64 0, .string { data := #[] }, .slice none 0 0, .slice none 0 0, .slice none 0 0] 26) := ⟨_, rfl⟩
  have HB := hid (show Below w.heap.size w wa by rw [hwa]; exact bal2' (bal2' (bal _) _) _)
  have HX := hid (show Row wa w.heap.size 26 (cgC x) by rw [hwa]; exact ((Row.new w _ _).alloc _).alloc _)
  have HR := hid (show Row wa (w.heap.size + 1) 26 (cgC (cgOf (pc0 0))) by
    rw [hwa]
    have h := (Row.new (w.alloc (.cells (cgC x).toArray 26)) 26 (cgC (cgOf (pc0 0)))).alloc (.cells (cgC (kindC x)).toArray 26)
    rw [World.size_alloc] at h; exact h)
  have HO := hid (show Row wa (w.heap.size + 1 + 1) 26 (cgC (kindC x)) by
    rw [hwa]
    have h := Row.new ((w.alloc (.cells (cgC x).toArray 26)).alloc (.cells (cgC (cgOf (pc0 0))).toArray 26)) 26 (cgC (kindC x))
    rw [World.size_alloc, World.size_alloc] at h; exact h)
  have HOK := hid hx
  have HW := hid hwa
  clear hwa hx
  have c0 := HX.out.cell' 0
  simp only [List.getElem?_cons_zero] at c0
  go_enter Tryd.func36, Tryd.ntmps36
  go_wp2_with fail
  rw [← HW.out]
  clear c0
  refine (has_any x.kind 65 _ rfl _ HOK.out.kind).mono ?_
  rintro e' WA ⟨rfl, hb⟩
  rw [tA]
  replace HX := hid (HX.out.below hb HX.out.lt)
  replace HR := hid (HR.out.below hb HR.out.lt)
  replace HO := hid (HO.out.below hb HO.out.lt)
  replace HB := hid (HB.out.trans (hb.mono HB.out.size))
  clear hb
  have c0 : WA.cell? ⟨w.heap.size, 0, none⟩ = some (.int .u8 x.kind) := HX.out.cell' 0
  have x1 : WA.cell? ⟨w.heap.size, 1, none⟩ = some (.int .u64 x.a) := HX.out.cell' 1
  have z1 := HO.out.frozen 1
  have o1 : WA.cell? ⟨w.heap.size + 1 + 1, 1, none⟩ = some (.int .u64 0) := HO.out.cell' 1
  have hlt := HO.out.lt
  go_wp2_with fail
  have HO1 := hid (show Row _ _ 26 (cgC { kindC x with a := x.a }) from HO.out.set 1 (.int .u64 x.a))
  have HX1 := hid (HX.out.other (a := ⟨w.heap.size + 1 + 1, 1, none⟩) (by simp only [ne_eq]; omega) (.int .u64 x.a))
  have HR1 := hid (HR.out.other (a := ⟨w.heap.size + 1 + 1, 1, none⟩) (by simp only [ne_eq]; omega) (.int .u64 x.a))
  have HB1 := hid (bset HB.out (b := w.heap.size + 1 + 1) (o := 1) (by omega) (.int .u64 x.a))
  clear HO HX HR HB
  have HO := HO1
  have HX := HX1
  have HR := HR1
  have HB := HB1
  clear HO1 HX1 HR1 HB1
  clear c0 hlt x1 z1 o1
  generalize hWW : World.setCell _ ⟨w.heap.size + 1 + 1, 1, none⟩ _ = Wq at *
  clear hWW
  have c0 : Wq.cell? ⟨w.heap.size, 0, none⟩ = some (.int .u8 x.kind) := HX.out.cell' 0
  clear c0
  refine (has_any x.kind 66 _ rfl _ HOK.out.kind).mono ?_
  rintro e' WB ⟨rfl, hb⟩
  rw [tB]
  replace HX := hid (HX.out.below hb HX.out.lt)
  replace HR := hid (HR.out.below hb HR.out.lt)
  replace HO := hid (HO.out.below hb HO.out.lt)
  replace HB := hid (HB.out.trans (hb.mono HB.out.size))
  clear hb
  have c0 : WB.cell? ⟨w.heap.size, 0, none⟩ = some (.int .u8 x.kind) := HX.out.cell' 0
  have x2 : WB.cell? ⟨w.heap.size, 2, none⟩ = some (.int .u64 x.b) := HX.out.cell' 2
  have z2 := HO.out.frozen 2
  have o2 : WB.cell? ⟨w.heap.size + 1 + 1, 2, none⟩ = some (.int .u64 0) := HO.out.cell' 2
  have hlt := HO.out.lt
  go_wp2_with fail
  have HO2 := hid (show Row _ _ 26 (cgC { kindC x with a := x.a, b := x.b }) from HO.out.set 2 (.int .u64 x.b))
  have HX2 := hid (HX.out.other (a := ⟨w.heap.size + 1 + 1, 2, none⟩) (by simp only [ne_eq]; omega) (.int .u64 x.b))
  have HR2 := hid (HR.out.other (a := ⟨w.heap.size + 1 + 1, 2, none⟩) (by simp only [ne_eq]; omega) (.int .u64 x.b))
  have HB2 := hid (bset HB.out (b := w.heap.size + 1 + 1) (o := 2) (by omega) (.int .u64 x.b))
  clear HO HX HR HB
  have HO := HO2
  have HX := HX2
  have HR := HR2
  have HB := HB2
  clear HO2 HX2 HR2 HB2
  clear c0 hlt x2 z2 o2
  generalize hWW : World.setCell _ ⟨w.heap.size + 1 + 1, 2, none⟩ _ = Wq at *
  clear hWW
  have c0 : Wq.cell? ⟨w.heap.size, 0, none⟩ = some (.int .u8 x.kind) := HX.out.cell' 0
  clear c0
  refine (has_any x.kind 67 _ rfl _ HOK.out.kind).mono ?_
  rintro e' WC ⟨rfl, hb⟩
  rw [tC]
  replace HX := hid (HX.out.below hb HX.out.lt)
  replace HR := hid (HR.out.below hb HR.out.lt)
  replace HO := hid (HO.out.below hb HO.out.lt)
  replace HB := hid (HB.out.trans (hb.mono HB.out.size))
  clear hb
  have c0 : WC.cell? ⟨w.heap.size, 0, none⟩ = some (.int .u8 x.kind) := HX.out.cell' 0
  go_wp2_with fail
  clear c0
  refine (has_any x.kind 68 _ rfl _ HOK.out.kind).mono ?_
  rintro e' WD ⟨rfl, hb⟩
  rw [tD]
  replace HX := hid (HX.out.below hb HX.out.lt)
  replace HR := hid (HR.out.below hb HR.out.lt)
  replace HO := hid (HO.out.below hb HO.out.lt)
  replace HB := hid (HB.out.trans (hb.mono HB.out.size))
  clear hb
  have c0 : WD.cell? ⟨w.heap.size, 0, none⟩ = some (.int .u8 x.kind) := HX.out.cell' 0
  go_wp2_with fail
  clear c0
  refine (has_any x.kind 80 _ rfl _ HOK.out.kind).mono ?_
  rintro e' WP ⟨rfl, hb⟩
  rw [tP]
  replace HX := hid (HX.out.below hb HX.out.lt)
  replace HR := hid (HR.out.below hb HR.out.lt)
  replace HO := hid (HO.out.below hb HO.out.lt)
  replace HB := hid (HB.out.trans (hb.mono HB.out.size))
  clear hb
  have c0 : WP.cell? ⟨w.heap.size, 0, none⟩ = some (.int .u8 x.kind) := HX.out.cell' 0
  go_wp2_with fail
  clear c0
  refine (has_any x.kind 86 _ rfl _ HOK.out.kind).mono ?_
  rintro e' WV ⟨rfl, hb⟩
  rw [tV]
  replace HX := hid (HX.out.below hb HX.out.lt)
  replace HR := hid (HR.out.below hb HR.out.lt)
  replace HO := hid (HO.out.below hb HO.out.lt)
  replace HB := hid (HB.out.trans (hb.mono HB.out.size))
  clear hb
  have c0 : WV.cell? ⟨w.heap.size, 0, none⟩ = some (.int .u8 x.kind) := HX.out.cell' 0
  go_wp2_with fail
  clear c0
  refine (has_any x.kind 88 _ rfl _ HOK.out.kind).mono ?_
  rintro e' WX ⟨rfl, hb⟩
  rw [tX]
  replace HX := hid (HX.out.below hb HX.out.lt)
  replace HR := hid (HR.out.below hb HR.out.lt)
  replace HO := hid (HO.out.below hb HO.out.lt)
  replace HB := hid (HB.out.trans (hb.mono HB.out.size))
  clear hb
  have c0 : WX.cell? ⟨w.heap.size, 0, none⟩ = some (.int .u8 x.kind) := HX.out.cell' 0
  have HO : Hid (Row WX (w.heap.size + 1 + 1) 26 (cgC { kindC x with kind := x.kind, a := x.a, b := x.b })) := HO
  have HYK : Hid (CGok w { kindC x with kind := x.kind, a := x.a, b := x.b }) := hid { HOK.out.kindC with kind := HOK.out.kind, na := HOK.out.na, nb := HOK.out.nb }
  obtain ⟨y0, hy0⟩ : ∃ y0 : CG, y0 = { kindC x with kind := x.kind, a := x.a, b := x.b } := ⟨_, rfl⟩
  rw [← hy0] at HO
  have HYE : Hid (y0 = { kindC x with kind := x.kind, a := x.a, b := x.b }) := hid (by rw [hy0])
  rw [← HYE.out] at HYK
  clear hy0
  obtain ⟨k0, k1, k2, k3, k4, k5, k6, k7, k8, k9⟩ := HO.out.ten
  obtain ⟨r0, r1, r2, r3, r4, r5, r6, r7, r8, r9⟩ := HR.out.ten
  obtain ⟨z0, z1, z2, z3, z4, z5, z6, z7, z8, z9⟩ := HR.out.tenF
  have hltr := HR.out.lt
  go_wp2_with fail
  generalize hW10 : World.setCell _ ⟨w.heap.size + 1, 9, none⟩ _ = W10
  have hr : Row W10 (w.heap.size + 1) 26 (cgC y0) := by rw [← hW10]; exact Row.set10 HR.out (y0)
  have hb : Below w.heap.size w W10 := by rw [← hW10]; exact set10 HB.out (w.heap.size + 1) (by omega) _ _ _ _ _ _ _ _ _ _
  clear hW10 k0 k1 k2 k3 k4 k5 k6 k7 k8 k9 r0 r1 r2 r3 r4 r5 r6 r7 r8 r9 z0 z1 z2 z3 z4 z5 z6 z7 z8 z9
  obtain ⟨k0, k1, k2, k3, k4, k5, k6, k7, k8, k9⟩ := hr.ten
  refine bodyPost_ret (v := cgV y0) (by simp [results, Tryd.results36, go_sem, k0, k1, k2, k3, k4, k5, k6, k7, k8, k9]) rfl ⟨_, rfl, HYE.out, HYK.out.below hb, hb⟩

set_option maxRecDepth 100000 in
set_option maxHeartbeats 4000000 in
theorem only_ABC (x : CG) (w : World) (hx : CGok w x) (tA : hasR x.kind 65 = true) (tB : hasR x.kind 66 = true) (tC : hasR x.kind 67 = true) (tD : hasR x.kind 68 = false) (tP : hasR x.kind 80 = false) (tV : hasR x.kind 86 = false) (tX : hasR x.kind 88 = false) :
    Calls Tryd.prog 36 #[cgV x] w fun e w' => ∃ y, e = .returned (cgV y) ∧ y = { kindC x with kind := x.kind, a := x.a, b := x.b, c := x.c } ∧ CGok w' y ∧ Below w.heap.size w w' := by
  have hbox := box_cg x
  obtain ⟨wa, hwa⟩ : ∃ wa, wa = ((w.alloc (.cells (cgC x).toArray 26)).alloc (.cells #[.int .u8 0, .int .u64 0, .int .u64 0, .int .u64 0, .int .u64 0, .int .u64 0, .string { data := #[] }, .slice none 0 0, .slice none 0 0, .slice none 0 0] 26)).alloc (.cells #[.int .u8 x.kind, .int .u64 0, .int .u64 0, .int .u64 0, .int .u64 0, .int .u64 0, .string { data := #[] }, .slice none 0 0, .slice none 0 0, .slice none 0 0] 26) := ⟨_, rfl⟩
  have HB := hid (show Below w.heap.size w wa by rw [hwa]; exact bal2' (bal2' (bal _) _) _)
  have HX := hid (show Row wa w.heap.size 26 (cgC x) by rw [hwa]; exact ((Row.new w _ _).alloc _).alloc _)
  have HR := hid (show Row wa (w.heap.size + 1) 26 (cgC (cgOf (pc0 0))) by
    rw [hwa]
    have h := (Row.new (w.alloc (.cells (cgC x).toArray 26)) 26 (cgC (cgOf (pc0 0)))).alloc (.cells (cgC (kindC x)).toArray 26)
    rw [World.size_alloc] at h; exact h)
  have HO := hid (show Row wa (w.heap.size + 1 + 1) 26 (cgC (kindC x)) by
    rw [hwa]
    have h := Row.new ((w.alloc (.cells (cgC x).toArray 26)).alloc (.cells (cgC (cgOf (pc0 0))).toArray 26)) 26 (cgC (kindC x))
    rw [World.size_alloc, World.size_alloc] at h; exact h)
  have HOK := hid hx
  have HW := hid hwa
  clear hwa hx
  have c0 := HX.out.cell' 0
  simp only [List.getElem?_cons_zero] at c0
  go_enter Tryd.func36, Tryd.ntmps36
  go_wp2_with fail
  rw [← HW.out]
  clear c0
  refine (has_any x.kind 65 _ rfl _ HOK.out.kind).mono ?_
  rintro e' WA ⟨rfl, hb⟩
  rw [tA]
  replace HX := hid (HX.out.below hb HX.out.lt)
  replace HR := hid (HR.out.below hb HR.out.lt)
  replace HO := hid (HO.out.below hb HO.out.lt)
  replace HB := hid (HB.out.trans (hb.mono HB.out.size))
  clear hb
  have c0 : WA.cell? ⟨w.heap.size, 0, none⟩ = some (.int .u8 x.kind) := HX.out.cell' 0
  have x1 : WA.cell? ⟨w.heap.size, 1, none⟩ = some (.int .u64 x.a) := HX.out.cell' 1
  have z1 := HO.out.frozen 1
  have o1 : WA.cell? ⟨w.heap.size + 1 + 1, 1, none⟩ = some (.int .u64 0) := HO.out.cell' 1
  have hlt := HO.out.lt
  go_wp2_with fail
  have HO1 := hid (show Row _ _ 26 (cgC { kindC x with a := x.a }) from HO.out.set 1 (.int .u64 x.a))
  have HX1 := hid (HX.out.other (a := ⟨w.heap.size + 1 + 1, 1, none⟩) (by simp only [ne_eq]; omega) (.int .u64 x.a))
  have HR1 := hid (HR.out.other (a := ⟨w.heap.size + 1 + 1, 1, none⟩) (by simp only [ne_eq]; omega) (.int .u64 x.a))
  have HB1 := hid (bset HB.out (b := w.heap.size + 1 + 1) (o := 1) (by omega) (.int .u64 x.a))
  clear HO HX HR HB
  have HO := HO1
  have HX := HX1
  have HR := HR1
  have HB := HB1
  clear HO1 HX1 HR1 HB1
  clear c0 hlt x1 z1 o1
  generalize hWW : World.setCell _ ⟨w.heap.size + 1 + 1, 1, none⟩ _ = Wq at *
  clear hWW
  have c0 : Wq.cell? ⟨w.heap.size, 0, none⟩ = some (.int .u8 x.kind) := HX.out.cell' 0
  clear c0
  refine (has_any x.kind 66 _ rfl _ HOK.out.kind).mono ?_
  rintro e' WB ⟨rfl, hb⟩
  rw [tB]
  replace HX := hid (HX.out.below hb HX.out.lt)
  replace HR := hid (HR.out.below hb HR.out.lt)
  replace HO := hid (HO.out.below hb HO.out.lt)
  replace HB := hid (HB.out.trans (hb.mono HB.out.size))
  clear hb
  have c0 : WB.cell? ⟨w.heap.size, 0, none⟩ = some (.int .u8 x.kind) := HX.out.cell' 0
  have x2 : WB.cell? ⟨w.heap.size, 2, none⟩ = some (.int .u64 x.b) := HX.out.cell' 2
  have z2 := HO.out.frozen 2
  have o2 : WB.cell? ⟨w.heap.size + 1 + 1, 2, none⟩ = some (.int .u64 0) := HO.out.cell' 2
  have hlt := HO.out.lt
  go_wp2_with fail
  have HO2 := hid (show Row _ _ 26 (cgC { kindC x with a := x.a, b := x.b }) from HO.out.set 2 (.int .u64 x.b))
  have HX2 := hid (HX.out.other (a := ⟨w.heap.size + 1 + 1, 2, none⟩) (by simp only [ne_eq]; omega) (.int .u64 x.b))
  have HR2 := hid (HR.out.other (a := ⟨w.heap.size + 1 + 1, 2, none⟩) (by simp only [ne_eq]; omega) (.int .u64 x.b))
  have HB2 := hid (bset HB.out (b := w.heap.size + 1 + 1) (o := 2) (by omega) (.int .u64 x.b))
  clear HO HX HR HB
  have HO := HO2
  have HX := HX2
  have HR := HR2
  have HB := HB2
  clear HO2 HX2 HR2 HB2
  clear c0 hlt x2 z2 o2
  generalize hWW : World.setCell _ ⟨w.heap.size + 1 + 1, 2, none⟩ _ = Wq at *
  clear hWW
  have c0 : Wq.cell? ⟨w.heap.size, 0, none⟩ = some (.int .u8 x.kind) := HX.out.cell' 0
  clear c0
  refine (has_any x.kind 67 _ rfl _ HOK.out.kind).mono ?_
  rintro e' WC ⟨rfl, hb⟩
  rw [tC]
  replace HX := hid (HX.out.below hb HX.out.lt)
  replace HR := hid (HR.out.below hb HR.out.lt)
  replace HO := hid (HO.out.below hb HO.out.lt)
  replace HB := hid (HB.out.trans (hb.mono HB.out.size))
  clear hb
  have c0 : WC.cell? ⟨w.heap.size, 0, none⟩ = some (.int .u8 x.kind) := HX.out.cell' 0
  have x3 : WC.cell? ⟨w.heap.size, 3, none⟩ = some (.int .u64 x.c) := HX.out.cell' 3
  have z3 := HO.out.frozen 3
  have o3 : WC.cell? ⟨w.heap.size + 1 + 1, 3, none⟩ = some (.int .u64 0) := HO.out.cell' 3
  have hlt := HO.out.lt
  go_wp2_with fail
  have HO3 := hid (show Row _ _ 26 (cgC { kindC x with a := x.a, b := x.b, c := x.c }) from HO.out.set 3 (.int .u64 x.c))
  have HX3 := hid (HX.out.other (a := ⟨w.heap.size + 1 + 1, 3, none⟩) (by simp only [ne_eq]; omega) (.int .u64 x.c))
  have HR3 := hid (HR.out.other (a := ⟨w.heap.size + 1 + 1, 3, none⟩) (by simp only [ne_eq]; omega) (.int .u64 x.c))
  have HB3 := hid (bset HB.out (b := w.heap.size + 1 + 1) (o := 3) (by omega) (.int .u64 x.c))
  clear HO HX HR HB
  have HO := HO3
  have HX := HX3
  have HR := HR3
  have HB := HB3
  clear HO3 HX3 HR3 HB3
  clear c0 hlt x3 z3 o3
  generalize hWW : World.setCell _ ⟨w.heap.size + 1 + 1, 3, none⟩ _ = Wq at *
  clear hWW
  have c0 : Wq.cell? ⟨w.heap.size, 0, none⟩ = some (.int .u8 x.kind) := HX.out.cell' 0
  clear c0
  refine (has_any x.kind 68 _ rfl _ HOK.out.kind).mono ?_
  rintro e' WD ⟨rfl, hb⟩
  rw [tD]
  replace HX := hid (HX.out.below hb HX.out.lt)
  replace HR := hid (HR.out.below hb HR.out.lt)
  replace HO := hid (HO.out.below hb HO.out.lt)
  replace HB := hid (HB.out.trans (hb.mono HB.out.size))
  clear hb
  have c0 : WD.cell? ⟨w.heap.size, 0, none⟩ = some (.int .u8 x.kind) := HX.out.cell' 0
  go_wp2_with fail
  clear c0
  refine (has_any x.kind 80 _ rfl _ HOK.out.kind).mono ?_
  rintro e' WP ⟨rfl, hb⟩
  rw [tP]
  replace HX := hid (HX.out.below hb HX.out.lt)
  replace HR := hid (HR.out.below hb HR.out.lt)
  replace HO := hid (HO.out.below hb HO.out.lt)
  replace HB := hid (HB.out.trans (hb.mono HB.out.size))
  clear hb
  have c0 : WP.cell? ⟨w.heap.size, 0, none⟩ = some (.int .u8 x.kind) := HX.out.cell' 0
  go_wp2_with fail
  clear c0
  refine (has_any x.kind 86 _ rfl _ HOK.out.kind).mono ?_
  rintro e' WV ⟨rfl, hb⟩
  rw [tV]
  replace HX := hid (HX.out.below hb HX.out.lt)
  replace HR := hid (HR.out.below hb HR.out.lt)
  replace HO := hid (HO.out.below hb HO.out.lt)
  replace HB := hid (HB.out.trans (hb.mono HB.out.size))
  clear hb
  have c0 : WV.cell? ⟨w.heap.size, 0, none⟩ = some (.int .u8 x.kind) := HX.out.cell' 0
  go_wp2_with fail
  clear c0
  refine (has_any x.kind 88 _ rfl _ HOK.out.kind).mono ?_
  rintro e' WX ⟨rfl, hb⟩
  rw [tX]
  replace HX := hid (HX.out.below hb HX.out.lt)
  replace HR := hid (HR.out.below hb HR.out.lt)
  replace HO := hid (HO.out.below hb HO.out.lt)
  replace HB := hid (HB.out.trans (hb.mono HB.out.size))
  clear hb
  have c0 : WX.cell? ⟨w.heap.size, 0, none⟩ = some (.int .u8 x.kind) := HX.out.cell' 0
  have HO : Hid (Row WX (w.heap.size + 1 + 1) 26 (cgC { kindC x with kind := x.kind, a := x.a, b := x.b, c := x.c })) := HO
  have HYK : Hid (CGok w { kindC x with kind := x.kind, a := x.a, b := x.b, c := x.c }) := hid { HOK.out.kindC with kind := HOK.out.kind, na := HOK.out.na, nb := HOK.out.nb, nc := HOK.out.nc }
  obtain ⟨y0, hy0⟩ : ∃ y0 : CG, y0 = { kindC x with kind := x.kind, a := x.a, b := x.b, c := x.c } := ⟨_, rfl⟩
  rw [← hy0] at HO
  have HYE : Hid (y0 = { kindC x with kind := x.kind, a := x.a, b := x.b, c := x.c }) := hid (by rw [hy0])
  rw [← HYE.out] at HYK
  clear hy0
  obtain ⟨k0, k1, k2, k3, k4, k5, k6, k7, k8, k9⟩ := HO.out.ten
  obtain ⟨r0, r1, r2, r3, r4, r5, r6, r7, r8, r9⟩ := HR.out.ten
  obtain ⟨z0, z1, z2, z3, z4, z5, z6, z7, z8, z9⟩ := HR.out.tenF
  have hltr := HR.out.lt
  go_wp2_with fail
  generalize hW10 : World.setCell _ ⟨w.heap.size + 1, 9, none⟩ _ = W10
  have hr : Row W10 (w.heap.size + 1) 26 (cgC y0) := by rw [← hW10]; exact Row.set10 HR.out (y0)
  have hb : Below w.heap.size w W10 := by rw [← hW10]; exact set10 HB.out (w.heap.size + 1) (by omega) _ _ _ _ _ _ _ _ _ _
  clear hW10 k0 k1 k2 k3 k4 k5 k6 k7 k8 k9 r0 r1 r2 r3 r4 r5 r6 r7 r8 r9 z0 z1 z2 z3 z4 z5 z6 z7 z8 z9
  obtain ⟨k0, k1, k2, k3, k4, k5, k6, k7, k8, k9⟩ := hr.ten
  refine bodyPost_ret (v := cgV y0) (by simp [results, Tryd.results36, go_sem, k0, k1, k2, k3, k4, k5, k6, k7, k8, k9]) rfl ⟨_, rfl, HYE.out, HYK.out.below hb, hb⟩

set_option maxRecDepth 100000 in
set_option maxHeartbeats 4000000 in
theorem only_AX (x : CG) (w : World) (hx : CGok w x) (tA : hasR x.kind 65 = true) (tB : hasR x.kind 66 = false) (tC : hasR x.kind 67 = false) (tD : hasR x.kind 68 = false) (tP : hasR x.kind 80 = false) (tV : hasR x.kind 86 = false) (tX : hasR x.kind 88 = true) :
    Calls Tryd.prog 36 #[cgV x] w fun e w' => ∃ y, e = .returned (cgV y) ∧ y = { kindC x with kind := x.kind, a := x.a, ya := x.ya, yc := x.yc, bytes := x.bytes } ∧ CGok w' y ∧ Below w.heap.size w w' := by
  have hbox := box_cg x
  obtain ⟨wa, hwa⟩ : ∃ wa, wa = ((w.alloc (.cells (cgC x).toArray 26)).alloc (.cells #[.int .u8 0, .int .u64 0, .int .u64 0, .int .u64 0, .int .u64 0, .int .u64 0, .string { data := #[] }, .slice none 0 0, .slice none 0 0, .slice none 0 0] 26)).alloc (.cells #[.int .u8 x.kind, .int .u64 0, .int .u64 0, .int .u64 0, .int .u64 0, .int .u64 0, .string { data := #[] }, .slice none 0 0, .slice none 0 0, .slice none 0 0] 26) := ⟨_, rfl⟩
  have HB := hid (show Below w.heap.size w wa by rw [hwa]; exact bal2' (bal2' (bal _) _) _)
  have HX := hid (show Row wa w.heap.size 26 (cgC x) by rw [hwa]; exact ((Row.new w _ _).alloc _).alloc _)
  have HR := hid (show Row wa (w.heap.size + 1) 26 (cgC (cgOf (pc0 0))) by
    rw [hwa]
    have h := (Row.new (w.alloc (.cells (cgC x).toArray 26)) 26 (cgC (cgOf (pc0 0)))).alloc (.cells (cgC (kindC x)).toArray 26)
    rw [World.size_alloc] at h; exact h)
  have HO := hid (show Row wa (w.heap.size + 1 + 1) 26 (cgC (kindC x)) by
    rw [hwa]
    have h := Row.new ((w.alloc (.cells (cgC x).toArray 26)).alloc (.cells (cgC (cgOf (pc0 0))).toArray 26)) 26 (cgC (kindC x))
    rw [World.size_alloc, World.size_alloc] at h; exact h)
  have HOK := hid hx
  have HW := hid hwa
  clear hwa hx
  have c0 := HX.out.cell' 0
  simp only [List.getElem?_cons_zero] at c0
  go_enter Tryd.func36, Tryd.ntmps36
  go_wp2_with fail
  rw [← HW.out]
  clear c0
  refine (has_any x.kind 65 _ rfl _ HOK.out.kind).mono ?_
  rintro e' WA ⟨rfl, hb⟩
  rw [tA]
  replace HX := hid (HX.out.below hb HX.out.lt)
  replace HR := hid (HR.out.below hb HR.out.lt)
  replace HO := hid (HO.out.below hb HO.out.lt)
  replace HB := hid (HB.out.trans (hb.mono HB.out.size))
  clear hb
  have c0 : WA.cell? ⟨w.heap.size, 0, none⟩ = some (.int .u8 x.kind) := HX.out.cell' 0
  have x1 : WA.cell? ⟨w.heap.size, 1, none⟩ = some (.int .u64 x.a) := HX.out.cell' 1
  have z1 := HO.out.frozen 1
  have o1 : WA.cell? ⟨w.heap.size + 1 + 1, 1, none⟩ = some (.int .u64 0) := HO.out.cell' 1
  have hlt := HO.out.lt
  go_wp2_with fail
  have HO1 := hid (show Row _ _ 26 (cgC { kindC x with a := x.a }) from HO.out.set 1 (.int .u64 x.a))
  have HX1 := hid (HX.out.other (a := ⟨w.heap.size + 1 + 1, 1, none⟩) (by simp only [ne_eq]; omega) (.int .u64 x.a))
  have HR1 := hid (HR.out.other (a := ⟨w.heap.size + 1 + 1, 1, none⟩) (by simp only [ne_eq]; omega) (.int .u64 x.a))
  have HB1 := hid (bset HB.out (b := w.heap.size + 1 + 1) (o := 1) (by omega) (.int .u64 x.a))
  clear HO HX HR HB
  have HO := HO1
  have HX := HX1
  have HR := HR1
  have HB := HB1
  clear HO1 HX1 HR1 HB1
  clear c0 hlt x1 z1 o1
  generalize hWW : World.setCell _ ⟨w.heap.size + 1 + 1, 1, none⟩ _ = Wq at *
  clear hWW
  have c0 : Wq.cell? ⟨w.heap.size, 0, none⟩ = some (.int .u8 x.kind) := HX.out.cell' 0
  clear c0
  refine (has_any x.kind 66 _ rfl _ HOK.out.kind).mono ?_
  rintro e' WB ⟨rfl, hb⟩
  rw [tB]
  replace HX := hid (HX.out.below hb HX.out.lt)
  replace HR := hid (HR.out.below hb HR.out.lt)
  replace HO := hid (HO.out.below hb HO.out.lt)
  replace HB := hid (HB.out.trans (hb.mono HB.out.size))
  clear hb
  have c0 : WB.cell? ⟨w.heap.size, 0, none⟩ = some (.int .u8 x.kind) := HX.out.cell' 0
  go_wp2_with fail
  clear c0
  refine (has_any x.kind 67 _ rfl _ HOK.out.kind).mono ?_
  rintro e' WC ⟨rfl, hb⟩
  rw [tC]
  replace HX := hid (HX.out.below hb HX.out.lt)
  replace HR := hid (HR.out.below hb HR.out.lt)
  replace HO := hid (HO.out.below hb HO.out.lt)
  replace HB := hid (HB.out.trans (hb.mono HB.out.size))
  clear hb
  have c0 : WC.cell? ⟨w.heap.size, 0, none⟩ = some (.int .u8 x.kind) := HX.out.cell' 0
  go_wp2_with fail
  clear c0
  refine (has_any x.kind 68 _ rfl _ HOK.out.kind).mono ?_
  rintro e' WD ⟨rfl, hb⟩
  rw [tD]
  replace HX := hid (HX.out.below hb HX.out.lt)
  replace HR := hid (HR.out.below hb HR.out.lt)
  replace HO := hid (HO.out.below hb HO.out.lt)
  replace HB := hid (HB.out.trans (hb.mono HB.out.size))
  clear hb
  have c0 : WD.cell? ⟨w.heap.size, 0, none⟩ = some (.int .u8 x.kind) := HX.out.cell' 0
  go_wp2_with fail
  clear c0
  refine (has_any x.kind 80 _ rfl _ HOK.out.kind).mono ?_
  rintro e' WP ⟨rfl, hb⟩
  rw [tP]
  replace HX := hid (HX.out.below hb HX.out.lt)
  replace HR := hid (HR.out.below hb HR.out.lt)
  replace HO := hid (HO.out.below hb HO.out.lt)
  replace HB := hid (HB.out.trans (hb.mono HB.out.size))
  clear hb
  have c0 : WP.cell? ⟨w.heap.size, 0, none⟩ = some (.int .u8 x.kind) := HX.out.cell' 0
  go_wp2_with fail
  clear c0
  refine (has_any x.kind 86 _ rfl _ HOK.out.kind).mono ?_
  rintro e' WV ⟨rfl, hb⟩
  rw [tV]
  replace HX := hid (HX.out.below hb HX.out.lt)
  replace HR := hid (HR.out.below hb HR.out.lt)
  replace HO := hid (HO.out.below hb HO.out.lt)
  replace HB := hid (HB.out.trans (hb.mono HB.out.size))
  clear hb
  have c0 : WV.cell? ⟨w.heap.size, 0, none⟩ = some (.int .u8 x.kind) := HX.out.cell' 0
  go_wp2_with fail
  clear c0
  refine (has_any x.kind 88 _ rfl _ HOK.out.kind).mono ?_
  rintro e' WX ⟨rfl, hb⟩
  rw [tX]
  replace HX := hid (HX.out.below hb HX.out.lt)
  replace HR := hid (HR.out.below hb HR.out.lt)
  replace HO := hid (HO.out.below hb HO.out.lt)
  replace HB := hid (HB.out.trans (hb.mono HB.out.size))
  clear hb
  have c0 : WX.cell? ⟨w.heap.size, 0, none⟩ = some (.int .u8 x.kind) := HX.out.cell' 0
  have x9 : WX.cell? ⟨w.heap.size, 9, none⟩ = some (.slice x.ya x.bytes.length x.yc) := HX.out.cell' 9
  have z9 := HO.out.frozen 9
  have o9 : WX.cell? ⟨w.heap.size + 1 + 1, 9, none⟩ = some (.slice none 0 0) := HO.out.cell' 9
  have hlt := HO.out.lt
  have HO : Hid (Row WX (w.heap.size + 1 + 1) 26 (cgC { kindC x with kind := x.kind, a := x.a })) := HO
  have HYK : Hid (CGok w { kindC x with kind := x.kind, a := x.a, ya := x.ya, yc := x.yc, bytes := x.bytes }) := hid { HOK.out.kindC with kind := HOK.out.kind, na := HOK.out.na, bytes := HOK.out.bytes, yn := HOK.out.yn, yni := HOK.out.yni }
  obtain ⟨y0, hy0⟩ : ∃ y0 : CG, y0 = { kindC x with kind := x.kind, a := x.a } := ⟨_, rfl⟩
  rw [← hy0] at HO
  have HYE : Hid ({ y0 with ya := x.ya, yc := x.yc, bytes := x.bytes } = { kindC x with kind := x.kind, a := x.a, ya := x.ya, yc := x.yc, bytes := x.bytes }) := hid (by rw [hy0])
  rw [← HYE.out] at HYK
  clear hy0
  obtain ⟨k0, k1, k2, k3, k4, k5, k6, k7, k8, k9⟩ := HO.out.ten
  obtain ⟨r0, r1, r2, r3, r4, r5, r6, r7, r8, r9⟩ := HR.out.ten
  obtain ⟨z0, z1, z2, z3, z4, z5, z6, z7, z8, z9⟩ := HR.out.tenF
  have hltr := HR.out.lt
  have zz9 := HO.out.frozen 9
  have hlto := HO.out.lt
  go_wp2_with fail
  generalize hW10 : World.setCell _ ⟨w.heap.size + 1, 9, none⟩ _ = W10
  have hr : Row W10 (w.heap.size + 1) 26 (cgC { y0 with ya := x.ya, yc := x.yc, bytes := x.bytes }) := by rw [← hW10]; exact Row.set10 (HR.out.other (a := ⟨w.heap.size + 1 + 1, 9, none⟩) (by simp only [ne_eq]; omega) _) ({ y0 with ya := x.ya, yc := x.yc, bytes := x.bytes })
  have hb : Below w.heap.size w W10 := by rw [← hW10]; exact set10 (bset HB.out (b := w.heap.size + 1 + 1) (by omega) _) (w.heap.size + 1) (by omega) _ _ _ _ _ _ _ _ _ _
  clear hW10 k0 k1 k2 k3 k4 k5 k6 k7 k8 k9 r0 r1 r2 r3 r4 r5 r6 r7 r8 r9 z0 z1 z2 z3 z4 z5 z6 z7 z8 z9
  obtain ⟨k0, k1, k2, k3, k4, k5, k6, k7, k8, k9⟩ := hr.ten
  refine bodyPost_ret (v := cgV { y0 with ya := x.ya, yc := x.yc, bytes := x.bytes }) (by simp [results, Tryd.results36, go_sem, k0, k1, k2, k3, k4, k5, k6, k7, k8, k9]) rfl ⟨_, rfl, HYE.out, HYK.out.below hb, hb⟩

set_option maxRecDepth 100000 in
set_option maxHeartbeats 4000000 in
theorem only_PA (x : CG) (w : World) (hx : CGok w x) (tA : hasR x.kind 65 = true) (tB : hasR x.kind 66 = false) (tC : hasR x.kind 67 = false) (tD : hasR x.kind 68 = false) (tP : hasR x.kind 80 = true) (tV : hasR x.kind 86 = false) (tX : hasR x.kind 88 = false) :
    Calls Tryd.prog 36 #[cgV x] w fun e w' => ∃ y, e = .returned (cgV y) ∧ y = { kindC x with kind := x.kind, path := x.path, a := x.a } ∧ CGok w' y ∧ Below w.heap.size w w' := by
  have hbox := box_cg x
  obtain ⟨wa, hwa⟩ : ∃ wa, wa = ((w.alloc (.cells (cgC x).toArray 26)).alloc (.cells #[.int .u8 0, .int .u64 0, .int .u64 0, .int .u64 0, .int .u64 0, .int .u64 0, .string { data := #[] }, .slice none 0 0, .slice none 0 0, .slice none 0 0] 26)).alloc (.cells #[.int .u8 x.kind, .int .u64 0, .int .u64 0, .int .u64 0, .int .u64 0, .int .u64 0, .string { data := #[] }, .slice none 0 0, .slice none 0 0, .slice none 0 0] 26) := ⟨_, rfl⟩
  have HB := hid (show Below w.heap.size w wa by rw [hwa]; exact bal2' (bal2' (bal _) _) _)
  have HX := hid (show Row wa w.heap.size 26 (cgC x) by rw [hwa]; exact ((Row.new w _ _).alloc _).alloc _)
  have HR := hid (show Row wa (w.heap.size + 1) 26 (cgC (cgOf (pc0 0))) by
    rw [hwa]
    have h := (Row.new (w.alloc (.cells (cgC x).toArray 26)) 26 (cgC (cgOf (pc0 0)))).alloc (.cells (cgC (kindC x)).toArray 26)
    rw [World.size_alloc] at h; exact h)
  have HO := hid (show Row wa (w.heap.size + 1 + 1) 26 (cgC (kindC x)) by
    rw [hwa]
    have h := Row.new ((w.alloc (.cells (cgC x).toArray 26)).alloc (.cells (cgC (cgOf (pc0 0))).toArray 26)) 26 (cgC (kindC x))
    rw [World.size_alloc, World.size_alloc] at h; exact h)
  have HOK := hid hx
  have HW := hid hwa
  clear hwa hx
  have c0 := HX.out.cell' 0
  simp only [List.getElem?_cons_zero] at c0
  go_enter Tryd.func36, Tryd.ntmps36
  go_wp2_with fail
  rw [← HW.out]
  clear c0
  refine (has_any x.kind 65 _ rfl _ HOK.out.kind).mono ?_
  rintro e' WA ⟨rfl, hb⟩
  rw [tA]
  replace HX := hid (HX.out.below hb HX.out.lt)
  replace HR := hid (HR.out.below hb HR.out.lt)
  replace HO := hid (HO.out.below hb HO.out.lt)
  replace HB := hid (HB.out.trans (hb.mono HB.out.size))
  clear hb
  have c0 : WA.cell? ⟨w.heap.size, 0, none⟩ = some (.int .u8 x.kind) := HX.out.cell' 0
  have x1 : WA.cell? ⟨w.heap.size, 1, none⟩ = some (.int .u64 x.a) := HX.out.cell' 1
  have z1 := HO.out.frozen 1
  have o1 : WA.cell? ⟨w.heap.size + 1 + 1, 1, none⟩ = some (.int .u64 0) := HO.out.cell' 1
  have hlt := HO.out.lt
  go_wp2_with fail
  have HO1 := hid (show Row _ _ 26 (cgC { kindC x with a := x.a }) from HO.out.set 1 (.int .u64 x.a))
  have HX1 := hid (HX.out.other (a := ⟨w.heap.size + 1 + 1, 1, none⟩) (by simp only [ne_eq]; omega) (.int .u64 x.a))
  have HR1 := hid (HR.out.other (a := ⟨w.heap.size + 1 + 1, 1, none⟩) (by simp only [ne_eq]; omega) (.int .u64 x.a))
  have HB1 := hid (bset HB.out (b := w.heap.size + 1 + 1) (o := 1) (by omega) (.int .u64 x.a))
  clear HO HX HR HB
  have HO := HO1
  have HX := HX1
  have HR := HR1
  have HB := HB1
  clear HO1 HX1 HR1 HB1
  clear c0 hlt x1 z1 o1
  generalize hWW : World.setCell _ ⟨w.heap.size + 1 + 1, 1, none⟩ _ = Wq at *
  clear hWW
  have c0 : Wq.cell? ⟨w.heap.size, 0, none⟩ = some (.int .u8 x.kind) := HX.out.cell' 0
  clear c0
  refine (has_any x.kind 66 _ rfl _ HOK.out.kind).mono ?_
  rintro e' WB ⟨rfl, hb⟩
  rw [tB]
  replace HX := hid (HX.out.below hb HX.out.lt)
  replace HR := hid (HR.out.below hb HR.out.lt)
  replace HO := hid (HO.out.below hb HO.out.lt)
  replace HB := hid (HB.out.trans (hb.mono HB.out.size))
  clear hb
  have c0 : WB.cell? ⟨w.heap.size, 0, none⟩ = some (.int .u8 x.kind) := HX.out.cell' 0
  go_wp2_with fail
  clear c0
  refine (has_any x.kind 67 _ rfl _ HOK.out.kind).mono ?_
  rintro e' WC ⟨rfl, hb⟩
  rw [tC]
  replace HX := hid (HX.out.below hb HX.out.lt)
  replace HR := hid (HR.out.below hb HR.out.lt)
  replace HO := hid (HO.out.below hb HO.out.lt)
  replace HB := hid (HB.out.trans (hb.mono HB.out.size))
  clear hb
  have c0 : WC.cell? ⟨w.heap.size, 0, none⟩ = some (.int .u8 x.kind) := HX.out.cell' 0
  go_wp2_with fail
  clear c0
  refine (has_any x.kind 68 _ rfl _ HOK.out.kind).mono ?_
  rintro e' WD ⟨rfl, hb⟩
  rw [tD]
  replace HX := hid (HX.out.below hb HX.out.lt)
  replace HR := hid (HR.out.below hb HR.out.lt)
  replace HO := hid (HO.out.below hb HO.out.lt)
  replace HB := hid (HB.out.trans (hb.mono HB.out.size))
  clear hb
  have c0 : WD.cell? ⟨w.heap.size, 0, none⟩ = some (.int .u8 x.kind) := HX.out.cell' 0
  go_wp2_with fail
  clear c0
  refine (has_any x.kind 80 _ rfl _ HOK.out.kind).mono ?_
  rintro e' WP ⟨rfl, hb⟩
  rw [tP]
  replace HX := hid (HX.out.below hb HX.out.lt)
  replace HR := hid (HR.out.below hb HR.out.lt)
  replace HO := hid (HO.out.below hb HO.out.lt)
  replace HB := hid (HB.out.trans (hb.mono HB.out.size))
  clear hb
  have c0 : WP.cell? ⟨w.heap.size, 0, none⟩ = some (.int .u8 x.kind) := HX.out.cell' 0
  have x6 : WP.cell? ⟨w.heap.size, 6, none⟩ = some (.string (ba x.path)) := HX.out.cell' 6
  have z6 := HO.out.frozen 6
  have o6 : WP.cell? ⟨w.heap.size + 1 + 1, 6, none⟩ = some (.string { data := #[] }) := HO.out.cell' 6
  have hlt := HO.out.lt
  go_wp2_with fail
  have HO6 := hid (show Row _ _ 26 (cgC { kindC x with a := x.a, path := x.path }) from HO.out.set 6 (.string (ba x.path)))
  have HX6 := hid (HX.out.other (a := ⟨w.heap.size + 1 + 1, 6, none⟩) (by simp only [ne_eq]; omega) (.string (ba x.path)))
  have HR6 := hid (HR.out.other (a := ⟨w.heap.size + 1 + 1, 6, none⟩) (by simp only [ne_eq]; omega) (.string (ba x.path)))
  have HB6 := hid (bset HB.out (b := w.heap.size + 1 + 1) (o := 6) (by omega) (.string (ba x.path)))
  clear HO HX HR HB
  have HO := HO6
  have HX := HX6
  have HR := HR6
  have HB := HB6
  clear HO6 HX6 HR6 HB6
  clear c0 hlt x6 z6 o6
  generalize hWW : World.setCell _ ⟨w.heap.size + 1 + 1, 6, none⟩ _ = Wq at *
  clear hWW
  have c0 : Wq.cell? ⟨w.heap.size, 0, none⟩ = some (.int .u8 x.kind) := HX.out.cell' 0
  clear c0
  refine (has_any x.kind 86 _ rfl _ HOK.out.kind).mono ?_
  rintro e' WV ⟨rfl, hb⟩
  rw [tV]
  replace HX := hid (HX.out.below hb HX.out.lt)
  replace HR := hid (HR.out.below hb HR.out.lt)
  replace HO := hid (HO.out.below hb HO.out.lt)
  replace HB := hid (HB.out.trans (hb.mono HB.out.size))
  clear hb
  have c0 : WV.cell? ⟨w.heap.size, 0, none⟩ = some (.int .u8 x.kind) := HX.out.cell' 0
  go_wp2_with fail
  clear c0
  refine (has_any x.kind 88 _ rfl _ HOK.out.kind).mono ?_
  rintro e' WX ⟨rfl, hb⟩
  rw [tX]
  replace HX := hid (HX.out.below hb HX.out.lt)
  replace HR := hid (HR.out.below hb HR.out.lt)
  replace HO := hid (HO.out.below hb HO.out.lt)
  replace HB := hid (HB.out.trans (hb.mono HB.out.size))
  clear hb
  have c0 : WX.cell? ⟨w.heap.size, 0, none⟩ = some (.int .u8 x.kind) := HX.out.cell' 0
  have HO : Hid (Row WX (w.heap.size + 1 + 1) 26 (cgC { kindC x with kind := x.kind, path := x.path, a := x.a })) := HO
  have HYK : Hid (CGok w { kindC x with kind := x.kind, path := x.path, a := x.a }) := hid { HOK.out.kindC with kind := HOK.out.kind, pn := HOK.out.pn, na := HOK.out.na }
  obtain ⟨y0, hy0⟩ : ∃ y0 : CG, y0 = { kindC x with kind := x.kind, path := x.path, a := x.a } := ⟨_, rfl⟩
  rw [← hy0] at HO
  have HYE : Hid (y0 = { kindC x with kind := x.kind, path := x.path, a := x.a }) := hid (by rw [hy0])
  rw [← HYE.out] at HYK
  clear hy0
  obtain ⟨k0, k1, k2, k3, k4, k5, k6, k7, k8, k9⟩ := HO.out.ten
  obtain ⟨r0, r1, r2, r3, r4, r5, r6, r7, r8, r9⟩ := HR.out.ten
  obtain ⟨z0, z1, z2, z3, z4, z5, z6, z7, z8, z9⟩ := HR.out.tenF
  have hltr := HR.out.lt
  go_wp2_with fail
  generalize hW10 : World.setCell _ ⟨w.heap.size + 1, 9, none⟩ _ = W10
  have hr : Row W10 (w.heap.size + 1) 26 (cgC y0) := by rw [← hW10]; exact Row.set10 HR.out (y0)
  have hb : Below w.heap.size w W10 := by rw [← hW10]; exact set10 HB.out (w.heap.size + 1) (by omega) _ _ _ _ _ _ _ _ _ _
  clear hW10 k0 k1 k2 k3 k4 k5 k6 k7 k8 k9 r0 r1 r2 r3 r4 r5 r6 r7 r8 r9 z0 z1 z2 z3 z4 z5 z6 z7 z8 z9
  obtain ⟨k0, k1, k2, k3, k4, k5, k6, k7, k8, k9⟩ := hr.ten
  refine bodyPost_ret (v := cgV y0) (by simp [results, Tryd.results36, go_sem, k0, k1, k2, k3, k4, k5, k6, k7, k8, k9]) rfl ⟨_, rfl, HYE.out, HYK.out.below hb, hb⟩
end Go.Proofs.YtcbkikioapdbbaaDoor
