
/- layout.lies, at. -/
import Derived.Test.YtkpopdkkobelaaaLa3
namespace Go.Proofs.Ytkpopdkkobelaaa
open Go.RowKit Go.Sort Go.Shelf
attribute [local go_sem] Oper.semAt_some

theorem Row.eleven {w : World} {g : Nat} {E : TypeId} {a b c d e f h i j k l : Value} (r : Row w g E [a, b, c, d, e, f, h, i, j, k, l]) : (w.cell? ⟨g, 0, none⟩ = some a ∧ w.cell? ⟨g, 1, none⟩ = some b ∧ w.cell? ⟨g, 2, none⟩ = some c ∧ w.cell? ⟨g, 3, none⟩ = some d ∧ w.cell? ⟨g, 4, none⟩ = some e ∧ w.cell? ⟨g, 5, none⟩ = some f) ∧ w.cell? ⟨g, 6, none⟩ = some h ∧ w.cell? ⟨g, 7, none⟩ = some i ∧ w.cell? ⟨g, 8, none⟩ = some j ∧ w.cell? ⟨g, 9, none⟩ = some k ∧ w.cell? ⟨g, 10, none⟩ = some l :=
  ⟨⟨r.cell 0 (by simp), r.cell 1 (by simp), r.cell 2 (by simp), r.cell 3 (by simp), r.cell 4 (by simp), r.cell 5 (by simp)⟩, r.cell 6 (by simp), r.cell 7 (by simp), r.cell 8 (by simp), r.cell 9 (by simp), r.cell 10 (by simp)⟩
theorem LOk.loads {w : World} {x : LO} (h : LOk w x) (hr : rightB x.ino x.typ x.sg = true) : Loads (finOf x.typ) (lds x.sg) := rightB_loads h.ok hr
theorem LOk.span {w : World} {x : LO} (h : LOk w x) (hr : rightB x.ino x.typ x.sg = true) : 0 ≤ lowS (lds x.sg) ∧ lowS (lds x.sg) < highS (lds x.sg) ∧ highS (lds x.sg) ≤ finOf x.typ ∧ lowS (lds x.sg) % 4096 = 0 ∧ highS (lds x.sg) % 4096 = 0 :=
  (h.loads hr).span (finOf_le _).2 (finOf_page _) (rightB_of hr).2.2.2.1
theorem span_obj {x : LO} {w : World} (hx : LOk w x) (hr : rightB x.ino x.typ x.sg = true) (wx : World) (hb : Below w.heap.size w wx) :
    Calls Try.prog 44 #[.agg #[.int .u16 x.typ, .int .u64 x.entry, .int .u64 x.phoff, .slice x.ga x.sg.length x.gc]] wx fun e w' => e = .returned (.tuple #[.int .u64 (lowS (lds x.sg)), .int .u64 (highS (lds x.sg))]) ∧ Below wx.heap.size wx w' := by
  have h := hx.segs.below' hb
  have hl := hx.segs.hlen
  rw [← hl] at h
  exact span_any x.typ x.entry x.phoff x.ga x.gc x.sg (finOf x.typ) wx h (by have := (rightB_of hr).2.1; omega) hx.ok (hx.loads hr) (rightB_of hr).2.2.2.1 (finOf_le _).2
def liesV (x : LO) : Value := if liesB x.base (lds x.sg) = true then .tuple #[.agg #[.int .u64 (x.base + lowS (lds x.sg)), .int .u64 (x.base + highS (lds x.sg))], .bool true] else .tuple #[.agg #[.int .u64 0, .int .u64 0], .bool false]
theorem bthen2 {M : Nat} {w wa wb : World} (h : Below M w wa) (k : Below wa.heap.size wa wb) (hM : M ≤ wa.heap.size) : Below M w wb := h.trans (k.mono hM)

set_option maxRecDepth 100000 in
set_option maxHeartbeats 4000000 in
theorem lies_any (x : LO) (w : World) (hx : LOk w x) (hr : rightB x.ino x.typ x.sg = true) :
    Calls Try.prog 31 #[loV x] w fun e w' => e = .returned (liesV x) ∧ Below w.heap.size w w' := by
  have HSP := hid (span_obj hx hr)
  obtain ⟨ino, base, typ, entry, phoff, ga, gn, gc, sg, na, nn, nc, soname, run, sa, sn, sc, ra, rn, rc⟩ := x
  obtain rfl : sg.length = gn := hx.segs.hlen
  have hsp := hx.span hr
  have hne := (rightB_of hr).2.2.2.1
  have hsl := (rightB_of hr).2.1
  have hb0 := hx.b0
  have hb1 := hx.b1
  have HV := hid (rfl : liesV ⟨ino, base, typ, entry, phoff, ga, sg.length, gc, sg, na, nn, nc, soname, run, sa, sn, sc, ra, rn, rc⟩ = liesV ⟨ino, base, typ, entry, phoff, ga, sg.length, gc, sg, na, nn, nc, soname, run, sa, sn, sc, ra, rn, rc⟩)
  obtain ⟨V, hV⟩ : ∃ V, liesV ⟨ino, base, typ, entry, phoff, ga, sg.length, gc, sg, na, nn, nc, soname, run, sa, sn, sc, ra, rn, rc⟩ = V := ⟨_, rfl⟩
  have hV0 := hV
  unfold liesV liesB at hV
  dsimp only at hV hsp hb0 hb1 HSP
  rw [hV0]
  have hfin := (finOf_le typ).2
  have HI := hid (fun (wx : World) => show Calls Try.prog 42 #[.int .u64 base, .int .u64 (highS (lds sg)), .int .u64 140737488355328] wx (fun e w' => e = .returned (.bool (decide (base + highS (lds sg) ≤ 140737488355328))) ∧ wx = w') from by
    have := inside_any base (highS (lds sg)) 140737488355328 wx (by omega) (by omega)
    rw [show insB base (highS (lds sg)) 140737488355328 = decide (base + highS (lds sg) ≤ 140737488355328) by unfold insB; rw [decide_eq_decide]; omega] at this
    exact this)
  unfold loV
  dsimp only
  generalize lowS (lds sg) = lo at *
  generalize highS (lds sg) = hi at *
  obtain ⟨W0, hW0⟩ : ∃ W0, W0 = (w.alloc (.cells #[.int .i64 ino, .int .u64 base, .int .u16 typ, .int .u64 entry, .int .u64 phoff, Value.slice ga sg.length gc, .slice na nn nc, .string (ba soname), .string (ba run), .slice sa sn sc, .slice ra rn rc] 33)).alloc (.cells #[.int .u64 0, .int .u64 0] 73) := ⟨_, rfl⟩
  have HB0 := hid (show Below w.heap.size w W0 by rw [hW0]; exact (bal _).alloc (by simp) _)
  have HX := hid (show Row W0 w.heap.size 33 [_, _, _, _, _, _, _, _, _, _, _] by rw [hW0]; exact (Row.new w 33 [.int .i64 ino, .int .u64 base, .int .u16 typ, .int .u64 entry, .int .u64 phoff, Value.slice ga sg.length gc, .slice na nn nc, .string (ba soname), .string (ba run), .slice sa sn sc, .slice ra rn rc]).alloc _)
  have HE := hid (show Row W0 (w.heap.size + 1) 73 [.int .u64 0, .int .u64 0] by
    rw [hW0]
    have := Row.new (w.alloc (.cells #[.int .i64 ino, .int .u64 base, .int .u16 typ, .int .u64 entry, .int .u64 phoff, Value.slice ga sg.length gc, .slice na nn nc, .string (ba soname), .string (ba run), .slice sa sn sc, .slice ra rn rc] 33)) 73 [.int .u64 0, .int .u64 0]
    rw [World.size_alloc] at this
    exact this)
  obtain ⟨⟨x0, x1, x2, x3, x4, x5⟩, x6, x7, x8, x9, x10⟩ := HX.out.eleven
  have hl1 := HX.out.lt
  clear hx hr hne hV0 HV
  go_enter Try.func31, Try.ntmps31
  go_wp2_with fail
  try rw [← hW0]
  clear hW0
  go_wp2_with fail
  refine (HSP.out W0 HB0.out).mono ?_
  rintro e' w1 ⟨rfl, hb⟩
  have HX1 := hid (HX.out.below hb HX.out.lt)
  have HE1 := hid (HE.out.below hb HE.out.lt)
  have HB1 := hid (bthen HB0.out hb)
  clear hb x0 x1 x2 x3 x4 x5 x6 x7 x8 x9 x10 hl1
  obtain ⟨⟨x0, x1, x2, x3, x4, x5⟩, x6, x7, x8, x9, x10⟩ := HX1.out.eleven
  have hl1 := HX1.out.lt
  have e0 := HE1.out.cell 0 (by simp)
  have e1 := HE1.out.cell 1 (by simp)
  simp only [List.getElem_cons_zero, List.getElem_cons_succ] at e0 e1
  have f0 := HE1.out.frozen 0
  have f1 := HE1.out.frozen 1
  have hl2 := HE1.out.lt
  cases hd : decide (base + hi ≤ 140737488355328)
  · rw [hd] at HI
    rw [if_neg (by rw [hd]; simp)] at hV
    have HVV := hid hV
    clear hV
    go_wp2_with fail
    refine (HI.out _).mono ?_
    rintro e' w2 ⟨rfl, rfl⟩
    go_wp2_with fail
    have hc0 := ((HE1.out.set 0 (.int .u64 0)).set 1 (.int .u64 0)).cell 0 (by simp)
    have hc1 := ((HE1.out.set 0 (.int .u64 0)).set 1 (.int .u64 0)).cell 1 (by simp)
    simp only [List.set_cons_zero, List.set_cons_succ, List.getElem_cons_zero, List.getElem_cons_succ] at hc0 hc1
    refine bodyPost_ret (v := .tuple #[.agg #[.int .u64 0, .int .u64 0], .bool false]) (by simp [results, Try.f31, Try.results31, go_sem, hc0, hc1]) rfl ⟨by rw [HVV.out], bset (bset HB1.out (by omega) _) (by omega) _⟩
  · rw [hd] at HI
    rw [if_pos hd] at hV
    have hd2 := of_decide_eq_true hd
    have HVV := hid hV
    have hw1 : IntKind.u64.wrap (base + lo) = base + lo := by rw [IntKind.wrap_u64]; omega
    have hw2 : IntKind.u64.wrap (base + hi) = base + hi := by rw [IntKind.wrap_u64]; omega
    clear hV hd
    go_wp2_with fail
    refine (HI.out _).mono ?_
    rintro e' w2 ⟨rfl, rfl⟩
    go_wp2_with fail
    have hc0 := ((HE1.out.set 0 (.int .u64 (base + lo))).set 1 (.int .u64 (base + hi))).cell 0 (by simp)
    have hc1 := ((HE1.out.set 0 (.int .u64 (base + lo))).set 1 (.int .u64 (base + hi))).cell 1 (by simp)
    simp only [List.set_cons_zero, List.set_cons_succ, List.getElem_cons_zero, List.getElem_cons_succ] at hc0 hc1
    refine bodyPost_ret (v := .tuple #[.agg #[.int .u64 (base + lo), .int .u64 (base + hi)], .bool true]) (by simp [results, Try.f31, Try.results31, go_sem, hc0, hc1]) rfl ⟨by rw [HVV.out], bset (bset HB1.out (by omega) _) (by omega) _⟩

def atL (x : LO) (from_ : Int) : LO := { x with base := w64 (from_ - lowS (lds x.sg)) }
set_option maxRecDepth 100000 in
set_option maxHeartbeats 8000000 in
theorem at_any (x : LO) (from_ : Int) (w : World) (hx : LOk w x) (hr : rightB x.ino x.typ x.sg = true) :
    Calls Try.prog 39 #[loV x, .int .u64 from_] w fun e w' => e = .returned (loV (atL x from_)) ∧ Below w.heap.size w w' := by
  have HSP := hid (span_obj hx hr)
  obtain ⟨ino, base, typ, entry, phoff, ga, gn, gc, sg, na, nn, nc, soname, run, sa, sn, sc, ra, rn, rc⟩ := x
  obtain rfl : sg.length = gn := hx.segs.hlen
  dsimp only at HSP
  unfold loV atL w64
  dsimp only
  generalize lowS (lds sg) = lo at *
  generalize highS (lds sg) = hi at *
  obtain ⟨W0, hW0⟩ : ∃ W0, W0 = (w.alloc (.cells #[.int .i64 ino, .int .u64 base, .int .u16 typ, .int .u64 entry, .int .u64 phoff, Value.slice ga sg.length gc, .slice na nn nc, .string (ba soname), .string (ba run), .slice sa sn sc, .slice ra rn rc] 33)).alloc (.cells #[.int .i64 0, .int .u64 0, .int .u16 0, .int .u64 0, .int .u64 0, Value.slice none 0 0, .slice none 0 0, .string (ByteArray.mk #[]), .string (ByteArray.mk #[]), .slice none 0 0, .slice none 0 0] 33) := ⟨_, rfl⟩
  have HB0 := hid (show Below w.heap.size w W0 by rw [hW0]; exact (bal _).alloc (by simp) _)
  have HX := hid (show Row W0 w.heap.size 33 [_, _, _, _, _, _, _, _, _, _, _] by rw [hW0]; exact (Row.new w 33 [.int .i64 ino, .int .u64 base, .int .u16 typ, .int .u64 entry, .int .u64 phoff, Value.slice ga sg.length gc, .slice na nn nc, .string (ba soname), .string (ba run), .slice sa sn sc, .slice ra rn rc]).alloc _)
  have HE := hid (show Row W0 (w.heap.size + 1) 33 [_, _, _, _, _, _, _, _, _, _, _] by
    rw [hW0]
    have := Row.new (w.alloc (.cells #[.int .i64 ino, .int .u64 base, .int .u16 typ, .int .u64 entry, .int .u64 phoff, Value.slice ga sg.length gc, .slice na nn nc, .string (ba soname), .string (ba run), .slice sa sn sc, .slice ra rn rc] 33)) 33 [.int .i64 0, .int .u64 0, .int .u16 0, .int .u64 0, .int .u64 0, Value.slice none 0 0, .slice none 0 0, .string (ByteArray.mk #[]), .string (ByteArray.mk #[]), .slice none 0 0, .slice none 0 0]
    rw [World.size_alloc] at this
    exact this)
  obtain ⟨⟨x0, x1, x2, x3, x4, x5⟩, x6, x7, x8, x9, x10⟩ := HX.out.eleven
  have hl1 := HX.out.lt
  clear hx hr
  go_enter Try.func39, Try.ntmps39
  go_wp2_with fail
  try rw [← hW0]
  clear hW0
  go_wp2_with fail
  refine (HSP.out W0 HB0.out).mono ?_
  rintro e' w1 ⟨rfl, hb⟩
  have HX1 := hid (HX.out.below hb HX.out.lt)
  have HE1 := hid (HE.out.below hb HE.out.lt)
  have HB1 := hid (bthen HB0.out hb)
  clear hb x0 x1 x2 x3 x4 x5 x6 x7 x8 x9 x10 hl1
  obtain ⟨⟨x0, x1, x2, x3, x4, x5⟩, x6, x7, x8, x9, x10⟩ := HX1.out.eleven
  obtain ⟨⟨y0, y1, y2, y3, y4, y5⟩, y6, y7, y8, y9, y10⟩ := HE1.out.eleven
  have hl1 := HX1.out.lt
  have hl2 := HE1.out.lt
  have f1 := HX1.out.frozen 1
  have g0 := HE1.out.frozen 0
  have g1 := HE1.out.frozen 1
  have g2 := HE1.out.frozen 2
  have g3 := HE1.out.frozen 3
  have g4 := HE1.out.frozen 4
  have g5 := HE1.out.frozen 5
  have g6 := HE1.out.frozen 6
  have g7 := HE1.out.frozen 7
  have g8 := HE1.out.frozen 8
  have g9 := HE1.out.frozen 9
  have g10 := HE1.out.frozen 10
  go_wp2_with fail
  have HF := (((((((((((HE1.out.other (a := ⟨w.heap.size, 1, none⟩) (by simp) (.int .u64 (IntKind.u64.wrap (from_ - lo)))).set 0 (.int .i64 ino)).set 1 (.int .u64 (IntKind.u64.wrap (from_ - lo)))).set 2 (.int .u16 typ)).set 3 (.int .u64 entry)).set 4 (.int .u64 phoff)).set 5 (Value.slice ga sg.length gc)).set 6 (.slice na nn nc)).set 7 (.string (ba soname))).set 8 (.string (ba run))).set 9 (.slice sa sn sc)).set 10 (.slice ra rn rc)
  simp only [List.set_cons_zero, List.set_cons_succ] at HF
  obtain ⟨⟨c0, c1, c2, c3, c4, c5⟩, c6, c7, c8, c9, c10⟩ := HF.eleven
  refine bodyPost_ret (v := .agg #[.int .i64 ino, .int .u64 (IntKind.u64.wrap (from_ - lo)), .int .u16 typ, .int .u64 entry, .int .u64 phoff, Value.slice ga sg.length gc, .slice na nn nc, .string (ba soname), .string (ba run), .slice sa sn sc, .slice ra rn rc]) (by simp [results, Try.f39, Try.results39, go_sem, c0, c1, c2, c3, c4, c5, c6, c7, c8, c9, c10]) rfl ⟨rfl, ?_⟩
  iterate 12 (with_reducible refine bset ?_ (by omega) _)
  exact HB1.out
end Go.Proofs.Ytkpopdkkobelaaa
