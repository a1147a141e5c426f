
/- layout.rightList, placed, Bases. -/
import Derived.Test.YtkpopdkkobelaaaLa7
namespace Go.Proofs.Ytkpopdkkobelaaa
open Go.RowKit Go.Sort Go.Shelf
attribute [local go_sem] Oper.semAt_some

/-- Objects in memory. -/
structure LOs (w : World) (a : Option Addr) (n : Nat) (xs : List LO) : Prop where
  rows : Rk w 11 a n (xs.map loC)
  ok : ∀ x ∈ xs, LOk w x
theorem LOs.below' {w w' : World} {a : Option Addr} {n : Nat} {xs : List LO} (h : LOs w a n xs) (hb : Below w.heap.size w w') : LOs w' a n xs := ⟨h.rows.below' hb, fun x hx => (h.ok x hx).below' hb⟩
theorem LOs.hlen {w : World} {a : Option Addr} {n : Nat} {xs : List LO} (h : LOs w a n xs) : xs.length = n := by have := h.rows.hlen; simpa using this
theorem LOs.cells {w : World} {a : Option Addr} {n : Nat} {xs : List LO} (h : LOs w a n xs) {i : Nat} (hi : i < xs.length) : ∃ b off, a = some ⟨b, off, none⟩ ∧
    (w.cell? ⟨b, off + i * 11, none⟩ = some (.int .i64 xs[i].ino) ∧ w.cell? ⟨b, off + i * 11 + 1, none⟩ = some (.int .u64 xs[i].base) ∧ w.cell? ⟨b, off + i * 11 + 2, none⟩ = some (.int .u16 xs[i].typ) ∧ w.cell? ⟨b, off + i * 11 + 3, none⟩ = some (.int .u64 xs[i].entry) ∧
     w.cell? ⟨b, off + i * 11 + 4, none⟩ = some (.int .u64 xs[i].phoff) ∧ w.cell? ⟨b, off + i * 11 + 5, none⟩ = some (.slice xs[i].ga xs[i].gn xs[i].gc)) ∧
    (w.cell? ⟨b, off + i * 11 + 6, none⟩ = some (.slice xs[i].na xs[i].nn xs[i].nc) ∧ w.cell? ⟨b, off + i * 11 + 7, none⟩ = some (.string (ba xs[i].soname)) ∧ w.cell? ⟨b, off + i * 11 + 8, none⟩ = some (.string (ba xs[i].run)) ∧ w.cell? ⟨b, off + i * 11 + 9, none⟩ = some (.slice xs[i].sa xs[i].sn xs[i].sc) ∧
     w.cell? ⟨b, off + i * 11 + 10, none⟩ = some (.slice xs[i].ra xs[i].rn xs[i].rc)) := by
  obtain ⟨b, off, rfl, hc⟩ := h.rows.some_of (by simp; omega)
  have hi' : i < (xs.map loC).length := by simpa using hi
  have e : (xs.map loC)[i] = loC xs[i] := by simp
  have g := fun j hj => hc i hi' j hj
  rw [e] at g
  exact ⟨b, off, rfl, ⟨g 0 (by simp [loC]), g 1 (by simp [loC]), g 2 (by simp [loC]), g 3 (by simp [loC]), g 4 (by simp [loC]), g 5 (by simp [loC])⟩, g 6 (by simp [loC]), g 7 (by simp [loC]), g 8 (by simp [loC]), g 9 (by simp [loC]), g 10 (by simp [loC])⟩
def rtO (x : LO) : Bool := rightB x.ino x.typ x.sg
def rtAt (x : LO) (i : Nat) : Bool := rtO x && (decide (i = 0) || decide (x.typ = 3))
def rightL (xs : List LO) : Bool := decide (0 < xs.length ∧ xs.length ≤ 8) && (List.range xs.length).all fun i => rtAt (xs.getD i default) i
/-- The first k are right. -/
def RtTo (xs : List LO) (k : Nat) : Prop := ∀ i, i < k → rtAt (xs.getD i default) i = true
theorem rightL_yes {xs : List LO} (h0 : 0 < xs.length) (h8 : xs.length ≤ 8) (h : RtTo xs xs.length) : rightL xs = true := by
  unfold rightL
  rw [decide_eq_true ⟨h0, h8⟩, Bool.true_and, List.all_eq_true]
  intro i hi
  exact h i (List.mem_range.1 hi)
theorem rightL_no {xs : List LO} {k : Nat} (hk : k < xs.length) (h : rtAt (xs.getD k default) k = false) : rightL xs = false := by
  unfold rightL
  rw [Bool.and_eq_false_iff]
  right
  rw [List.all_eq_false]
  exact ⟨k, List.mem_range.2 hk, by rw [h]; simp⟩
theorem getD_lo {xs : List LO} {k : Nat} (h : k < xs.length) : xs.getD k default = xs[k] := by rw [List.getD_eq_getElem?_getD, List.getElem?_eq_getElem h]; rfl

set_option maxRecDepth 100000 in
set_option maxHeartbeats 8000000 in
theorem rightList_any (a : Option Addr) (c : Nat) (xs : List LO) (w : World) (hX : LOs w a xs.length xs) (hl : xs.length ≤ 1000000000000) :
    Calls Try.prog 29 #[.slice a xs.length c] w fun e w' => e = .returned (.bool (rightL xs)) ∧ Below w.heap.size w w' := by
  have HX := hid hX
  clear hX
  by_cases h0 : xs.length = 0
  · have d0 : ((xs.length : Int) == 0) = true := by rw [beq_iff_eq]; omega
    have HF := hid (show rightL xs = false by unfold rightL; rw [decide_eq_false (by omega)]; rfl)
    clear h0
    go_enter Try.func29, Try.ntmps29
    go_wp2_with fail
    go_ret
    exact ⟨ret_bool HF.out.symm, Below.refl _ _⟩
  have d0 : ((xs.length : Int) == 0) = false := by rw [beq_eq_false_iff_ne]; omega
  by_cases h8 : 8 < xs.length
  · have d8 : decide ((8 : Int) < (xs.length : Int)) = true := by simp; omega
    have d8n : decide (8 < xs.length) = true := by simp; omega
    have HF := hid (show rightL xs = false by unfold rightL; rw [decide_eq_false (by omega)]; rfl)
    clear h0 h8
    go_enter Try.func29, Try.ntmps29
    go_wp2_with fail
    go_ret
    exact ⟨ret_bool HF.out.symm, Below.refl _ _⟩
  have d8 : decide ((8 : Int) < (xs.length : Int)) = false := by simp; omega
  have d8n : decide (8 < xs.length) = false := by simp; omega
  have H0 := hid h0
  have H8 := hid h8
  clear h0
  go_enter Try.func29, Try.ntmps29
  go_wp2_with fail
  go_loopw [15] (fun i wr => ∃ k : Nat, k ≤ xs.length ∧ i = .int .i64 k ∧ RtTo xs k ∧ Below w.heap.size w wr) (fun i _ => xs.length - (intOf i).toNat)
  case atStart => exact ⟨0, Nat.zero_le _, rfl, fun i h => by omega, Below.refl _ _⟩
  case round =>
    obtain ⟨k, hk, rfl, hto, hb⟩ := hrel
    have HTO := hid hto
    have HB := hid hb
    clear hto hb
    by_cases hlt : k < xs.length
    · have d1 : decide ((k : Int) < (xs.length : Int)) = true := by simp; omega
      have d1n : decide (k < xs.length) = true := by simp; omega
      have hXr := HX.out.below' HB.out
      obtain ⟨b, off, rfl, ⟨x0, x1, x2, x3, x4, x5⟩, x6, x7, x8, x9, x10⟩ := hXr.cells hlt
      have hbl := World.block_lt_of_cell? wr _ x0
      have HRT := hid (fun (o : Obj) => right_any xs[k] (wr.alloc o) ((hXr.ok _ (List.getElem_mem hlt)).below' (bal o)))
      have HNO := hid (fun h => @rightL_no xs k hlt h)
      have HST := hid (fun (h : rtAt (xs.getD k default) k = true) => show RtTo xs (k + 1) from fun i hi => by
        by_cases e : i = k
        · subst e; exact h
        · exact HTO.out i (by omega))
      rw [getD_lo hlt] at HNO HST
      have HBA := hid (fun o => HB.out.alloc HB.out.size o)
      clear hXr
      generalize xs[k] = x at *
      have HRN := hid (Row.new wr 33 (loC x))
      have HAT : Hid (rtAt x k = (rightB x.ino x.typ x.sg && (decide (k = 0) || decide (x.typ = 3)))) := hid rfl
      unfold loV at HRT
      cases hr : rightB x.ino x.typ x.sg
      · rw [hr] at HRT HAT
        have HF := hid (HNO.out (by rw [HAT.out]; rfl))
        clear hr
        go_wp2_with fail
        refine (HRT.out _).mono ?_
        rintro e' w2 ⟨rfl, hb⟩
        have HB2 := hid (bthen (HBA.out _) hb)
        clear hb x0 x1 x2 x3 x4 x5 x6 x7 x8 x9 x10 hbl
        go_wp2_with fail
        go_ret
        exact ⟨ret_bool HF.out.symm, HB2.out⟩
      · rw [hr] at HRT HAT
        clear hr
        by_cases hk0 : k = 0
        · have dk : decide (0 < k) = false := by simp; omega
          have dki : decide ((0 : Int) < (k : Int)) = false := by simp; omega
          rw [decide_eq_true hk0] at HAT
          have HS2 := hid (HST.out (by rw [HAT.out]; rfl))
          clear hk0
          go_wp2_with fail
          refine (HRT.out _).mono ?_
          rintro e' w2 ⟨rfl, hb⟩
          have HB2 := hid (bthen (HBA.out _) hb)
          clear hb x0 x1 x2 x3 x4 x5 x6 x7 x8 x9 x10 hbl
          go_wp2_with fail
          go_roundw
          case rel => exact ⟨k + 1, by omega, by go_num, HS2.out, HB2.out⟩
          case measure => simp [intOf]; omega
        · have dk : decide (0 < k) = true := by simp; omega
          have dki : decide ((0 : Int) < (k : Int)) = true := by simp; omega
          rw [decide_eq_false hk0] at HAT
          clear hk0
          by_cases h3 : x.typ = 3
          · have d3 : (x.typ != 3) = false := by simp [h3]
            rw [decide_eq_true h3] at HAT
            have HS2 := hid (HST.out (by rw [HAT.out]; rfl))
            clear h3
            go_wp2_with fail
            refine (HRT.out _).mono ?_
            rintro e' w2 ⟨rfl, hb⟩
            have HB2 := hid (bthen (HBA.out _) hb)
            have HR2 := hid (HRN.out.below hb HRN.out.lt)
            clear hb x0 x1 x2 x3 x4 x5 x6 x7 x8 x9 x10 hbl
            obtain ⟨⟨x0, x1, x2, x3, x4, x5⟩, x6, x7, x8, x9, x10⟩ := (show Row w2 wr.heap.size 33 [_, _, _, _, _, _, _, _, _, _, _] from HR2.out).eleven
            have hbl := HR2.out.lt
            go_wp2_with fail
            go_roundw
            case rel => exact ⟨k + 1, by omega, by go_num, HS2.out, HB2.out⟩
            case measure => simp [intOf]; omega
          · have d3 : (x.typ != 3) = true := by simpa using h3
            rw [decide_eq_false h3] at HAT
            have HF := hid (HNO.out (by rw [HAT.out]; rfl))
            clear h3
            go_wp2_with fail
            refine (HRT.out _).mono ?_
            rintro e' w2 ⟨rfl, hb⟩
            have HB2 := hid (bthen (HBA.out _) hb)
            have HR2 := hid (HRN.out.below hb HRN.out.lt)
            clear hb x0 x1 x2 x3 x4 x5 x6 x7 x8 x9 x10 hbl
            obtain ⟨⟨x0, x1, x2, x3, x4, x5⟩, x6, x7, x8, x9, x10⟩ := (show Row w2 wr.heap.size 33 [_, _, _, _, _, _, _, _, _, _, _] from HR2.out).eleven
            have hbl := HR2.out.lt
            go_wp2_with fail
            go_ret
            exact ⟨ret_bool HF.out.symm, HB2.out⟩
    · have d1 : decide ((k : Int) < (xs.length : Int)) = false := by simp; omega
      have d1n : decide (k < xs.length) = false := by simp; omega
      obtain rfl : k = xs.length := by omega
      have HF := hid (rightL_yes (by have := H0.out; omega) (by have := H8.out; omega) HTO.out)
      go_wp2_with fail
      go_ret
      exact ⟨ret_bool HF.out.symm, HB.out⟩

def placedL (x : LO) (main : Bool) (lib : Int) : LO := if main = false then atL x lib else if x.typ = 3 then atL x 93824992231424 else { x with base := 0 }
set_option maxRecDepth 100000 in
set_option maxHeartbeats 8000000 in
theorem placed_any (x : LO) (m : Bool) (lib : Int) (w : World) (hx : LOk w x) (hr : rightB x.ino x.typ x.sg = true) :
    Calls Try.prog 30 #[loV x, .bool m, .int .u64 lib] w fun e w' => e = .returned (loV (placedL x m lib)) ∧ Below w.heap.size w w' := by
  obtain ⟨ino, base, typ, entry, phoff, ga, gn, gc, sg, na, nn, nc, soname, run, sa, sn, sc, ra, rn, rc⟩ := x
  obtain rfl : sg.length = gn := hx.segs.hlen
  have hrt := hr
  have HXO := hid hx
  dsimp only at hr
  have HPL : Hid (loV (placedL ⟨ino, base, typ, entry, phoff, ga, sg.length, gc, sg, na, nn, nc, soname, run, sa, sn, sc, ra, rn, rc⟩ m lib) = if m = false then loV (atL ⟨ino, base, typ, entry, phoff, ga, sg.length, gc, sg, na, nn, nc, soname, run, sa, sn, sc, ra, rn, rc⟩ lib) else if typ = 3 then loV (atL ⟨ino, base, typ, entry, phoff, ga, sg.length, gc, sg, na, nn, nc, soname, run, sa, sn, sc, ra, rn, rc⟩ 93824992231424) else .agg #[.int .i64 ino, .int .u64 0, .int .u16 typ, .int .u64 entry, .int .u64 phoff, Value.slice ga sg.length gc, .slice na nn nc, .string (ba soname), .string (ba run), .slice sa sn sc, .slice ra rn rc]) := hid (by
    unfold placedL
    split
    · rfl
    · dsimp only
      split <;> rfl)
  rw [HPL.out]
  obtain ⟨W0, hW0⟩ : ∃ W0, W0 = (w.alloc (.cells #[.int .i64 ino, .int .u64 base, .int .u16 typ, .int .u64 entry, .int .u64 phoff, Value.slice ga sg.length gc, .slice na nn nc, .string (ba soname), .string (ba run), .slice sa sn sc, .slice ra rn rc] 33)).alloc (.cells #[.int .i64 0, .int .u64 0, .int .u16 0, .int .u64 0, .int .u64 0, Value.slice none 0 0, .slice none 0 0, .string (ByteArray.mk #[]), .string (ByteArray.mk #[]), .slice none 0 0, .slice none 0 0] 33) := ⟨_, rfl⟩
  have HB0 := hid (show Below w.heap.size w W0 by rw [hW0]; exact (bal _).alloc (by simp) _)
  have HX := hid (show Row W0 w.heap.size 33 [_, _, _, _, _, _, _, _, _, _, _] by rw [hW0]; exact (Row.new w 33 [.int .i64 ino, .int .u64 base, .int .u16 typ, .int .u64 entry, .int .u64 phoff, Value.slice ga sg.length gc, .slice na nn nc, .string (ba soname), .string (ba run), .slice sa sn sc, .slice ra rn rc]).alloc _)
  have HE := hid (show Row W0 (w.heap.size + 1) 33 [_, _, _, _, _, _, _, _, _, _, _] by
    rw [hW0]
    have := Row.new (w.alloc (.cells #[.int .i64 ino, .int .u64 base, .int .u16 typ, .int .u64 entry, .int .u64 phoff, Value.slice ga sg.length gc, .slice na nn nc, .string (ba soname), .string (ba run), .slice sa sn sc, .slice ra rn rc] 33)) 33 [.int .i64 0, .int .u64 0, .int .u16 0, .int .u64 0, .int .u64 0, Value.slice none 0 0, .slice none 0 0, .string (ByteArray.mk #[]), .string (ByteArray.mk #[]), .slice none 0 0, .slice none 0 0]
    rw [World.size_alloc] at this
    exact this)
  obtain ⟨⟨x0, x1, x2, x3, x4, x5⟩, x6, x7, x8, x9, x10⟩ := HX.out.eleven
  have hl1 := HX.out.lt
  clear hx hr HPL
  unfold loV atL w64
  dsimp only
  obtain ⟨V, hV⟩ : ∃ V, V = (if m = false then Value.agg #[.int .i64 ino, .int .u64 (IntKind.u64.wrap (lib - lowS (lds sg))), .int .u16 typ, .int .u64 entry, .int .u64 phoff, Value.slice ga sg.length gc, .slice na nn nc, .string (ba soname), .string (ba run), .slice sa sn sc, .slice ra rn rc] else if typ = 3 then .agg #[.int .i64 ino, .int .u64 (IntKind.u64.wrap (93824992231424 - lowS (lds sg))), .int .u16 typ, .int .u64 entry, .int .u64 phoff, Value.slice ga sg.length gc, .slice na nn nc, .string (ba soname), .string (ba run), .slice sa sn sc, .slice ra rn rc] else .agg #[.int .i64 ino, .int .u64 0, .int .u16 typ, .int .u64 entry, .int .u64 phoff, Value.slice ga sg.length gc, .slice na nn nc, .string (ba soname), .string (ba run), .slice sa sn sc, .slice ra rn rc]) := ⟨_, rfl⟩
  rw [← hV]
  cases m
  · rw [if_pos rfl] at hV
    have HVV := hid hV
    clear hV
    go_enter Try.func30, Try.ntmps30
    go_wp2_with fail
    try rw [← hW0]
    clear hW0
    go_wp2_with fail
    have HAT := hid (at_any ⟨ino, base, typ, entry, phoff, ga, sg.length, gc, sg, na, nn, nc, soname, run, sa, sn, sc, ra, rn, rc⟩ lib W0 (HXO.out.below' HB0.out) hrt)
    unfold atL w64 at HAT
    dsimp only at HAT
    unfold loV at HAT
    dsimp only at HAT
    refine (HAT.out).mono ?_
    rintro e' w1 ⟨rfl, hb⟩
    have HE1 := hid (HE.out.below hb HE.out.lt)
    have HB1 := hid (bthen HB0.out hb)
    clear hb x0 x1 x2 x3 x4 x5 x6 x7 x8 x9 x10 hl1
    obtain ⟨⟨y0, y1, y2, y3, y4, y5⟩, y6, y7, y8, y9, y10⟩ := HE1.out.eleven
    have hl2 := HE1.out.lt
    have g0 := HE1.out.frozen 0
    have g1 := HE1.out.frozen 1
    have g2 := HE1.out.frozen 2
    have g3 := HE1.out.frozen 3
    have g4 := HE1.out.frozen 4
    have g5 := HE1.out.frozen 5
    have g6 := HE1.out.frozen 6
    have g7 := HE1.out.frozen 7
    have g8 := HE1.out.frozen 8
    have g9 := HE1.out.frozen 9
    have g10 := HE1.out.frozen 10
    go_wp2_with fail
    have HF := (((((((((((HE1.out).set 0 (.int .i64 ino)).set 1 (.int .u64 (IntKind.u64.wrap (lib - lowS (lds sg))))).set 2 (.int .u16 typ)).set 3 (.int .u64 entry)).set 4 (.int .u64 phoff)).set 5 (Value.slice ga sg.length gc)).set 6 (.slice na nn nc)).set 7 (.string (ba soname))).set 8 (.string (ba run))).set 9 (.slice sa sn sc)).set 10 (.slice ra rn rc)
    simp only [List.set_cons_zero, List.set_cons_succ] at HF
    obtain ⟨⟨c0, c1, c2, c3, c4, c5⟩, c6, c7, c8, c9, c10⟩ := HF.eleven
    refine bodyPost_ret (v := .agg #[.int .i64 ino, .int .u64 (IntKind.u64.wrap (lib - lowS (lds sg))), .int .u16 typ, .int .u64 entry, .int .u64 phoff, Value.slice ga sg.length gc, .slice na nn nc, .string (ba soname), .string (ba run), .slice sa sn sc, .slice ra rn rc]) (by simp [results, Try.f30, Try.results30, go_sem, c0, c1, c2, c3, c4, c5, c6, c7, c8, c9, c10]) rfl ⟨by rw [HVV.out], ?_⟩
    iterate 11 (with_reducible refine bset ?_ (by omega) _)
    exact HB1.out
  rw [if_neg (by simp)] at hV
  by_cases h3 : typ = 3
  · have d3 : (typ == 3) = true := by simpa using h3
    rw [if_pos h3] at hV
    have HVV := hid hV
    clear h3 hV
    go_enter Try.func30, Try.ntmps30
    go_wp2_with fail
    try rw [← hW0]
    clear hW0
    go_wp2_with fail
    have HAT := hid (at_any ⟨ino, base, typ, entry, phoff, ga, sg.length, gc, sg, na, nn, nc, soname, run, sa, sn, sc, ra, rn, rc⟩ 93824992231424 W0 (HXO.out.below' HB0.out) hrt)
    unfold atL w64 at HAT
    dsimp only at HAT
    unfold loV at HAT
    dsimp only at HAT
    refine (HAT.out).mono ?_
    rintro e' w1 ⟨rfl, hb⟩
    have HE1 := hid (HE.out.below hb HE.out.lt)
    have HB1 := hid (bthen HB0.out hb)
    clear hb x0 x1 x2 x3 x4 x5 x6 x7 x8 x9 x10 hl1
    obtain ⟨⟨y0, y1, y2, y3, y4, y5⟩, y6, y7, y8, y9, y10⟩ := HE1.out.eleven
    have hl2 := HE1.out.lt
    have g0 := HE1.out.frozen 0
    have g1 := HE1.out.frozen 1
    have g2 := HE1.out.frozen 2
    have g3 := HE1.out.frozen 3
    have g4 := HE1.out.frozen 4
    have g5 := HE1.out.frozen 5
    have g6 := HE1.out.frozen 6
    have g7 := HE1.out.frozen 7
    have g8 := HE1.out.frozen 8
    have g9 := HE1.out.frozen 9
    have g10 := HE1.out.frozen 10
    go_wp2_with fail
    have HF := (((((((((((HE1.out).set 0 (.int .i64 ino)).set 1 (.int .u64 (IntKind.u64.wrap (93824992231424 - lowS (lds sg))))).set 2 (.int .u16 typ)).set 3 (.int .u64 entry)).set 4 (.int .u64 phoff)).set 5 (Value.slice ga sg.length gc)).set 6 (.slice na nn nc)).set 7 (.string (ba soname))).set 8 (.string (ba run))).set 9 (.slice sa sn sc)).set 10 (.slice ra rn rc)
    simp only [List.set_cons_zero, List.set_cons_succ] at HF
    obtain ⟨⟨c0, c1, c2, c3, c4, c5⟩, c6, c7, c8, c9, c10⟩ := HF.eleven
    refine bodyPost_ret (v := .agg #[.int .i64 ino, .int .u64 (IntKind.u64.wrap (93824992231424 - lowS (lds sg))), .int .u16 typ, .int .u64 entry, .int .u64 phoff, Value.slice ga sg.length gc, .slice na nn nc, .string (ba soname), .string (ba run), .slice sa sn sc, .slice ra rn rc]) (by simp [results, Try.f30, Try.results30, go_sem, c0, c1, c2, c3, c4, c5, c6, c7, c8, c9, c10]) rfl ⟨by rw [HVV.out], ?_⟩
    iterate 11 (with_reducible refine bset ?_ (by omega) _)
    exact HB1.out
  have d3 : (typ == 3) = false := by simpa using h3
  rw [if_neg h3] at hV
  have HVV := hid hV
  clear h3 hrt hV
  obtain ⟨⟨z0, z1, z2, z3, z4, z5⟩, z6, z7, z8, z9, z10⟩ := HE.out.eleven
  have hl2 := HE.out.lt
  have f1 := HX.out.frozen 1
  have g0 := HE.out.frozen 0
  have g1 := HE.out.frozen 1
  have g2 := HE.out.frozen 2
  have g3 := HE.out.frozen 3
  have g4 := HE.out.frozen 4
  have g5 := HE.out.frozen 5
  have g6 := HE.out.frozen 6
  have g7 := HE.out.frozen 7
  have g8 := HE.out.frozen 8
  have g9 := HE.out.frozen 9
  have g10 := HE.out.frozen 10
  go_enter Try.func30, Try.ntmps30
  go_wp2_with fail
  try rw [← hW0]
  clear hW0
  go_wp2_with fail
  have HF := (((((((((((HE.out.other (a := ⟨w.heap.size, 1, none⟩) (by simp) (.int .u64 0)).set 0 (.int .i64 ino)).set 1 (.int .u64 0)).set 2 (.int .u16 typ)).set 3 (.int .u64 entry)).set 4 (.int .u64 phoff)).set 5 (Value.slice ga sg.length gc)).set 6 (.slice na nn nc)).set 7 (.string (ba soname))).set 8 (.string (ba run))).set 9 (.slice sa sn sc)).set 10 (.slice ra rn rc)
  simp only [List.set_cons_zero, List.set_cons_succ] at HF
  obtain ⟨⟨c0, c1, c2, c3, c4, c5⟩, c6, c7, c8, c9, c10⟩ := HF.eleven
  refine bodyPost_ret (v := .agg #[.int .i64 ino, .int .u64 0, .int .u16 typ, .int .u64 entry, .int .u64 phoff, Value.slice ga sg.length gc, .slice na nn nc, .string (ba soname), .string (ba run), .slice sa sn sc, .slice ra rn rc]) (by simp [results, Try.f30, Try.results30, go_sem, c0, c1, c2, c3, c4, c5, c6, c7, c8, c9, c10]) rfl ⟨by rw [HVV.out], ?_⟩
  exact (bal _).alloc (by simp) _
end Go.Proofs.Ytkpopdkkobelaaa
