
/- layout.Place, among objects that are right. -/
import Derived.Test.YtkpopdkkobelaaaLa9
import Derived.Test.YtkpopdkkobelaaaLaU
namespace Go.Proofs.Ytkpopdkkobelaaa
open Go.RowKit Go.Sort Go.Shelf
attribute [local go_sem] Oper.semAt_some

/-- What Place answers among objects that lie. -/
def PlPost (w : World) (os : List LO) (x : LO) (e : Ending) (w' : World) : Prop := ∃ (z : LO) (E : Int), e = .returned (.tuple #[loV z, .int .i64 E]) ∧ Below w.heap.size w w' ∧ ((E = 0 ∧ z = atL x 138538465099776 ∧ rightB x.ino x.typ x.sg = true ∧ x.typ = 3 ∧ (stackX :: os.map exOf).any (meetB (exOf (atL x 138538465099776))) = false) ∨ E ≠ 0)

theorem row_oth {w : World} {g b j : Nat} {E : TypeId} {cs : List Value} (h : Row w g E cs) (hne : g ≠ b) (u : Value) : Row (w.setCell ⟨b, j, none⟩ u) g E cs := h.other (a := ⟨b, j, none⟩) hne u
set_option maxRecDepth 100000 in
set_option maxHeartbeats 16000000 in
theorem place_any (a : Option Addr) (c : Nat) (os : List LO) (x : LO) (w : World) (hO : LOs w a os.length os) (h8 : os.length ≤ 8) (hok : ∀ i (h : i < os.length), rightB os[i].ino os[i].typ os[i].sg = true ∧ liesB os[i].base (lds os[i].sg) = true) (hx : LOk w x) :
    Calls Try.prog 20 #[.slice a os.length c, loV x] w (PlPost w os x) := by
  have HRA := hid (fun (wx : World) (hb : Below w.heap.size w wx) => right_any x wx (hx.below' hb))
  have HAA := hid (fun (wx : World) (hb : Below w.heap.size w wx) (hr : rightB x.ino x.typ x.sg = true) => at_any x 138538465099776 wx (hx.below' hb) hr)
  have HO := hid hO
  have HOK := hid hok
  have HXO := hid hx
  clear hO hok
  obtain ⟨ino, base, typ, entry, phoff, ga, gn, gc, sg, na, nn, nc, soname, run, sa, sn, sc, ra, rn, rc⟩ := x
  obtain rfl : sg.length = gn := hx.segs.hlen
  have HYA := hid (fun (h : rightB ino typ sg = true) (h3 : typ = 3) => show atL ⟨ino, base, typ, entry, phoff, ga, sg.length, gc, sg, na, nn, nc, soname, run, sa, sn, sc, ra, rn, rc⟩ 138538465099776 = ⟨ino, 138538465099776 - lowS (lds sg), typ, entry, phoff, ga, sg.length, gc, sg, na, nn, nc, soname, run, sa, sn, sc, ra, rn, rc⟩ ∧ liesB (138538465099776 - lowS (lds sg)) (lds sg) = true ∧ 0 ≤ lowS (lds sg) ∧ lowS (lds sg) ≤ 4294967296 ∧ 0 ≤ highS (lds sg) ∧ highS (lds sg) ≤ 4294967296 from by
    have hsp := hx.span h
    have hfin : finOf typ = 4294967296 := by rw [h3]; rfl
    dsimp only at hsp
    rw [hfin] at hsp
    refine ⟨?_, ?_, by omega, by omega, by omega, by omega⟩
    · unfold atL
      rw [w64_in (by dsimp only; omega) (by dsimp only; omega)]
    · unfold liesB
      exact decide_eq_true (by omega))
  clear hx
  obtain ⟨W0, hW0⟩ : ∃ W0, W0 = (w.alloc (.cells #[.int .i64 ino, .int .u64 base, .int .u16 typ, .int .u64 entry, .int .u64 phoff, Value.slice ga sg.length gc, .slice na nn nc, .string (ba soname), .string (ba run), .slice sa sn sc, .slice ra rn rc] 33)).alloc (.cells #[.int .i64 0, .int .u64 0, .int .u16 0, .int .u64 0, .int .u64 0, Value.slice none 0 0, .slice none 0 0, .string (ByteArray.mk #[]), .string (ByteArray.mk #[]), .slice none 0 0, .slice none 0 0] 33) := ⟨_, rfl⟩
  have HB0 := hid (show Below w.heap.size w W0 by rw [hW0]; exact (bal _).alloc (by simp) _)
  have HX := hid (show Row W0 w.heap.size 33 [.int .i64 ino, .int .u64 base, .int .u16 typ, .int .u64 entry, .int .u64 phoff, Value.slice ga sg.length gc, .slice na nn nc, .string (ba soname), .string (ba run), .slice sa sn sc, .slice ra rn rc] by rw [hW0]; exact (Row.new w 33 [.int .i64 ino, .int .u64 base, .int .u16 typ, .int .u64 entry, .int .u64 phoff, Value.slice ga sg.length gc, .slice na nn nc, .string (ba soname), .string (ba run), .slice sa sn sc, .slice ra rn rc]).alloc _)
  have HE := hid (show Row W0 (w.heap.size + 1) 33 [.int .i64 0, .int .u64 0, .int .u16 0, .int .u64 0, .int .u64 0, Value.slice none 0 0, .slice none 0 0, .string (ByteArray.mk #[]), .string (ByteArray.mk #[]), .slice none 0 0, .slice none 0 0] by
    rw [hW0]
    have := Row.new (w.alloc (.cells #[.int .i64 ino, .int .u64 base, .int .u16 typ, .int .u64 entry, .int .u64 phoff, Value.slice ga sg.length gc, .slice na nn nc, .string (ba soname), .string (ba run), .slice sa sn sc, .slice ra rn rc] 33)) 33 [.int .i64 0, .int .u64 0, .int .u16 0, .int .u64 0, .int .u64 0, Value.slice none 0 0, .slice none 0 0, .string (ByteArray.mk #[]), .string (ByteArray.mk #[]), .slice none 0 0, .slice none 0 0]
    rw [World.size_alloc] at this
    exact this)
  obtain ⟨⟨x0, x1, x2, x3, x4, x5⟩, x6, x7, x8, x9, x10⟩ := HX.out.eleven
  have hl1 := HX.out.lt
  have HRT := hid (HRA.out W0 HB0.out)
  unfold loV at HRT HAA
  unfold PlPost
  dsimp only at HRT HAA ⊢
  obtain ⟨VX, hVX⟩ : ∃ V : Value, V = loV ⟨ino, base, typ, entry, phoff, ga, sg.length, gc, sg, na, nn, nc, soname, run, sa, sn, sc, ra, rn, rc⟩ := ⟨_, rfl⟩
  unfold loV
  dsimp only
  have d8 : decide ((8 : Int) < (os.length : Int)) = false := by simp; omega
  have d8n : decide (8 < os.length) = false := by simp; omega
  go_enter Try.func20, Try.ntmps20
  go_wp2_with fail
  try rw [← hW0]
  clear hW0
  go_wp2_with fail
  refine (HRT.out).mono ?_
  rintro e' w1 ⟨rfl, hb⟩
  have HB1 := hid (bthen HB0.out hb)
  have HX1 := hid (HX.out.below hb HX.out.lt)
  have HE1 := hid (HE.out.below hb HE.out.lt)
  clear hb x0 x1 x2 x3 x4 x5 x6 x7 x8 x9 x10 hl1 HRT HX HE HRA
  obtain ⟨⟨x0, x1, x2, x3, x4, x5⟩, x6, x7, x8, x9, x10⟩ := HX1.out.eleven
  have hl1 := HX1.out.lt
  have HM1 := hid hl1
  cases hr : rightB ino typ sg
  · clear hr
    obtain ⟨⟨z0, z1, z2, z3, z4, z5⟩, z6, z7, z8, z9, z10⟩ := HE1.out.eleven
    have hlz := HE1.out.lt
    have g0 := HE1.out.frozen 0
    have g1 := HE1.out.frozen 1
    have g2 := HE1.out.frozen 2
    have g3 := HE1.out.frozen 3
    have g4 := HE1.out.frozen 4
    have g5 := HE1.out.frozen 5
    have g6 := HE1.out.frozen 6
    have g7 := HE1.out.frozen 7
    have g8 := HE1.out.frozen 8
    have g9 := HE1.out.frozen 9
    have g10 := HE1.out.frozen 10
    go_wp2_with fail
    have HF := ((((((((((HE1.out.set 0 (.int .i64 0)).set 1 (.int .u64 0)).set 2 (.int .u16 0)).set 3 (.int .u64 0)).set 4 (.int .u64 0)).set 5 (Value.slice none 0 0)).set 6 (.slice none 0 0)).set 7 (.string (ByteArray.mk #[]))).set 8 (.string (ByteArray.mk #[]))).set 9 (.slice none 0 0)).set 10 (.slice none 0 0)
    simp only [List.set_cons_zero, List.set_cons_succ] at HF
    obtain ⟨⟨c0, c1, c2, c3, c4, c5⟩, c6, c7, c8, c9, c10⟩ := HF.eleven
    refine bodyPost_ret (v := .tuple #[.agg #[.int .i64 0, .int .u64 0, .int .u16 0, .int .u64 0, .int .u64 0, Value.slice none 0 0, .slice none 0 0, .string (ByteArray.mk #[]), .string (ByteArray.mk #[]), .slice none 0 0, .slice none 0 0], .int .i64 1]) (by simp [results, Try.f20, Try.results20, go_sem, c0, c1, c2, c3, c4, c5, c6, c7, c8, c9, c10]) rfl ⟨⟨0, 0, 0, 0, 0, none, 0, 0, [], none, 0, 0, [], [], none, 0, 0, none, 0, 0⟩, 1, rfl, ?_, .inr (by decide)⟩
    iterate 11 (with_reducible refine bset ?_ (by omega) _)
    exact HB1.out
  have HR := hid hr
  clear hr
  by_cases h3 : typ = 3
  case neg =>
    have d3 : (typ != 3) = true := by simpa using h3
    clear h3
    obtain ⟨⟨z0, z1, z2, z3, z4, z5⟩, z6, z7, z8, z9, z10⟩ := HE1.out.eleven
    have hlz := HE1.out.lt
    have g0 := HE1.out.frozen 0
    have g1 := HE1.out.frozen 1
    have g2 := HE1.out.frozen 2
    have g3 := HE1.out.frozen 3
    have g4 := HE1.out.frozen 4
    have g5 := HE1.out.frozen 5
    have g6 := HE1.out.frozen 6
    have g7 := HE1.out.frozen 7
    have g8 := HE1.out.frozen 8
    have g9 := HE1.out.frozen 9
    have g10 := HE1.out.frozen 10
    go_wp2_with fail
    have HF := ((((((((((HE1.out.set 0 (.int .i64 0)).set 1 (.int .u64 0)).set 2 (.int .u16 0)).set 3 (.int .u64 0)).set 4 (.int .u64 0)).set 5 (Value.slice none 0 0)).set 6 (.slice none 0 0)).set 7 (.string (ByteArray.mk #[]))).set 8 (.string (ByteArray.mk #[]))).set 9 (.slice none 0 0)).set 10 (.slice none 0 0)
    simp only [List.set_cons_zero, List.set_cons_succ] at HF
    obtain ⟨⟨c0, c1, c2, c3, c4, c5⟩, c6, c7, c8, c9, c10⟩ := HF.eleven
    refine bodyPost_ret (v := .tuple #[.agg #[.int .i64 0, .int .u64 0, .int .u16 0, .int .u64 0, .int .u64 0, Value.slice none 0 0, .slice none 0 0, .string (ByteArray.mk #[]), .string (ByteArray.mk #[]), .slice none 0 0, .slice none 0 0], .int .i64 1]) (by simp [results, Try.f20, Try.results20, go_sem, c0, c1, c2, c3, c4, c5, c6, c7, c8, c9, c10]) rfl ⟨⟨0, 0, 0, 0, 0, none, 0, 0, [], none, 0, 0, [], [], none, 0, 0, none, 0, 0⟩, 1, rfl, ?_, .inr (by decide)⟩
    iterate 11 (with_reducible refine bset ?_ (by omega) _)
    exact HB1.out
  have d3 : (typ != 3) = false := by simp [h3]
  obtain ⟨hy1, hy2, hy3, hy4, hy5, hy6⟩ := HYA.out HR.out h3
  have H3 := hid h3
  have HYE := hid hy1
  have HYL := hid hy2
  clear h3 hy1 hy2 HYA
  go_wp2_with fail
  go_loopw [6, 30] (fun v i wr => ∃ k : Nat, k ≤ os.length ∧ i = .int .i64 k ∧ OwnK wr w1.heap.size 73 2 v (((os.take k).map exOf).map exC) ∧ Below w1.heap.size w1 wr) (fun _ i _ => os.length - (intOf i).toNat)
  case atStart => exact ⟨0, Nat.zero_le _, rfl, ⟨rfl, .inl ⟨rfl, rfl⟩⟩, Below.refl _ _⟩
  case round =>
    obtain ⟨k, hk, rfl, hown, hb⟩ := hrel
    have HOW := hid hown
    have HB := hid hb
    clear hown hb
    by_cases hlt : k < os.length
    · have d1 : decide ((k : Int) < (os.length : Int)) = true := by simp; omega
      have d1n : decide (k < os.length) = true := by simp; omega
      have hOr := HO.out.below' (HB1.out.trans (HB.out.mono HB1.out.size))
      clear x0 x1 x2 x3 x4 x5 x6 x7 x8 x9 x10 hl1
      obtain ⟨b, off, rfl, ⟨x0, x1, x2, x3, x4, x5⟩, x6, x7, x8, x9, x10⟩ := hOr.cells hlt
      have hbl := World.block_lt_of_cell? wr _ x0
      have hLO := hOr.ok _ (List.getElem_mem hlt)
      have hok := HOK.out k hlt
      have HTK := hid (show (os.take (k + 1)).map exOf = (os.take k).map exOf ++ [exOf os[k]] by rw [List.take_succ_eq_append_getElem hlt, List.map_append]; rfl)
      have HTL := hid (show ((os.take k).map exOf).length ≤ 8 by rw [List.length_map, List.length_take]; omega)
      generalize (os.take k).map exOf = TK at *
      generalize os[k] = y at *
      obtain ⟨W2, hW2⟩ : ∃ W2, W2 = wr.alloc (.cells (loC y).toArray 33) := ⟨_, rfl⟩
      have HBW := hid (show Below wr.heap.size wr W2 by rw [hW2]; exact bal _)
      have HY2 := hid (show Row W2 wr.heap.size 33 (loC y) by rw [hW2]; exact Row.new wr 33 (loC y))
      have HLI := hid (lies_any y W2 (hLO.below' HBW.out) hok.1)
      have HRI := hid (fun (wx : World) (hb : Below wr.heap.size wr wx) => right_any y wx (hLO.below' hb))
      rw [hok.1] at HRI
      unfold liesV at HLI
      rw [if_pos hok.2] at HLI
      have HEX := hid (show exOf y = (y.base + lowS (lds y.sg), y.base + highS (lds y.sg)) from rfl)
      generalize y.base + lowS (lds y.sg) = e1 at *
      generalize y.base + highS (lds y.sg) = e2 at *
      rw [HEX.out] at HTK
      unfold loC at hW2 HY2
      try dsimp only at hW2 HY2
      unfold loV at HLI HRI
      clear hOr hok hLO
      go_wp2_with fail
      try rw [← hW2]
      clear hW2 x0 x1 x2 x3 x4 x5 x6 x7 x8 x9 x10 hbl
      obtain ⟨⟨x0, x1, x2, x3, x4, x5⟩, x6, x7, x8, x9, x10⟩ := HY2.out.eleven
      have hbl := HY2.out.lt
      go_wp2_with fail
      refine (HLI.out).mono ?_
      rintro e' w3 ⟨rfl, hb3⟩
      have HR3 := hid (HY2.out.below hb3 HY2.out.lt)
      clear x0 x1 x2 x3 x4 x5 x6 x7 x8 x9 x10 hbl HLI
      obtain ⟨⟨x0, x1, x2, x3, x4, x5⟩, x6, x7, x8, x9, x10⟩ := HR3.out.eleven
      have hbl := HR3.out.lt
      obtain ⟨W5, hW5⟩ : ∃ W5, W5 = w3.alloc (.cells #[.int .u64 e1, .int .u64 e2] 73) := ⟨_, rfl⟩
      have hb4 : Below W2.heap.size W2 W5 := by rw [hW5]; exact hb3.alloc hb3.size _
      have HB5 := hid (show Below wr.heap.size wr W5 from bthen HBW.out hb4)
      have HE5 := hid (show Row W5 w3.heap.size 73 [.int .u64 e1, .int .u64 e2] by rw [hW5]; exact Row.new _ _ _)
      have HRI5 := hid (HRI.out W5 HB5.out)
      clear hb3 hb4 HRI
      go_wp2_with fail
      try rw [← hW5]
      clear hW5 x0 x1 x2 x3 x4 x5 x6 x7 x8 x9 x10 hbl
      refine (HRI5.out).mono ?_
      rintro e' w6 ⟨rfl, hb6⟩
      have HB6 := hid (bthen HB5.out hb6)
      have HE6 := hid (HE5.out.below hb6 HE5.out.lt)
      clear hb6 HRI5
      obtain ⟨y0, y1⟩ := HE6.out.twoL
      have hge := HE6.out.lt
      generalize w3.heap.size = ge at *
      have HOA := hid (fun o => show OwnK (w6.alloc o) w1.heap.size 73 2 u6 (TK.map exC) from own_below (own_below HOW.out HB6.out) (bal o))
      have HBA := hid (fun o => show Below w1.heap.size w1 (w6.alloc o) from bthen HB.out (bthen HB6.out (bal o)))
      have HNR := hid (row_rk (Row.new w6 73 (exC (e1, e2))) (rfl : (exC (e1, e2)).length = 2))
      have HONE := hid (exC_one [(e1, e2)])
      have HNa := hid (show ((TK.map exC).length + 1) * 16 ≤ 140737488355328 by rw [List.length_map]; have := HTL.out; omega)
      have HNb := hid (show (TK.map exC).length + 1 ≤ maxLen by rw [List.length_map]; have := HTL.out; unfold maxLen; omega)
      go_wp2_with (at_builtin; go_must (refine wpList_appKg Try.underlying70 infoEx rfl (by decide) rfl _ _ rfl w1.heap.size u6 (TK.map exC) [exC (e1, e2)] rfl (some ⟨w6.heap.size, 0, none⟩) 1 1 rfl (HOA.out _) HNR.out HONE.out (fun h => by cases h) HNa.out HNb.out (HBA.out _).size ?_; intro v' w9 hown hgrow hb9; have HO9 := hid hown; have HB9 := hid ((HBA.out _).trans hb9); clear hown hgrow hb9))
      go_roundw
      case rel => exact ⟨k + 1, by omega, by go_num, by rw [HTK.out, List.map_append]; exact HO9.out, HB9.out⟩
      case measure => simp [intOf]; omega
    · have d1 : decide ((k : Int) < (os.length : Int)) = false := by simp; omega
      have d1n : decide (k < os.length) = false := by simp; omega
      have hk2 : os.take k = os := List.take_of_length_le (by omega)
      rw [hk2] at HOW
      have HXr := hid (HX1.out.below HB.out HX1.out.lt)
      have HEr := hid (HE1.out.below HB.out HE1.out.lt)
      have HBr := hid (show Below w.heap.size w wr from HB1.out.trans (HB.out.mono HB1.out.size))
      obtain ⟨ta, tc, htv, htr, htn, _⟩ := own_rk HOW.out (exC_len _) (by decide)
      rw [List.length_map] at htv htr
      have htl : (os.map exOf).length ≤ 8 := by rw [List.length_map]; exact h8
      rename World => wB
      clear hk2 hlt hk x0 x1 x2 x3 x4 x5 x6 x7 x8 x9 x10 hl1 HX1 HE1
      subst htv
      have HTK := hid htr
      have HTN := hid htn
      have hM1 : w.heap.size < w1.heap.size := HM1.out
      clear htr htn
      generalize hTS : os.map exOf = TS at *
      have HTS := hid hTS
      clear hTS
      have HAT := hid (HAA.out wB HBr.out HR.out)
      rw [HYE.out] at HAT
      clear HAA
      dsimp only at HAT
      generalize hLo : lowS (lds sg) = lo at *
      generalize hHi : highS (lds sg) = hi at *
      have HLoE := hid hLo
      have HHiE := hid hHi
      clear hLo hHi
      obtain ⟨⟨x0, x1, x2, x3, x4, x5⟩, x6, x7, x8, x9, x10⟩ := HXr.out.eleven
      have hl1 := HXr.out.lt
      go_wp2_with fail
      refine (HAT.out).mono ?_
      rintro e' w2 ⟨rfl, hb2⟩
      have HB2 := hid (bthen HBr.out hb2)
      have HX2 := hid (HXr.out.below hb2 HXr.out.lt)
      have HE2 := hid (HEr.out.below hb2 HEr.out.lt)
      have HWX2 := hid hb2
      clear hb2 x0 x1 x2 x3 x4 x5 x6 x7 x8 x9 x10 hl1 HAT HXr HEr
      obtain ⟨⟨x0, x1, x2, x3, x4, x5⟩, x6, x7, x8, x9, x10⟩ := HX2.out.eleven
      have hl1 := HX2.out.lt
      have g0 := HX2.out.frozen 0
      have g1 := HX2.out.frozen 1
      have g2 := HX2.out.frozen 2
      have g3 := HX2.out.frozen 3
      have g4 := HX2.out.frozen 4
      have g5 := HX2.out.frozen 5
      have g6 := HX2.out.frozen 6
      have g7 := HX2.out.frozen 7
      have g8 := HX2.out.frozen 8
      have g9 := HX2.out.frozen 9
      have g10 := HX2.out.frozen 10
      go_wp2_with fail
      have HF := ((((((((((HX2.out.set 0 (.int .i64 ino)).set 1 (.int .u64 (138538465099776 - lo))).set 2 (.int .u16 typ)).set 3 (.int .u64 entry)).set 4 (.int .u64 phoff)).set 5 (Value.slice ga sg.length gc)).set 6 (.slice na nn nc)).set 7 (.string (ba soname))).set 8 (.string (ba run))).set 9 (.slice sa sn sc)).set 10 (.slice ra rn rc)
      simp only [List.set_cons_zero, List.set_cons_succ] at HF
      have HEF := hid (show ∀ u, Row (w2.setCell ⟨w.heap.size, 0, none⟩ u) (w.heap.size + 1) 33 _ from fun u => HE2.out.other (a := ⟨w.heap.size, 0, none⟩) (by simp) u)
      obtain ⟨W3, hR3, hB3, hE3, hO3, hW3⟩ : ∃ W3, Row W3 w.heap.size 33 [.int .i64 ino, .int .u64 (138538465099776 - lo), .int .u16 typ, .int .u64 entry, .int .u64 phoff, Value.slice ga sg.length gc, .slice na nn nc, .string (ba soname), .string (ba run), .slice sa sn sc, .slice ra rn rc] ∧ Below w.heap.size w W3 ∧ Row W3 (w.heap.size + 1) 33 [.int .i64 0, .int .u64 0, .int .u16 0, .int .u64 0, .int .u64 0, Value.slice none 0 0, .slice none 0 0, .string (ByteArray.mk #[]), .string (ByteArray.mk #[]), .slice none 0 0, .slice none 0 0] ∧ OwnK W3 w1.heap.size 73 2 (.slice ta TS.length tc) (TS.map exC) ∧ _ = W3 := ⟨_, HF, by (iterate 11 (with_reducible refine bset ?_ (Nat.le_refl _) _)); exact HB2.out, by (iterate 11 (with_reducible refine row_oth ?_ (by simp) _)); exact HE2.out, by (iterate 11 (with_reducible refine own_setLow ?_ hM1 _)); exact own_below HOW.out HWX2.out, rfl⟩
      rw [hW3]
      clear hW3 HF HEF HX2 HE2 x0 x1 x2 x3 x4 x5 x6 x7 x8 x9 x10 hl1 g0 g1 g2 g3 g4 g5 g6 g7 g8 g9 g10
      have HR3 := hid hR3
      have HE3 := hid hE3
      have HB3 := hid hB3
      have HLY := hid (show LOk W3 ⟨ino, 138538465099776 - lo, typ, entry, phoff, ga, sg.length, gc, sg, na, nn, nc, soname, run, sa, sn, sc, ra, rn, rc⟩ from ⟨(HXO.out.below' hB3).segs, HXO.out.ok, HXO.out.gn, HXO.out.nil, by dsimp only; omega, by dsimp only; omega⟩)
      have HLI := hid (lies_any ⟨ino, 138538465099776 - lo, typ, entry, phoff, ga, sg.length, gc, sg, na, nn, nc, soname, run, sa, sn, sc, ra, rn, rc⟩ W3 HLY.out HR.out)
      have HLV := hid (show liesV ⟨ino, 138538465099776 - lo, typ, entry, phoff, ga, sg.length, gc, sg, na, nn, nc, soname, run, sa, sn, sc, ra, rn, rc⟩ = .tuple #[.agg #[.int .u64 (138538465099776 - lo + lo), .int .u64 (138538465099776 - lo + hi)], .bool true] by
        unfold liesV
        dsimp only
        rw [if_pos HYL.out, HLoE.out, HHiE.out])
      have HEX := hid (show exOf ⟨ino, 138538465099776 - lo, typ, entry, phoff, ga, sg.length, gc, sg, na, nn, nc, soname, run, sa, sn, sc, ra, rn, rc⟩ = (138538465099776 - lo + lo, 138538465099776 - lo + hi) by unfold exOf; dsimp only; rw [HLoE.out, HHiE.out])
      rw [HLV.out] at HLI
      unfold loV at HLI
      generalize 138538465099776 - lo + lo = e1 at *
      generalize 138538465099776 - lo + hi = e2 at *
      have HTKE := hid (show Rk W3 2 ta TS.length (TS.map exC) from rk_of_own hO3 (exC_len _) (by decide) rfl)
      clear hR3 hB3 hE3 hO3
      obtain ⟨⟨x0, x1, x2, x3, x4, x5⟩, x6, x7, x8, x9, x10⟩ := HR3.out.eleven
      have hl1 := HR3.out.lt
      go_wp2_with fail
      refine (HLI.out).mono ?_
      rintro e' w4 ⟨rfl, hb⟩
      obtain ⟨W5, hW5⟩ : ∃ W5, W5 = w4.alloc (.cells #[.int .u64 e1, .int .u64 e2] 73) := ⟨_, rfl⟩
      have hb4 : Below W3.heap.size W3 W5 := by rw [hW5]; exact hb.alloc hb.size _
      have HB5 := hid (show Below w.heap.size w W5 from bthen HB3.out hb4)
      have HR5 := hid (HR3.out.below hb4 HR3.out.lt)
      have HEE5 := hid (HE3.out.below hb4 HE3.out.lt)
      have HTK5 := hid (HTKE.out.below' hb4)
      have HE5 := hid (show Row W5 w4.heap.size 73 [.int .u64 e1, .int .u64 e2] by rw [hW5]; exact Row.new _ _ _)
      clear hb hb4 x0 x1 x2 x3 x4 x5 x6 x7 x8 x9 x10 hl1 HLI HTK HTKE
      go_wp2_with fail
      rw [← hW5]
      clear hW5
      generalize w4.heap.size = ge at *
      clear w4
      have HMO := hid (fun (wz : World) (hs : St W5 wz) => meetsOne_any ta tc TS wz (HTK5.out.below' hs) HTN.out (by omega))
      have HM1 := hid (fun (wz : World) (g : Nat) (a' : Option Addr) (c' : Nat) (hg : Row wz g 70 [.slice a' (stackX :: TS).length c']) (hk : Rk wz 2 a' (stackX :: TS).length ((stackX :: TS).map exC)) => meetsOne1_any (e1, e2) g a' c' (stackX :: TS) wz hg hk (by rw [List.length_cons]; omega))
      unfold exV at HM1
      dsimp only at HM1
      obtain ⟨bb, hbb⟩ : ∃ bb, (stackX :: TS).any (meetB (e1, e2)) = bb := ⟨_, rfl⟩
      rw [hbb] at HM1
      have HBB := hid hbb
      clear hbb
      have zz0 : ∀ wz, St W5 wz → wz.cell? ⟨ge, 0, none⟩ = some (.int .u64 e1) := fun _ => St.cell (HE5.out.cell 0 (by simp))
      have zz1 : ∀ wz, St W5 wz → wz.cell? ⟨ge, 1, none⟩ = some (.int .u64 e2) := fun _ => St.cell (HE5.out.cell 1 (by simp))
      have hltz : ∀ wz, St W5 wz → ge < wz.heap.size := fun wz hs => Nat.lt_of_lt_of_le HE5.out.lt (Below.size hs)
      go_region_held3 (St W5) (first | exact St.drew _ | exact St.step (by assumption) hbx | assumption) (first | (go_at_call 32; (with_reducible refine ((HMO.out _ (by assumption)).mono ?_)); rintro e' wx ⟨gg, aa, cc, rfl, hgr, hgk, hbx⟩; have HGR := hid hgr; have HGK := hid hgk; have HS11 : Hid (St W5 wx) := hid (St.step (by assumption) hbx); clear hgr hgk) | (go_at_call 45; (with_reducible refine ((HM1.out _ _ _ _ HGR.out HGK.out).mono ?_)); rintro e' wy ⟨rfl, hbx⟩; have HS12 : Hid (St W5 wy) := hid (St.step HS11.out hbx)))
      have HBY := hid (show Below w.heap.size w wy from bthen HB5.out HS12.out)
      have HRY := hid (HR5.out.below HS12.out HR5.out.lt)
      have HEY2 := hid (HEE5.out.below HS12.out HEE5.out.lt)
      clear zz0 zz1 hltz HMO HM1 HS11 hbx
      cases bb
      case true =>
        obtain ⟨⟨z0, z1, z2, z3, z4, z5⟩, z6, z7, z8, z9, z10⟩ := HEY2.out.eleven
        have hlz := HEY2.out.lt
        have g0 := HEY2.out.frozen 0
        have g1 := HEY2.out.frozen 1
        have g2 := HEY2.out.frozen 2
        have g3 := HEY2.out.frozen 3
        have g4 := HEY2.out.frozen 4
        have g5 := HEY2.out.frozen 5
        have g6 := HEY2.out.frozen 6
        have g7 := HEY2.out.frozen 7
        have g8 := HEY2.out.frozen 8
        have g9 := HEY2.out.frozen 9
        have g10 := HEY2.out.frozen 10
        go_wp2_with fail
        have HF := ((((((((((HEY2.out.set 0 (.int .i64 0)).set 1 (.int .u64 0)).set 2 (.int .u16 0)).set 3 (.int .u64 0)).set 4 (.int .u64 0)).set 5 (Value.slice none 0 0)).set 6 (.slice none 0 0)).set 7 (.string (ByteArray.mk #[]))).set 8 (.string (ByteArray.mk #[]))).set 9 (.slice none 0 0)).set 10 (.slice none 0 0)
        simp only [List.set_cons_zero, List.set_cons_succ] at HF
        obtain ⟨⟨c0, c1, c2, c3, c4, c5⟩, c6, c7, c8, c9, c10⟩ := HF.eleven
        refine bodyPost_ret (v := .tuple #[.agg #[.int .i64 0, .int .u64 0, .int .u16 0, .int .u64 0, .int .u64 0, Value.slice none 0 0, .slice none 0 0, .string (ByteArray.mk #[]), .string (ByteArray.mk #[]), .slice none 0 0, .slice none 0 0], .int .i64 13]) (by simp [results, Try.f20, Try.results20, go_sem, c0, c1, c2, c3, c4, c5, c6, c7, c8, c9, c10]) rfl ⟨⟨0, 0, 0, 0, 0, none, 0, 0, [], none, 0, 0, [], [], none, 0, 0, none, 0, 0⟩, 13, rfl, ?_, .inr (by decide)⟩
        iterate 11 (with_reducible refine bset ?_ (by omega) _)
        exact HBY.out
      case false =>
        obtain ⟨⟨x0, x1, x2, x3, x4, x5⟩, x6, x7, x8, x9, x10⟩ := HRY.out.eleven
        have hl1 := HRY.out.lt
        obtain ⟨⟨z0, z1, z2, z3, z4, z5⟩, z6, z7, z8, z9, z10⟩ := HEY2.out.eleven
        have hlz := HEY2.out.lt
        have g0 := HEY2.out.frozen 0
        have g1 := HEY2.out.frozen 1
        have g2 := HEY2.out.frozen 2
        have g3 := HEY2.out.frozen 3
        have g4 := HEY2.out.frozen 4
        have g5 := HEY2.out.frozen 5
        have g6 := HEY2.out.frozen 6
        have g7 := HEY2.out.frozen 7
        have g8 := HEY2.out.frozen 8
        have g9 := HEY2.out.frozen 9
        have g10 := HEY2.out.frozen 10
        go_wp2_with fail
        have HF := ((((((((((HEY2.out.set 0 (.int .i64 ino)).set 1 (.int .u64 (138538465099776 - lo))).set 2 (.int .u16 typ)).set 3 (.int .u64 entry)).set 4 (.int .u64 phoff)).set 5 (Value.slice ga sg.length gc)).set 6 (.slice na nn nc)).set 7 (.string (ba soname))).set 8 (.string (ba run))).set 9 (.slice sa sn sc)).set 10 (.slice ra rn rc)
        simp only [List.set_cons_zero, List.set_cons_succ] at HF
        obtain ⟨⟨c0, c1, c2, c3, c4, c5⟩, c6, c7, c8, c9, c10⟩ := HF.eleven
        refine bodyPost_ret (v := .tuple #[.agg #[.int .i64 ino, .int .u64 (138538465099776 - lo), .int .u16 typ, .int .u64 entry, .int .u64 phoff, Value.slice ga sg.length gc, .slice na nn nc, .string (ba soname), .string (ba run), .slice sa sn sc, .slice ra rn rc], .int .i64 0]) (by simp [results, Try.f20, Try.results20, go_sem, c0, c1, c2, c3, c4, c5, c6, c7, c8, c9, c10]) rfl ⟨⟨ino, 138538465099776 - lo, typ, entry, phoff, ga, sg.length, gc, sg, na, nn, nc, soname, run, sa, sn, sc, ra, rn, rc⟩, 0, rfl, ?_, .inl ⟨rfl, HYE.out.symm, HR.out, H3.out, ?_⟩⟩
        · iterate 11 (with_reducible refine bset ?_ (by omega) _)
          exact HBY.out
        · rw [HYE.out, HTS.out, HEX.out]; exact HBB.out
end Go.Proofs.Ytkpopdkkobelaaa
