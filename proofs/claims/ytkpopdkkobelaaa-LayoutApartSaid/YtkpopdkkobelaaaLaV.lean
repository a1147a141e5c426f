
/- Stage 17: twins, same, sames. -/
import Derived.Test.YtkpopdkkobelaaaLaE
import Derived.Test.YtkpopdkkobelaaaLaG
import Derived.Deep.QuietTactic
import Derived.BigQuiet
import Derived.Laws.StructEq
import Derived.StillTailTactics
namespace Go.Proofs.Ytkpopdkkobelaaa
open Go.RowKit Go.Sort Go.Shelf
attribute [local go_sem] Oper.semAt_some

set_option maxRecDepth 100000 in
set_option maxHeartbeats 4000000 in
theorem twin2_any (x : LO) (w : World) (hx : LOk w x) (hg : x.gn ≤ 1000000000) :
    Calls Try.prog 12 #[loV x] w fun e w' => ∃ a c, e = .returned (loV (x.moved a c)) ∧ LOk w' (x.moved a c) ∧ OwnG w' w.heap.size (.slice a x.gn c) x.sg ∧ Below w.heap.size w w' := by
  obtain ⟨ino, base, typ, entry, phoff, ga, gn, gc, sg, na, nn, nc, soname, run, sa, sn, sc, ra, rn, rc⟩ := x
  obtain rfl : sg.length = gn := hx.segs.hlen
  have HX := hid hx
  have HGN := hid (show sg.length ≤ 1000000000 from hg)
  clear hx hg
  obtain ⟨W0, hW0⟩ : ∃ W0, W0 = (w.alloc (.cells #[.int .i64 ino, .int .u64 base, .int .u16 typ, .int .u64 entry, .int .u64 phoff, Value.slice ga sg.length gc, .slice na nn nc, .string (ba soname), .string (ba run), .slice sa sn sc, .slice ra rn rc] 33)).alloc (.cells #[.int .i64 0, .int .u64 0, .int .u16 0, .int .u64 0, .int .u64 0, Value.slice none 0 0, .slice none 0 0, .string (ByteArray.mk #[]), .string (ByteArray.mk #[]), .slice none 0 0, .slice none 0 0] 33) := ⟨_, rfl⟩
  have HB0 := hid (show Below w.heap.size w W0 by rw [hW0]; exact (bal _).alloc (by simp) _)
  have HR := hid (show Row W0 w.heap.size 33 [_, _, _, _, _, _, _, _, _, _, _] by rw [hW0]; exact (Row.new w 33 [.int .i64 ino, .int .u64 base, .int .u16 typ, .int .u64 entry, .int .u64 phoff, Value.slice ga sg.length gc, .slice na nn nc, .string (ba soname), .string (ba run), .slice sa sn sc, .slice ra rn rc]).alloc _)
  have HE := hid (show Row W0 (w.heap.size + 1) 33 [_, _, _, _, _, _, _, _, _, _, _] by
    rw [hW0]
    have := Row.new (w.alloc (.cells #[.int .i64 ino, .int .u64 base, .int .u16 typ, .int .u64 entry, .int .u64 phoff, Value.slice ga sg.length gc, .slice na nn nc, .string (ba soname), .string (ba run), .slice sa sn sc, .slice ra rn rc] 33)) 33 [.int .i64 0, .int .u64 0, .int .u16 0, .int .u64 0, .int .u64 0, Value.slice none 0 0, .slice none 0 0, .string (ByteArray.mk #[]), .string (ByteArray.mk #[]), .slice none 0 0, .slice none 0 0]
    rw [World.size_alloc] at this
    exact this)
  have HZ0 := hid (show W0.heap.size = w.heap.size + 1 + 1 by rw [hW0]; simp)
  obtain ⟨⟨x0, x1, x2, x3, x4, x5⟩, x6, x7, x8, x9, x10⟩ := HR.out.eleven
  have hl1 := HR.out.lt
  have HOW := hid (show OwnG (W0.alloc (.cells #[] 58)) (w.heap.size + 1 + 1) (.slice (some ⟨w.heap.size + 1 + 1, 0, none⟩) 0 0) [] from by rw [← HZ0.out]; exact ⟨rfl, .inr ⟨W0.heap.size, 0, #[], rfl, Nat.le_refl _, heap_alloc_new _ _, Nat.le_refl _, by simp [maxLen], rfl, rfl⟩⟩)
  have HSG := hid (show Rk (W0.alloc (.cells #[] 58)) 6 ga sg.length (sg.map sgC) from HX.out.segs.below' (bthen HB0.out (bal _)))
  have HN1 := hid (show (([] : List (List Value)).length + sg.length) * 40 ≤ 140737488355328 by have := HGN.out; simp; omega)
  have HN2 := hid (show ([] : List (List Value)).length + sg.length ≤ maxLen by have := HGN.out; unfold maxLen; simp; omega)
  have HNIL := hid HX.out.nil
  have HBB := hid (show Below (w.heap.size + 1 + 1) W0 (W0.alloc (.cells #[] 58)) by rw [← HZ0.out]; exact bal (w := W0) (.cells #[] 58))
  have HZ := hid (show w.heap.size + 1 + 1 ≤ (W0.alloc (.cells #[] 58)).heap.size by rw [← HZ0.out]; simp)
  unfold loV LO.moved
  dsimp only
  clear x0 x1 x2 x3 x4 x5 x6 x7 x8 x9 x10 hl1
  subst hW0
  go_enter Try.func12, Try.ntmps12
  go_wp2_with (at_builtin; go_must (refine wpList_appKg Try.underlying24 infoSeg rfl (by decide) rfl _ _ rfl (w.heap.size + 1 + 1) (.slice (some ⟨w.heap.size + 1 + 1, 0, none⟩) 0 0) [] (sg.map sgC) rfl ga sg.length gc rfl HOW.out HSG.out (sgC_one sg) HNIL.out HN1.out HN2.out HZ.out ?_; intro v9 w9 hown9 hgrow9 hb9; have HO9 := hid hown9; have HB9 := hid (HBB.out.trans hb9); have HR9 := hid (HR.out.below HB9.out (by omega)); have HE9 := hid (HE.out.below HB9.out (by omega)); clear hown9 hgrow9 hb9; obtain ⟨a9, c9, rfl, hs9, hn9⟩ := ownG_open (show OwnG w9 (w.heap.size + 1 + 1) v9 sg from HO9.out); have HS9 := hid hs9; have HN9 := hid hn9; clear hs9 hn9; obtain ⟨⟨x0, x1, x2, x3, x4, x5⟩, x6, x7, x8, x9, x10⟩ := HR9.out.eleven; have f5 := HR9.out.frozen 5; have hl1 := HR9.out.lt; have hl2 := HE9.out.lt; obtain ⟨⟨y0, y1, y2, y3, y4, y5⟩, y6, y7, y8, y9, y10⟩ := HE9.out.eleven; have g0 := HE9.out.frozen 0; have g1 := HE9.out.frozen 1; have g2 := HE9.out.frozen 2; have g3 := HE9.out.frozen 3; have g4 := HE9.out.frozen 4; have g5 := HE9.out.frozen 5; have g6 := HE9.out.frozen 6; have g7 := HE9.out.frozen 7; have g8 := HE9.out.frozen 8; have g9 := HE9.out.frozen 9; have g10 := HE9.out.frozen 10))
  have HF := (((((((((((HE9.out.other (a := ⟨w.heap.size, 5, none⟩) (by simp) (Value.slice a9 sg.length c9)).set 0 (.int .i64 ino)).set 1 (.int .u64 base)).set 2 (.int .u16 typ)).set 3 (.int .u64 entry)).set 4 (.int .u64 phoff)).set 5 (Value.slice a9 sg.length c9)).set 6 (.slice na nn nc)).set 7 (.string (ba soname))).set 8 (.string (ba run))).set 9 (.slice sa sn sc)).set 10 (.slice ra rn rc)
  simp only [List.set_cons_zero, List.set_cons_succ] at HF
  obtain ⟨⟨c0, c1, c2, c3, c4, c5⟩, c6, c7, c8, c9', c10⟩ := HF.eleven
  refine bodyPost_ret (v := .agg #[.int .i64 ino, .int .u64 base, .int .u16 typ, .int .u64 entry, .int .u64 phoff, Value.slice a9 sg.length c9, .slice na nn nc, .string (ba soname), .string (ba run), .slice sa sn sc, .slice ra rn rc]) (by simp [results, Try.f12, Try.results12, go_sem, c0, c1, c2, c3, c4, c5, c6, c7, c8, c9', c10]) rfl ⟨a9, c9, rfl, ⟨?_, HX.out.ok, HX.out.gn, HN9.out, HX.out.b0, HX.out.b1⟩, ?_, ?_⟩
  · show Sgs _ a9 sg.length sg
    refine ownG_sgs (B := w.heap.size + 1 + 1) (c := c9) ?_
    iterate 12 (with_reducible refine own_setLow ?_ (by omega) _)
    exact HO9.out
  · show OwnG _ w.heap.size (.slice a9 sg.length c9) sg
    refine own_from (base := w.heap.size + 1 + 1) ?_ (by omega)
    iterate 12 (with_reducible refine own_setLow ?_ (by omega) _)
    exact HO9.out
  · iterate 12 (with_reducible refine bset ?_ (by omega) _)
    exact HB0.out.trans (HB9.out.mono (by omega))

/-- Objects whose segments lie in rows of their own, otherwise as others. -/
structure TwL (w : World) (xs ys : List LO) : Prop where
  len : ys.length = xs.length
  tw : ∀ i (h : i < xs.length) (h' : i < ys.length), ∃ a c, ys[i] = xs[i].moved a c
  ok : ∀ y ∈ ys, LOk w y ∧ ∃ B, OwnG w B (.slice y.ga y.gn y.gc) y.sg
theorem TwL.nil (w : World) : TwL w [] [] := ⟨rfl, fun i h => by simp at h, fun y hy => by cases hy⟩
theorem TwL.below {w w' : World} {xs ys : List LO} (h : TwL w xs ys) (hb : Below w.heap.size w w') : TwL w' xs ys :=
  ⟨h.len, h.tw, fun y hy => by
    obtain ⟨h1, B, h2⟩ := h.ok y hy
    exact ⟨h1.below' hb, B, own_below h2 hb⟩⟩
theorem TwL.app {w w' : World} {xs ys : List LO} {B n : Nat} {v : Value} {rows : List Value} (h : TwL w xs ys) (ho : w.ownsRow B 33 11 v n rows) (hg : w.grownBy w' v.ownBlock) : TwL w' xs ys :=
  ⟨h.len, h.tw, fun y hy => by
    obtain ⟨h1, B2, h2⟩ := h.ok y hy
    have h3 : OwnG w' B2 (.slice y.ga y.gn y.gc) y.sg := own_other h2 ho hg (by decide)
    exact ⟨⟨ownG_sgs h3, h1.ok, h1.gn, h1.nil, h1.b0, h1.b1⟩, B2, h3⟩⟩
theorem TwL.snoc {w : World} {xs ys : List LO} {x : LO} {a : Option Addr} {c B : Nat} (h : TwL w xs ys) (h1 : LOk w (x.moved a c)) (h2 : OwnG w B (.slice a x.gn c) x.sg) : TwL w (xs ++ [x]) (ys ++ [x.moved a c]) :=
  ⟨by simp [h.len], fun i hi hi' => by
    by_cases hl : i < xs.length
    · rw [List.getElem_append_left hl, List.getElem_append_left (by rw [h.len]; exact hl)]
      exact h.tw i hl _
    · have e : i = xs.length := by simp at hi; omega
      subst e
      refine ⟨a, c, ?_⟩
      rw [List.getElem_append_right (Nat.le_refl _), List.getElem_append_right (by rw [h.len]; exact Nat.le_refl _)]
      simp [h.len], fun y hy => by
    rcases List.mem_append.1 hy with hy | hy
    · exact h.ok y hy
    · rw [List.mem_singleton.1 hy]
      exact ⟨h1, B, h2⟩⟩

set_option maxRecDepth 100000 in
set_option maxHeartbeats 8000000 in
theorem twins_any (a : Option Addr) (c : Nat) (xs : List LO) (w : World) (hX : LOs w a xs.length xs) (hl : xs.length ≤ 20) (hg : ∀ i (h : i < xs.length), xs[i].gn ≤ 40) :
    Calls Try.prog 14 #[.slice a xs.length c] w fun e w' => ∃ v ys, e = .returned v ∧ OwnK w' w.heap.size 33 11 v (ys.map loC) ∧ TwL w' xs ys ∧ Below w.heap.size w w' := by
  have HX := hid hX
  have HG := hid hg
  clear hX hg
  go_enter Try.func14, Try.ntmps14
  go_wp2_with fail
  go_loopw [3, 4] (fun v i wr => ∃ (k : Nat) (ys : List LO), k ≤ xs.length ∧ i = .int .i64 k ∧ OwnK wr w.heap.size 33 11 v (ys.map loC) ∧ TwL wr (xs.take k) ys ∧ Below w.heap.size w wr) (fun _ i _ => xs.length - (intOf i).toNat)
  case atStart => exact ⟨0, [], Nat.zero_le _, rfl, ⟨rfl, .inl ⟨rfl, rfl⟩⟩, TwL.nil _, Below.refl _ _⟩
  case round =>
    obtain ⟨k, ys, hk, rfl, hown, htw, hb⟩ := hrel
    have HO := hid hown
    have HT := hid htw
    have HB := hid hb
    clear hown htw hb
    by_cases hlt : k < xs.length
    · have d1 : decide ((k : Int) < (xs.length : Int)) = true := by simp; omega
      have d1n : decide (k < xs.length) = true := by simp; omega
      have hXr := HX.out.below' HB.out
      obtain ⟨b, off, rfl, ⟨x0, x1, x2, x3, x4, x5⟩, x6, x7, x8, x9, x10⟩ := hXr.cells hlt
      have hbl := World.block_lt_of_cell? wr _ x0
      have HTW := hid (twin2_any xs[k] wr (hXr.ok _ (List.getElem_mem hlt)) (by have := HG.out k hlt; omega))
      have HTK := hid (show xs.take (k + 1) = xs.take k ++ [xs[k]] from List.take_succ_eq_append_getElem hlt)
      have HYL := hid (show ys.length ≤ 20 by have := HT.out.len; rw [List.length_take] at this; omega)
      clear hXr
      generalize xs[k] = x at *
      unfold loV at HTW
      go_wp2_with fail
      refine (HTW.out).mono ?_
      rintro e' w2 ⟨ya, yc, rfl, hok, hgo, hb2⟩
      have HB2 := hid (bthen HB.out hb2)
      have HT2 := hid (((HT.out.below hb2).snoc hok hgo))
      have HO2 := hid (own_below HO.out hb2)
      rw [← HTK.out] at HT2
      clear hok hgo hb2 HTW x0 x1 x2 x3 x4 x5 x6 x7 x8 x9 x10 hbl
      have HOA := hid (fun o => show OwnK (w2.alloc o) w.heap.size 33 11 u3 (ys.map loC) from own_below HO2.out (bal o))
      have HTA := hid (fun o => HT2.out.below (bal (w := w2) o))
      have HBA := hid (fun o => HB2.out.alloc HB2.out.size o)
      have HNR := hid (row_rk (Row.new w2 33 (loC (x.moved ya yc))) (rfl : (loC (x.moved ya yc)).length = 11))
      have HONE := hid (loC_one [x.moved ya yc])
      have HNa := hid (show ((ys.map loC).length + 1) * 168 ≤ 140737488355328 by rw [List.length_map]; have := HYL.out; omega)
      have HNb := hid (show (ys.map loC).length + 1 ≤ maxLen by rw [List.length_map]; have := HYL.out; unfold maxLen; omega)
      go_wp2_with (at_builtin; go_must (refine wpList_appKg Try.underlying35 infoOb rfl (by decide) rfl _ _ rfl w.heap.size u3 (ys.map loC) [loC (x.moved ya yc)] rfl (some ⟨w2.heap.size, 0, none⟩) 1 1 rfl (HOA.out _) HNR.out HONE.out (fun h => by cases h) HNa.out HNb.out (HBA.out _).size ?_; intro v' w9 hown hgrow hb9; have HO9 := hid hown; have HT9 := hid ((HTA.out _).app (HOA.out _) hgrow); have HB9 := hid ((HBA.out _).trans hb9); clear hown hgrow hb9))
      go_roundw
      case rel => exact ⟨k + 1, ys ++ [x.moved ya yc], by omega, by go_num, own_eq HO9.out (by simp), HT9.out, HB9.out⟩
      case measure => simp [intOf]; omega
    · have d1 : decide ((k : Int) < (xs.length : Int)) = false := by simp; omega
      have d1n : decide (k < xs.length) = false := by simp; omega
      have hk2 : xs.take k = xs := List.take_of_length_le (by omega)
      rw [hk2] at HT
      clear hk2
      go_wp2_with fail
      go_ret
      exact ⟨_, ys, rfl, HO.out, HT.out, HB.out⟩

set_option maxRecDepth 100000 in
set_option maxHeartbeats 8000000 in
theorem same_any (x : LO) (a : Option Addr) (c : Nat) (w : World) (hx : LOk w x) (hy : LOk w (x.moved a c)) (hg : x.gn ≤ 1000000) :
    Calls Try.prog 37 #[loV (x.moved a c), loV x] w fun e w' => e = .returned (.bool true) ∧ Below w.heap.size w w' := by
  obtain ⟨ino, base, typ, entry, phoff, ga, gn, gc, sg, na, nn, nc, soname, run, sa, sn, sc, ra, rn, rc⟩ := x
  obtain rfl : sg.length = gn := hx.segs.hlen
  have HX := hid hx
  have HY := hid hy
  have hgn : sg.length ≤ 1000000 := hg
  clear hx hy hg
  obtain ⟨W0, hW0⟩ : ∃ W0, W0 = (w.alloc (.cells #[.int .i64 ino, .int .u64 base, .int .u16 typ, .int .u64 entry, .int .u64 phoff, Value.slice a sg.length c, .slice na nn nc, .string (ba soname), .string (ba run), .slice sa sn sc, .slice ra rn rc] 33)).alloc (.cells #[.int .i64 ino, .int .u64 base, .int .u16 typ, .int .u64 entry, .int .u64 phoff, Value.slice ga sg.length gc, .slice na nn nc, .string (ba soname), .string (ba run), .slice sa sn sc, .slice ra rn rc] 33) := ⟨_, rfl⟩
  have HB0 := hid (show Below w.heap.size w W0 by rw [hW0]; exact (bal _).alloc (by simp) _)
  have HR1 := hid (show Row W0 w.heap.size 33 [_, _, _, _, _, _, _, _, _, _, _] by rw [hW0]; exact (Row.new w 33 [.int .i64 ino, .int .u64 base, .int .u16 typ, .int .u64 entry, .int .u64 phoff, Value.slice a sg.length c, .slice na nn nc, .string (ba soname), .string (ba run), .slice sa sn sc, .slice ra rn rc]).alloc _)
  have HR2 := hid (show Row W0 (w.heap.size + 1) 33 [_, _, _, _, _, _, _, _, _, _, _] by
    rw [hW0]
    have := Row.new (w.alloc (.cells #[.int .i64 ino, .int .u64 base, .int .u16 typ, .int .u64 entry, .int .u64 phoff, Value.slice a sg.length c, .slice na nn nc, .string (ba soname), .string (ba run), .slice sa sn sc, .slice ra rn rc] 33)) 33 [.int .i64 ino, .int .u64 base, .int .u16 typ, .int .u64 entry, .int .u64 phoff, Value.slice ga sg.length gc, .slice na nn nc, .string (ba soname), .string (ba run), .slice sa sn sc, .slice ra rn rc]
    rw [World.size_alloc] at this
    exact this)
  have HSX := hid (HX.out.below' HB0.out).segs
  have HSY := hid (HY.out.below' HB0.out).segs
  dsimp only [LO.moved] at HSX HSY
  unfold loV LO.moved
  dsimp only
  obtain ⟨⟨x0, x1, x2, x3, x4, x5⟩, x6, x7, x8, x9, x10⟩ := HR1.out.eleven
  have hl1 := HR1.out.lt
  obtain ⟨⟨y0, y1, y2, y3, y4, y5⟩, y6, y7, y8, y9, y10⟩ := HR2.out.eleven
  have hl2 := HR2.out.lt
  go_enter Try.func37, Try.ntmps37
  go_wp2_with fail
  try rw [← hW0]
  clear hW0
  go_wp2_with fail
  go_loopw [5] (fun i wr => ∃ k : Nat, k ≤ sg.length ∧ i = .int .i64 k ∧ ∃ n, wr = W0.drewN n) (fun i _ => sg.length - (intOf i).toNat)
  case atStart => exact ⟨0, Nat.zero_le _, rfl, 0, rfl⟩
  case round =>
    obtain ⟨k, hk, rfl, n, rfl⟩ := hrel
    by_cases hlt : k < sg.length
    · have d1 : decide ((k : Int) < (sg.length : Int)) = true := by simp; omega
      have d1n : decide (k < sg.length) = true := by simp; omega
      have HCP := hid (HSX.out.cells hlt)
      have HCQ := hid (HSY.out.cells hlt)
      obtain ⟨b1, o1, rfl, p0, p1, p2, p3, p4, p5⟩ := HCP.out
      obtain ⟨b2, o2, rfl, q0, q1, q2, q3, q4, q5⟩ := HCQ.out
      generalize sg[k] = s at *
      obtain ⟨k0, k1, k2, k3, k4, k5⟩ := s
      dsimp only at p0 p1 p2 p3 p4 p5 q0 q1 q2 q3 q4 q5
      clear HCP HCQ
      go_wp2_with fail
      go_quiet (fail)
      go_wp2_with fail
      go_roundw
      case rel => exact ⟨k + 1, by omega, by go_num, n + nq, by simp [World.drewN, Nat.add_assoc]⟩
      case measure => simp [intOf]; omega
    · have d1 : decide ((k : Int) < (sg.length : Int)) = false := by simp; omega
      have d1n : decide (k < sg.length) = false := by simp; omega
      go_wp2_with fail
      go_ret
      exact ⟨rfl, bdN HB0.out _⟩

set_option maxRecDepth 100000 in
set_option maxHeartbeats 8000000 in
theorem sames_any (a : Option Addr) (c : Nat) (a2 : Option Addr) (c2 : Nat) (xs ys : List LO) (w : World) (hX : LOs w a2 xs.length xs) (hY : LOs w a ys.length ys) (hlen : ys.length = xs.length) (htw : ∀ i (h : i < xs.length) (h' : i < ys.length), ∃ a c, ys[i] = xs[i].moved a c) (hl : xs.length ≤ 20) (hg : ∀ i (h : i < xs.length), xs[i].gn ≤ 40) :
    Calls Try.prog 17 #[.slice a ys.length c, .slice a2 xs.length c2] w fun e w' => e = .returned (.bool true) ∧ Below w.heap.size w w' := by
  have HX := hid hX
  have HY := hid hY
  have HT := hid htw
  have HG := hid hg
  clear hX hY htw hg
  rw [hlen]
  have HL := hid hlen
  clear hlen
  go_enter Try.func17, Try.ntmps17
  go_wp2_with fail
  go_loopw [5] (fun i wr => ∃ k : Nat, k ≤ xs.length ∧ i = .int .i64 k ∧ Below w.heap.size w wr) (fun i _ => xs.length - (intOf i).toNat)
  case atStart => exact ⟨0, Nat.zero_le _, rfl, Below.refl _ _⟩
  case round =>
    obtain ⟨k, hk, rfl, hb⟩ := hrel
    have HB := hid hb
    clear hb
    by_cases hlt : k < xs.length
    · have d1 : decide ((k : Int) < (xs.length : Int)) = true := by simp; omega
      have d1n : decide (k < xs.length) = true := by simp; omega
      have hlt2 : k < ys.length := by rw [HL.out]; exact hlt
      have hXr := HX.out.below' HB.out
      have hYr := HY.out.below' HB.out
      have HBd := hid (HB.out.drew)
      obtain ⟨b, off, rfl, ⟨x0, x1, x2, x3, x4, x5⟩, x6, x7, x8, x9, x10⟩ := hXr.cells hlt
      obtain ⟨b2, off2, rfl, ⟨y0, y1, y2, y3, y4, y5⟩, y6, y7, y8, y9, y10⟩ := hYr.cells hlt2
      obtain ⟨ta, tc, he⟩ := HT.out k hlt hlt2
      rw [he] at y0 y1 y2 y3 y4 y5 y6 y7 y8 y9 y10
      have HS := hid (same_any xs[k] ta tc wr.drew ((hXr.ok _ (List.getElem_mem hlt)).below' (St.drew wr)) (by rw [← he]; exact (hYr.ok _ (List.getElem_mem hlt2)).below' (St.drew wr)) (by have := HG.out k hlt; omega))
      clear hXr hYr he
      generalize xs[k] = x at *
      dsimp only [LO.moved] at y0 y1 y2 y3 y4 y5 y6 y7 y8 y9 y10
      unfold loV LO.moved at HS
      dsimp only at HS
      go_wp2_with fail
      go_still_tail 8, (by kernel_rfl)
      go_wp2_with fail
      refine (HS.out).mono ?_
      rintro e' w2 ⟨rfl, hb2⟩
      have HB2 := hid (HBd.out.trans (hb2.mono HBd.out.size))
      clear hb2 x0 x1 x2 x3 x4 x5 x6 x7 x8 x9 x10 y0 y1 y2 y3 y4 y5 y6 y7 y8 y9 y10
      go_wp2_with fail
      go_roundw
      case rel => exact ⟨k + 1, by omega, by go_num, HB2.out⟩
      case measure => simp [intOf]; omega
    · have d1 : decide ((k : Int) < (xs.length : Int)) = false := by simp; omega
      have d1n : decide (k < xs.length) = false := by simp; omega
      go_wp2_with fail
      go_ret
      exact ⟨rfl, HB.out⟩
end Go.Proofs.Ytkpopdkkobelaaa
