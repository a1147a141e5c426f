
/- Stage 17: twin; LayoutRights' walk. -/
import Derived.Test.YtkpopdkkobelaaaLaA
import Derived.Test.YtkpopdkkobelaaaLaD
namespace Go.Proofs.Ytkpopdkkobelaaa
open Go.RowKit Go.Sort Go.Shelf
attribute [local go_sem] Oper.semAt_some

/-- The same object, its segments elsewhere. -/
def LO.moved (x : LO) (a : Option Addr) (c : Nat) : LO := { x with ga := a, gc := c }
theorem ownG_sgs {w : World} {B n c : Nat} {a : Option Addr} {l : List SG} (h : OwnG w B (.slice a n c) l) : Sgs w a n l := by
  obtain ⟨a', c', e, hs, _⟩ := ownG_open h
  cases e
  exact hs
set_option maxRecDepth 100000 in
set_option maxHeartbeats 4000000 in
theorem twin_any (x : LO) (w : World) (hx : LOk w x) (hg : x.gn ≤ 1000000000) :
    Calls Try.prog 12 #[loV x] w fun e w' => ∃ a c, e = .returned (loV (x.moved a c)) ∧ LOk w' (x.moved a c) ∧ Below w.heap.size w w' := by
  obtain ⟨ino, base, typ, entry, phoff, ga, gn, gc, sg, na, nn, nc, soname, run, sa, sn, sc, ra, rn, rc⟩ := x
  obtain rfl : sg.length = gn := hx.segs.hlen
  have HX := hid hx
  have HGN := hid (show sg.length ≤ 1000000000 from hg)
  clear hx hg
  obtain ⟨W0, hW0⟩ : ∃ W0, W0 = (w.alloc (.cells #[.int .i64 ino, .int .u64 base, .int .u16 typ, .int .u64 entry, .int .u64 phoff, Value.slice ga sg.length gc, .slice na nn nc, .string (ba soname), .string (ba run), .slice sa sn sc, .slice ra rn rc] 33)).alloc (.cells #[.int .i64 0, .int .u64 0, .int .u16 0, .int .u64 0, .int .u64 0, Value.slice none 0 0, .slice none 0 0, .string (ByteArray.mk #[]), .string (ByteArray.mk #[]), .slice none 0 0, .slice none 0 0] 33) := ⟨_, rfl⟩
  have HB0 := hid (show Below w.heap.size w W0 by rw [hW0]; exact (bal _).alloc (by simp) _)
  have HR := hid (show Row W0 w.heap.size 33 [_, _, _, _, _, _, _, _, _, _, _] by rw [hW0]; exact (Row.new w 33 [.int .i64 ino, .int .u64 base, .int .u16 typ, .int .u64 entry, .int .u64 phoff, Value.slice ga sg.length gc, .slice na nn nc, .string (ba soname), .string (ba run), .slice sa sn sc, .slice ra rn rc]).alloc _)
  have HE := hid (show Row W0 (w.heap.size + 1) 33 [_, _, _, _, _, _, _, _, _, _, _] by
    rw [hW0]
    have := Row.new (w.alloc (.cells #[.int .i64 ino, .int .u64 base, .int .u16 typ, .int .u64 entry, .int .u64 phoff, Value.slice ga sg.length gc, .slice na nn nc, .string (ba soname), .string (ba run), .slice sa sn sc, .slice ra rn rc] 33)) 33 [.int .i64 0, .int .u64 0, .int .u16 0, .int .u64 0, .int .u64 0, Value.slice none 0 0, .slice none 0 0, .string (ByteArray.mk #[]), .string (ByteArray.mk #[]), .slice none 0 0, .slice none 0 0]
    rw [World.size_alloc] at this
    exact this)
  have HZ0 := hid (show W0.heap.size = w.heap.size + 1 + 1 by rw [hW0]; simp)
  obtain ⟨⟨x0, x1, x2, x3, x4, x5⟩, x6, x7, x8, x9, x10⟩ := HR.out.eleven
  have hl1 := HR.out.lt
  have HOW := hid (show OwnG (W0.alloc (.cells #[] 58)) (w.heap.size + 1 + 1) (.slice (some ⟨w.heap.size + 1 + 1, 0, none⟩) 0 0) [] from by rw [← HZ0.out]; exact ⟨rfl, .inr ⟨W0.heap.size, 0, #[], rfl, Nat.le_refl _, heap_alloc_new _ _, Nat.le_refl _, by simp [maxLen], rfl, rfl⟩⟩)
  have HSG := hid (show Rk (W0.alloc (.cells #[] 58)) 6 ga sg.length (sg.map sgC) from HX.out.segs.below' (bthen HB0.out (bal _)))
  have HN1 := hid (show (([] : List (List Value)).length + sg.length) * 40 ≤ 140737488355328 by have := HGN.out; simp; omega)
  have HN2 := hid (show ([] : List (List Value)).length + sg.length ≤ maxLen by have := HGN.out; unfold maxLen; simp; omega)
  have HNIL := hid HX.out.nil
  have HBB := hid (show Below (w.heap.size + 1 + 1) W0 (W0.alloc (.cells #[] 58)) by rw [← HZ0.out]; exact bal (w := W0) (.cells #[] 58))
  have HZ := hid (show w.heap.size + 1 + 1 ≤ (W0.alloc (.cells #[] 58)).heap.size by rw [← HZ0.out]; simp)
  unfold loV LO.moved
  dsimp only
  clear x0 x1 x2 x3 x4 x5 x6 x7 x8 x9 x10 hl1
  subst hW0
  go_enter Try.func12, Try.ntmps12
  go_wp2_with (at_builtin; go_must (refine wpList_appKg Try.underlying24 infoSeg rfl (by decide) rfl _ _ rfl (w.heap.size + 1 + 1) (.slice (some ⟨w.heap.size + 1 + 1, 0, none⟩) 0 0) [] (sg.map sgC) rfl ga sg.length gc rfl HOW.out HSG.out (sgC_one sg) HNIL.out HN1.out HN2.out HZ.out ?_; intro v9 w9 hown9 hgrow9 hb9; have HO9 := hid hown9; have HB9 := hid (HBB.out.trans hb9); have HR9 := hid (HR.out.below HB9.out (by omega)); have HE9 := hid (HE.out.below HB9.out (by omega)); clear hown9 hgrow9 hb9; obtain ⟨a9, c9, rfl, hs9, hn9⟩ := ownG_open (show OwnG w9 (w.heap.size + 1 + 1) v9 sg from HO9.out); have HS9 := hid hs9; have HN9 := hid hn9; clear hs9 hn9; obtain ⟨⟨x0, x1, x2, x3, x4, x5⟩, x6, x7, x8, x9, x10⟩ := HR9.out.eleven; have f5 := HR9.out.frozen 5; have hl1 := HR9.out.lt; have hl2 := HE9.out.lt; obtain ⟨⟨y0, y1, y2, y3, y4, y5⟩, y6, y7, y8, y9, y10⟩ := HE9.out.eleven; have g0 := HE9.out.frozen 0; have g1 := HE9.out.frozen 1; have g2 := HE9.out.frozen 2; have g3 := HE9.out.frozen 3; have g4 := HE9.out.frozen 4; have g5 := HE9.out.frozen 5; have g6 := HE9.out.frozen 6; have g7 := HE9.out.frozen 7; have g8 := HE9.out.frozen 8; have g9 := HE9.out.frozen 9; have g10 := HE9.out.frozen 10))
  have HF := (((((((((((HE9.out.other (a := ⟨w.heap.size, 5, none⟩) (by simp) (Value.slice a9 sg.length c9)).set 0 (.int .i64 ino)).set 1 (.int .u64 base)).set 2 (.int .u16 typ)).set 3 (.int .u64 entry)).set 4 (.int .u64 phoff)).set 5 (Value.slice a9 sg.length c9)).set 6 (.slice na nn nc)).set 7 (.string (ba soname))).set 8 (.string (ba run))).set 9 (.slice sa sn sc)).set 10 (.slice ra rn rc)
  simp only [List.set_cons_zero, List.set_cons_succ] at HF
  obtain ⟨⟨c0, c1, c2, c3, c4, c5⟩, c6, c7, c8, c9', c10⟩ := HF.eleven
  refine bodyPost_ret (v := .agg #[.int .i64 ino, .int .u64 base, .int .u16 typ, .int .u64 entry, .int .u64 phoff, Value.slice a9 sg.length c9, .slice na nn nc, .string (ba soname), .string (ba run), .slice sa sn sc, .slice ra rn rc]) (by simp [results, Try.f12, Try.results12, go_sem, c0, c1, c2, c3, c4, c5, c6, c7, c8, c9', c10]) rfl ⟨a9, c9, rfl, ⟨?_, HX.out.ok, HX.out.gn, HN9.out, HX.out.b0, HX.out.b1⟩, ?_⟩
  · show Sgs _ a9 sg.length sg
    refine ownG_sgs (B := w.heap.size + 1 + 1) (c := c9) ?_
    iterate 12 (with_reducible refine own_setLow ?_ (by omega) _)
    exact HO9.out
  · iterate 12 (with_reducible refine bset ?_ (by omega) _)
    exact HB0.out.trans (HB9.out.mono (by omega))
end Go.Proofs.Ytkpopdkkobelaaa
