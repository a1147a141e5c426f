
/- CallsScript: what its loop makes. -/
import Derived.Test.YtcbkikioapdbbaaDoorCea
import Derived.Test.YtcbkikioapdbbaaDoorCe6
namespace Go.Proofs.YtcbkikioapdbbaaDoor
open Go.RowKit Go.Sort
attribute [local go_sem] Oper.semAt_some

theorem own_two_nK {w : World} {base base' E E' k k' n n' : Nat} {v v' : Value} {xs xs' : List Value} (h : w.ownsRow base E k v n xs) (h' : w.ownsRow base' E' k' v' n' xs') (hE : E ≠ E') : v.ownBlock = none ∨ v.ownBlock ≠ v'.ownBlock := by
  rcases h'.2 with ⟨h1, _⟩ | ⟨g, cap, cur, rfl, _, hg, _⟩
  · rcases h.2 with ⟨h2, _⟩ | ⟨g2, cap2, cur2, rfl, _⟩
    · exact .inl (by rw [h2]; rfl)
    · exact .inr (by rw [h1]; exact fun e => by cases e)
  · right
    have hr : Row w g E' cur.toList := ⟨by simpa using hg⟩
    exact fun e => own_ne_row h hr hE.symm e.symm
/-- The script's bytes, where its steps begin, and its steps. -/
structure Scr (w W : World) (vb vg vw : Value) (lb : BL) (gs : List Value) (xs : List (Nat × CG)) (n : Nat) : Prop where
  b : W.ownsRow w.heap.size 5 1 vb lb.length (lb.map B8)
  g : W.ownsRow w.heap.size 3 1 vg n gs
  s : W.ownsRow w.heap.size 49 11 vw xs.length (xs.map stR).flatten
  low : Below w.heap.size w W
theorem Scr.below {w W W' : World} {vb vg vw : Value} {lb : BL} {gs : List Value} {xs : List (Nat × CG)} {n : Nat} (h : Scr w W vb vg vw lb gs xs n) (hb : Below W.heap.size W W') : Scr w W' vb vg vw lb gs xs n :=
  ⟨own_below h.b hb, own_below h.g hb, own_below h.s hb, h.low.trans (hb.mono h.low.size)⟩
theorem low_grown {w W W' : World} {e k n : Nat} {v : Value} {xs : List Value} (h : Below w.heap.size w W) (ho : W.ownsRow w.heap.size e k v n xs) (hg : W.grownBy W' v.ownBlock) : Below w.heap.size w W' :=
  h.grown hg h.size (fun q hq => (ho.lt q hq).1)
theorem Scr.addG {w W W' : World} {vb vg vg' vw : Value} {lb : BL} {gs gs' : List Value} {xs : List (Nat × CG)} {n n' : Nat} (h : Scr w W vb vg vw lb gs xs n) (hg : W.grownBy W' vg.ownBlock) (ho : W'.ownsRow w.heap.size 3 1 vg' n' gs') : Scr w W' vb vg' vw lb gs' xs n' :=
  ⟨h.b.kept hg (own_two_ne h.b h.g (by decide)), ho, h.s.kept hg (own_two_nK h.s h.g (by decide)), low_grown h.low h.g hg⟩
theorem Scr.addB {w W W' : World} {vb vb' vg vw : Value} {lb lb' : BL} {gs : List Value} {xs : List (Nat × CG)} {n : Nat} (h : Scr w W vb vg vw lb gs xs n) (hg : W.grownBy W' vb.ownBlock) (ho : W'.ownsRow w.heap.size 5 1 vb' lb'.length (lb'.map B8)) : Scr w W' vb' vg vw lb' gs xs n :=
  ⟨ho, h.g.kept hg (own_two_ne h.g h.b (by decide)), h.s.kept hg (own_two_nK h.s h.b (by decide)), low_grown h.low h.b hg⟩
theorem Scr.addS {w W W' : World} {vb vg vw vw' : Value} {lb : BL} {gs : List Value} {xs xs' : List (Nat × CG)} {n : Nat} (h : Scr w W vb vg vw lb gs xs n) (hg : W.grownBy W' vw.ownBlock) (ho : W'.ownsRow w.heap.size 49 11 vw' xs'.length (xs'.map stR).flatten) : Scr w W' vb vg vw' lb gs xs' n :=
  ⟨h.b.kept hg (own_two_nK h.b h.s (by decide)), h.g.kept hg (own_two_nK h.g h.s (by decide)), ho, low_grown h.low h.s hg⟩
theorem infoInt : (Tryd.prog.info? 3).map (fun i => (i.zero, i.size, i.bytes)) = some (some (.int .i64 0), 1, 8) := by kernel_rfl
/-- Steps as an argument. -/
abbrev stI (x : Int × CG) : List Value := .int .i64 x.1 :: cgC x.2
structure StArg (w : World) (a : Option Addr) (ls : List (Int × CG)) : Prop where
  rows : Rk w 11 a ls.length (ls.map stI)
  ok : ∀ x ∈ ls, CGok w x.2 ∧ -9223372036854775808 ≤ x.1 ∧ x.1 ≤ 9223372036854775807
theorem StArg.cells {w : World} {a : Option Addr} {ls : List (Int × CG)} (h : StArg w a ls) {i : Nat} (hi : i < ls.length) : ∃ b off, a = some ⟨b, off, none⟩ ∧ b < w.heap.size ∧ ∀ j, j < 11 → w.cell? ⟨b, off + i * 11 + j, none⟩ = (stI ls[i])[j]? := by
  obtain ⟨_, b, off, e, hc⟩ := h.rows.row i (by simpa using hi)
  have hl : ((ls.map stI)[i]'(by simpa using hi)).length = 11 := by simp only [List.getElem_map]; rfl
  refine ⟨b, off, e, World.block_lt_of_cell? w _ (hc 0 (by omega)), fun j hj => ?_⟩
  rw [hc j (by omega)]
  simp only [List.getElem_map]
  rw [List.getElem?_eq_getElem]
theorem StArg.big {w : World} {a : Option Addr} {ls : List (Int × CG)} (h : StArg w a ls) {i : Nat} (hi : i < ls.length) : ∃ b off, a = some ⟨b, off, none⟩ ∧ b < w.heap.size ∧ ∀ W, Below w.heap.size w W → (W.cell? ⟨b, off + i * 11, none⟩ = some (.int .i64 ls[i].1) ∧ W.cell? ⟨b, off + i * 11 + 1, none⟩ = some (.int .u8 ls[i].2.kind) ∧ W.cell? ⟨b, off + i * 11 + 1 + 1, none⟩ = some (.int .u64 ls[i].2.a) ∧ W.cell? ⟨b, off + i * 11 + 1 + 2, none⟩ = some (.int .u64 ls[i].2.b) ∧ W.cell? ⟨b, off + i * 11 + 1 + 3, none⟩ = some (.int .u64 ls[i].2.c) ∧ W.cell? ⟨b, off + i * 11 + 1 + 4, none⟩ = some (.int .u64 ls[i].2.d) ∧ W.cell? ⟨b, off + i * 11 + 1 + 5, none⟩ = some (.int .u64 ls[i].2.e) ∧ W.cell? ⟨b, off + i * 11 + 1 + 6, none⟩ = some (.string (ba ls[i].2.path)) ∧ W.cell? ⟨b, off + i * 11 + 1 + 7, none⟩ = some (.slice ls[i].2.va ls[i].2.argv.length ls[i].2.vc) ∧ W.cell? ⟨b, off + i * 11 + 1 + 8, none⟩ = some (.slice ls[i].2.ea ls[i].2.env.length ls[i].2.ec) ∧ W.cell? ⟨b, off + i * 11 + 1 + 9, none⟩ = some (.slice ls[i].2.ya ls[i].2.bytes.length ls[i].2.yc)) := by
  obtain ⟨b, off, e, hb, hc⟩ := h.cells hi
  refine ⟨b, off, e, hb, fun W hW => ?_⟩
  have k : ∀ j u, j < 11 → (stI ls[i])[j]? = some u → W.cell? ⟨b, off + i * 11 + j, none⟩ = some u := fun j u hj hu => keepC hW ((hc j hj).trans hu)
  exact ⟨k 0 _ (by decide) rfl, k 1 _ (by decide) rfl, k 2 _ (by decide) rfl, k 3 _ (by decide) rfl, k 4 _ (by decide) rfl, k 5 _ (by decide) rfl, k 6 _ (by decide) rfl, k 7 _ (by decide) rfl, k 8 _ (by decide) rfl, k 9 _ (by decide) rfl, k 10 _ (by decide) rfl⟩
/-- The same for the struct's own load. -/
theorem StArg.elev {w : World} {a : Option Addr} {ls : List (Int × CG)} (h : StArg w a ls) {i : Nat} (hi : i < ls.length) {b off : Nat} (ha : a = some ⟨b, off, none⟩) {W : World} (hW : Below w.heap.size w W) : W.cell? ⟨b, off + i * 11 + 2, none⟩ = some (.int .u64 ls[i].2.a) ∧ W.cell? ⟨b, off + i * 11 + 3, none⟩ = some (.int .u64 ls[i].2.b) ∧ W.cell? ⟨b, off + i * 11 + 4, none⟩ = some (.int .u64 ls[i].2.c) ∧ W.cell? ⟨b, off + i * 11 + 5, none⟩ = some (.int .u64 ls[i].2.d) ∧ W.cell? ⟨b, off + i * 11 + 6, none⟩ = some (.int .u64 ls[i].2.e) ∧ W.cell? ⟨b, off + i * 11 + 7, none⟩ = some (.string (ba ls[i].2.path)) ∧ W.cell? ⟨b, off + i * 11 + 8, none⟩ = some (.slice ls[i].2.va ls[i].2.argv.length ls[i].2.vc) ∧ W.cell? ⟨b, off + i * 11 + 9, none⟩ = some (.slice ls[i].2.ea ls[i].2.env.length ls[i].2.ec) ∧ W.cell? ⟨b, off + i * 11 + 10, none⟩ = some (.slice ls[i].2.ya ls[i].2.bytes.length ls[i].2.yc) := by
  obtain ⟨b', off', e, hb, hc⟩ := h.cells hi
  rw [ha] at e
  cases e
  have k : ∀ j u, j < 11 → (stI ls[i])[j]? = some u → W.cell? ⟨b, off + i * 11 + j, none⟩ = some u := fun j u hj hu => keepC hW ((hc j hj).trans hu)
  exact ⟨k 2 _ (by decide) rfl, k 3 _ (by decide) rfl, k 4 _ (by decide) rfl, k 5 _ (by decide) rfl, k 6 _ (by decide) rfl, k 7 _ (by decide) rfl, k 8 _ (by decide) rfl, k 9 _ (by decide) rfl, k 10 _ (by decide) rfl⟩
end Go.Proofs.YtcbkikioapdbbaaDoor
