
/- hostellaw13.plain. -/
import Derived.Test.YtkkadknijjninaaDoorQc0
import Derived.Test.YtkkadknijjninaaDoorWR
import Derived.Lib.BufferWrite
import Derived.Deep.WholeRow
import Derived.Deep.RegionHeld3
namespace Go.Proofs.YtkkadknijjninaaDoor
open Go.RowKit Go.Sort Go.Proofs.YtkkadknijjninaaDoor.Ap
attribute [local go_sem] Oper.semAt_some

def fv13 : List Value := n13.map fun (x : Nat) => Value.int .u64 (x : Int)
theorem fv13_at {j : Nat} (h : j < 35) : fv13[j]? = some (.int .u64 ((n13.getD j 0 : Nat) : Int)) := by
  unfold fv13
  rw [List.getElem?_map, List.getD_eq_getElem?_getD, List.getElem?_eq_getElem (show j < n13.length from h)]
  rfl
theorem n13_u {j : Nat} (h : j < 35) : ((n13.getD j 0 : Nat) : Int) ≤ 18446744073709551615 := by
  have : ∀ j, j < 35 → ((n13.getD j 0 : Nat) : Int) ≤ 18446744073709551615 := by decide +kernel
  exact this j h
theorem chk13 {len p n : Int} (hs : isSz n = true) (h0 : 0 ≤ p) (h : p + n ≤ len) : chk len p n = 0 := by
  unfold chk
  rw [if_pos hs, if_pos (by unfold insB; simp; have := isSz_cases hs; omega)]
theorem rk_rows {w : World} {g : Nat} {E : TypeId} {k : Nat} {rows : List (List Value)} (h : Row w g E rows.flatten) (hk : ∀ r ∈ rows, r.length = k) : Rk w k (some ⟨g, 0, none⟩) rows.length rows := by
  refine ⟨rfl, fun i hi => ⟨hk _ (List.getElem_mem hi), g, 0, rfl, fun j hj => ?_⟩⟩
  have := flat_at hk hi hj
  rw [h.cell', Nat.zero_add, this]
theorem bset4 {B : Nat} {w w' : World} (h : Below B w w') {b : Nat} (hb : B ≤ b) (u0 u1 u2 u3 : Value) : Below B w ((((w'.setCell ⟨b, 0, none⟩ u0).setCell ⟨b, 1, none⟩ u1).setCell ⟨b, 2, none⟩ u2).setCell ⟨b, 3, none⟩ u3) :=
  (((h.setCell hb u0).setCell hb u1).setCell hb u2).setCell hb u3
def hd0 : List Value := [.int .u16 0, .int .u64 0, .int .u64 0, .slice none 0 0]
set_option maxRecDepth 100000 in
set_option maxHeartbeats 8000000 in
theorem plain13_any (w : World) : Calls Tryd.prog 20 #[] w fun e w' => ∃ g h, e = .returned (.tuple #[.slice (some ⟨g, 0, none⟩) 280 280, .agg #[.int .u16 3, .int .u64 0, .int .u64 0, .slice (some ⟨h, 0, none⟩) 2 2]]) ∧ Byt w' (some ⟨g, 0, none⟩) 280 (st13 35) ∧ Sgs w' (some ⟨h, 0, none⟩) 2 sg13 ∧ Below w.heap.size w w' := by
  have hmk : ∀ w, (Instr.makeSlice 22 (.int .i64 280) (.int .i64 280)).run Tryd.prog w = .ok (.slice (some ⟨w.heap.size, 0, none⟩) 280 280) (w.alloc (.cells (Array.replicate 280 (.int .u8 0)) 5)) := fun w => by kernel_rfl
  obtain ⟨W, hW⟩ : ∃ W, W = ((w.alloc (.cells #[.int .u16 0, .int .u64 0, .int .u64 0, .slice none 0 0] 27)).alloc (.cells #[.int .u64 1, .int .u64 3, .int .u64 14, .int .u64 1, .int .u64 4, .int .u64 4272, .int .u64 5, .int .u64 4368, .int .u64 10, .int .u64 8, .int .u64 6, .int .u64 4296, .int .u64 11, .int .u64 24, .int .u64 7, .int .u64 4344, .int .u64 8, .int .u64 24, .int .u64 9, .int .u64 24, .int .u64 0, .int .u64 0, .int .u64 8589934593, .int .u64 1, .int .u64 0, .int .u64 0, .int .u64 0, .int .u64 0, .int .u64 281543696187393, .int .u64 77, .int .u64 5, .int .u64 4104, .int .u64 4294967297, .int .u64 18446744073709551615, .int .u64 1644192000] 24)).alloc (.cells (Array.replicate 280 (.int .u8 0)) 5) := ⟨_, rfl⟩
  have HW := hid hW
  have HL := hid (show Below w.heap.size w W by
    rw [hW]
    exact ((bal _).alloc (bal (w := w) _).size _).alloc ((bal (w := w) _).alloc (bal (w := w) _).size _).size _)
  have HWZ := hid (show W.heap.size = w.heap.size + 3 by rw [hW, World.size_alloc, World.size_alloc, World.size_alloc])
  have HH := hid (show Row W w.heap.size 27 hd0 by rw [hW]; exact ((Row.new w _ hd0).alloc _).alloc _)
  have HF := hid (show Row W (w.heap.size + 1) 24 fv13 by
    rw [hW]
    have := (Row.new (w.alloc (.cells #[.int .u16 0, .int .u64 0, .int .u64 0, .slice none 0 0] 27)) 24 fv13).alloc (.cells (Array.replicate 280 (.int .u8 0)) 5)
    rw [World.size_alloc] at this
    exact this)
  have HZ := hid (show Byt W (some ⟨w.heap.size + 1 + 1, 0, none⟩) 280 (st13 0) from Row.byt (show Row W (w.heap.size + 1 + 1) 5 ((st13 0).map B8 ++ []) from by
    rw [hW, List.append_nil]
    have := Row.new ((w.alloc (.cells #[.int .u16 0, .int .u64 0, .int .u64 0, .slice none 0 0] 27)).alloc (.cells fv13.toArray 24)) 5 ((st13 0).map B8)
    rw [World.size_alloc, World.size_alloc] at this
    have e : ((st13 0).map B8).toArray = Array.replicate 280 (.int .u8 0) := by rw [show st13 0 = List.replicate 280 0 from rfl, List.map_replicate]; rfl
    rw [e] at this
    exact this) (st13_len (by omega)))
  clear hW
  go_enter Tryd.func20, Tryd.ntmps20
  go_wp2_with fail
  rw [← HW.out]
  go_loopw [4, 5] (fun v i wr => ∃ (j g : Nat), j ≤ 35 ∧ i = .int .i64 (j : Int) ∧ v = .slice (some ⟨g, 0, none⟩) 280 280 ∧ Byt wr (some ⟨g, 0, none⟩) 280 (st13 j) ∧ St W wr ∧ w.heap.size < g) (fun _ i _ => 35 - (intOf i).toNat)
  case atStart => exact ⟨0, w.heap.size + 1 + 1, by omega, rfl, rfl, HZ.out, St.refl _, by omega⟩
  case round =>
    obtain ⟨j, g, hj, rfl, rfl, hb, hl, hg⟩ := hrel
    have HG := hid hg
    have HB := hid hb
    have HST := hid hl
    clear hb hl hg
    by_cases hlt : j < 35
    · have d1 : decide ((j : Int) < 35) = true := by simp; omega
      have d2 : decide (j < 35) = true := by simp; omega
      have hc0 := ((HF.out.below HST.out HF.out.lt).cell' j).trans (fv13_at hlt)
      have HNU := n13_u hlt
      have HSU := hid (st13_succ j)
      have HLN := hid (st13_len (show j + 1 ≤ 35 by omega))
      obtain ⟨x, hx⟩ : ∃ x : Nat, x = n13.getD j 0 := ⟨_, rfl⟩
      rw [← hx] at hc0 HNU HSU
      have HSET := hid (show Calls Tryd.prog 30 #[.slice (some ⟨g, 0, none⟩) 280 280, .int .u64 (8 * (j : Int)), .int .i64 8, .int .u64 x] wr (fun e w2 => e = .returned (.tuple #[.slice (some ⟨wr.heap.size, 0, none⟩) 280 280, .int .i64 0]) ∧ Row w2 wr.heap.size 5 ((st13 (j + 1)).map B8) ∧ Below wr.heap.size wr w2) from by
        rw [HSU.out]
        exact rset_yes (some ⟨g, 0, none⟩) 280 280 ((8 * j : Nat) : Int) 8 x (st13 j) wr (by decide) HB.out (by omega) (by omega) HNU (chk13 rfl (by omega) (by omega)))
      have b0 : (0 : Int) ≤ (j : Int) ∧ (j : Int) < 35 := by omega
      have ewn := IntWalk.i64_in (8 * (j : Int)) ⟨by omega, by omega⟩
      have ewm := IntWalk.u64_in (8 * (j : Int)) ⟨by omega, by omega⟩
      have ew3 := IntWalk.wrap64_in ((j : Int) + 1) ⟨by omega, by omega⟩
      have HLT := hid hlt
      clear hx
      go_wp2_with fail
      refine HSET.out.mono ?_
      rintro e' wx ⟨rfl, hrow, hbx⟩
      have HROW := hid hrow
      have HSX := hid (St.step HST.out hbx)
      clear hrow hbx hc0
      go_wp2_with fail
      go_roundw
      case rel => exact ⟨j + 1, wr.heap.size, HLT.out, by go_num, rfl, Row.byt (show Row wx wr.heap.size 5 ((st13 (j + 1)).map B8 ++ []) from by rw [List.append_nil]; exact HROW.out) HLN.out, HSX.out, by have h1 := Below.size HST.out; have h2 := HWZ.out; omega⟩
      case measure => simp [intOf]; have := HLT.out; omega
    · have d1 : decide ((j : Int) < 35) = false := by simp; omega
      have d2 : decide (j < 35) = false := by simp; omega
      obtain rfl : j = 35 := by omega
      have HH1 := hid (HH.out.below HST.out HH.out.lt)
      have HLW := hid (HL.out.trans (Below.mono HST.out HL.out.size))
      have y0 := HH1.out.frozen 0
      have y1 := HH1.out.frozen 1
      have y2 := HH1.out.frozen 2
      have y3 := HH1.out.frozen 3
      obtain ⟨q0, q1, q2, q3⟩ := HH1.out.four
      have hql := HH1.out.lt
      go_wp2_with fail
      refine bodyPost_ret (v := .tuple #[.slice (some ⟨g, 0, none⟩) 280 280, .agg #[.int .u16 3, .int .u64 0, .int .u64 0, .slice (some ⟨wr.heap.size, 0, none⟩) 2 2]]) (by simp [results, Tryd.results20, Tryd.f20, go_sem, q0, q1, q2, q3, hql]) rfl ⟨g, wr.heap.size, rfl, ?_, ?_, ?_⟩
      · obtain ⟨W4, h4⟩ : ∃ W4, W4 = (((wr.setCell ⟨w.heap.size, 0, none⟩ (.int .u16 3)).setCell ⟨w.heap.size, 1, none⟩ (.int .u64 0)).setCell ⟨w.heap.size, 2, none⟩ (.int .u64 0)).setCell ⟨w.heap.size, 3, none⟩ (.slice (some ⟨wr.heap.size, 0, none⟩) 2 2) := ⟨_, rfl⟩
        rw [← h4]
        have hx : X1 wr W4 w.heap.size := by rw [h4]; exact ((((X1.refl wr w.heap.size).set 0 _).set 1 _).set 2 _).set 3 _
        have hne : g ≠ w.heap.size := (by have := HG.out; omega)
        exact (HB.out.x1 hx (fun _ b e => by cases e; exact hne)).below' (bal _)
      · have h := Row.new ((((wr.setCell ⟨w.heap.size, 0, none⟩ (.int .u16 3)).setCell ⟨w.heap.size, 1, none⟩ (.int .u64 0)).setCell ⟨w.heap.size, 2, none⟩ (.int .u64 0)).setCell ⟨w.heap.size, 3, none⟩ (.slice (some ⟨wr.heap.size, 0, none⟩) 2 2)) 52 (sg13.map sgC).flatten
        rw [World.size_setCell, World.size_setCell, World.size_setCell, World.size_setCell] at h
        exact rk_rows (k := 6) (rows := sg13.map sgC) h (by intro r hr; obtain ⟨x, _, rfl⟩ := List.mem_map.1 hr; rfl)
      · have h4 := fun u0 u1 u2 u3 => bset4 HLW.out (Nat.le_refl w.heap.size) u0 u1 u2 u3
        exact (h4 _ _ _ _).alloc (h4 _ _ _ _).size _
end Go.Proofs.YtkkadknijjninaaDoor
