
/- Sorting slots: cmp.Compare, cmp.Or, the closure of Slots. -/
import Derived.Test.YtncikcllhjhjmaaGreatDoorKO
import Derived.Test.YtncikcllhjhjmaaGreatDoorShelf
import Derived.Shelf.SlSortCmp.WholeK
import Derived.Deep.QuietTactic
import Derived.Deep.RegionWith
import Derived.Deep.RegionHeld3
import Derived.BigQuiet
namespace Go.Proofs.YtncikcllhjhjmaaGreatDoor
open Go.RowKit Go.Sort Go.Shelf
attribute [local go_sem] Oper.semAt_some

def cmpI (x y : Int) : Int := if x < y then -1 else if y < x then 1 else 0
set_option maxRecDepth 100000 in
set_option maxHeartbeats 4000000 in
theorem cmp_any (x y : Int) (w : World) : Calls Tryz.prog 56 #[.int .i64 x, .int .i64 y] w fun e w' => e = .returned (.int .i64 (cmpI x y)) ∧ w = w' := by
  have HN := hid (fun (z : Int) (W : World) => Tryz.cmp_isNaN_int2 z W)
  unfold cmpI
  by_cases h1 : x < y
  · have e1 : decide (x < y) = true := decide_eq_true h1
    rw [if_pos h1]
    clear h1
    go_enter Tryz.func56, Tryz.ntmps56
    go_wp2_with fail
    refine (HN.out x w).mono ?_
    rintro e w1 ⟨rfl, rfl⟩
    go_wp2_with fail
    refine (HN.out y w1).mono ?_
    rintro e w2 ⟨rfl, rfl⟩
    go_wp2_with fail
    go_ret
    exact ⟨rfl, rfl⟩
  · rw [if_neg h1]
    have e1 : decide (x < y) = false := decide_eq_false h1
    by_cases h2 : y < x
    · have e2 : decide (y < x) = true := decide_eq_true h2
      rw [if_pos h2]
      clear h1 h2
      go_enter Tryz.func56, Tryz.ntmps56
      go_wp2_with fail
      refine (HN.out x w).mono ?_
      rintro e w1 ⟨rfl, rfl⟩
      go_wp2_with fail
      refine (HN.out y w1).mono ?_
      rintro e w2 ⟨rfl, rfl⟩
      go_wp2_with fail
      go_ret
      exact ⟨rfl, rfl⟩
    · have e2 : decide (y < x) = false := decide_eq_false h2
      rw [if_neg h2]
      clear h1 h2
      go_enter Tryz.func56, Tryz.ntmps56
      go_wp2_with fail
      refine (HN.out x w).mono ?_
      rintro e w1 ⟨rfl, rfl⟩
      go_wp2_with fail
      refine (HN.out y w1).mono ?_
      rintro e w2 ⟨rfl, rfl⟩
      go_wp2_with fail
      go_ret
      exact ⟨rfl, rfl⟩
def orI (x y : Int) : Int := if x = 0 then y else x
set_option maxRecDepth 100000 in
set_option maxHeartbeats 4000000 in
theorem or_any (q : Nat) (x y : Int) (w : World) (h0 : w.cell? ⟨q, 0, none⟩ = some (.int .i64 x)) (h1 : w.cell? ⟨q, 1, none⟩ = some (.int .i64 y)) :
    Calls Tryz.prog 55 #[.slice (some ⟨q, 0, none⟩) 2 2] w fun e w' => e = .returned (.int .i64 (orI x y)) ∧ w = w' := by
  unfold orI
  by_cases e0 : x = 0
  · subst e0
    rw [if_pos rfl]
    by_cases e1 : y = 0
    · subst e1
      go_enter Tryz.func55, Tryz.ntmps55
      go_wp2_with fail
      go_loopw [8] (fun i wr => w = wr ∧ ∃ k : Nat, k ≤ 2 ∧ i = .int .i64 k) (fun i _ => 2 - (intOf i).toNat)
      case atStart => exact ⟨rfl, 0, by omega, rfl⟩
      case round =>
        obtain ⟨rfl, k, hk, rfl⟩ := hrel
        match k, hk with
        | 0, _ =>
          go_wp2_with fail
          go_roundw
          case rel => exact ⟨trivial, 1, by omega, rfl⟩
          case measure => simp [intOf]
        | 1, _ =>
          go_wp2_with fail
          go_roundw
          case rel => exact ⟨trivial, 2, by omega, rfl⟩
          case measure => simp [intOf]
        | 2, _ =>
          go_wp2_with fail
          go_ret
          exact ⟨rfl, rfl⟩
    · have d1 : (y != 0) = true := by simp [e1]
      go_enter Tryz.func55, Tryz.ntmps55
      go_wp2_with fail
      go_loopw [8] (fun i wr => w = wr ∧ ∃ k : Nat, k ≤ 1 ∧ i = .int .i64 k) (fun i _ => 2 - (intOf i).toNat)
      case atStart => exact ⟨rfl, 0, by omega, rfl⟩
      case round =>
        obtain ⟨rfl, k, hk, rfl⟩ := hrel
        match k, hk with
        | 0, _ =>
          go_wp2_with fail
          go_roundw
          case rel => exact ⟨trivial, 1, by omega, rfl⟩
          case measure => simp [intOf]
        | 1, _ =>
          go_wp2_with fail
          go_ret
          exact ⟨rfl, rfl⟩
  · have d1 : (x != 0) = true := by simp [e0]
    rw [if_neg e0]
    go_enter Tryz.func55, Tryz.ntmps55
    go_wp2_with fail
    go_loopw [8] (fun i wr => w = wr ∧ i = .int .i64 0) (fun i _ => 2 - (intOf i).toNat)
    case atStart => exact ⟨rfl, rfl⟩
    case round =>
      obtain ⟨rfl, rfl⟩ := hrel
      go_wp2_with fail
      go_ret
      exact ⟨rfl, rfl⟩
set_option maxRecDepth 100000 in
set_option maxHeartbeats 4000000 in
/-- The closure of Slots, in whatever world. -/
theorem less_any (a0 a1 a2 b0 b1 b2 : Int) (W : World) :
    Calls Tryz.prog 54 #[.agg #[.int .i64 a0, .int .i64 a1, .int .i64 a2], .agg #[.int .i64 b0, .int .i64 b1, .int .i64 b2]] W fun e w' => e = .returned (.int .i64 (orI (cmpI a0 b0) (cmpI a1 b1))) ∧ ∃ q os', w' = grow (W.drewN q) os' := by
  obtain ⟨W2, hW2⟩ : ∃ W2, W2 = (W.alloc (.cells #[.int .i64 a0, .int .i64 a1, .int .i64 a2] 61)).alloc (.cells #[.int .i64 b0, .int .i64 b1, .int .i64 b2] 61) := ⟨_, rfl⟩
  have HW2 := hid hW2
  have HA2 := hid (show Row W2 W.heap.size 61 [.int .i64 a0, .int .i64 a1, .int .i64 a2] by rw [hW2]; exact (Row.new W _ _).alloc _)
  have HB2 := hid (show Row W2 (W.heap.size + 1) 61 [.int .i64 b0, .int .i64 b1, .int .i64 b2] by
    rw [hW2]
    have := Row.new (W.alloc (.cells #[.int .i64 a0, .int .i64 a1, .int .i64 a2] 61)) 61 [.int .i64 b0, .int .i64 b1, .int .i64 b2]
    rw [World.size_alloc] at this
    exact this)
  have HG2 := hid (show ∃ os, W2 = grow W os from ⟨_, by rw [hW2, alloc_eq_grow, alloc_eq_grow, grow_grow]⟩)
  have HC0 := hid (fun w => cmp_any a0 b0 w)
  have HC1 := hid (fun w => cmp_any a1 b1 w)
  generalize cmpI a0 b0 = x at *
  generalize cmpI a1 b1 = y at *
  have HO := hid (or_any W2.heap.size x y (W2.alloc (.cells #[.int .i64 x, .int .i64 y] 3)).drew ((Row.new W2 3 [.int .i64 x, .int .i64 y]).drew.cell 0 (by simp)) ((Row.new W2 3 [.int .i64 x, .int .i64 y]).drew.cell 1 (by simp)))
  generalize orI x y = r at *
  have x0 : ∀ w, St W2 w → w.cell? ⟨W.heap.size, 0, none⟩ = some (.int .i64 a0) := fun w h => St.cell (HA2.out.cell 0 (by simp)) h
  have x1 : ∀ w, St W2 w → w.cell? ⟨W.heap.size, 1, none⟩ = some (.int .i64 a1) := fun w h => St.cell (HA2.out.cell 1 (by simp)) h
  have y0 : ∀ w, St W2 w → w.cell? ⟨W.heap.size + 1, 0, none⟩ = some (.int .i64 b0) := fun w h => St.cell (HB2.out.cell 0 (by simp)) h
  have y1 : ∀ w, St W2 w → w.cell? ⟨W.heap.size + 1, 1, none⟩ = some (.int .i64 b1) := fun w h => St.cell (HB2.out.cell 1 (by simp)) h
  have hs0 := St.refl W2
  clear hW2
  go_enter Tryz.func54, Tryz.ntmps54
  go_wp2_with fail
  rw [← HW2.out]
  go_region_held3 (St W2) (first | exact St.drew _ | exact St.step (by assumption) (bal _) | assumption) (first | (go_at_call 56; first | (with_reducible refine (HC0.out _).mono ?_; rintro e' w' ⟨rfl, rfl⟩) | (with_reducible refine (HC1.out _).mono ?_; rintro e' w' ⟨rfl, rfl⟩)) | (go_at_call 55; refine (HO.out).mono ?_; rintro e' w' ⟨rfl, rfl⟩))
  go_wp2_with fail
  go_ret
  obtain ⟨os, e⟩ := HG2.out
  refine ⟨rfl, 1, os ++ #[.cells #[.int .i64 x, .int .i64 y] 3], ?_⟩
  rw [alloc_eq_grow, e, grow_grow]
  rfl
end Go.Proofs.YtncikcllhjhjmaaGreatDoor
