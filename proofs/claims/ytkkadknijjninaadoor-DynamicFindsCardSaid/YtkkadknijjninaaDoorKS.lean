
/- Merged: S0 S1 S2 S3 S4. -/
import Derived.Test.YtkkadknijjninaaDoorRows
import Derived.Test.YtkkadknijjninaaDoorKA
import Derived.Deep.QuietTactic
import Derived.BigQuiet
import Derived.Deep.AppendLies
import Derived.Laws.BitsAllLaws
namespace Go.Proofs.YtkkadknijjninaaDoor.Ap
set_option maxRecDepth 100000
open Go.RowKit

/-- What Roomy lays: the letters, then seven marks. -/
def room (l : List UInt8) : List Value := l.map B8 ++ [.int .u8 99, .int .u8 98, .int .u8 97, .int .u8 96, .int .u8 95, .int .u8 94, .int .u8 93]

theorem room_len (l : List UInt8) : (room l).length = l.length + 7 := by simp [room]

theorem room_at (l : List UInt8) (k : Nat) (h : k < l.length) : Value.int .u8 (l[k].toNat : Int) = (room l)[k]'(by rw [room_len]; omega) := by
  unfold room
  rw [List.getElem_append_left (by simpa using h)]
  simp [B8]
theorem room_behind (l : List UInt8) (j : Nat) (h : j < 7) : Value.int .u8 (99 - (j : Int)) = (room l)[l.length + j]'(by rw [room_len]; omega) := by
  unfold room
  rw [List.getElem_append_right (by simp)]
  simp only [List.length_map, Nat.add_sub_cancel_left]
  match j, h with
  | 0, _ | 1, _ | 2, _ | 3, _ | 4, _ | 5, _ | 6, _ => rfl

theorem info5 : (Tryd.prog.info? 5).map (fun i => (i.zero, i.size, i.bytes)) = some (some (.int .u8 0), 1, 1) := by kernel_rfl

set_option maxHeartbeats 1000000 in
theorem roomy_any (a : Option Addr) (len cap : Nat) (l : List UInt8) (w : World) (hB : Byt w a len l) (hl : len ≤ 140737488351232) :
    Calls Tryd.prog 9 #[.slice a len cap] w fun e w' => e = .returned (.slice (some ⟨w.heap.size, 0, none⟩) len (len + 7)) ∧ Row w' w.heap.size 5 (room l) ∧ Below w.heap.size w w' := by
  obtain rfl := hB.hlen
  go_enter Tryd.func9, Tryd.ntmps9
  go_wp2_with (at_make; refine wpList_make_row _ rfl _ _ 22 rfl 5 (.int .u8 0) 1 Tryd.underlying22 info5 rfl .i64 .i64 _ _ (l.length + 7) rfl rfl (by omega) (by omega) (by omega) (by omega) ?_; intro w1 hr1 hb1 hs1)
  have hfz := fill_zero (room l) (.int .u8 0)
  rw [room_len] at hfz
  rw [← hfz] at hr1
  clear hfz
  go_loopw [5] (fun i wr => ∃ k : Nat, k ≤ l.length + 7 ∧ i = .int .i64 k ∧ Row wr w.heap.size 5 (fill (room l) (.int .u8 0) k) ∧ Below w.heap.size w wr) (fun i _ => l.length + 7 - (intOf i).toNat)
  case atStart => exact ⟨0, Nat.zero_le _, rfl, hr1, hb1⟩
  case round =>
    obtain ⟨k, hk, rfl, hr, hb⟩ := hrel
    by_cases hlt : k < l.length
    · obtain ⟨bb, off, rfl, hcell⟩ := hB.some_of (by omega)
      have hx := hcell k hlt
      have hold := World.block_lt_of_cell? w _ hx
      have hx' : _ = _ := (hb.cell hold).trans hx
      have hfr := hr.frozen k
      have hc := hr.cell k (by rw [fill_len _ _ _ (by rw [room_len]; omega), room_len]; omega)
      clear hx hold
      go_wp2
      go_roundw
      case rel =>
        exact ⟨k + 1, by omega, by go_num, hr.fill (by rw [room_len]; omega) (room_at l k hlt), hb.setCell (Nat.le_refl _) _⟩
      case measure => simp [intOf]; omega
    · by_cases hlt7 : k < l.length + 7
      · obtain ⟨j, rfl⟩ : ∃ j, k = l.length + j := ⟨k - l.length, by omega⟩
        have hj : j < 7 := by omega
        have hfr := hr.frozen (l.length + j)
        have hc := hr.cell (l.length + j) (by rw [fill_len _ _ _ (by rw [room_len]; omega), room_len]; omega)
        go_wp2
        go_roundw
        case rel =>
          exact ⟨l.length + j + 1, by omega, by go_num, hr.fill (by rw [room_len]; omega) (by rw [← room_behind l j hj]; congr 1; omega), hb.setCell (Nat.le_refl _) _⟩
        case measure => simp [intOf]; omega
      · have e : k = l.length + 7 := by omega
        subst e
        go_wp2
        go_ret
        have hff := fill_full (room l) (.int .u8 0)
        rw [room_len] at hff
        rw [hff] at hr
        exact ⟨rfl, hr, hb⟩

/-- The two lists, held against one another by EqBytes. -/
def eqB (l m : List UInt8) : Bool := decide (l = m)

set_option maxHeartbeats 1000000 in
theorem eqBytes_any (a c : Option Addr) (len cap len2 cap2 : Nat) (l m : List UInt8) (w : World) (hB : Byt w a len l) (hC : Byt w c len2 m) (hl : len ≤ 140737488351232) (hl2 : len2 ≤ 140737488351232) :
    Calls Tryd.prog 28 #[.slice a len cap, .slice c len2 cap2] w fun e w' => e = .returned (.bool (eqB l m)) ∧ ∃ n, w' = w.drewN n := by
  obtain rfl := hB.hlen
  obtain rfl := hC.hlen
  go_enter Tryd.func28, Tryd.ntmps28
  go_wp2
  go_loopw [5] (fun i wr => ∃ k : Nat, k ≤ l.length ∧ k ≤ m.length ∧ i = .int .i64 k ∧ l.take k = m.take k ∧ ∃ n, wr = w.drewN n) (fun i _ => l.length - (intOf i).toNat)
  case atStart => exact ⟨0, Nat.zero_le _, Nat.zero_le _, rfl, by simp, 0, rfl⟩
  case round =>
    obtain ⟨k, hk, hk2, rfl, he, n, rfl⟩ := hrel
    have HE := hid he; clear he
    by_cases h1 : k < l.length
    · by_cases h2 : k < m.length
      · obtain ⟨b1, o1, rfl, hc1⟩ := hB.some_of (by omega)
        obtain ⟨b2, o2, rfl, hc2⟩ := hC.some_of (by omega)
        have hx := hc1 k h1
        have hy := hc2 k h2
        clear hB hC hc1 hc2
        by_cases h3 : l[k] = m[k]
        · have HT := hid (show l.take (k + 1) = m.take (k + 1) by rw [List.take_succ_eq_append_getElem h1, List.take_succ_eq_append_getElem h2, HE.out, h3])
          go_wp2
          go_quiet (fail)
          go_wp2
          go_roundw
          case rel => exact ⟨k + 1, by omega, by omega, by go_num, HT.out, n + nq, by simp [World.drewN, Nat.add_assoc]⟩
          case measure => simp [intOf]; omega
        · have h4 : ((l[k].toNat : Int) == (m[k].toNat : Int)) = false := by
            rw [beq_eq_false_iff_ne]
            intro e
            exact h3 (UInt8.toNat_inj.1 (by omega))
          have h5 : ((k : Int) == (l.length : Int)) = false := by rw [beq_eq_false_iff_ne]; omega
          have HF := hid (show false = eqB l m by
            unfold eqB; rw [eq_comm, decide_eq_false_iff_not]; intro e; subst e; exact h3 rfl)
          clear h3
          go_wp2
          go_quiet (fail)
          go_wp2
          go_ret
          exact ⟨ret_bool HF.out, n + nq, by simp [World.drewN, Nat.add_assoc]⟩
      · have h5 : ((k : Int) == (l.length : Int)) = false := by rw [beq_eq_false_iff_ne]; omega
        have h6 : decide ((k : Int) < (m.length : Int)) = false := by simp; omega
        have HF := hid (show false = eqB l m by
            unfold eqB; rw [eq_comm, decide_eq_false_iff_not]; intro e; subst e; omega)
        go_wp2
        go_quiet (fail)
        go_wp2
        go_ret
        exact ⟨ret_bool HF.out, n + nq, by simp [World.drewN, Nat.add_assoc]⟩
    · have e : k = l.length := by omega
      subst e
      by_cases h2 : l.length = m.length
      · have HF := hid (show true = eqB l m by
            unfold eqB; rw [eq_comm, decide_eq_true_eq]
            have := HE.out
            rwa [List.take_length, h2, List.take_length] at this)
        have h6 : ((l.length : Int) == (m.length : Int)) = true := by rw [beq_iff_eq]; omega
        have h7 : decide ((l.length : Int) < (l.length : Int)) = false := by simp
        clear h2
        go_wp2
        go_quiet (fail)
        go_wp2
        go_ret
        exact ⟨ret_bool HF.out, n + nq, by simp [World.drewN, Nat.add_assoc]⟩
      · have HF := hid (show false = eqB l m by
            unfold eqB; rw [eq_comm, decide_eq_false_iff_not]; intro e; subst e; omega)
        have h6 : ((l.length : Int) == (m.length : Int)) = false := by rw [beq_eq_false_iff_ne]; omega
        have h7 : decide ((l.length : Int) < (l.length : Int)) = false := by simp
        clear h2
        go_wp2
        go_quiet (fail)
        go_wp2
        go_ret
        exact ⟨ret_bool HF.out, n + nq, by simp [World.drewN, Nat.add_assoc]⟩

theorem eqB_self (l : List UInt8) : eqB l l = true := by simp [eqB]

set_option maxHeartbeats 1000000 in
theorem kept_any (g : Nat) (c : Option Addr) (len cap len2 cap2 : Nat) (l m : List UInt8) (w : World) (hlen : l.length = len) (hcap : cap = len + 7) (hR : Row w g 5 (room l)) (hC : Byt w c len2 m) (hl : len ≤ 140737488351232) (hl2 : len2 ≤ 140737488351232) :
    Calls Tryd.prog 16 #[.slice (some ⟨g, 0, none⟩) len cap, .slice c len2 cap2] w fun e w' => e = .returned (.bool (eqB l m)) ∧ ∃ n, w' = w.drewN n := by
  subst hlen
  subst hcap
  have hB : Byt w (some ⟨g, 0, none⟩) l.length l := by unfold room at hR; exact hR.byt rfl
  go_enter Tryd.func16, Tryd.ntmps16
  go_wp2
  go_loop [7, 8] (fun x i => ∃ j : Nat, j ≤ 7 ∧ i = .int .i64 ((l.length : Int) + j) ∧ x = .int .i64 (7 - j)) (fun _ i => l.length + 7 - (intOf i).toNat)
  case atStart => exact ⟨0, by omega, by simp, rfl⟩
  case round =>
    obtain ⟨j, hj, rfl, rfl⟩ := hrel
    by_cases h7 : j < 7
    · have hx := hR.cell (l.length + j) (by rw [room_len]; omega)
      rw [← room_behind l j h7] at hx
      have e1 : ((99 - (j : Int)) == (99 - ((l.length : Int) + j - l.length))) = true := by rw [beq_iff_eq]; omega
      go_wp2
      go_round
      case rel => exact ⟨j + 1, by omega, by congr 1 <;> omega, by congr 1 <;> omega⟩
      case measure => simp [intOf]; omega
    · have e7 : j = 7 := by omega
      subst e7
      go_wp2_with (go_at_call 28; refine (eqBytes_any _ _ _ _ _ _ l m _ hB hC hl hl2).mono ?_; rintro e w' ⟨rfl, n, rfl⟩)
      all_goals go_ret
      all_goals exact ⟨rfl, n, rfl⟩
end Go.Proofs.YtkkadknijjninaaDoor.Ap
namespace Go.Proofs.YtkkadknijjninaaDoor.Ap
set_option maxRecDepth 100000
open Go.RowKit

/-- A list of bytes of the call's own: nothing, or a new row. -/
def NewB (w w' : World) (v : Value) (l : List UInt8) : Prop :=
  (l = [] ∧ v = .slice none 0 0) ∨ (l ≠ [] ∧ v = .slice (some ⟨w.heap.size, 0, none⟩) l.length l.length ∧ Row w' w.heap.size 5 (l.map B8))

set_option maxHeartbeats 1000000 in
theorem copyBytes_any (a : Option Addr) (len cap : Nat) (l : List UInt8) (w : World) (hB : Byt w a len l) (hl : len ≤ 140737488351232) :
    Calls Tryd.prog 46 #[.slice a len cap] w fun e w' => ∃ v, e = .returned v ∧ NewB w w' v l ∧ Below w.heap.size w w' := by
  obtain rfl := hB.hlen
  by_cases h0 : l.length = 0
  · have hb0 : ((l.length : Int) == 0) = true := by rw [beq_iff_eq]; omega
    have hnil : l = [] := List.length_eq_zero_iff.1 h0
    have HN := hid hnil
    clear hnil h0
    go_enter Tryd.func46, Tryd.ntmps46
    go_wp2
    go_ret
    exact ⟨_, rfl, .inl ⟨HN.out, rfl⟩, Below.refl _ _⟩
  · have hb0 : ((l.length : Int) == 0) = false := by rw [beq_eq_false_iff_ne]; omega
    obtain ⟨bb, off, rfl, hcell⟩ := hB.some_of (by omega)
    go_enter Tryd.func46, Tryd.ntmps46
    go_wp2_with (at_make; refine wpList_make_row _ rfl _ _ 22 rfl 5 (.int .u8 0) 1 Tryd.underlying22 info5 rfl .i64 .i64 _ _ l.length rfl rfl (by omega) (by omega) (by omega) (by omega) ?_; intro w1 hr1 hb1 hs1)
    have hfz := fillD_full (l.map B8) (.int .u8 0)
    rw [List.length_map] at hfz
    rw [← hfz] at hr1
    clear hfz
    go_loopw [4] (fun i wr => ∃ k : Nat, k ≤ l.length ∧ i = .int .i64 ((k : Int) - 1) ∧ Row wr w.heap.size 5 (fillD (l.map B8) (.int .u8 0) k) ∧ Below w.heap.size w wr) (fun i _ => (intOf i + 1).toNat)
    case atStart => exact ⟨l.length, Nat.le_refl _, rfl, hr1, hb1⟩
    case round =>
      obtain ⟨k, hk, rfl, hr, hb⟩ := hrel
      rcases Nat.eq_zero_or_pos k with rfl | hpos
      · go_wp2
        go_ret
        rw [fillD_zero] at hr
        exact ⟨_, rfl, .inr ⟨by intro e; subst e; simp at hb0, rfl, hr⟩, hb⟩
      · obtain ⟨j, rfl⟩ : ∃ j, k = j + 1 := ⟨k - 1, by omega⟩
        have hj : j < l.length := by omega
        have hx := hcell j hj
        have hold := World.block_lt_of_cell? w _ hx
        have hx' : _ = _ := (hb.cell hold).trans hx
        have hfr := hr.frozen j
        have hc := hr.cell j (by rw [fillD_len _ _ _ (by simp; omega)]; simpa using hj)
        clear hx hold
        go_wp2
        go_roundw
        case rel => exact ⟨j, by omega, by go_num, hr.fillD (by simpa using hj) (map_at l j hj), hb.setCell (Nat.le_refl _) _⟩
        case measure => simp [intOf]

theorem NewB.byt {w w' : World} {v : Value} {l : List UInt8} (h : NewB w w' v l) : ∃ a cap, v = .slice a l.length cap ∧ Byt w' a l.length l := by
  rcases h with ⟨rfl, rfl⟩ | ⟨_, rfl, hr⟩
  · exact ⟨none, 0, rfl, Byt.nil _ _⟩
  · exact ⟨_, _, rfl, Row.byt (rest := []) (by simpa using hr) rfl⟩

theorem copyBytes_byt (a : Option Addr) (len cap : Nat) (l : List UInt8) (w : World) (hB : Byt w a len l) (hl : len ≤ 140737488351232) :
    Calls Tryd.prog 46 #[.slice a len cap] w fun e w' => ∃ a' cap', e = .returned (.slice a' len cap') ∧ Byt w' a' len l ∧ Below w.heap.size w w' := by
  refine (copyBytes_any a len cap l w hB hl).mono ?_
  rintro e w' ⟨v, rfl, hv, hb⟩
  obtain ⟨a', cap', rfl, h⟩ := hv.byt
  obtain rfl := hB.hlen
  exact ⟨a', cap', rfl, h, hb⟩
end Go.Proofs.YtkkadknijjninaaDoor.Ap
namespace Go.Proofs.YtkkadknijjninaaDoor.Ap
set_option maxRecDepth 100000
open Go.RowKit

/-- A slice of bytes of somebody's own, from block base on. -/
abbrev OwnB (w : World) (base : Nat) (v : Value) (l : List UInt8) : Prop := w.ownsRow base 5 1 v l.length (l.map B8)

/-- What gone on with turns: blocks that are not v's stay. -/
structure Only (w w' : World) (r : Option Nat) : Prop where
  os : w'.os = w.os
  tape : w'.tape = w.tape
  output : w'.output = w.output
  size : w.heap.size ≤ w'.heap.size
  block : ∀ k, k < w.heap.size → some k ≠ r → w'.heap[k]? = w.heap[k]?

theorem Only.refl (w : World) (r : Option Nat) : Only w w r := ⟨rfl, rfl, rfl, Nat.le_refl _, fun _ _ _ => rfl⟩
theorem Only.trans {a b c : World} {r : Option Nat} (h : Only a b r) (k : Only b c r) : Only a c r :=
  ⟨k.os.trans h.os, k.tape.trans h.tape, k.output.trans h.output, Nat.le_trans h.size k.size, fun i hi hr => (k.block i (Nat.lt_of_lt_of_le hi h.size) hr).trans (h.block i hi hr)⟩
theorem Only.grows {a w w' : World} {r r2 : Option Nat} (h : Only a w r) (hg : w.grownBy w' r2) (hr : r2 = none ∨ r2 = r ∨ ∃ k, r2 = some k ∧ a.heap.size ≤ k) : Only a w' r :=
  ⟨hg.os.trans h.os, hg.tape.trans h.tape, hg.output.trans h.output, Nat.le_trans h.size hg.size, fun i hi hir => by
    rw [hg.block i (Nat.lt_of_lt_of_le hi h.size) ?_]
    · exact h.block i hi hir
    · rcases hr with rfl | rfl | ⟨k, rfl, hk⟩
      · simp
      · exact hir
      · intro e; cases e; omega⟩
theorem Only.alloc {a w : World} {r : Option Nat} (h : Only a w r) (o : Obj) : Only a (w.alloc o) r :=
  h.grows (w.grownBy_alloc o none) (.inl rfl)
theorem Only.below {w w' : World} {r : Option Nat} {B : Nat} (h : Only w w' r) (hr : ∀ k, r = some k → B ≤ k) (hB : B ≤ w.heap.size) : Below B w w' :=
  ⟨h.os, h.tape, h.output, h.size, fun k hk => h.block k (by omega) (fun e => by have := hr k e.symm; omega)⟩
theorem Only.of_below {w w' : World} {r : Option Nat} (h : Below w.heap.size w w') : Only w w' r := ⟨h.os, h.tape, h.output, h.size, fun k hk _ => h.block k hk⟩

theorem ob_slice (ao : Option Addr) (n c : Nat) : (Value.slice ao n c).ownBlock = ao.map (·.block) := by cases ao <;> rfl

/-- Whoever owns a row whose block stays still owns it. -/
theorem own_only {w w' : World} {base e size n : Nat} {v : Value} {xs : List Value} {r : Option Nat} (h : w.ownsRow base e size v n xs) (ho : Only w w' r) (hne : v.ownBlock = none ∨ v.ownBlock ≠ r) : w'.ownsRow base e size v n xs :=
  h.kept ⟨ho.os, ho.tape, ho.output, ho.size, ho.block⟩ hne

theorem own_prefix {w w1 : World} {base e size n m : Nat} {v b : Value} {xs ys : List Value} (h : w.ownsRow base e size v n xs) (hb : w.ownsRow base e size b m (xs ++ ys)) (hb1 : w1.ownsRow base e size b m (xs ++ ys)) (hs : b.ownBlock = v.ownBlock) : w1.ownsRow base e size v n xs := by
  refine ⟨h.1, ?_⟩
  rcases h.2 with hn | ⟨g, cap, cur, rfl, hbg, hg, hnc, hcm, hcs, htake⟩
  · exact .inl hn
  · rcases hb.2 with ⟨rfl, _⟩ | ⟨g', cap', cur', rfl, _, hg', _, _, hcs', _⟩
    · simp [Value.ownBlock] at hs
    · simp only [Value.ownBlock, Option.some.injEq] at hs
      subst hs
      rcases hb1.2 with ⟨h1, _⟩ | ⟨g2, cap2, cur2, h1, _, hg2, _, _, hcs2, htake2⟩
      · cases h1
      · simp only [Value.slice.injEq, Option.some.injEq, Addr.mk.injEq, and_true, true_and] at h1
        obtain ⟨rfl, rfl⟩ := h1
        rw [hg] at hg'
        simp only [Option.some.injEq, Obj.cells.injEq, and_true, true_and] at hg'
        subst hg'
        refine .inr ⟨g', cap, cur2, rfl, hbg, hg2, hnc, hcm, by rw [hcs2, ← hcs', hcs], ?_⟩
        have hle : n * size ≤ m * size := by
          have := hb.1
          rw [List.length_append, h.1] at this
          omega
        have e1 : cur2.toList.take (n * size) = (cur2.toList.take (m * size)).take (n * size) := by
          rw [List.take_take, Nat.min_eq_left hle]
        rw [e1, htake2, List.take_append_of_le_length (by rw [h.1]; exact Nat.le_refl _), List.take_of_length_le (by rw [h.1]; exact Nat.le_refl _)]

end Go.Proofs.YtkkadknijjninaaDoor.Ap
namespace Go.Proofs.YtkkadknijjninaaDoor.Ap
set_option maxRecDepth 100000
open Go.RowKit

end Go.Proofs.YtkkadknijjninaaDoor.Ap
namespace Go.Proofs.YtkkadknijjninaaDoor.Ap
set_option maxRecDepth 100000
open Go.RowKit

theorem info22 : (Tryd.prog.info? 22).map (fun i => (i.zero, i.size, i.bytes)) = some (some (.slice none 0 0), 1, 24) := by kernel_rfl

theorem own_byt {w : World} {base : Nat} {v : Value} {l : List UInt8} (h : OwnB w base v l) : ∃ a cap, v = .slice a l.length cap ∧ Byt w a l.length l ∧ (∀ b, a = some b → base ≤ b.block ∧ b.block < w.heap.size) ∧ v.ownBlock = a.map (·.block) ∧ (∀ b, a = some b → b.off = 0 ∧ b.spot = none) := by
  rcases h.2 with ⟨rfl, h0⟩ | ⟨g, cap, cur, rfl, hb, hg, hnc, hcm, hcs, htake⟩
  · refine ⟨none, 0, by rw [h0], ?_, (fun b hb => by cases hb), rfl, (fun b hb => by cases hb)⟩
    have e := List.length_eq_zero_iff.1 h0
    subst e
    exact Byt.nil _ _
  · refine ⟨some ⟨g, 0, none⟩, cap, rfl, ⟨rfl, fun i hi => ⟨g, 0, rfl, ?_⟩⟩, (fun b hb' => ?_), rfl, (fun b hb' => ?_)⟩
    · have hc := h.cellAt i (by omega)
      rw [Nat.zero_add, hc]
      simp [B8, hi]
    · cases hb'
      exact ⟨hb, (Array.getElem?_eq_some_iff.1 hg).1⟩
    · cases hb'
      exact ⟨rfl, rfl⟩

theorem NewB.own {w w' : World} {v : Value} {l : List UInt8} (h : NewB w w' v l) (hl : l.length ≤ maxLen) : OwnB w' w.heap.size v l := by
  rcases h with ⟨rfl, rfl⟩ | ⟨_, rfl, hr⟩
  · exact World.ownsRow_nil _ _ _ _
  · have := hr.owns (base := w.heap.size) (n := l.length) (cap := l.length) (Nat.le_refl _) (by simp) (Nat.le_refl _) hl
    rw [List.take_of_length_le (by simp)] at this
    exact this

theorem own_base {w : World} {base base' e size n : Nat} {v : Value} {xs : List Value} (h : w.ownsRow base e size v n xs) (hb : base' ≤ base) : w.ownsRow base' e size v n xs := by
  refine ⟨h.1, ?_⟩
  rcases h.2 with hn | ⟨g, cap, cur, hv, hbg, r⟩
  · exact .inl hn
  · exact .inr ⟨g, cap, cur, hv, Nat.le_trans hb hbg, r⟩

theorem own_below {w w' : World} {base e size n : Nat} {v : Value} {xs : List Value} {B : Nat} (h : w.ownsRow base e size v n xs) (hb : Below B w w') (hv : ∀ k, v.ownBlock = some k → k < B) : w'.ownsRow base e size v n xs := by
  refine ⟨h.1, ?_⟩
  rcases h.2 with hn | ⟨g, cap, cur, rfl, hbg, hg, r⟩
  · exact .inl hn
  · exact .inr ⟨g, cap, cur, rfl, hbg, by rw [hb.block g (hv g rfl)]; exact hg, r⟩

theorem set_snoc (us : List Value) (n : Nat) (z v : Value) (h : us.length < n) : (us ++ List.replicate (n - us.length) z).set us.length v = (us ++ [v]) ++ List.replicate (n - (us.length + 1)) z := by
  rw [List.set_append_right _ _ (Nat.le_refl _), Nat.sub_self]
  obtain ⟨m, hm⟩ : ∃ m, n - us.length = m + 1 := ⟨n - us.length - 1, by omega⟩
  rw [hm, List.replicate_succ, List.set_cons_zero, List.append_assoc]
  have : n - (us.length + 1) = m := by omega
  rw [this]
  rfl

/-- Some lists of bytes, each in memory of its own. -/
structure Lists (w : World) (base A : Nat) (vs : List Value) (ls : List (List UInt8)) : Prop where
  len : vs.length = ls.length
  row : Row w A 22 vs
  own : ∀ j (h : j < vs.length), OwnB w base vs[j] (ls[j]'(by omega))
  dis : ∀ i j (hi : i < vs.length) (hj : j < vs.length), i ≠ j → vs[i].ownBlock = none ∨ vs[i].ownBlock ≠ vs[j].ownBlock
  ne : ∀ j (h : j < vs.length), vs[j].ownBlock ≠ some A
  small : ∀ j (h : j < ls.length), ls[j].length ≤ 1048576

/-- What the first loop has laid: G0, G1 are the blocks of 'was' and 'long'. -/
structure Laid1 (w wr : World) (n G0 G1 : Nat) (ls : List (List UInt8)) (us : List Value) : Prop where
  le : us.length ≤ n
  row0 : Row wr G0 22 (us ++ List.replicate (n - us.length) (.slice none 0 0))
  row1 : Row wr G1 22 (List.replicate n (.slice none 0 0))
  below : Below w.heap.size w wr
  size : G1 < wr.heap.size
  own : ∀ j (h : j < us.length) (h' : j < ls.length), OwnB wr (G1 + 1) us[j] ls[j]

theorem Laid1.step {w wr w2 : World} {n G1 : Nat} {ls : List (List UInt8)} {us : List Value} {v2 : Value} (h1 : Laid1 w wr n w.heap.size G1 ls us) (hb2 : Below wr.heap.size wr w2) (hown2 : ∀ {h : us.length < ls.length}, OwnB w2 wr.heap.size v2 ls[us.length]) (hlt : us.length < n) (hG : w.heap.size < G1) :
    Laid1 w (w2.setCell ⟨w.heap.size, us.length, none⟩ v2) n w.heap.size G1 ls (us ++ [v2]) := by
  have hsz : ∀ a v, (w2.setCell a v).heap.size = w2.heap.size := fun a v => by simp [World.setCell]
  refine ⟨by simp; omega, ?_, (h1.row1.below hb2 h1.size).other (by show G1 ≠ w.heap.size; omega) _, (h1.below.trans (hb2.mono h1.below.size)).setCell (Nat.le_refl _) _, by rw [hsz]; exact Nat.lt_of_lt_of_le h1.size hb2.size, ?_⟩
  · have := (h1.row0.below hb2 h1.row0.lt).set us.length v2
    rw [set_snoc us n _ v2 hlt] at this
    simpa using this
  · intro j h h'
    rw [List.length_append, List.length_singleton] at h
    refine ownsRow_setCell_below ?_ (by show w.heap.size < G1 + 1; omega) _
    by_cases hj : j < us.length
    · rw [List.getElem_append_left hj]
      have ho := h1.own j hj h'
      exact own_below ho hb2 (fun k hk => (ho.lt k hk).2)
    · have e : j = us.length := by omega
      subst e
      rw [List.getElem_append_right (Nat.le_refl _)]
      simp only [Nat.sub_self, List.getElem_cons_zero]
      exact own_base hown2 h1.size

theorem _root_.Go.Proofs.YtkkadknijjninaaDoor.Row.only {w w' : World} {g : Nat} {E : TypeId} {cs : List Value} {r : Option Nat} (h : Row w g E cs) (ho : Only w w' r) (hne : some g ≠ r) : Row w' g E cs := ⟨by rw [ho.block g h.lt hne]; exact h.heap⟩

theorem mark_val (k : Nat) (h : k < 255) : ((k : Int) + 1) = ((UInt8.ofNat (k + 1)).toNat : Int) := by simp; omega

/-- What the second loop has laid. -/
structure Laid2 (w wr : World) (n A base G1 : Nat) (ls : List (List UInt8)) (vs us gs : List Value) : Prop where
  le : gs.length ≤ n
  rowA : Row wr A 22 vs
  row0 : Row wr w.heap.size 22 us
  row1 : Row wr G1 22 (gs ++ List.replicate (n - gs.length) (.slice none 0 0))
  below : Below base w wr
  size : G1 < wr.heap.size
  lenU : us.length = n
  lenV : vs.length = ls.length
  ownU : ∀ j (h : j < us.length) (h' : j < ls.length), OwnB wr (G1 + 1) us[j] ls[j]
  ownV : ∀ j (h : j < vs.length) (h' : j < ls.length), OwnB wr base vs[j] ls[j]
  ownG : ∀ j (h : j < gs.length) (h' : j < ls.length), OwnB wr base gs[j] (ls[j] ++ List.replicate 40 (UInt8.ofNat (j + 1)))
  blkG : ∀ j (h : j < gs.length) (h' : j < vs.length), (gs[j].ownBlock = vs[j].ownBlock ∧ vs[j].ownBlock ≠ none) ∨ ∃ g, gs[j].ownBlock = some g ∧ G1 < g
  vlt : ∀ j (h : j < vs.length) k, vs[j].ownBlock = some k → base ≤ k ∧ k < w.heap.size
  dis : ∀ i j (hi : i < vs.length) (hj : j < vs.length), i ≠ j → vs[i].ownBlock = none ∨ vs[i].ownBlock ≠ vs[j].ownBlock
  ne : ∀ j (h : j < vs.length), vs[j].ownBlock ≠ some A
  g01 : w.heap.size < G1
  alt : A < w.heap.size
  ble : base ≤ A

theorem size_setCell (w : World) (a : Addr) (v : Value) : (w.setCell a v).heap.size = w.heap.size := by simp [World.setCell]

theorem own_setCell {w : World} {base e size n : Nat} {v : Value} {xs : List Value} (h : w.ownsRow base e size v n xs) {a : Addr} (ha : v.ownBlock ≠ some a.block) (u : Value) : (w.setCell a u).ownsRow base e size v n xs := by
  refine ⟨h.1, ?_⟩
  rcases h.2 with hn | ⟨g, cap, cur, rfl, hbg, hg, r⟩
  · exact .inl hn
  · exact .inr ⟨g, cap, cur, rfl, hbg, by rw [heap_setCell_other _ _ _ _ (fun e => ha (by simp [Value.ownBlock, e]))]; exact hg, r⟩

theorem Laid2.step {w wr w2 : World} {n A base G1 : Nat} {ls : List (List UInt8)} {vs us gs : List Value} {v2 : Value} (h : Laid2 w wr n A base G1 ls vs us gs) (hlt : gs.length < n) (hvn : vs.length = n) (hb : base ≤ w.heap.size)
    (g1 : ∀ {x : gs.length < ls.length}, OwnB w2 base v2 (ls[gs.length] ++ List.replicate 40 (UInt8.ofNat (gs.length + 1))))
    (g2 : ∀ {x : gs.length < ls.length} {y : gs.length < vs.length}, OwnB w2 base vs[gs.length] ls[gs.length])
    (g3 : ∀ {y : gs.length < vs.length}, Only wr w2 vs[gs.length].ownBlock)
    (g4 : ∀ {y : gs.length < vs.length}, (v2.ownBlock = vs[gs.length].ownBlock ∧ vs[gs.length].ownBlock ≠ none) ∨ ∃ g, v2.ownBlock = some g ∧ wr.heap.size ≤ g) :
    Laid2 w (w2.setCell ⟨G1, gs.length, none⟩ v2) n A base G1 ls vs us (gs ++ [v2]) := by
  have hy : gs.length < vs.length := by omega
  have hx : gs.length < ls.length := by have := h.lenV; omega
  have hvk : ∀ k, vs[gs.length].ownBlock = some k → base ≤ k ∧ k < w.heap.size := fun k hk => h.vlt gs.length hy k hk
  have ho := g3 (y := hy)
  have hne1 : ∀ k, w.heap.size ≤ k → some k ≠ vs[gs.length].ownBlock := fun k hk e => by have := (hvk k e.symm).2; omega
  have hg01 := h.g01
  have hsz := h.size
  refine ⟨by simp; omega, (h.rowA.only ho (fun e => h.ne gs.length hy e.symm)).other (by show A ≠ G1; have := h.alt; omega) _, (h.row0.only ho (hne1 _ (Nat.le_refl _))).other (by show w.heap.size ≠ G1; omega) _, ?_,
    (h.below.trans (ho.below (fun k hk => (hvk k hk).1) (Nat.le_trans hb h.below.size))).setCell (by show base ≤ G1; omega) _, by rw [size_setCell]; exact Nat.lt_of_lt_of_le h.size ho.size, h.lenU, h.lenV, ?_, ?_, ?_, ?_, h.vlt, h.dis, h.ne, h.g01, h.alt, h.ble⟩
  · have := (h.row1.only ho (hne1 _ (by omega))).set gs.length v2
    rw [set_snoc gs n _ v2 hlt] at this
    simpa using this
  · intro j hj h'
    have hu := h.ownU j hj h'
    refine own_setCell (own_only hu ho ?_) (fun e => ?_) _
    · cases e : us[j].ownBlock with
      | none => exact .inl rfl
      | some k => exact .inr (by have := (hu.lt k e).1; exact hne1 k (by omega))
    · have := (hu.lt _ e).1
      simp only at this
      omega
  · intro j hj h'
    refine own_setCell ?_ (fun e => ?_) _
    · by_cases e : j = gs.length
      · subst e
        exact g2
      · refine own_only (h.ownV j hj h') ho ?_
        rcases h.dis j gs.length hj hy e with hn | hn
        · exact .inl hn
        · exact .inr hn
    · have := (h.vlt j hj _ e).2
      simp only at this
      omega
  · intro j hj h'
    rw [List.length_append, List.length_singleton] at hj
    by_cases hjk : j < gs.length
    · rw [List.getElem_append_left hjk]
      have hg := h.ownG j hjk h'
      have hjv : j < vs.length := by omega
      refine own_setCell (own_only hg ho ?_) (fun e => ?_) _
      · rcases h.blkG j hjk hjv with ⟨e1, e2⟩ | ⟨g, e1, e2⟩
        · rw [e1]
          rcases h.dis j gs.length hjv hy (by omega) with hn | hn
          · exact .inl hn
          · exact .inr hn
        · rw [e1]
          exact .inr (hne1 g (by omega))
      · rcases h.blkG j hjk hjv with ⟨e1, e2⟩ | ⟨g, e1, e2⟩
        · rw [e1] at e
          have := (h.vlt j hjv _ e).2
          simp only at this
          omega
        · rw [e1] at e
          simp only [Option.some.injEq] at e
          omega
    · have e : j = gs.length := by omega
      subst e
      rw [List.getElem_append_right (Nat.le_refl _)]
      simp only [Nat.sub_self, List.getElem_cons_zero]
      refine own_setCell g1 (fun e => ?_) _
      rcases g4 (y := hy) with ⟨e1, e2⟩ | ⟨g, e1, e2⟩
      · rw [e1] at e
        have := (hvk _ e).2
        simp only at this
        omega
      · rw [e1] at e
        simp only [Option.some.injEq] at e
        omega
  · intro j hj h'
    rw [List.length_append, List.length_singleton] at hj
    by_cases hjk : j < gs.length
    · rw [List.getElem_append_left hjk]
      exact h.blkG j hjk h'
    · have e : j = gs.length := by omega
      subst e
      rw [List.getElem_append_right (Nat.le_refl _)]
      simp only [Nat.sub_self, List.getElem_cons_zero]
      rcases g4 (y := hy) with hh | ⟨g, e1, e2⟩
      · exact .inl hh
      · exact .inr ⟨g, e1, by omega⟩

theorem xor_byte (c : UInt8) : bits .xor .u8 (c.toNat : Int) 255 = ((c ^^^ 255).toNat : Int) := by
  have h := u8_xor_nat c.toNat 255 c.toNat_lt (by omega)
  rw [show ((255 : Nat) : Int) = 255 from rfl] at h
  rw [h, UInt8.toNat_xor]
  rfl

/-- What the last loop keeps. -/
structure Laid4 (w wr : World) (n A base G1 : Nat) (ls : List (List UInt8)) (vs us : List Value) (k : Nat) : Prop where
  rowA : Row wr A 22 vs
  row0 : Row wr w.heap.size 22 us
  below : Below base w wr
  lenU : us.length = n
  lenV : vs.length = ls.length
  ownU : ∀ j (h : j < us.length) (h' : j < ls.length), OwnB wr (G1 + 1) us[j] ls[j]
  ownV : ∀ j (h : j < vs.length) (h' : j < ls.length), k ≤ j → OwnB wr base vs[j] ls[j]
  vlt : ∀ j (h : j < vs.length) k, vs[j].ownBlock = some k → base ≤ k ∧ k < w.heap.size
  dis : ∀ i j (hi : i < vs.length) (hj : j < vs.length), i ≠ j → vs[i].ownBlock = none ∨ vs[i].ownBlock ≠ vs[j].ownBlock
  ne : ∀ j (h : j < vs.length), vs[j].ownBlock ≠ some A
  g01 : w.heap.size < G1
  alt : A < w.heap.size

theorem Laid2.four {w wr : World} {n A base G1 : Nat} {ls : List (List UInt8)} {vs us gs : List Value} (h : Laid2 w wr n A base G1 ls vs us gs) : Laid4 w wr n A base G1 ls vs us 0 :=
  ⟨h.rowA, h.row0, h.below, h.lenU, h.lenV, h.ownU, fun j a b _ => h.ownV j a b, h.vlt, h.dis, h.ne, h.g01, h.alt⟩

theorem Laid4.drewN {w wr : World} {n A base G1 k : Nat} {ls : List (List UInt8)} {vs us : List Value} (h : Laid4 w wr n A base G1 ls vs us k) (m : Nat) : Laid4 w (wr.drewN m) n A base G1 ls vs us k :=
  ⟨h.rowA.drewN m, h.row0.drewN m, bdN h.below m, h.lenU, h.lenV, h.ownU, h.ownV, h.vlt, h.dis, h.ne, h.g01, h.alt⟩

theorem Laid4.next {w wr : World} {n A base G1 k : Nat} {ls : List (List UInt8)} {vs us : List Value} (h : Laid4 w wr n A base G1 ls vs us k) : Laid4 w wr n A base G1 ls vs us (k + 1) :=
  ⟨h.rowA, h.row0, h.below, h.lenU, h.lenV, h.ownU, fun j a b c => h.ownV j a b (by omega), h.vlt, h.dis, h.ne, h.g01, h.alt⟩

theorem Laid4.store {w wr : World} {n A base G1 k g : Nat} {ls : List (List UInt8)} {vs us : List Value} (h : Laid4 w wr n A base G1 ls vs us (k + 1)) (hk : k < vs.length) (hg : vs[k].ownBlock = some g) (q : Nat) (u : Value) : Laid4 w (wr.setCell ⟨g, q, none⟩ u) n A base G1 ls vs us (k + 1) := by
  have hlt := h.vlt k hk g hg
  have hne := h.ne k hk
  have h01 := h.g01
  refine ⟨h.rowA.other (fun e => hne (by rw [hg]; simp only at e; rw [e])) _, h.row0.other (by show w.heap.size ≠ g; omega) _, h.below.setCell hlt.1 _, h.lenU, h.lenV, ?_, ?_, h.vlt, h.dis, h.ne, h.g01, h.alt⟩
  · intro j hj h'
    have hu := h.ownU j hj h'
    refine own_setCell hu (fun e => ?_) _
    have := (hu.lt _ e).1
    simp only at this
    omega
  · intro j hj h' hjk
    refine own_setCell (h.ownV j hj h' hjk) (fun e => ?_) _
    rcases h.dis j k hj hk (by omega) with hn | hn
    · rw [hn] at e; cases e
    · rw [hg] at hn
      exact hn e

theorem Lists.three {w : World} {base A : Nat} {v0 v1 v2 : Value} {l0 l1 l2 : List UInt8} (row : Row w A 22 [v0, v1, v2]) (o0 : OwnB w base v0 l0) (o1 : OwnB w base v1 l1) (o2 : OwnB w base v2 l2)
    (d01 : v0.ownBlock = none ∨ v0.ownBlock ≠ v1.ownBlock) (d02 : v0.ownBlock = none ∨ v0.ownBlock ≠ v2.ownBlock) (d10 : v1.ownBlock = none ∨ v1.ownBlock ≠ v0.ownBlock) (d12 : v1.ownBlock = none ∨ v1.ownBlock ≠ v2.ownBlock) (d20 : v2.ownBlock = none ∨ v2.ownBlock ≠ v0.ownBlock) (d21 : v2.ownBlock = none ∨ v2.ownBlock ≠ v1.ownBlock)
    (n0 : v0.ownBlock ≠ some A) (n1 : v1.ownBlock ≠ some A) (n2 : v2.ownBlock ≠ some A) (s0 : l0.length ≤ 1048576) (s1 : l1.length ≤ 1048576) (s2 : l2.length ≤ 1048576) : Lists w base A [v0, v1, v2] [l0, l1, l2] := by
  refine ⟨rfl, row, ?_, ?_, ?_, ?_⟩
  · intro j h
    match j, h with
    | 0, _ => exact o0
    | 1, _ => exact o1
    | 2, _ => exact o2
  · intro i j hi hj hij
    match i, j, hi, hj, hij with
    | 0, 1, _, _, _ => exact d01
    | 0, 2, _, _, _ => exact d02
    | 1, 0, _, _, _ => exact d10
    | 1, 2, _, _, _ => exact d12
    | 2, 0, _, _, _ => exact d20
    | 2, 1, _, _, _ => exact d21
    | 0, 0, _, _, h => exact absurd rfl h
    | 1, 1, _, _, h => exact absurd rfl h
    | 2, 2, _, _, h => exact absurd rfl h
  · intro j h
    match j, h with
    | 0, _ => exact n0
    | 1, _ => exact n1
    | 2, _ => exact n2
  · intro j h
    match j, h with
    | 0, _ => exact s0
    | 1, _ => exact s1
    | 2, _ => exact s2

theorem _root_.Go.Proofs.YtkkadknijjninaaDoor.Row.ownB {w : World} {g base n : Nat} {l : List UInt8} (h : Row w g 5 (l.map B8)) (hb : base ≤ g) (hn : l.length = n) (hm : n ≤ maxLen) : OwnB w base (.slice (some ⟨g, 0, none⟩) n n) l := by
  subst hn
  have := h.owns (base := base) (n := l.length) (cap := l.length) hb (by simp) (Nat.le_refl _) hm
  rw [List.take_of_length_le (by simp)] at this
  exact this

theorem _root_.Go.Proofs.YtkkadknijjninaaDoor.Row.ownRoom {w : World} {g base n : Nat} {l : List UInt8} (h : Row w g 5 (room l)) (hb : base ≤ g) (hn : l.length = n) (hm : n + 7 ≤ maxLen) : OwnB w base (.slice (some ⟨g, 0, none⟩) n (n + 7)) l := by
  subst hn
  have := h.owns (base := base) (n := l.length) (cap := l.length + 7) hb (room_len l) (by omega) hm
  have e : (room l).take l.length = l.map B8 := by
    unfold room
    rw [List.take_append_of_le_length (by simp), List.take_of_length_le (by simp)]
  rw [e] at this
  exact this
end Go.Proofs.YtkkadknijjninaaDoor.Ap
