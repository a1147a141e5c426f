/- Contracts of package hostelref00: copies of bytes. -/
import Derived.Test.YtneppfggbaiglaaDoorS0
namespace Go.Proofs.YtneppfggbaiglaaDoor
open Go.RowKit

/-- A list of bytes of the call's own: nothing, or a new row. -/
def NewB (w w' : World) (v : Value) (l : List UInt8) : Prop :=
  (l = [] ∧ v = .slice none 0 0) ∨ (l ≠ [] ∧ v = .slice (some ⟨w.heap.size, 0, none⟩) l.length l.length ∧ Row w' w.heap.size 5 (l.map B8))

set_option maxHeartbeats 1000000 in
theorem copyBytes_any (a : Option Addr) (len cap : Nat) (l : List UInt8) (w : World) (hB : Byt w a len l) (hl : len ≤ 140737488351232) :
    Calls Tryd.prog 28 #[.slice a len cap] w fun e w' => ∃ v, e = .returned v ∧ NewB w w' v l ∧ Below w.heap.size w w' := by
  obtain rfl := hB.hlen
  by_cases h0 : l.length = 0
  · have hb0 : ((l.length : Int) == 0) = true := by rw [beq_iff_eq]; omega
    have hnil : l = [] := List.length_eq_zero_iff.1 h0
    have HN := hid hnil
    clear hnil h0
    go_enter Tryd.func28, Tryd.ntmps28
    go_wp2
    go_ret
    exact ⟨_, rfl, .inl ⟨HN.out, rfl⟩, Below.refl _ _⟩
  · have hb0 : ((l.length : Int) == 0) = false := by rw [beq_eq_false_iff_ne]; omega
    obtain ⟨bb, off, rfl, hcell⟩ := hB.some_of (by omega)
    go_enter Tryd.func28, Tryd.ntmps28
    go_wp2_with (at_make; refine wpList_make_row _ rfl _ _ 22 rfl 5 (.int .u8 0) 1 Tryd.underlying22 info5 rfl .i64 .i64 _ _ l.length rfl rfl (by omega) (by omega) (by omega) (by omega) ?_; intro w1 hr1 hb1 hs1)
    have hfz := fillD_full (l.map B8) (.int .u8 0)
    rw [List.length_map] at hfz
    rw [← hfz] at hr1
    clear hfz
    go_loopw [4] (fun i wr => ∃ k : Nat, k ≤ l.length ∧ i = .int .i64 ((k : Int) - 1) ∧ Row wr w.heap.size 5 (fillD (l.map B8) (.int .u8 0) k) ∧ Below w.heap.size w wr) (fun i _ => (intOf i + 1).toNat)
    case atStart => exact ⟨l.length, Nat.le_refl _, rfl, hr1, hb1⟩
    case round =>
      obtain ⟨k, hk, rfl, hr, hb⟩ := hrel
      rcases Nat.eq_zero_or_pos k with rfl | hpos
      · go_wp2
        go_ret
        rw [fillD_zero] at hr
        exact ⟨_, rfl, .inr ⟨by intro e; subst e; simp at hb0, rfl, hr⟩, hb⟩
      · obtain ⟨j, rfl⟩ : ∃ j, k = j + 1 := ⟨k - 1, by omega⟩
        have hj : j < l.length := by omega
        have hx := hcell j hj
        have hold := World.block_lt_of_cell? w _ hx
        have hx' : _ = _ := (hb.cell hold).trans hx
        have hfr := hr.frozen j
        have hc := hr.cell j (by rw [fillD_len _ _ _ (by simp; omega)]; simpa using hj)
        clear hx hold
        go_wp2
        go_roundw
        case rel => exact ⟨j, by omega, by go_num, hr.fillD (by simpa using hj) (map_at l j hj), hb.setCell (Nat.le_refl _) _⟩
        case measure => simp [intOf]

theorem NewB.byt {w w' : World} {v : Value} {l : List UInt8} (h : NewB w w' v l) : ∃ a cap, v = .slice a l.length cap ∧ Byt w' a l.length l := by
  rcases h with ⟨rfl, rfl⟩ | ⟨_, rfl, hr⟩
  · exact ⟨none, 0, rfl, Byt.nil _ _⟩
  · exact ⟨_, _, rfl, Row.byt (rest := []) (by simpa using hr) rfl⟩

theorem copyBytes_byt (a : Option Addr) (len cap : Nat) (l : List UInt8) (w : World) (hB : Byt w a len l) (hl : len ≤ 140737488351232) :
    Calls Tryd.prog 28 #[.slice a len cap] w fun e w' => ∃ a' cap', e = .returned (.slice a' len cap') ∧ Byt w' a' len l ∧ Below w.heap.size w w' := by
  refine (copyBytes_any a len cap l w hB hl).mono ?_
  rintro e w' ⟨v, rfl, hv, hb⟩
  obtain ⟨a', cap', rfl, h⟩ := hv.byt
  obtain rfl := hB.hlen
  exact ⟨a', cap', rfl, h, hb⟩
end Go.Proofs.YtneppfggbaiglaaDoor
