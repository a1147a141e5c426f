
/- hostelref00: Roomy, EqBytes, Kept (as XS0). -/
import Derived.Test.YtcbkikioapdbbaaDoorRows
import Derived.Test.YtcbkikioapdbbaaDoorKA
import Derived.Deep.QuietTactic
import Derived.BigQuiet
namespace Go.Proofs.YtcbkikioapdbbaaDoor
open Go.RowKit

/-- What Roomy lays: the letters, then seven marks. -/
def room (l : List UInt8) : List Value := l.map B8 ++ [.int .u8 99, .int .u8 98, .int .u8 97, .int .u8 96, .int .u8 95, .int .u8 94, .int .u8 93]

theorem room_len (l : List UInt8) : (room l).length = l.length + 7 := by simp [room]

theorem room_at (l : List UInt8) (k : Nat) (h : k < l.length) : Value.int .u8 (l[k].toNat : Int) = (room l)[k]'(by rw [room_len]; omega) := by
  unfold room
  rw [List.getElem_append_left (by simpa using h)]
  simp [B8]
theorem room_behind (l : List UInt8) (j : Nat) (h : j < 7) : Value.int .u8 (99 - (j : Int)) = (room l)[l.length + j]'(by rw [room_len]; omega) := by
  unfold room
  rw [List.getElem_append_right (by simp)]
  simp only [List.length_map, Nat.add_sub_cancel_left]
  match j, h with
  | 0, _ | 1, _ | 2, _ | 3, _ | 4, _ | 5, _ | 6, _ => rfl

theorem info5 : (Tryd.prog.info? 5).map (fun i => (i.zero, i.size, i.bytes)) = some (some (.int .u8 0), 1, 1) := by kernel_rfl

set_option maxHeartbeats 1000000 in
theorem roomy_any (a : Option Addr) (len cap : Nat) (l : List UInt8) (w : World) (hB : Byt w a len l) (hl : len ≤ 140737488351232) :
    Calls Tryd.prog 20 #[.slice a len cap] w fun e w' => e = .returned (.slice (some ⟨w.heap.size, 0, none⟩) len (len + 7)) ∧ Row w' w.heap.size 5 (room l) ∧ Below w.heap.size w w' := by
  obtain rfl := hB.hlen
  go_enter Tryd.func20, Tryd.ntmps20
  go_wp2_with (at_make; refine wpList_make_row _ rfl _ _ 24 rfl 5 (.int .u8 0) 1 Tryd.underlying24 info5 rfl .i64 .i64 _ _ (l.length + 7) rfl rfl (by omega) (by omega) (by omega) (by omega) ?_; intro w1 hr1 hb1 hs1)
  have hfz := fill_zero (room l) (.int .u8 0)
  rw [room_len] at hfz
  rw [← hfz] at hr1
  clear hfz
  go_loopw [5] (fun i wr => ∃ k : Nat, k ≤ l.length + 7 ∧ i = .int .i64 k ∧ Row wr w.heap.size 5 (fill (room l) (.int .u8 0) k) ∧ Below w.heap.size w wr) (fun i _ => l.length + 7 - (intOf i).toNat)
  case atStart => exact ⟨0, Nat.zero_le _, rfl, hr1, hb1⟩
  case round =>
    obtain ⟨k, hk, rfl, hr, hb⟩ := hrel
    by_cases hlt : k < l.length
    · obtain ⟨bb, off, rfl, hcell⟩ := hB.some_of (by omega)
      have hx := hcell k hlt
      have hold := World.block_lt_of_cell? w _ hx
      have hx' : _ = _ := (hb.cell hold).trans hx
      have hfr := hr.frozen k
      have hc := hr.cell k (by rw [fill_len _ _ _ (by rw [room_len]; omega), room_len]; omega)
      clear hx hold
      go_wp2
      go_roundw
      case rel =>
        exact ⟨k + 1, by omega, by go_num, hr.fill (by rw [room_len]; omega) (room_at l k hlt), hb.setCell (Nat.le_refl _) _⟩
      case measure => simp [intOf]; omega
    · by_cases hlt7 : k < l.length + 7
      · obtain ⟨j, rfl⟩ : ∃ j, k = l.length + j := ⟨k - l.length, by omega⟩
        have hj : j < 7 := by omega
        have hfr := hr.frozen (l.length + j)
        have hc := hr.cell (l.length + j) (by rw [fill_len _ _ _ (by rw [room_len]; omega), room_len]; omega)
        go_wp2
        go_roundw
        case rel =>
          exact ⟨l.length + j + 1, by omega, by go_num, hr.fill (by rw [room_len]; omega) (by rw [← room_behind l j hj]; congr 1; omega), hb.setCell (Nat.le_refl _) _⟩
        case measure => simp [intOf]; omega
      · have e : k = l.length + 7 := by omega
        subst e
        go_wp2
        go_ret
        have hff := fill_full (room l) (.int .u8 0)
        rw [room_len] at hff
        rw [hff] at hr
        exact ⟨rfl, hr, hb⟩

/-- The two lists, held against one another by EqBytes. -/
def eqB (l m : List UInt8) : Bool := decide (l = m)

set_option maxHeartbeats 1000000 in
theorem eqBytes_any (a c : Option Addr) (len cap len2 cap2 : Nat) (l m : List UInt8) (w : World) (hB : Byt w a len l) (hC : Byt w c len2 m) (hl : len ≤ 140737488351232) (hl2 : len2 ≤ 140737488351232) :
    Calls Tryd.prog 18 #[.slice a len cap, .slice c len2 cap2] w fun e w' => e = .returned (.bool (eqB l m)) ∧ ∃ n, w' = w.drewN n := by
  obtain rfl := hB.hlen
  obtain rfl := hC.hlen
  go_enter Tryd.func18, Tryd.ntmps18
  go_wp2
  go_loopw [5] (fun i wr => ∃ k : Nat, k ≤ l.length ∧ k ≤ m.length ∧ i = .int .i64 k ∧ l.take k = m.take k ∧ ∃ n, wr = w.drewN n) (fun i _ => l.length - (intOf i).toNat)
  case atStart => exact ⟨0, Nat.zero_le _, Nat.zero_le _, rfl, by simp, 0, rfl⟩
  case round =>
    obtain ⟨k, hk, hk2, rfl, he, n, rfl⟩ := hrel
    have HE := hid he; clear he
    by_cases h1 : k < l.length
    · by_cases h2 : k < m.length
      · obtain ⟨b1, o1, rfl, hc1⟩ := hB.some_of (by omega)
        obtain ⟨b2, o2, rfl, hc2⟩ := hC.some_of (by omega)
        have hx := hc1 k h1
        have hy := hc2 k h2
        clear hB hC hc1 hc2
        by_cases h3 : l[k] = m[k]
        · have HT := hid (show l.take (k + 1) = m.take (k + 1) by rw [List.take_succ_eq_append_getElem h1, List.take_succ_eq_append_getElem h2, HE.out, h3])
          go_wp2
          go_quiet (fail)
          go_wp2
          go_roundw
          case rel => exact ⟨k + 1, by omega, by omega, by go_num, HT.out, n + nq, by simp [World.drewN, Nat.add_assoc]⟩
          case measure => simp [intOf]; omega
        · have h4 : ((l[k].toNat : Int) == (m[k].toNat : Int)) = false := by
            rw [beq_eq_false_iff_ne]
            intro e
            exact h3 (UInt8.toNat_inj.1 (by omega))
          have h5 : ((k : Int) == (l.length : Int)) = false := by rw [beq_eq_false_iff_ne]; omega
          have HF := hid (show false = eqB l m by
            unfold eqB; rw [eq_comm, decide_eq_false_iff_not]; intro e; subst e; exact h3 rfl)
          clear h3
          go_wp2
          go_quiet (fail)
          go_wp2
          go_ret
          exact ⟨ret_bool HF.out, n + nq, by simp [World.drewN, Nat.add_assoc]⟩
      · have h5 : ((k : Int) == (l.length : Int)) = false := by rw [beq_eq_false_iff_ne]; omega
        have h6 : decide ((k : Int) < (m.length : Int)) = false := by simp; omega
        have HF := hid (show false = eqB l m by
            unfold eqB; rw [eq_comm, decide_eq_false_iff_not]; intro e; subst e; omega)
        go_wp2
        go_quiet (fail)
        go_wp2
        go_ret
        exact ⟨ret_bool HF.out, n + nq, by simp [World.drewN, Nat.add_assoc]⟩
    · have e : k = l.length := by omega
      subst e
      by_cases h2 : l.length = m.length
      · have HF := hid (show true = eqB l m by
            unfold eqB; rw [eq_comm, decide_eq_true_eq]
            have := HE.out
            rwa [List.take_length, h2, List.take_length] at this)
        have h6 : ((l.length : Int) == (m.length : Int)) = true := by rw [beq_iff_eq]; omega
        have h7 : decide ((l.length : Int) < (l.length : Int)) = false := by simp
        clear h2
        go_wp2
        go_quiet (fail)
        go_wp2
        go_ret
        exact ⟨ret_bool HF.out, n + nq, by simp [World.drewN, Nat.add_assoc]⟩
      · have HF := hid (show false = eqB l m by
            unfold eqB; rw [eq_comm, decide_eq_false_iff_not]; intro e; subst e; omega)
        have h6 : ((l.length : Int) == (m.length : Int)) = false := by rw [beq_eq_false_iff_ne]; omega
        have h7 : decide ((l.length : Int) < (l.length : Int)) = false := by simp
        clear h2
        go_wp2
        go_quiet (fail)
        go_wp2
        go_ret
        exact ⟨ret_bool HF.out, n + nq, by simp [World.drewN, Nat.add_assoc]⟩

theorem eqB_self (l : List UInt8) : eqB l l = true := by simp [eqB]

set_option maxHeartbeats 1000000 in
theorem kept_any (g : Nat) (c : Option Addr) (len cap len2 cap2 : Nat) (l m : List UInt8) (w : World) (hlen : l.length = len) (hcap : cap = len + 7) (hR : Row w g 5 (room l)) (hC : Byt w c len2 m) (hl : len ≤ 140737488351232) (hl2 : len2 ≤ 140737488351232) :
    Calls Tryd.prog 23 #[.slice (some ⟨g, 0, none⟩) len cap, .slice c len2 cap2] w fun e w' => e = .returned (.bool (eqB l m)) ∧ ∃ n, w' = w.drewN n := by
  subst hlen
  subst hcap
  have hB : Byt w (some ⟨g, 0, none⟩) l.length l := by unfold room at hR; exact hR.byt rfl
  go_enter Tryd.func23, Tryd.ntmps23
  go_wp2
  go_loop [7, 8] (fun x i => ∃ j : Nat, j ≤ 7 ∧ i = .int .i64 ((l.length : Int) + j) ∧ x = .int .i64 (7 - j)) (fun _ i => l.length + 7 - (intOf i).toNat)
  case atStart => exact ⟨0, by omega, by simp, rfl⟩
  case round =>
    obtain ⟨j, hj, rfl, rfl⟩ := hrel
    by_cases h7 : j < 7
    · have hx := hR.cell (l.length + j) (by rw [room_len]; omega)
      rw [← room_behind l j h7] at hx
      have e1 : ((99 - (j : Int)) == (99 - ((l.length : Int) + j - l.length))) = true := by rw [beq_iff_eq]; omega
      go_wp2
      go_round
      case rel => exact ⟨j + 1, by omega, by congr 1 <;> omega, by congr 1 <;> omega⟩
      case measure => simp [intOf]; omega
    · have e7 : j = 7 := by omega
      subst e7
      go_wp2_with (go_at_call 18; refine (eqBytes_any _ _ _ _ _ _ l m _ hB hC hl hl2).mono ?_; rintro e w' ⟨rfl, n, rfl⟩)
      all_goals go_ret
      all_goals exact ⟨rfl, n, rfl⟩
end Go.Proofs.YtcbkikioapdbbaaDoor
