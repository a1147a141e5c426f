/- Contracts of the generic functions of package slices at []uint32. -/
import Derived.Test.YtjiaoppdpomjhaaRows
import Derived.Test.YtjiaoppdpomjhaaN
import Derived.Test.YtjiaoppdpomjhaaB2
import Derived.Deep.QuietTactic
import Derived.BigQuiet
namespace Go.Proofs.Ytjiaoppdpomjhaa
open Go.RowKit

def IdxPost (x : Int) (l : List Int) (w : World) (e : Ending) (w' : World) : Prop := ∃ r : Int, e = .returned (.int .i64 r) ∧ -1 ≤ r ∧ ((0 ≤ r) ↔ x ∈ l) ∧ w = w'

set_option maxHeartbeats 1000000 in
theorem index_any (a : Option Addr) (len cap : Nat) (x : Int) (l : List Int) (w : World) (hB : Nums w .u32 a len l) (hl : len ≤ 140737488351232) :
    Calls Try.prog 28 #[.slice a len cap, .int .u32 x] w (IdxPost x l w) := by
  obtain rfl := hB.hlen
  go_enter Try.func28, Try.ntmps28
  go_wp2
  go_loop [8] (fun i => ∃ k : Nat, k ≤ l.length ∧ i = .int .i64 k ∧ ∀ j (h : j < l.length), j < k → x ≠ l[j]) (fun i => l.length - (intOf i).toNat)
  case atStart => exact ⟨0, Nat.zero_le _, rfl, fun j h hj => by omega⟩
  case round =>
    obtain ⟨k, hk, rfl, hno⟩ := hrel
    by_cases hlt : k < l.length
    · obtain ⟨b, off, rfl, hcell⟩ := hB.some_of (by omega)
      have hx := hcell k hlt
      have HNO := hid hno
      clear hno hB hcell
      by_cases h : x = l[k]
      · have hb : (x == l[k]) = true := by simpa using h
        have HH := hid h
        clear h
        go_wp2
        go_ret
        exact ⟨k, rfl, by omega, ⟨fun _ => by rw [HH.out]; exact List.getElem_mem _, fun _ => by omega⟩, rfl⟩
      · have hb : (x == l[k]) = false := by simpa using h
        have HH := hid h
        clear h
        go_wp2
        go_round
        case rel =>
          refine ⟨k + 1, by omega, by go_num, fun j h hj => ?_⟩
          by_cases e : j = k
          · subst e; exact HH.out
          · exact HNO.out j h (by omega)
        case measure => simp [intOf]; omega
    · have HNO := hid hno
      clear hno
      go_wp2
      go_ret
      refine ⟨-1, rfl, by omega, ⟨fun h => by omega, fun h => ?_⟩, rfl⟩
      obtain ⟨j, hj, e⟩ := List.getElem_of_mem h
      exact absurd e.symm (HNO.out j hj (by omega))

def memB (x : Int) (l : List Int) : Bool := decide (x ∈ l)

set_option maxHeartbeats 1000000 in
theorem contains_any (a : Option Addr) (len cap : Nat) (x : Int) (l : List Int) (w : World) (hB : Nums w .u32 a len l) (hl : len ≤ 140737488351232) :
    Calls Try.prog 23 #[.slice a len cap, .int .u32 x] w fun e w' => e = .returned (.bool (memB x l)) ∧ w = w' := by
  go_enter Try.func23, Try.ntmps23
  go_wp2_with fail
  refine (index_any _ _ _ _ l _ hB hl).mono ?_
  rintro e w' ⟨r, rfl, hr, hm, rfl⟩
  have HM := hid hm
  clear hm
  go_wp2
  go_ret
  refine ⟨ret_bool ?_, rfl⟩
  unfold memB
  rw [decide_eq_decide]
  exact HM.out

def eqN (l m : List Int) : Bool := decide (l = m)

set_option maxHeartbeats 1000000 in
theorem equal_any (a c : Option Addr) (len cap len2 cap2 : Nat) (l m : List Int) (w : World) (hB : Nums w .u32 a len l) (hC : Nums w .u32 c len2 m) (hl : len ≤ 140737488351232) (hl2 : len2 ≤ 140737488351232) :
    Calls Try.prog 27 #[.slice a len cap, .slice c len2 cap2] w fun e w' => e = .returned (.bool (eqN l m)) ∧ ∃ n, w' = w.drewN n := by
  obtain rfl := hB.hlen
  obtain rfl := hC.hlen
  by_cases hle : l.length = m.length
  · have hd : ((l.length : Int) != (m.length : Int)) = false := by simp; omega
    have HLE := hid hle
    clear hle
    go_enter Try.func27, Try.ntmps27
    go_wp2
    go_loopw [13] (fun i wr => ∃ k : Nat, k ≤ l.length ∧ i = .int .i64 k ∧ l.take k = m.take k ∧ ∃ n, wr = w.drewN n) (fun i _ => l.length - (intOf i).toNat)
    case atStart => exact ⟨0, Nat.zero_le _, rfl, by simp, 0, rfl⟩
    case round =>
      obtain ⟨k, hk, rfl, he, n, rfl⟩ := hrel
      have HE := hid he; clear he
      by_cases h1 : k < l.length
      · have h2 : k < m.length := by rw [← HLE.out]; exact h1
        obtain ⟨b1, o1, rfl, hc1⟩ := hB.some_of (by omega)
        obtain ⟨b2, o2, rfl, hc2⟩ := hC.some_of (by omega)
        have hx := hc1 k h1
        have hy := hc2 k h2
        clear hB hC hc1 hc2
        by_cases h3 : l[k] = m[k]
        · have HT := hid (show l.take (k + 1) = m.take (k + 1) by rw [List.take_succ_eq_append_getElem h1, List.take_succ_eq_append_getElem h2, HE.out, h3])
          go_wp2
          go_quiet (fail)
          go_wp2
          go_roundw
          case rel => exact ⟨k + 1, by omega, by go_num, HT.out, n + nq, by simp [World.drewN, Nat.add_assoc]⟩
          case measure => simp [intOf]; omega
        · have h4 : (l[k] != m[k]) = true := by simpa using h3
          have HF := hid (show false = eqN l m by
            unfold eqN; rw [eq_comm, decide_eq_false_iff_not]; intro e; subst e; exact h3 rfl)
          clear h3
          go_wp2
          go_quiet (fail)
          go_wp2
          go_ret
          exact ⟨ret_bool HF.out, n + nq, by simp [World.drewN, Nat.add_assoc]⟩
      · have HF := hid (show true = eqN l m by
            unfold eqN; rw [eq_comm, decide_eq_true_eq]
            have := HE.out
            have e : k = l.length := by omega
            rwa [e, List.take_length, HLE.out, List.take_length] at this)
        go_wp2
        go_ret
        exact ⟨ret_bool HF.out, n, rfl⟩
  · have hd : ((l.length : Int) != (m.length : Int)) = true := by simp; omega
    have HF := hid (show false = eqN l m by
            unfold eqN; rw [eq_comm, decide_eq_false_iff_not]; intro e; subst e; exact hle rfl)
    clear hle
    go_enter Try.func27, Try.ntmps27
    go_wp2
    go_ret
    exact ⟨ret_bool HF.out, 0, rfl⟩
end Go.Proofs.Ytjiaoppdpomjhaa
