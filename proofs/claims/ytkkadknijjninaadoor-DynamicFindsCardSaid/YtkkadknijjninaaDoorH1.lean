
/- Contracts of the reference of package words over bytes in memory. -/
import Derived.Test.YtkkadknijjninaaDoorG1
import Derived.Test.YtkkadknijjninaaDoorR1
namespace Go.Proofs.YtkkadknijjninaaDoor
open Go.RowKit

set_option maxHeartbeats 400000 in
theorem place_any (a : Option Addr) (len cap : Nat) (p n : Int) (w : World) (hl : len ≤ 9223372036854775807) :
    Calls Tryd.prog 45 #[.slice a len cap, .int .u64 p, .int .i64 n] w fun e w' => e = .returned (.int .i64 (chk len p n)) ∧ w = w' := by
  by_cases h : isSz n = true
  · have hn := isSz_cases h
    have h1 : 1 ≤ n := by omega
    have h8 : n ≤ 8 := by omega
    have H := hid h; clear h
    have hb : insB p n len = true ∨ insB p n len = false := by cases insB p n len <;> simp
    rcases hn with rfl | rfl | rfl | rfl <;> rcases hb with hi | hi
    all_goals
      go_enter Tryd.func45, Tryd.ntmps45
      go_wp2_with (go_at_call 41; refine (rinside_any _ _ _ _ (by omega) (by omega)).mono ?_; rintro e w' ⟨rfl, rfl⟩)
      go_ret
      exact ⟨ret_i64 (by unfold chk; rw [if_pos H.out, hi]; rfl), rfl⟩
  · have h' : isSz n = false := by simpa using h
    have h2 : n ≠ 1 ∧ n ≠ 2 ∧ n ≠ 4 ∧ n ≠ 8 := by simpa [isSz] using h'
    have e1 : (n != 1) = true := by simpa using h2.1
    have e2 : (n != 2) = true := by simpa using h2.2.1
    have e3 : (n != 4) = true := by simpa using h2.2.2.1
    have e4 : (n != 8) = true := by simpa using h2.2.2.2
    clear h h2
    have H := hid h'; clear h'
    go_enter Tryd.func45, Tryd.ntmps45
    go_wp2
    go_ret
    exact ⟨ret_i64 (by unfold chk; rw [if_neg (by rw [H.out]; decide)]), rfl⟩

set_option maxHeartbeats 400000 in
theorem rget_no (a : Option Addr) (len cap : Nat) (p n : Int) (w : World) (hl : len ≤ 9223372036854775807) (hc : (chk len p n == 0) = false) :
    Calls Tryd.prog 59 #[.slice a len cap, .int .u64 p, .int .i64 n] w fun e w' => e = .returned (.tuple #[.int .u64 0, .int .i64 (chk len p n)]) ∧ w = w' := by
  have hc' : (chk len p n != 0) = true := by simpa using hc
  go_enter Tryd.func59, Tryd.ntmps59
  go_wp2_with (go_at_call 45; refine (place_any _ _ _ _ _ _ hl).mono ?_; rintro e w' ⟨rfl, rfl⟩)
  go_ret2
  exact ⟨rfl, rfl⟩

set_option maxHeartbeats 1000000 in
theorem rget_yes (b off len cap : Nat) (p n : Int) (l : List UInt8) (w : World) (hl : len ≤ 9223372036854775807) (hb : l.length = len) (hcell : ∀ i (h : i < l.length), w.cell? ⟨b, off + i, none⟩ = some (.int .u8 (l[i].toNat : Int))) (hp : 0 ≤ p) (hc : chk len p n = 0) :
    Calls Tryd.prog 59 #[.slice (some ⟨b, off, none⟩) len cap, .int .u64 p, .int .i64 n] w fun e w' => e = .returned (.tuple #[.int .u64 (le ((l.drop p.toNat).take n.toNat) : Nat), .int .i64 0]) ∧ w = w' := by
  obtain ⟨hz, hn, hpn⟩ := chk_zero hc
  have hn8 := isSz_cases hz
  have h1 : 1 ≤ n := by omega
  have h8 : n ≤ 8 := by omega
  obtain ⟨m, rfl⟩ := Int.eq_ofNat_of_zero_le (show 0 ≤ n by omega)
  obtain ⟨q, rfl⟩ := Int.eq_ofNat_of_zero_le hp
  have hc' : (chk len q m != 0) = false := by simpa using hc
  have HC := hid hc; clear hc hn8
  go_enter Tryd.func59, Tryd.ntmps59
  go_wp2_with (go_at_call 45; refine (place_any _ _ _ _ _ _ hl).mono ?_; rintro e w' ⟨rfl, rfl⟩)
  go_loop [9, 10] (fun x i => ∃ k : Nat, k ≤ m ∧ i = .int .i64 ((k : Int) - 1) ∧ x = .int .u64 (le ((l.drop (q + k)).take (m - k)) : Nat)) (fun _ i => (intOf i + 1).toNat)
  case atStart => exact ⟨m, Nat.le_refl _, rfl, by simp [le]⟩
  case round =>
    obtain ⟨k, hk, rfl, rfl⟩ := hrel
    rcases Nat.eq_zero_or_pos k with rfl | hpos
    · go_wp2
      go_ret2
      exact ⟨rfl, rfl⟩
    · obtain ⟨j, rfl⟩ : ∃ j, k = j + 1 := ⟨k - 1, by omega⟩
      have hqk : q + j < l.length := by omega
      have hx := hcell (q + j) hqk
      have HT := hid (le_drop l q j m hqk (by omega))
      have hs7 := le_small (l.drop (q + (j + 1))) (m - (j + 1)) (by omega)
      have HO := hid (push_byte (le ((l.drop (q + (j + 1))).take (m - (j + 1)))) l[q + j].toNat hs7 (UInt8.toNat_lt _))
      go_wp2
      go_round
      case rel => exact ⟨j, by omega, rfl, by rw [HO.out, HT.out]⟩
      case measure => simp [intOf]

theorem rget_any (a : Option Addr) (len cap : Nat) (p n : Int) (l : List UInt8) (w : World) (hl : len ≤ 9223372036854775807) (hB : Byt w a len l) (hp : 0 ≤ p) :
    Calls Tryd.prog 59 #[.slice a len cap, .int .u64 p, .int .i64 n] w fun e w' => e = .returned (.tuple #[.int .u64 (wgetV l p n), .int .i64 (chk len p n)]) ∧ w = w' := by
  obtain rfl := hB.hlen
  by_cases hc : chk l.length p n = 0
  · obtain ⟨hz, hn, hpn⟩ := chk_zero hc
    have hn8 := isSz_cases hz
    obtain ⟨b, off, rfl, hcell⟩ := hB.some_of (by omega)
    have e : wgetV l p n = (le ((l.drop p.toNat).take n.toNat) : Nat) := by unfold wgetV; rw [if_pos hc]
    rw [e, hc]
    exact rget_yes b off _ cap p n l w hl rfl hcell hp hc
  · have e : wgetV l p n = 0 := by unfold wgetV; rw [if_neg hc]
    rw [e]
    exact rget_no a _ cap p n w hl (by simpa using hc)
end Go.Proofs.YtkkadknijjninaaDoor
