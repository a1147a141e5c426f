
/- Contracts of package words over bytes in memory. -/
import Derived.Test.YtkkadknijjninaaDoorW1
import Derived.Test.YtkkadknijjninaaDoorM1
namespace Go.Proofs.YtkkadknijjninaaDoor
open Go.RowKit

def chk (len : Int) (at' size : Int) : Int := if isSz size = true then (if insB at' size len = true then 0 else 24) else 1

theorem isSz_cases {n : Int} (h : isSz n = true) : n = 1 ∨ n = 2 ∨ n = 4 ∨ n = 8 := by simpa [isSz] using h

set_option maxHeartbeats 400000 in
theorem wcheck_any (a : Option Addr) (len cap : Nat) (p n : Int) (w : World) (hs : Sizes w) (hl : len ≤ 9223372036854775807) :
    Calls Tryd.prog 77 #[.slice a len cap, .int .u64 p, .int .i64 n] w fun e w' => e = .returned (.int .i64 (chk len p n)) ∧ w = w' := by
  by_cases h : isSz n = true
  · have hn := isSz_cases h
    have h1 : 1 ≤ n := by omega
    have h8 : n ≤ 8 := by omega
    clear hn
    by_cases hi : insB p n len = true
    · go_enter Tryd.func77, Tryd.ntmps77
      go_wp2_with (first | (go_at_call 79; refine (isSize_any _ _ hs).mono ?_; rintro e w' ⟨rfl, rfl⟩) | (go_at_call 47; refine (inside_any _ _ _ _ (by omega) (by omega)).mono ?_; rintro e w' ⟨rfl, rfl⟩))
      go_ret
      exact ⟨ret_i64 (by unfold chk; rw [if_pos h, if_pos hi]), rfl⟩
    · have hi' : insB p n len = false := by simpa using hi
      clear hi
      go_enter Tryd.func77, Tryd.ntmps77
      go_wp2_with (first | (go_at_call 79; refine (isSize_any _ _ hs).mono ?_; rintro e w' ⟨rfl, rfl⟩) | (go_at_call 47; refine (inside_any _ _ _ _ (by omega) (by omega)).mono ?_; rintro e w' ⟨rfl, rfl⟩))
      go_ret
      exact ⟨ret_i64 (by unfold chk; rw [if_pos h, if_neg (by rw [hi']; decide)]), rfl⟩
  · have h' : isSz n = false := by simpa using h
    clear h
    go_enter Tryd.func77, Tryd.ntmps77
    go_wp2_with (first | (go_at_call 79; refine (isSize_any _ _ hs).mono ?_; rintro e w' ⟨rfl, rfl⟩))
    go_ret
    exact ⟨ret_i64 (by unfold chk; rw [if_neg (by rw [h']; decide)]), rfl⟩

theorem chk_zero {len p n : Int} (h : chk len p n = 0) : isSz n = true ∧ n ≤ len ∧ p ≤ len - n := by
  unfold chk insB at h
  split at h
  · split at h
    · rename_i h1 h2; exact ⟨h1, by simpa using h2⟩
    · omega
  · omega

set_option maxHeartbeats 400000 in
theorem get_no (a : Option Addr) (len cap : Nat) (p n : Int) (w : World) (hs : Sizes w) (hl : len ≤ 9223372036854775807) (hc : (chk len p n == 0) = false) :
    Calls Tryd.prog 74 #[.slice a len cap, .int .u64 p, .int .i64 n] w fun e w' => e = .returned (.tuple #[.int .u64 0, .int .i64 (chk len p n)]) ∧ w = w' := by
  have hc' : (chk len p n != 0) = true := by simpa using hc
  go_enter Tryd.func74, Tryd.ntmps74
  go_wp2_with (go_at_call 77; refine (wcheck_any _ _ _ _ _ _ hs hl).mono ?_; rintro e w' ⟨rfl, rfl⟩)
  go_ret2
  exact ⟨rfl, rfl⟩

set_option maxHeartbeats 1000000 in
theorem get_yes (b off len cap : Nat) (p n : Int) (l : List UInt8) (w : World) (hs : Sizes w) (hl : len ≤ 9223372036854775807) (hb : l.length = len) (hcell : ∀ i (h : i < l.length), w.cell? ⟨b, off + i, none⟩ = some (.int .u8 (l[i].toNat : Int))) (hp : 0 ≤ p) (hc : chk len p n = 0) :
    Calls Tryd.prog 74 #[.slice (some ⟨b, off, none⟩) len cap, .int .u64 p, .int .i64 n] w fun e w' => e = .returned (.tuple #[.int .u64 (le ((l.drop p.toNat).take n.toNat) : Nat), .int .i64 0]) ∧ w = w' := by
  obtain ⟨hz, hn, hpn⟩ := chk_zero hc
  have hn8 := isSz_cases hz
  have h1 : 1 ≤ n := by omega
  have h8 : n ≤ 8 := by omega
  obtain ⟨m, rfl⟩ := Int.eq_ofNat_of_zero_le (show 0 ≤ n by omega)
  obtain ⟨q, rfl⟩ := Int.eq_ofNat_of_zero_le hp
  have hc' : (chk len q m != 0) = false := by simpa using hc
  have HC := hid hc; clear hc hn8
  go_enter Tryd.func74, Tryd.ntmps74
  go_wp2_with (go_at_call 77; refine (wcheck_any _ _ _ _ _ _ hs hl).mono ?_; rintro e w' ⟨rfl, rfl⟩)
  go_loop [9, 20] (fun x i => ∃ k : Nat, k ≤ m ∧ i = .int .u64 k ∧ x = .int .u64 (le ((l.drop q).take k) : Nat)) (fun _ i => m - (intOf i).toNat)
  case atStart => exact ⟨0, Nat.zero_le _, rfl, rfl⟩
  case round =>
    obtain ⟨k, hk, rfl, rfl⟩ := hrel
    by_cases hlt : k < m
    · have hqk : q + k < l.length := by omega
      have hx := hcell (q + k) hqk
      have HT := hid (le_take l q k hqk)
      have HO := hid (or_byte (le ((l.drop q).take k)) l[q + k].toNat k (by omega) (le_take_lt l q k (by omega)) (UInt8.toNat_lt _))
      go_wp2
      go_round
      case rel => exact ⟨k + 1, by omega, by go_num, by rw [HO.out, HT.out]⟩
      case measure => simp [intOf]; omega
    · have : k = m := by omega
      subst this
      go_wp2
      go_ret2
      exact ⟨rfl, rfl⟩

def wgetV (l : List UInt8) (p n : Int) : Int := if chk l.length p n = 0 then (le ((l.drop p.toNat).take n.toNat) : Nat) else 0

theorem get_any (a : Option Addr) (len cap : Nat) (p n : Int) (l : List UInt8) (w : World) (hs : Sizes w) (hl : len ≤ 9223372036854775807) (hB : Byt w a len l) (hp : 0 ≤ p) :
    Calls Tryd.prog 74 #[.slice a len cap, .int .u64 p, .int .i64 n] w fun e w' => e = .returned (.tuple #[.int .u64 (wgetV l p n), .int .i64 (chk len p n)]) ∧ w = w' := by
  obtain rfl := hB.hlen
  by_cases hc : chk l.length p n = 0
  · obtain ⟨hz, hn, hpn⟩ := chk_zero hc
    have hn8 := isSz_cases hz
    obtain ⟨b, off, rfl, hcell⟩ := hB.some_of (by omega)
    have e : wgetV l p n = (le ((l.drop p.toNat).take n.toNat) : Nat) := by unfold wgetV; rw [if_pos hc]
    rw [e, hc]
    exact get_yes b off _ cap p n l w hs hl rfl hcell hp hc
  · have e : wgetV l p n = 0 := by unfold wgetV; rw [if_neg hc]
    rw [e]
    exact get_no a _ cap p n w hs hl (by simpa using hc)

end Go.Proofs.YtkkadknijjninaaDoor
