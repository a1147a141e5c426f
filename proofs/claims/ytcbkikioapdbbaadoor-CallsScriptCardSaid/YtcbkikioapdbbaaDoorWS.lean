
/- Contract of words.Set, for seats with bundles. -/
import Derived.Test.YtcbkikioapdbbaaDoorG1
import Derived.Test.YtcbkikioapdbbaaDoorKA
namespace Go.Proofs.YtcbkikioapdbbaaDoor
open Go.RowKit

set_option maxHeartbeats 400000 in
theorem set_no (a : Option Addr) (len cap : Nat) (p n x : Int) (w : World) (hs : Sizes w) (hl : len ≤ 9223372036854775807) (hc : (chk len p n == 0) = false) :
    Calls Tryd.prog 60 #[.slice a len cap, .int .u64 p, .int .i64 n, .int .u64 x] w fun e w' => e = .returned (.tuple #[.slice none 0 0, .int .i64 (chk len p n)]) ∧ w = w' := by
  have hc' : (chk len p n != 0) = true := by simpa using hc
  go_enter Tryd.func60, Tryd.ntmps60
  go_wp2_with (go_at_call 70; refine (wcheck_any _ _ _ _ _ _ hs hl).mono ?_; rintro e w' ⟨rfl, rfl⟩)
  go_ret2
  exact ⟨rfl, rfl⟩

theorem infoU8w : (Tryd.prog.info? 5).map (fun i => (i.zero, i.size, i.bytes)) = some (some (.int .u8 0), 1, 1) := by kernel_rfl
theorem sizeU8w : (Tryd.prog.info? 5).map (·.size) = some 1 := by kernel_rfl

set_option maxHeartbeats 1000000 in
theorem set_yes (a : Option Addr) (len cap : Nat) (p n x : Int) (l : List UInt8) (w : World) (hs : Sizes w) (hl : len ≤ 140737488351232) (hB : Byt w a len l) (hp : 0 ≤ p) (hx0 : 0 ≤ x) (hc : chk len p n = 0) :
    Calls Tryd.prog 60 #[.slice a len cap, .int .u64 p, .int .i64 n, .int .u64 x] w fun e w' => e = .returned (.tuple #[.slice (some ⟨w.heap.size, 0, none⟩) len len, .int .i64 0]) ∧ Row w' w.heap.size 5 ((putB l p.toNat x.toNat n.toNat).map B8) ∧ Below w.heap.size w w' := by
  obtain rfl := hB.hlen
  obtain ⟨hz, hn, hpn⟩ := chk_zero hc
  have hn8 := isSz_cases hz
  have h1 : 1 ≤ n := by omega
  have h8 : n ≤ 8 := by omega
  obtain ⟨m, rfl⟩ := Int.eq_ofNat_of_zero_le (show 0 ≤ n by omega)
  obtain ⟨q, rfl⟩ := Int.eq_ofNat_of_zero_le hp
  obtain ⟨y, rfl⟩ := Int.eq_ofNat_of_zero_le hx0
  have hc' : (chk l.length q m != 0) = false := by simpa using hc
  have HC := hid hc; clear hc hn8
  go_enter Tryd.func60, Tryd.ntmps60
  go_wp2_with (first
    | (go_at_call 70; refine (wcheck_any _ _ _ _ _ _ hs (by omega)).mono ?_; rintro e w' ⟨rfl, rfl⟩)
    | (at_make; refine wpList_make_row _ rfl _ _ 24 rfl 5 (.int .u8 0) 1 Tryd.underlying24 infoU8w rfl .i64 .i64 _ _ l.length rfl rfl (by omega) (by omega) (by omega) (by omega) ?_; intro w1 hr1 hb1 hs1)
    | (with_reducible refine wpList_copy_row rfl _ _ 24 24 rfl 5 Tryd.underlying24 sizeU8w l.length _ _ w.heap.size a rfl rfl l (List.replicate l.length (.int .u8 0)) 5 hr1 (by simp) (hB.below' hb1) w.heap.size w hb1 (Nat.le_refl _) ?_; intro w2 hr2 hb2))
  rw [← putB_zero l q y] at hr2
  go_loopw [28] (fun i wr => ∃ k : Nat, k ≤ m ∧ i = .int .u64 k ∧ Row wr w.heap.size 5 ((putB l q y k).map B8) ∧ Below w.heap.size w wr) (fun i _ => m - (intOf i).toNat)
  case atStart => exact ⟨0, Nat.zero_le _, rfl, hr2, hb2⟩
  case round =>
    obtain ⟨k, hk, rfl, hr, hb⟩ := hrel
    by_cases hlt : k < m
    · have hqk : q + k < l.length := by omega
      have hlen : q + k < ((putB l q y k).map B8).length := by rw [List.length_map, putB_len _ _ _ _ (by omega)]; exact hqk
      have hfr := hr.frozen (q + k)
      have hcx := hr.cell (q + k) hlen
      have hset := hid (hr.set (q + k) (B8 (byteAt y k)))
      go_wp2
      go_roundw
      case rel =>
        refine ⟨k + 1, by omega, by go_num, ?_, hb.setCell (Nat.le_refl _) _⟩
        have h2 := hset.out
        rw [← List.map_set, putB_set l q y k hqk] at h2
        rw [shr_byte]
        exact h2
      case measure => simp [intOf]; omega
    · have e : k = m := by omega
      subst e
      go_wp2
      go_ret2
      exact ⟨rfl, hr, hb⟩

theorem putB_all (x : Nat) (n : Nat) : putB (List.replicate n 0) 0 x n = leB x n := by unfold putB; simp
/-- A number in new memory. -/
theorem set_new (g n x : Nat) (w : World) (hs : Sizes w) (hn : n = 1 ∨ n = 2 ∨ n = 4 ∨ n = 8) (hB : Byt w (some ⟨g, 0, none⟩) n (List.replicate n 0)) :
    Calls Tryd.prog 60 #[.slice (some ⟨g, 0, none⟩) n n, .int .u64 0, .int .i64 n, .int .u64 x] w fun e w' => e = .returned (.tuple #[.slice (some ⟨w.heap.size, 0, none⟩) n n, .int .i64 0]) ∧ Row w' w.heap.size 5 ((leB x n).map B8) ∧ Below w.heap.size w w' := by
  have hz : isSz (n : Int) = true := by unfold isSz; rcases hn with rfl | rfl | rfl | rfl <;> rfl
  have hc : chk (n : Int) 0 (n : Int) = 0 := by
    unfold chk
    rw [if_pos hz, show insB 0 (n : Int) (n : Int) = true by unfold insB; simp, if_pos rfl]
  have := set_yes (some ⟨g, 0, none⟩) n n 0 n x (List.replicate n 0) w hs (by omega) hB (by omega) (by omega) hc
  rwa [show (0 : Int).toNat = 0 from rfl, Int.toNat_natCast, Int.toNat_natCast, putB_all] at this
end Go.Proofs.YtcbkikioapdbbaaDoor
