
/- Contract of the reference's Set, for seats with bundles. -/
import Derived.Test.YtkkadknijjninaaDoorH1
import Derived.Test.YtkkadknijjninaaDoorKS
import Derived.Test.YtkkadknijjninaaDoorWS
namespace Go.Proofs.YtkkadknijjninaaDoor
open Go.RowKit Go.Proofs.YtkkadknijjninaaDoor.Ap

set_option maxHeartbeats 400000 in
theorem rset_no (a : Option Addr) (len cap : Nat) (p n x : Int) (w : World) (hl : len ≤ 9223372036854775807) (hc : (chk len p n == 0) = false) :
    Calls Tryd.prog 30 #[.slice a len cap, .int .u64 p, .int .i64 n, .int .u64 x] w fun e w' => e = .returned (.tuple #[.slice none 0 0, .int .i64 (chk len p n)]) ∧ w = w' := by
  have hc' : (chk len p n != 0) = true := by simpa using hc
  go_enter Tryd.func30, Tryd.ntmps30
  go_wp2_with (go_at_call 45; refine (place_any _ _ _ _ _ _ hl).mono ?_; rintro e w' ⟨rfl, rfl⟩)
  go_ret2
  exact ⟨rfl, rfl⟩

set_option maxHeartbeats 1000000 in
theorem rset_yes (a : Option Addr) (len cap : Nat) (p n x : Int) (l : List UInt8) (w : World) (hl : len ≤ 140737488351232) (hB : Byt w a len l) (hp : 0 ≤ p) (hx0 : 0 ≤ x) (hx1 : x ≤ 18446744073709551615) (hc : chk len p n = 0) :
    Calls Tryd.prog 30 #[.slice a len cap, .int .u64 p, .int .i64 n, .int .u64 x] w fun e w' => e = .returned (.tuple #[.slice (some ⟨w.heap.size, 0, none⟩) len len, .int .i64 0]) ∧ Row w' w.heap.size 5 ((putB l p.toNat x.toNat n.toNat).map B8) ∧ Below w.heap.size w w' := by
  obtain rfl := hB.hlen
  obtain ⟨hz, hn, hpn⟩ := chk_zero hc
  have hn8 := isSz_cases hz
  have h1 : 1 ≤ n := by omega
  have h8 : n ≤ 8 := by omega
  obtain ⟨m, rfl⟩ := Int.eq_ofNat_of_zero_le (show 0 ≤ n by omega)
  obtain ⟨q, rfl⟩ := Int.eq_ofNat_of_zero_le hp
  obtain ⟨y, rfl⟩ := Int.eq_ofNat_of_zero_le hx0
  have hc' : (chk l.length q m != 0) = false := by simpa using hc
  have HC := hid hc; clear hc hn8
  have HX := hid hx1; clear hx1
  go_enter Tryd.func30, Tryd.ntmps30
  go_wp2_with (go_at_call 45; refine (place_any _ _ _ _ _ _ (by omega)).mono ?_; rintro e w' ⟨rfl, rfl⟩)
  refine (copyBytes_any _ _ _ l _ hB hl).mono ?_
  rintro e w2 ⟨v, rfl, hv, hb2⟩
  obtain ⟨rfl, hr2⟩ : v = .slice (some ⟨w.heap.size, 0, none⟩) l.length l.length ∧ Row w2 w.heap.size 5 (l.map B8) := by
    rcases hv with ⟨rfl, _⟩ | ⟨_, h, h'⟩
    · simp at hn; omega
    · exact ⟨h, h'⟩
  clear hv
  rw [← putB_zero l q y] at hr2
  go_wp2_with fail
  go_loopw [3, 12] (fun x i wr => ∃ k : Nat, k ≤ m ∧ i = .int .i64 k ∧ x = .int .u64 ((y / 256 ^ k : Nat) : Int) ∧ Row wr w.heap.size 5 ((putB l q y k).map B8) ∧ Below w.heap.size w wr) (fun _ i _ => m - (intOf i).toNat)
  case atStart => exact ⟨0, Nat.zero_le _, rfl, by simp, hr2, hb2⟩
  case round =>
    obtain ⟨k, hk, rfl, rfl, hr, hb⟩ := hrel
    by_cases hlt : k < m
    · have hqk : q + k < l.length := by omega
      have hlen : q + k < ((putB l q y k).map B8).length := by rw [List.length_map, putB_len _ _ _ _ (by omega)]; exact hqk
      have hfr := hr.frozen (q + k)
      have hcx := hr.cell (q + k) hlen
      have hset := hid (hr.set (q + k) (B8 (byteAt y k)))
      have hmb := hid (mod_byte y k)
      have hds := hid (div_step y k)
      have hle : ((y / 256 ^ k : Nat) : Int) ≤ 18446744073709551615 := by
        have h1 := Nat.div_le_self y (256 ^ k)
        have h2 := HX.out
        omega
      generalize hz9 : y / 256 ^ k = z9 at hmb hds hle ⊢
      have HZ9 := hid hz9
      clear hz9
      go_wp2
      go_roundw
      case rel =>
        refine ⟨k + 1, by omega, by go_num, by rw [← hds.out]; congr 1, ?_, hb.setCell (Nat.le_refl _) _⟩
        have h2 := hset.out
        rw [← List.map_set, putB_set l q y k hqk] at h2
        rw [hmb.out]
        exact h2
      case measure => simp [intOf]; omega
    · have e : k = m := by omega
      subst e
      go_wp2
      go_ret2
      exact ⟨rfl, hr, hb⟩

theorem rset_new (g n x : Nat) (w : World) (hn : n = 1 ∨ n = 2 ∨ n = 4 ∨ n = 8) (hx : x < 18446744073709551616) (hB : Byt w (some ⟨g, 0, none⟩) n (List.replicate n 0)) :
    Calls Tryd.prog 30 #[.slice (some ⟨g, 0, none⟩) n n, .int .u64 0, .int .i64 n, .int .u64 x] w fun e w' => e = .returned (.tuple #[.slice (some ⟨w.heap.size, 0, none⟩) n n, .int .i64 0]) ∧ Row w' w.heap.size 5 ((leB x n).map B8) ∧ Below w.heap.size w w' := by
  have hz : isSz (n : Int) = true := by unfold isSz; rcases hn with rfl | rfl | rfl | rfl <;> rfl
  have hc : chk (n : Int) 0 (n : Int) = 0 := by
    unfold chk
    rw [if_pos hz, show insB 0 (n : Int) (n : Int) = true by unfold insB; simp, if_pos rfl]
  have := rset_yes (some ⟨g, 0, none⟩) n n 0 n x (List.replicate n 0) w (by omega) hB (by omega) (by omega) (by omega) hc
  rwa [show (0 : Int).toNat = 0 from rfl, Int.toNat_natCast, Int.toNat_natCast, putB_all] at this
end Go.Proofs.YtkkadknijjninaaDoor
