/- The walk of WordsBack. -/
import Derived.Test.YtneppfggbaiglaaDoorK1
import Derived.Deep.RegionHeld3
import Derived.Deep.QuietTactic
import Derived.BigQuiet
namespace Go.Proofs.YtneppfggbaiglaaDoor
open Go.RowKit

set_option maxHeartbeats 1000000 in
theorem wordsBack_big (a : Option Addr) (len cap : Nat) (p n x : Int) (w : World) (hs : Sizes w) (h : ¬ (len : Int) ≤ 8192) (hl : len ≤ 140737488351232) :
    Calls Tryd.prog 7 #[.agg #[.slice a len cap, .int .u64 p, .int .i64 n, .int .u64 x]] w fun e w' => e = .returned (.bool true) ∧ Below w.heap.size w w' := by
  have hb0 : ∀ o, Below w.heap.size w (w.alloc o) := fun o => (Below.refl _ w).alloc (Nat.le_refl _) o
  have H := hid hb0
  clear hb0
  go_enter Tryd.func7, Tryd.ntmps7
  go_wp2_with fail
  refine (works_any _ (hs.below (H.out _))).mono ?_
  rintro e w' ⟨rfl, hw⟩
  go_wp2
  go_ret
  exact ⟨rfl, bthen (H.out _) hw⟩

set_option maxHeartbeats 1000000 in
theorem wordsBack_no (a : Option Addr) (len cap : Nat) (p n x : Int) (l : List UInt8) (w : World) (hs : Sizes w) (hB : Byt w a len l) (hp : 0 ≤ p) (h : (len : Int) ≤ 8192) (hl : len ≤ 140737488351232) (hc : (chk len p n == 0) = false) :
    Calls Tryd.prog 7 #[.agg #[.slice a len cap, .int .u64 p, .int .i64 n, .int .u64 x]] w fun e w' => e = .returned (.bool true) ∧ Below w.heap.size w w' := by
  have hb0 : ∀ o, Below w.heap.size w (w.alloc o) := fun o => (Below.refl _ w).alloc (Nat.le_refl _) o
  have H := hid hb0
  clear hb0
  go_enter Tryd.func7, Tryd.ntmps7
  go_wp2_with fail
  go_region_held3 (fun w' => w'.cell? ⟨w.heap.size, 0, none⟩ = some (.slice a len cap) ∧ w'.cell? ⟨w.heap.size, 1, none⟩ = some (.int .u64 p) ∧ w'.cell? ⟨w.heap.size, 2, none⟩ = some (.int .i64 n) ∧ w'.cell? ⟨w.heap.size, 3, none⟩ = some (.int .u64 x))
    (first | go_keep | (refine ⟨?_, ?_, ?_, ?_⟩ <;> (rw [hb1.cell (by simp)]; go_keep)))
    (first | (go_at_call 28; refine (copyBytes_byt _ _ _ l _ (hB.below' (by exact (H.out _).drew)) hl).mono ?_; rintro e w1 ⟨a1, cap1, rfl, hv, hb1⟩) | (go_at_call 14; refine (set_no _ _ _ _ _ _ _ ((hs.below (by exact (H.out _).drew)).below hb1) (by omega) hc).mono ?_; rintro e w' ⟨rfl, rfl⟩))
  have hb2 := (H.out (.cells #[.slice a len cap, .int .u64 p, .int .i64 n, .int .u64 x] 32)).drew.trans (hb1.mono (by simp))
  obtain ⟨c0, c1, c2, c3⟩ : w1.cell? ⟨w.heap.size, 0, none⟩ = some (.slice a len cap) ∧ w1.cell? ⟨w.heap.size, 1, none⟩ = some (.int .u64 p) ∧ w1.cell? ⟨w.heap.size, 2, none⟩ = some (.int .i64 n) ∧ w1.cell? ⟨w.heap.size, 3, none⟩ = some (.int .u64 x) := by assumption
  have hs1 := hs.below hb2
  have hB1 := hB.below' hb2
  have hc2 : (chk len p n != 0) = true := by simpa using hc
  have hc3 : (chk len p n == chk len p n) = true := by simp
  clear hb1 hv
  go_wp2_with fail
  refine (get_any _ _ _ _ _ l _ hs1 (by omega) hB1 hp).mono ?_
  rintro e w' ⟨rfl, rfl⟩
  have hg0 : getV l p n = 0 := by
    unfold getV
    rw [hB.hlen, if_neg]
    simpa using hc
  rw [hg0]
  go_wp2_with (go_at_call 9; refine (works_any _ hs1).mono ?_; rintro e w' ⟨rfl, hw⟩)
  go_ret
  exact ⟨rfl, bthen hb2 hw⟩

set_option maxRecDepth 100000 in
set_option maxHeartbeats 4000000 in
theorem wordsBack_yes (b off len cap q m y : Nat) (l : List UInt8) (w : World) (hs : Sizes w) (hlen : l.length = len) (hcell : ∀ i (h : i < l.length), w.cell? ⟨b, off + i, none⟩ = some (.int .u8 (l[i].toNat : Int))) (h : (len : Int) ≤ 8192) (hy : (y : Int) ≤ 18446744073709551615) (hc : chk len q m = 0) :
    Calls Tryd.prog 7 #[.agg #[.slice (some ⟨b, off, none⟩) len cap, .int .u64 q, .int .i64 m, .int .u64 y]] w fun e w' => e = .returned (.bool true) ∧ Below w.heap.size w w' := by
  subst hlen
  have hB : Byt w (some ⟨b, off, none⟩) l.length l := ⟨rfl, fun i hi => ⟨b, off, rfl, hcell i hi⟩⟩
  obtain ⟨hz, hn, hpn⟩ := chk_zero hc
  have hn8 := isSz_cases hz
  have h1 : 1 ≤ m := by omega
  have h8 : m ≤ 8 := by omega
  have hb0 : ∀ o, Below w.heap.size w (w.alloc o) := fun o => (Below.refl _ w).alloc (Nat.le_refl _) o
  have H := hid hb0
  have HC := hid hc
  have HN8 := hid hn8
  have HZ := hid hz
  have HCELL := hid hcell
  clear hb0 hc hn8 hz hcell
  go_enter Tryd.func7, Tryd.ntmps7
  go_wp2_with fail
  go_region_held3 (fun w' => w'.cell? ⟨w.heap.size, 0, none⟩ = some (.slice (some ⟨b, off, none⟩) l.length cap) ∧ w'.cell? ⟨w.heap.size, 1, none⟩ = some (.int .u64 q) ∧ w'.cell? ⟨w.heap.size, 2, none⟩ = some (.int .i64 m) ∧ w'.cell? ⟨w.heap.size, 3, none⟩ = some (.int .u64 y))
    (first | go_keep | (refine ⟨?_, ?_, ?_, ?_⟩ <;> (rw [hb2.cell (by have := hb1.size; simp at this; simp; omega)]; rw [hb1.cell (by simp)]; go_keep)) | (refine ⟨?_, ?_, ?_, ?_⟩ <;> (rw [hb1.cell (by simp)]; go_keep)))
    (first | (go_at_call 28; refine (copyBytes_byt _ _ _ l _ (hB.below' (by exact (H.out _).drew)) (by omega)).mono ?_; rintro e w1 ⟨a1, cap1, rfl, hv, hb1⟩) | (go_at_call 14; refine (set_yes _ _ _ _ _ _ l _ ((hs.below (by exact (H.out _).drew)).below hb1) (by omega) hv (by omega) (by omega) HC.out).mono ?_; rintro e w2 ⟨rfl, hr2, hb2⟩))
  have hb3 := ((H.out (.cells #[.slice (some ⟨b, off, none⟩) l.length cap, .int .u64 q, .int .i64 m, .int .u64 y] 32)).drew.trans (hb1.mono (by simp))).trans (hb2.mono (by have := hb1.size; simp at this; omega))
  obtain ⟨c0, c1, c2, c3⟩ : w2.cell? ⟨w.heap.size, 0, none⟩ = some (.slice (some ⟨b, off, none⟩) l.length cap) ∧ w2.cell? ⟨w.heap.size, 1, none⟩ = some (.int .u64 q) ∧ w2.cell? ⟨w.heap.size, 2, none⟩ = some (.int .i64 m) ∧ w2.cell? ⟨w.heap.size, 3, none⟩ = some (.int .u64 y) := by assumption
  have hs2 := hs.below hb3
  have hB2 := hB.below' hb3
  generalize w1.heap.size = g2 at hr2 ⊢
  have HB3 := hid hb3
  clear hv hb1 hb2 hs hB hb3 w1
  have hg : ∀ (l' : List UInt8), l'.length = l.length → getV l' q m = (le ((l'.drop q).take m) : Nat) := fun l' e => by
    unfold getV
    rw [e, if_pos HC.out]
    simp
  have HG := hid hg
  have hbb : Byt w2 (some ⟨g2, 0, none⟩) l.length (putB l q y m) := Row.byt (rest := []) (by simpa using hr2) (putB_len l q y m (by omega))
  clear hg
  go_wp2_with fail
  refine (get_any _ _ _ _ _ l _ hs2 (by omega) hB2 (by omega)).mono ?_
  rintro e w' ⟨rfl, rfl⟩
  rw [HG.out l rfl, HC.out]
  go_wp2_with fail
  refine (get_any _ _ _ _ _ (putB l q y m) _ hs2 (by omega) hbb (by omega)).mono ?_
  rintro e w' ⟨rfl, rfl⟩
  rw [HG.out _ (putB_len l q y m (by omega)), HC.out, putB_mid l q y m (by omega), le_leB]
  by_cases hm : m = 8
  · have e8 : y % 256 ^ m = y := by subst hm; exact Nat.mod_eq_of_lt (by omega)
    have hm8 : ¬ (m : Int) < 8 := by omega
    rw [e8]
    have HY := hid hy
    clear e8 hm hy
    go_wp2_with fail
    go_loopw [9] (fun i wr => ∃ k : Nat, k ≤ l.length ∧ i = .int .i64 k ∧ ∃ n, wr = w2.drewN n) (fun i _ => l.length - (intOf i).toNat)
    case atStart => exact ⟨0, Nat.zero_le _, rfl, 0, rfl⟩
    case round =>
      obtain ⟨k, hk, rfl, n, rfl⟩ := hrel
      by_cases hlt : k < l.length
      · have hx := HCELL.out k hlt
        have hxl := World.block_lt_of_cell? w _ hx
        have hx2 : _ = _ := (HB3.out.cell hxl).trans hx
        have hpl : k < (putB l q y m).length := by rw [putB_len l q y m (by omega)]; exact hlt
        obtain ⟨_, _, e9, hy2⟩ := hbb.cell k hpl
        cases e9
        simp only [Nat.zero_add] at hy2
        have HX := hid hxl
        clear hx hxl
        by_cases hsame : (putB l q y m)[k] = l[k]
        · rw [hsame] at hy2
          clear hsame
          go_wp2_with fail
          go_quiet (fail)
          go_wp2_with fail
          go_roundw
          case rel => exact ⟨k + 1, by omega, by go_num, n + nq, by simp [World.drewN, Nat.add_assoc]⟩
          case measure => simp [intOf]; omega
        · have hne : (((putB l q y m)[k].toNat : Int) != (l[k].toNat : Int)) = true := by
            rw [bne_iff_ne]
            intro e
            exact hsame (UInt8.toNat_inj.1 (by omega))
          have hin : ¬ (k < q ∨ q + m ≤ k) := fun ho => hsame (putB_out l q y m k (by omega) hlt ho)
          have ht1 : decide ((k : Int) < (q : Int)) = false := by simp; omega
          have ht2 : decide ((q : Int) + (m : Int) ≤ (k : Int)) = false := by simp; omega
          have ht5 : decide (k < q) = false := by simp; omega
          have ht6 : decide (q + m ≤ k) = false := by simp; omega
          have ht3 : (k : Int) < (q : Int) + (m : Int) := by omega
          have ht4 : (q : Int) ≤ (k : Int) := by omega
          clear hsame hin
          generalize (putB l q y m)[k].toNat = u9 at hne hy2
          generalize l[k].toNat = v9 at hne hx2
          go_wp2_with fail
          go_quiet (fail)
          go_wp2_with fail
          go_roundw
          case rel => exact ⟨k + 1, by omega, by go_num, n + nq, by simp [World.drewN, Nat.add_assoc]⟩
          case measure => simp [intOf]; omega
      · have hb4 := bdN HB3.out n
        have hs4 := hs2.below (bdN (Below.refl _ _) n)
        have hbb4 := hbb.below' (bdN (Below.refl _ _) n)
        have d0 : (w2.drewN n).cell? ⟨w.heap.size, 0, none⟩ = some (.slice (some ⟨b, off, none⟩) l.length cap) := c0
        have d1 : (w2.drewN n).cell? ⟨w.heap.size, 1, none⟩ = some (.int .u64 q) := c1
        have d2 : (w2.drewN n).cell? ⟨w.heap.size, 2, none⟩ = some (.int .i64 m) := c2
        have hB4 := hB2.below' (bdN (Below.refl _ _) n)
        have hxx : ((putB l q y m).length) = l.length := putB_len l q y m (by omega)
        have HXX := hid hxx
        clear hxx c0 c1 c2 c3 hB2 hbb hs2 hr2
        generalize w2.drewN n = w3 at *
        go_wp2_with fail
        refine (set_yes _ _ _ _ _ _ (putB l q y m) _ hs4 (by omega) hbb4 (by omega) (by omega) HC.out).mono ?_
        rintro e w4 ⟨rfl, hr5, hb5⟩
        have hs5 := hs4.below hb5
        have hbb5 : Byt w4 (some ⟨w3.heap.size, 0, none⟩) l.length l := Row.byt (rest := []) (by simpa [putB_back l q y m (by omega)] using hr5) rfl
        have hB5 := hB4.below' hb5
        have hb6 := bthen hb4 hb5
        have f0 := (hb5.cell (World.block_lt_of_cell? w3 _ d0)).trans d0
        clear hr5 hb5 hs4 hbb4 hB4 hb4 d0 d1 d2
        generalize w3.heap.size = g5 at *
        go_wp2_with fail
        refine (eqBytes_any _ _ _ _ _ _ l l _ hbb5 hB5 (by omega) (by omega)).mono ?_
        rintro e w6 ⟨rfl, n6, rfl⟩
        rw [eqB_self]
        go_wp2_with fail
        refine (works_any _ (hs5.below (bdN (Below.refl _ _) n6))).mono ?_
        rintro e w6 ⟨rfl, hw6⟩
        go_wp2
        go_ret
        exact ⟨rfl, bthenN hb6 hw6⟩
  · have hm8 : (m : Int) < 8 := by omega
    have hw := wrap_pow m (by omega)
    have hnz := pow_ne m
    have HY := hid hy
    clear hm hy
    go_wp2_with fail
    clear hw hnz
    go_loopw [9] (fun i wr => ∃ k : Nat, k ≤ l.length ∧ i = .int .i64 k ∧ ∃ n, wr = w2.drewN n) (fun i _ => l.length - (intOf i).toNat)
    case atStart => exact ⟨0, Nat.zero_le _, rfl, 0, rfl⟩
    case round =>
      obtain ⟨k, hk, rfl, n, rfl⟩ := hrel
      by_cases hlt : k < l.length
      · have hx := HCELL.out k hlt
        have hxl := World.block_lt_of_cell? w _ hx
        have hx2 : _ = _ := (HB3.out.cell hxl).trans hx
        have hpl : k < (putB l q y m).length := by rw [putB_len l q y m (by omega)]; exact hlt
        obtain ⟨_, _, e9, hy2⟩ := hbb.cell k hpl
        cases e9
        simp only [Nat.zero_add] at hy2
        have HX := hid hxl
        clear hx hxl
        by_cases hsame : (putB l q y m)[k] = l[k]
        · rw [hsame] at hy2
          clear hsame
          go_wp2_with fail
          go_quiet (fail)
          go_wp2_with fail
          go_roundw
          case rel => exact ⟨k + 1, by omega, by go_num, n + nq, by simp [World.drewN, Nat.add_assoc]⟩
          case measure => simp [intOf]; omega
        · have hne : (((putB l q y m)[k].toNat : Int) != (l[k].toNat : Int)) = true := by
            rw [bne_iff_ne]
            intro e
            exact hsame (UInt8.toNat_inj.1 (by omega))
          have hin : ¬ (k < q ∨ q + m ≤ k) := fun ho => hsame (putB_out l q y m k (by omega) hlt ho)
          have ht1 : decide ((k : Int) < (q : Int)) = false := by simp; omega
          have ht2 : decide ((q : Int) + (m : Int) ≤ (k : Int)) = false := by simp; omega
          have ht5 : decide (k < q) = false := by simp; omega
          have ht6 : decide (q + m ≤ k) = false := by simp; omega
          have ht3 : (k : Int) < (q : Int) + (m : Int) := by omega
          have ht4 : (q : Int) ≤ (k : Int) := by omega
          clear hsame hin
          generalize (putB l q y m)[k].toNat = u9 at hne hy2
          generalize l[k].toNat = v9 at hne hx2
          go_wp2_with fail
          go_quiet (fail)
          go_wp2_with fail
          go_roundw
          case rel => exact ⟨k + 1, by omega, by go_num, n + nq, by simp [World.drewN, Nat.add_assoc]⟩
          case measure => simp [intOf]; omega
      · have hb4 := bdN HB3.out n
        have hs4 := hs2.below (bdN (Below.refl _ _) n)
        have hbb4 := hbb.below' (bdN (Below.refl _ _) n)
        have d0 : (w2.drewN n).cell? ⟨w.heap.size, 0, none⟩ = some (.slice (some ⟨b, off, none⟩) l.length cap) := c0
        have d1 : (w2.drewN n).cell? ⟨w.heap.size, 1, none⟩ = some (.int .u64 q) := c1
        have d2 : (w2.drewN n).cell? ⟨w.heap.size, 2, none⟩ = some (.int .i64 m) := c2
        have hB4 := hB2.below' (bdN (Below.refl _ _) n)
        have hxx : ((putB l q y m).length) = l.length := putB_len l q y m (by omega)
        have HXX := hid hxx
        clear hxx c0 c1 c2 c3 hB2 hbb hs2 hr2
        generalize w2.drewN n = w3 at *
        go_wp2_with fail
        refine (set_yes _ _ _ _ _ _ (putB l q y m) _ hs4 (by omega) hbb4 (by omega) (by omega) HC.out).mono ?_
        rintro e w4 ⟨rfl, hr5, hb5⟩
        have hs5 := hs4.below hb5
        have hbb5 : Byt w4 (some ⟨w3.heap.size, 0, none⟩) l.length l := Row.byt (rest := []) (by simpa [putB_back l q y m (by omega)] using hr5) rfl
        have hB5 := hB4.below' hb5
        have hb6 := bthen hb4 hb5
        have f0 := (hb5.cell (World.block_lt_of_cell? w3 _ d0)).trans d0
        clear hr5 hb5 hs4 hbb4 hB4 hb4 d0 d1 d2
        generalize w3.heap.size = g5 at *
        go_wp2_with fail
        refine (eqBytes_any _ _ _ _ _ _ l l _ hbb5 hB5 (by omega) (by omega)).mono ?_
        rintro e w6 ⟨rfl, n6, rfl⟩
        rw [eqB_self]
        go_wp2_with fail
        refine (works_any _ (hs5.below (bdN (Below.refl _ _) n6))).mono ?_
        rintro e w6 ⟨rfl, hw6⟩
        go_wp2
        go_ret
        exact ⟨rfl, bthenN hb6 hw6⟩

theorem wordsBack_walk (a : Option Addr) (len cap : Nat) (p n x : Int) (l : List UInt8) (w : World) (hs : Sizes w) (hB : Byt w a len l) (hl : len ≤ 140737488351232) (hp : 0 ≤ p) (hx : 0 ≤ x ∧ x ≤ 18446744073709551615) :
    Calls Tryd.prog 7 #[.agg #[.slice a len cap, .int .u64 p, .int .i64 n, .int .u64 x]] w fun e w' => e = .returned (.bool true) ∧ Below w.heap.size w w' := by
  by_cases h : (len : Int) ≤ 8192
  · by_cases hc : chk len p n = 0
    · obtain ⟨hz, hn, hpn⟩ := chk_zero hc
      have hn8 := isSz_cases hz
      obtain ⟨m, rfl⟩ := Int.eq_ofNat_of_zero_le (show 0 ≤ n by omega)
      obtain ⟨q, rfl⟩ := Int.eq_ofNat_of_zero_le hp
      obtain ⟨y, rfl⟩ := Int.eq_ofNat_of_zero_le hx.1
      obtain rfl := hB.hlen
      obtain ⟨b, off, rfl, hcell⟩ := hB.some_of (by omega)
      exact wordsBack_yes b off _ cap q m y l w hs rfl hcell h hx.2 hc
    · exact wordsBack_no a len cap p n x l w hs hB hp h hl (by simpa using hc)
  · exact wordsBack_big a len cap p n x w hs h hl
end Go.Proofs.YtneppfggbaiglaaDoor
