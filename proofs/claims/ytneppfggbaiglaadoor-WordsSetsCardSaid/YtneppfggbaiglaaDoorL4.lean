/- The walk of WordsSets. -/
import Derived.Test.YtneppfggbaiglaaDoorK1
import Derived.Test.YtneppfggbaiglaaDoorH2
import Derived.Test.YtneppfggbaiglaaDoorS4
namespace Go.Proofs.YtneppfggbaiglaaDoor
open Go.RowKit

set_option maxHeartbeats 2000000 in
theorem wordsSets_yes (a : Option Addr) (len cap : Nat) (p n x : Int) (l : List UInt8) (w : World) (hs : Sizes w) (hB : Byt w a len l) (hl : (len : Int) ≤ 131072) (hp : 0 ≤ p) (hx : 0 ≤ x) (hx1 : x ≤ 18446744073709551615) (hc : chk len p n = 0) :
    Calls Tryd.prog 4 #[.agg #[.slice a len cap, .int .u64 p, .int .i64 n, .int .u64 x]] w fun e w' => e = .returned (.bool true) ∧ Below w.heap.size w w' := by
  have hb0 : ∀ o, Below w.heap.size w (w.alloc o) := fun o => (Below.refl _ w).alloc (Nat.le_refl _) o
  have hB0 : ∀ o, Byt (w.alloc o) a len l := fun o => hB.below' (hb0 o)
  have hs0 : ∀ o, Sizes (w.alloc o) := fun o => hs.below (hb0 o)
  have H := hid hb0
  have HB := hid hB0
  have HC := hid hc
  have HX := hid hx1
  clear hb0 hB0 hc hx1
  go_enter Tryd.func4, Tryd.ntmps4
  go_wp2_with fail
  refine (roomy_any _ _ _ l _ (HB.out _) (by omega)).mono ?_
  rintro e w1 ⟨rfl, hr1, hb1⟩
  have row0 := Row.new w 32 [.slice a len cap, .int .u64 p, .int .i64 n, .int .u64 x]
  have row1 := row0.below hb1 row0.lt
  obtain ⟨c0, c1, c2, c3⟩ := row1.four
  have hb2 := bthen (H.out _) hb1
  have hlen := hB.hlen
  have hs1 := hs.below hb2
  have hB1 := hB.below' hb2
  have hBr : Byt w1 (some ⟨w.heap.size + 1, 0, none⟩) len l := by
    have h := hr1
    unfold room at h
    rw [World.size_alloc] at h
    exact h.byt hlen
  rw [World.size_alloc] at hr1 hb1
  have hin := hr1.lt
  have hb1s := hb1.size
  rw [World.size_alloc] at hb1s
  have K2 := hid hb2
  clear hs0 hb1 hb2 row0
  go_wp2_with fail
  refine (set_yes _ _ _ _ _ _ l _ hs1 (by omega) hBr hp hx HC.out).mono ?_
  rintro e w2 ⟨rfl, ra, hb2⟩
  have K3 := hid (bthen K2.out hb2)
  have row2 := row1.below hb2 row1.lt
  have hr2 := hr1.below hb2 hr1.lt
  obtain ⟨c0', c1', c2', c3'⟩ := row2.four
  have hs2 := hs1.below hb2
  have hB2 := hB.below' K3.out
  have ga := ra.lt
  clear c0 c1 c2 c3 row1 hr1 hs1 hB1 hBr hb2
  generalize hga : w1.heap.size = g1 at *
  go_wp2_with fail
  refine (rset_yes _ _ _ _ _ _ l _ (by omega) hB2 hp hx HX.out HC.out).mono ?_
  rintro e w3 ⟨rfl, rb, hb3⟩
  have K4 := hid (bthen K3.out hb3)
  have row3 := row2.below hb3 row2.lt
  have hr3 := hr2.below hb3 hr2.lt
  have ra3 := ra.below hb3 ra.lt
  obtain ⟨c0, c1, c2, c3⟩ := row3.four
  have hs3 := hs2.below hb3
  have hB3 := hB.below' K4.out
  have gb := rb.lt
  clear c0' c1' c2' c3' row2 hr2 hs2 hB2 hb3 ra hga
  generalize hgb : w2.heap.size = g2 at *
  clear hgb
  go_wp2_with fail
  obtain ⟨hz, hn, hpn⟩ := chk_zero HC.out
  have hn8 := isSz_cases hz
  have hPB : (putB l p.toNat x.toNat n.toNat).length = len := by rw [putB_len _ _ _ _ (by omega)]; exact hlen
  have HPB := hid hPB
  have hBa : Byt w3 (some ⟨g1, 0, none⟩) len (putB l p.toNat x.toNat n.toNat) := Row.byt (rest := []) (by simpa using ra3) hPB
  have hBb : Byt w3 (some ⟨g2, 0, none⟩) len (putB l p.toNat x.toNat n.toNat) := Row.byt (rest := []) (by simpa using rb) hPB
  refine (eqBytes_any _ _ _ _ _ _ _ _ _ hBa hBb (by omega) (by omega)).mono ?_
  rintro e w4 ⟨rfl, m4, rfl⟩
  rw [eqB_self]
  have hBc := hB3.below' (bdN (Below.refl _ _) m4)
  have hlk := hid hlen
  have hw3 : w3.heap.size = (w3.drewN m4).heap.size := rfl
  replace hr3 := hr3.drewN m4
  replace row3 := row3.drewN m4
  replace ra3 := ra3.drewN m4
  replace K4 : Hid (Below w.heap.size w (w3.drewN m4)) := hid (bdN K4.out m4)
  replace hs3 := hs3.below (bdN (Below.refl _ _) m4)
  clear hBa hBb rb hlen hPB hz hn hpn hn8 hB3 gb c0 c1 c2 c3 hw3
  obtain ⟨w4, hw4⟩ : ∃ w4, w4 = w3.drewN m4 := ⟨_, rfl⟩
  rw [← hw4] at hBc hr3 row3 ra3 K4 hs3 ⊢
  clear hw4
  obtain ⟨c0, c1, c2, c3⟩ := row3.four
  go_wp2_with fail
  refine (kept_any _ _ _ _ _ _ l l _ hlk.out rfl hr3 hBc (by omega) (by omega)).mono ?_
  rintro e w5 ⟨rfl, m5, rfl⟩
  rw [eqB_self]
  replace hr3 := hr3.drewN m5
  replace row3 := row3.drewN m5
  replace ra3 := ra3.drewN m5
  replace K4 : Hid (Below w.heap.size w (w4.drewN m5)) := hid (bdN K4.out m5)
  replace hs3 := hs3.below (bdN (Below.refl _ _) m5)
  clear c0 c1 c2 c3 hBc
  obtain ⟨w5, hw5⟩ : ∃ w5, w5 = w4.drewN m5 := ⟨_, rfl⟩
  rw [← hw5] at hr3 row3 ra3 K4 hs3 ⊢
  clear hw5
  obtain ⟨c0, c1, c2, c3⟩ := row3.four
  go_wp2_with fail
  have hBr : Byt w5 (some ⟨w.heap.size + 1, 0, none⟩) len l := by
    have h := hr3
    unfold room at h
    exact h.byt hlk.out
  refine (set_yes _ _ _ _ _ _ l _ hs3 (by omega) hBr hp hx HC.out).mono ?_
  rintro e w6 ⟨rfl, rc, hb6⟩
  replace hr3 := hr3.below hb6 hr3.lt
  have ra6 := ra3.below hb6 ra3.lt
  replace K4 := hid (bthen K4.out hb6)
  replace hs3 := hs3.below hb6
  have hg5 := ra3.lt
  clear c0 c1 c2 c3 hBr hb6 row3 ra3
  generalize w5.heap.size = g5 at *
  have hgc := rc.lt
  go_wp2_with fail
  have K7 := K4.out.alloc K4.out.size (.cells #[.slice (some ⟨g1, 0, none⟩) len len, .slice (some ⟨g5, 0, none⟩) len len, .slice (some ⟨w.heap.size + 1, 0, none⟩) len (len + 7)] 22)
  have hmax : len + 7 ≤ maxLen := by unfold maxLen; omega
  have hpl := HPB.out
  have hll := hlk.out
  have hL : Lists (w6.alloc (.cells #[.slice (some ⟨g1, 0, none⟩) len len, .slice (some ⟨g5, 0, none⟩) len len, .slice (some ⟨w.heap.size + 1, 0, none⟩) len (len + 7)] 22)) w.heap.size w6.heap.size _ _ :=
    Lists.three (Row.new w6 22 [.slice (some ⟨g1, 0, none⟩) len len, .slice (some ⟨g5, 0, none⟩) len len, .slice (some ⟨w.heap.size + 1, 0, none⟩) len (len + 7)])
      ((ra6.alloc _).ownB (by omega) hpl (by omega)) ((rc.alloc _).ownB (by omega) hpl (by omega)) ((hr3.alloc _).ownRoom (by omega) hll hmax)
      (.inr (by simp [Value.ownBlock]; omega)) (.inr (by simp [Value.ownBlock]; omega)) (.inr (by simp [Value.ownBlock]; omega)) (.inr (by simp [Value.ownBlock]; omega)) (.inr (by simp [Value.ownBlock]; omega)) (.inr (by simp [Value.ownBlock]; omega))
      (by simp [Value.ownBlock]; omega) (by simp [Value.ownBlock]; omega) (by simp [Value.ownBlock]; omega) (by omega) (by omega) (by omega)
  have hss := K4.out.size
  clear hpl hll
  refine (apart_any 3 w6.heap.size w.heap.size _ _ _ hL rfl (by omega) hss (by simp only [World.size_alloc]; omega)).mono ?_
  rintro e w8 ⟨rfl, hb8⟩
  have K8 := K7.trans hb8
  have hs8 := hs.below K8
  clear hL K7 hr3 ra6 rc hs3
  go_wp2_with fail
  refine (works_any _ hs8).mono ?_
  rintro e w9 ⟨rfl, hb9⟩
  go_wp2
  go_ret
  exact ⟨rfl, bthen K8 hb9⟩

set_option maxHeartbeats 2000000 in
theorem wordsSets_no (a : Option Addr) (len cap : Nat) (p n x : Int) (l : List UInt8) (w : World) (hs : Sizes w) (hB : Byt w a len l) (hl : (len : Int) ≤ 131072) (hc : (chk len p n == 0) = false) :
    Calls Tryd.prog 4 #[.agg #[.slice a len cap, .int .u64 p, .int .i64 n, .int .u64 x]] w fun e w' => e = .returned (.bool true) ∧ Below w.heap.size w w' := by
  have hb0 : ∀ o, Below w.heap.size w (w.alloc o) := fun o => (Below.refl _ w).alloc (Nat.le_refl _) o
  have hB0 : ∀ o, Byt (w.alloc o) a len l := fun o => hB.below' (hb0 o)
  have H := hid hb0
  have HB := hid hB0
  have HC := hid hc
  have hcc : (chk len p n != chk len p n) = false := by simp
  clear hb0 hB0 hc
  go_enter Tryd.func4, Tryd.ntmps4
  go_wp2_with fail
  refine (roomy_any _ _ _ l _ (HB.out _) (by omega)).mono ?_
  rintro e w1 ⟨rfl, hr1, hb1⟩
  have row0 := Row.new w 32 [.slice a len cap, .int .u64 p, .int .i64 n, .int .u64 x]
  have row1 := row0.below hb1 row0.lt
  obtain ⟨c0, c1, c2, c3⟩ := row1.four
  have hb2 := bthen (H.out _) hb1
  have hlen := hB.hlen
  have hs1 := hs.below hb2
  have hB1 := hB.below' hb2
  rw [World.size_alloc] at hr1 hb1
  have hin := hr1.lt
  have K2 := hid hb2
  have hlk := hid hlen
  clear hb1 hb2 row0 hlen
  go_wp2_with fail
  refine (set_no _ _ _ _ _ _ _ hs1 (by omega) HC.out).mono ?_
  rintro e w2 ⟨rfl, rfl⟩
  go_wp2_with fail
  refine (rset_no _ _ _ _ _ _ _ (by omega) HC.out).mono ?_
  rintro e w2 ⟨rfl, rfl⟩
  go_wp2_with fail
  refine (eqBytes_any _ _ _ _ _ _ [] [] _ (Byt.nil _ _) (Byt.nil _ _) (by omega) (by omega)).mono ?_
  rintro e w4 ⟨rfl, m4, rfl⟩
  rw [eqB_self]
  replace hr1 := hr1.drewN m4
  replace row1 := row1.drewN m4
  replace K2 : Hid (Below w.heap.size w (w1.drewN m4)) := hid (bdN K2.out m4)
  replace hs1 := hs1.below (bdN (Below.refl _ _) m4)
  replace hB1 := hB1.below' (bdN (Below.refl _ _) m4)
  clear c0 c1 c2 c3
  obtain ⟨w4, hw4⟩ : ∃ w4, w4 = w1.drewN m4 := ⟨_, rfl⟩
  rw [← hw4] at hr1 row1 K2 hs1 hB1 ⊢
  clear hw4
  obtain ⟨c0, c1, c2, c3⟩ := row1.four
  go_wp2_with fail
  refine (kept_any _ _ _ _ _ _ l l _ hlk.out rfl hr1 hB1 (by omega) (by omega)).mono ?_
  rintro e w5 ⟨rfl, m5, rfl⟩
  rw [eqB_self]
  replace hr1 := hr1.drewN m5
  replace row1 := row1.drewN m5
  replace K2 : Hid (Below w.heap.size w (w4.drewN m5)) := hid (bdN K2.out m5)
  replace hs1 := hs1.below (bdN (Below.refl _ _) m5)
  clear c0 c1 c2 c3 hB1
  obtain ⟨w5, hw5⟩ : ∃ w5, w5 = w4.drewN m5 := ⟨_, rfl⟩
  rw [← hw5] at hr1 row1 K2 hs1 ⊢
  clear hw5
  obtain ⟨c0, c1, c2, c3⟩ := row1.four
  go_wp2_with fail
  refine (set_no _ _ _ _ _ _ _ hs1 (by omega) HC.out).mono ?_
  rintro e w6 ⟨rfl, rfl⟩
  clear c0 c1 c2 c3 row1
  have hgr := hr1.lt
  go_wp2_with fail
  have K7 := K2.out.alloc K2.out.size (.cells #[.slice none 0 0, .slice none 0 0, .slice (some ⟨w.heap.size + 1, 0, none⟩) len (len + 7)] 22)
  have hmax : len + 7 ≤ maxLen := by unfold maxLen; omega
  have hll := hlk.out
  have hL : Lists (w5.alloc (.cells #[.slice none 0 0, .slice none 0 0, .slice (some ⟨w.heap.size + 1, 0, none⟩) len (len + 7)] 22)) w.heap.size w5.heap.size _ _ :=
    Lists.three (l0 := []) (l1 := []) (Row.new w5 22 [.slice none 0 0, .slice none 0 0, .slice (some ⟨w.heap.size + 1, 0, none⟩) len (len + 7)])
      (World.ownsRow_nil _ _ _ _) (World.ownsRow_nil _ _ _ _) ((hr1.alloc _).ownRoom (by omega) hll hmax)
      (.inl rfl) (.inl rfl) (.inl rfl) (.inl rfl) (.inr (by simp [Value.ownBlock])) (.inr (by simp [Value.ownBlock]))
      (by simp [Value.ownBlock]) (by simp [Value.ownBlock]) (by simp [Value.ownBlock]; omega) (by simp) (by simp) (by omega)
  have hss := K2.out.size
  clear hll
  refine (apart_any 3 w5.heap.size w.heap.size _ _ _ hL rfl (by omega) hss (by simp only [World.size_alloc]; omega)).mono ?_
  rintro e w8 ⟨rfl, hb8⟩
  have K8 := K7.trans hb8
  have hs8 := hs.below K8
  clear hL K7 hr1 hs1
  go_wp2_with fail
  refine (works_any _ hs8).mono ?_
  rintro e w9 ⟨rfl, hb9⟩
  go_wp2
  go_ret
  exact ⟨rfl, bthen K8 hb9⟩

set_option maxHeartbeats 1000000 in
theorem wordsSets_big (a : Option Addr) (len cap : Nat) (p n x : Int) (w : World) (hs : Sizes w) (h : ¬ (len : Int) ≤ 131072) (hl : len ≤ 140737488351232) :
    Calls Tryd.prog 4 #[.agg #[.slice a len cap, .int .u64 p, .int .i64 n, .int .u64 x]] w fun e w' => e = .returned (.bool true) ∧ Below w.heap.size w w' := by
  have hb0 : ∀ o, Below w.heap.size w (w.alloc o) := fun o => (Below.refl _ w).alloc (Nat.le_refl _) o
  have H := hid hb0
  clear hb0
  go_enter Tryd.func4, Tryd.ntmps4
  go_wp2_with fail
  refine (works_any _ (hs.below (H.out _))).mono ?_
  rintro e w' ⟨rfl, hw⟩
  go_wp2
  go_ret
  exact ⟨rfl, bthen (H.out _) hw⟩

theorem wordsSets_walk (a : Option Addr) (len cap : Nat) (p n x : Int) (l : List UInt8) (w : World) (hs : Sizes w) (hB : Byt w a len l) (hl : len ≤ 140737488351232) (hp : 0 ≤ p) (hx : 0 ≤ x ∧ x ≤ 18446744073709551615) :
    Calls Tryd.prog 4 #[.agg #[.slice a len cap, .int .u64 p, .int .i64 n, .int .u64 x]] w fun e w' => e = .returned (.bool true) ∧ Below w.heap.size w w' := by
  by_cases h : (len : Int) ≤ 131072
  · by_cases hc : chk len p n = 0
    · exact wordsSets_yes a len cap p n x l w hs hB h hp hx.1 hx.2 hc
    · exact wordsSets_no a len cap p n x l w hs hB h (by simpa using hc)
  · exact wordsSets_big a len cap p n x w hs h hl
end Go.Proofs.YtneppfggbaiglaaDoor
