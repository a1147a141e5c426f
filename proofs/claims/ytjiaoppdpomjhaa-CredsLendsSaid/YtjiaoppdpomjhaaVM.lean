/- CredsAgain. -/
import Derived.Test.YtjiaoppdpomjhaaV6
import Derived.Test.YtjiaoppdpomjhaaV9
import Derived.Test.YtjiaoppdpomjhaaVL
namespace Go.Proofs.Ytjiaoppdpomjhaa
open Go.RowKit

theorem own_nums2 {w : World} {base n : Nat} {E : TypeId} {k : IntKind} {v : Value} {l : List Int} (h : w.ownsRow base E 1 v n (l.map (Value.int k))) : ∃ a cap, v = .slice a n cap ∧ Nums w k a n l ∧ (a = none → cap = 0) := by
  have hl : l.length = n := by have := h.1; simpa using this
  rcases h.2 with ⟨rfl, h0⟩ | ⟨g, cap, cur, rfl, hb, hg, hnc, hcm, hcs, htake⟩
  · subst h0
    obtain rfl := List.length_eq_zero_iff.1 hl
    exact ⟨none, 0, rfl, Nums.nil _ _ _, fun _ => rfl⟩
  · refine ⟨some ⟨g, 0, none⟩, cap, rfl, ⟨hl, fun i hi => ⟨g, 0, rfl, ?_⟩⟩, fun h => by cases h⟩
    have hc := h.cellAt i (by omega)
    rw [Nat.zero_add, hc]
    simp [hi]

theorem five_put {w W5 : World} {b : Nat} {T : TypeId} {v0 v1 v2 v3 v4 : Value} (hW : W5 = w.alloc (.cells #[v0, v1, v2, v3, v4] T)) (hb : b = w.heap.size) :
    W5.cell? ⟨b, 0, none⟩ = some v0 ∧ W5.cell? ⟨b, 1, none⟩ = some v1 ∧ W5.cell? ⟨b, 2, none⟩ = some v2 ∧ W5.cell? ⟨b, 3, none⟩ = some v3 ∧ W5.cell? ⟨b, 4, none⟩ = some v4 := by
  subst hW hb
  refine ⟨?_, ?_, ?_, ?_, ?_⟩ <;> simp

theorem lendE_twice (k m e uid : Int) : lendE k m (lendE k m e uid) uid = lendE k m e uid := by
  unfold lendE
  split <;> rfl

set_option maxHeartbeats 4000000 in
theorem credsAgain_walk (u e s g k m uid gid z : Int) (a : Option Addr) (len cap : Nat) (l : List Int) (w : World) (hB : Nums w .u32 a len l) (hcn : a = none → cap = 0) (hl : len ≤ 9223372036854775807) :
    Calls Try.prog 7 #[credV u e s g a len cap, nodeV k m uid gid z] w fun e' w' => e' = .returned (.bool true) ∧ Below w.heap.size w w' := by
  have hB2 : ∀ o1 o2, Nums ((w.alloc o1).alloc o2) .u32 a len l := fun o1 o2 => hB.below' (b2a o1 o2)
  have HB := hid hB2
  have HW := hid (@b2a w)
  have HLL := hid hB.hlen
  clear hB2 hB
  go_enter Try.func7, Try.ntmps7
  go_wp2_with fail
  obtain ⟨W2, hW2⟩ : ∃ W2, W2 = (w.alloc (.cells #[.int .u32 u, .int .u32 e, .int .u32 s, .int .u32 g, .slice a len cap] 25)).alloc (.cells #[.int .u8 k, .int .u16 m, .int .u32 uid, .int .u32 gid, .int .i64 z] 28) := ⟨_, rfl⟩
  rw [← hW2]
  obtain ⟨x0, x1, x2, x3, x4, y0, y1, y2, y3, y4⟩ : W2.cell? ⟨w.heap.size, 0, none⟩ = some (.int .u32 u) ∧ W2.cell? ⟨w.heap.size, 1, none⟩ = some (.int .u32 e) ∧ W2.cell? ⟨w.heap.size, 2, none⟩ = some (.int .u32 s) ∧ W2.cell? ⟨w.heap.size, 3, none⟩ = some (.int .u32 g) ∧ W2.cell? ⟨w.heap.size, 4, none⟩ = some (.slice a len cap) ∧
      W2.cell? ⟨w.heap.size + 1, 0, none⟩ = some (.int .u8 k) ∧ W2.cell? ⟨w.heap.size + 1, 1, none⟩ = some (.int .u16 m) ∧ W2.cell? ⟨w.heap.size + 1, 2, none⟩ = some (.int .u32 uid) ∧ W2.cell? ⟨w.heap.size + 1, 3, none⟩ = some (.int .u32 gid) ∧ W2.cell? ⟨w.heap.size + 1, 4, none⟩ = some (.int .i64 z) := by
    rw [hW2]; refine ⟨?_, ?_, ?_, ?_, ?_, ?_, ?_, ?_, ?_, ?_⟩ <;> simp
  have hBW : Nums W2 .u32 a len l := by rw [hW2]; exact HB.out _ _
  have hbW : Below w.heap.size w W2 := by rw [hW2]; exact HW.out _ _
  clear hW2 HB HW
  refine (large2_any _ _ _ _ _ _ _ _ hl).mono ?_
  rintro e' w1 ⟨rfl, hbx⟩
  obtain ⟨x0, x1, x2, x3, x4⟩ := five_keep hbx x0 x1 x2 x3 x4
  obtain ⟨y0, y1, y2, y3, y4⟩ := five_keep hbx y0 y1 y2 y3 y4
  have HB1 := hid (hBW.below' hbx)
  have HW1 := hid (bthen hbW hbx)
  clear hBW hbW hbx
  by_cases hlarge : 65536 < (len : Int)
  · have hd : decide (65536 < (len : Int)) = true := by simpa using hlarge
    rw [hd]
    go_wp2_with (go_at_call 9; refine (works_any _).mono ?_; rintro e' w' ⟨rfl, hw⟩)
    go_ret
    exact ⟨rfl, bthen HW1.out hw⟩
  · have hd : decide (65536 < (len : Int)) = false := by simpa using hlarge
    rw [hd]
    go_wp2_with fail
    refine (lend_any _ _ _ _ _ _ _ _ _ _ _ _ l _ HB1.out hcn (by omega)).mono ?_
    rintro e' w2 ⟨v, rfl, ho, hbx⟩
    obtain ⟨a9, c9, rfl, hN9, hn9⟩ := own_nums2 ho
    obtain ⟨x0, x1, x2, x3, x4⟩ := five_keep hbx x0 x1 x2 x3 x4
    obtain ⟨y0, y1, y2, y3, y4⟩ := five_keep hbx y0 y1 y2 y3 y4
    have HW2 := hid (bthen HW1.out hbx)
    have HN2 := hid hN9
    have q0 := World.block_lt_of_cell? _ _ x0
    have q1 := World.block_lt_of_cell? _ _ y0
    simp only [] at q0 q1
    clear hbx ho hN9 HW1 HB1
    go_wp2_with fail
    obtain ⟨W5, hW5⟩ : ∃ W5, W5 = w2.alloc (.cells #[.int .u32 u, .int .u32 (lendE k m e uid), .int .u32 (lendE k m e uid), .int .u32 g, .slice a9 l.length c9] 25) := ⟨_, rfl⟩
    have hb5 : Below w2.heap.size w2 W5 := by rw [hW5]; exact bal _
    obtain ⟨s0, s1, s2, s3, s4⟩ := five_put hW5 rfl
    rw [← hW5]
    obtain ⟨x0, x1, x2, x3, x4⟩ := five_keep hb5 x0 x1 x2 x3 x4
    obtain ⟨y0, y1, y2, y3, y4⟩ := five_keep hb5 y0 y1 y2 y3 y4
    have hs2 : w2.heap.size < W5.heap.size := World.block_lt_of_cell? _ _ s0
    have HN5 := hid (HN2.out.below' hb5)
    have HW5 := hid (bthen HW2.out hb5)
    clear hW5 hb5 HN2 HW2
    generalize w2.heap.size = G at *
    refine (lend_any _ _ _ _ _ _ _ _ _ _ _ _ l _ HN5.out hn9 (by rw [HLL.out]; omega)).mono ?_
    rintro e' w6 ⟨v, rfl, ho, hbx⟩
    rw [lendE_twice]
    obtain ⟨a8, c8, rfl, hN8, hn8⟩ := own_nums2 ho
    obtain ⟨x0, x1, x2, x3, x4⟩ := five_keep hbx x0 x1 x2 x3 x4
    obtain ⟨s0, s1, s2, s3, s4⟩ := five_keep hbx s0 s1 s2 s3 s4
    have HW6 := hid (bthen HW5.out hbx)
    have HN6 := hid (HN5.out.below' hbx)
    have HN8 := hid hN8
    have q0 := World.block_lt_of_cell? _ _ x0
    have q1 := World.block_lt_of_cell? _ _ s0
    simp only [] at q0 q1
    clear hbx ho hN8 HW5 HN5 y0 y1 y2 y3 y4 hs2
    go_wp2_with fail
    obtain ⟨W7, hW7⟩ : ∃ W7, W7 = w6.alloc (.cells #[.int .u32 u, .int .u32 (lendE k m e uid), .int .u32 (lendE k m e uid), .int .u32 g, .slice a8 l.length c8] 25) := ⟨_, rfl⟩
    have hb7 : Below w6.heap.size w6 W7 := by rw [hW7]; exact bal _
    rw [← hW7]
    obtain ⟨x0, x1, x2, x3, x4⟩ := five_keep hb7 x0 x1 x2 x3 x4
    obtain ⟨s0, s1, s2, s3, s4⟩ := five_keep hb7 s0 s1 s2 s3 s4
    have hlen : l.length ≤ 1048576 := by rw [HLL.out]; omega
    refine (same_eq _ _ _ _ _ _ _ l _ _ _ l _ (HN6.out.below' hb7) (HN8.out.below' hb7) hlen hlen).mono ?_
    rintro e' w8 ⟨rfl, hbx⟩
    rw [show sameB u (lendE k m e uid) (lendE k m e uid) g u (lendE k m e uid) (lendE k m e uid) g l l = true by simp [sameB, eqN]]
    obtain ⟨x0, x1, x2, x3, x4⟩ := five_keep hbx x0 x1 x2 x3 x4
    obtain ⟨s0, s1, s2, s3, s4⟩ := five_keep hbx s0 s1 s2 s3 s4
    have HW8 := hid (bthen HW6.out (bthen hb7 hbx))
    have hle : (l.length : Int) = (len : Int) := by rw [HLL.out]
    clear hW7 hb7 HN6 HN8 HW6 hbx hlen q0 q1
    generalize lendE k m e uid = E at *
    go_wp2_with (go_at_call 9; refine (works_any _).mono ?_; rintro e' w' ⟨rfl, hw⟩)
    go_ret
    exact ⟨rfl, bthen HW8.out hw⟩
end Go.Proofs.Ytjiaoppdpomjhaa
