/- CredsLends. -/
import Derived.Test.YtjiaoppdpomjhaaVT
import Derived.Test.YtjiaoppdpomjhaaV7
import Derived.Deep.RegionHeld3
import Derived.Deep.DeepMust
import Derived.StillTailTactics
namespace Go.Proofs.Ytjiaoppdpomjhaa
open Go.RowKit Go.Sort

theorem csame_any (u e s g u' e2 s' g' : Int) (a : Option Addr) (len cap : Nat) (l : List Int) (a' : Option Addr) (len' cap' : Nat) (l' : List Int) (w : World) (hB : Nums w .u32 a len l) (hC : Nums w .u32 a' len' l') (hl : len ≤ 1048576) (hl' : len' ≤ 1048576) :
    Calls Try.prog 21 #[credV u e s g a len cap, credV u' e2 s' g' a' len' cap'] w fun e' w' => e' = .returned (.bool (sameB u e s g u' e2 s' g' l l')) ∧ Below w.heap.size w w' := by
  by_cases h : u = u' ∧ e = e2 ∧ s = s' ∧ g = g'
  · obtain ⟨rfl, rfl, rfl, rfl⟩ := h
    exact same_eq u e s g a len cap l a' len' cap' l' w hB hC hl hl'
  · refine same_ne u e s g u' e2 s' g' a len cap l a' len' cap' l' w hB hC ?_
    cases hb : (u == u' && (e == e2 && (s == s' && g == g')))
    · rfl
    · simp at hb; exact absurd hb h

/-- A world behind W, of which nothing that was there has turned. -/
def St (W w : World) : Prop := Below W.heap.size W w
theorem St.drew (W : World) : St W W.drew := (Below.refl _ W).drew
theorem St.step {W w w' : World} (h : St W w) (hb : Below w.heap.size w w') : St W w' := bthen h hb
theorem St.cell {W w : World} {a : Addr} {v : Value} (h : W.cell? a = some v) (hs : St W w) : w.cell? a = some v := keepC hs h
theorem St.five {W : World} {b : Nat} {v0 v1 v2 v3 v4 : Value} (h : W.cell? ⟨b, 0, none⟩ = some v0 ∧ W.cell? ⟨b, 1, none⟩ = some v1 ∧ W.cell? ⟨b, 2, none⟩ = some v2 ∧ W.cell? ⟨b, 3, none⟩ = some v3 ∧ W.cell? ⟨b, 4, none⟩ = some v4) :
    (∀ w, St W w → w.cell? ⟨b, 0, none⟩ = some v0) ∧ (∀ w, St W w → w.cell? ⟨b, 1, none⟩ = some v1) ∧ (∀ w, St W w → w.cell? ⟨b, 2, none⟩ = some v2) ∧ (∀ w, St W w → w.cell? ⟨b, 3, none⟩ = some v3) ∧ (∀ w, St W w → w.cell? ⟨b, 4, none⟩ = some v4) :=
  ⟨fun _ => St.cell h.1, fun _ => St.cell h.2.1, fun _ => St.cell h.2.2.1, fun _ => St.cell h.2.2.2.1, fun _ => St.cell h.2.2.2.2⟩
theorem St.nums {W w : World} {k : IntKind} {a : Option Addr} {len : Nat} {l : List Int} (h : Nums W k a len l) (hs : St W w) : Nums w k a len l := h.below' hs

set_option maxHeartbeats 4000000 in
theorem credsLends_walk (u e s g k m uid gid z u2 e2 s2 g2 : Int) (a : Option Addr) (len cap : Nat) (l : List Int) (a2 : Option Addr) (len2 cap2 : Nat) (l2 : List Int) (w : World) (hB : Nums w .u32 a len l) (hB2 : Nums w .u32 a2 len2 l2) (hcn : a = none → cap = 0) (hl : len ≤ 9223372036854775807) (hl2 : len2 ≤ 9223372036854775807) :
    Calls Try.prog 4 #[credV u e s g a len cap, nodeV k m uid gid z, credV u2 e2 s2 g2 a2 len2 cap2] w fun e' w' => e' = .returned (.bool true) ∧ Below w.heap.size w w' := by
  have HB := hid (fun o1 o2 o3 => hB.below' (b3a o1 o2 o3))
  have HB2 := hid (fun o1 o2 o3 => hB2.below' (b3a o1 o2 o3))
  have HW := hid (@b3a w)
  have HLL := hid hB.hlen
  clear hB2 hB
  go_enter Try.func4, Try.ntmps4
  go_wp2_with fail
  obtain ⟨W2, hW2⟩ : ∃ W2, W2 = ((w.alloc (.cells #[.int .u32 u, .int .u32 e, .int .u32 s, .int .u32 g, .slice a len cap] 25)).alloc (.cells #[.int .u8 k, .int .u16 m, .int .u32 uid, .int .u32 gid, .int .i64 z] 28)).alloc (.cells #[.int .u32 u2, .int .u32 e2, .int .u32 s2, .int .u32 g2, .slice a2 len2 cap2] 25) := ⟨_, rfl⟩
  rw [← hW2]
  obtain ⟨x0, x1, x2, x3, x4⟩ : W2.cell? ⟨w.heap.size, 0, none⟩ = some (.int .u32 u) ∧ W2.cell? ⟨w.heap.size, 1, none⟩ = some (.int .u32 e) ∧ W2.cell? ⟨w.heap.size, 2, none⟩ = some (.int .u32 s) ∧ W2.cell? ⟨w.heap.size, 3, none⟩ = some (.int .u32 g) ∧ W2.cell? ⟨w.heap.size, 4, none⟩ = some (.slice a len cap) := by
    rw [hW2]; refine ⟨?_, ?_, ?_, ?_, ?_⟩ <;> go_simp
  obtain ⟨y0, y1, y2, y3, y4⟩ : W2.cell? ⟨w.heap.size + 1, 0, none⟩ = some (.int .u8 k) ∧ W2.cell? ⟨w.heap.size + 1, 1, none⟩ = some (.int .u16 m) ∧ W2.cell? ⟨w.heap.size + 1, 2, none⟩ = some (.int .u32 uid) ∧ W2.cell? ⟨w.heap.size + 1, 3, none⟩ = some (.int .u32 gid) ∧ W2.cell? ⟨w.heap.size + 1, 4, none⟩ = some (.int .i64 z) := by
    rw [hW2]; refine ⟨?_, ?_, ?_, ?_, ?_⟩ <;> go_simp
  obtain ⟨o0, o1, o2, o3, o4⟩ : W2.cell? ⟨w.heap.size + 1 + 1, 0, none⟩ = some (.int .u32 u2) ∧ W2.cell? ⟨w.heap.size + 1 + 1, 1, none⟩ = some (.int .u32 e2) ∧ W2.cell? ⟨w.heap.size + 1 + 1, 2, none⟩ = some (.int .u32 s2) ∧ W2.cell? ⟨w.heap.size + 1 + 1, 3, none⟩ = some (.int .u32 g2) ∧ W2.cell? ⟨w.heap.size + 1 + 1, 4, none⟩ = some (.slice a2 len2 cap2) := by
    rw [hW2]; refine ⟨?_, ?_, ?_, ?_, ?_⟩ <;> go_simp
  have hBW : Nums W2 .u32 a len l := by rw [hW2]; exact HB.out _ _ _
  have hB2W : Nums W2 .u32 a2 len2 l2 := by rw [hW2]; exact HB2.out _ _ _
  have hbW : Below w.heap.size w W2 := by rw [hW2]; exact HW.out _ _ _
  clear hW2 HB HW HB2
  refine (large2_any _ _ _ _ _ _ _ _ hl).mono ?_
  rintro e' w1 ⟨rfl, hbx⟩
  obtain ⟨x0, x1, x2, x3, x4⟩ := five_keep hbx x0 x1 x2 x3 x4
  obtain ⟨y0, y1, y2, y3, y4⟩ := five_keep hbx y0 y1 y2 y3 y4
  obtain ⟨o0, o1, o2, o3, o4⟩ := five_keep hbx o0 o1 o2 o3 o4
  have HB1 := hid (hBW.below' hbx)
  have HB21 := hid (hB2W.below' hbx)
  have HW1 := hid (bthen hbW hbx)
  clear hBW hB2W hbW hbx
  by_cases hlarge : 65536 < (len : Int)
  · have hd : decide (65536 < (len : Int)) = true := by simpa using hlarge
    rw [hd]
    go_wp2_with (go_at_call 9; refine (works_any _).mono ?_; rintro e' w' ⟨rfl, hw⟩)
    go_ret
    exact ⟨rfl, bthen HW1.out hw⟩
  · have hd : decide (65536 < (len : Int)) = false := by simpa using hlarge
    rw [hd]
    go_wp2_with fail
    refine (large2_any _ _ _ _ _ _ _ _ hl2).mono ?_
    rintro e' w1b ⟨rfl, hbx⟩
    obtain ⟨x0, x1, x2, x3, x4⟩ := five_keep hbx x0 x1 x2 x3 x4
    obtain ⟨y0, y1, y2, y3, y4⟩ := five_keep hbx y0 y1 y2 y3 y4
    obtain ⟨o0, o1, o2, o3, o4⟩ := five_keep hbx o0 o1 o2 o3 o4
    have HB1 := hid (HB1.out.below' hbx)
    have HB21 := hid (HB21.out.below' hbx)
    have HW1 := hid (bthen HW1.out hbx)
    clear hbx
    by_cases hlarge2 : 65536 < (len2 : Int)
    · have hd : decide (65536 < (len2 : Int)) = true := by simpa using hlarge2
      rw [hd]
      go_wp2_with (go_at_call 9; refine (works_any _).mono ?_; rintro e' w' ⟨rfl, hw⟩)
      go_ret
      exact ⟨rfl, bthen HW1.out hw⟩
    · have hd2 : decide (65536 < (len2 : Int)) = false := by simpa using hlarge2
      rw [hd2]
      go_wp2_with fail
      refine (roomy_any _ _ _ _ _ _ _ l _ HB1.out hcn (by omega)).mono ?_
      rintro e' w2 ⟨G, c, rfl, ho, hbx⟩
      obtain ⟨x0, x1, x2, x3, x4⟩ := five_keep hbx x0 x1 x2 x3 x4
      obtain ⟨y0, y1, y2, y3, y4⟩ := five_keep hbx y0 y1 y2 y3 y4
      obtain ⟨o0, o1, o2, o3, o4⟩ := five_keep hbx o0 o1 o2 o3 o4
      have HN2 := hid (HB1.out.below' hbx)
      have HN22 := hid (HB21.out.below' hbx)
      have HW2 := hid (bthen HW1.out hbx)
      have HO := hid (kept_nums ho HLL.out)
      have q0 := World.block_lt_of_cell? _ _ x0
      have q1 := World.block_lt_of_cell? _ _ y0
      have q2 := World.block_lt_of_cell? _ _ o0
      simp only [] at q0 q1 q2
      clear hbx ho HB1 HB21 HW1 hd hd2
      go_wp2_with fail
      obtain ⟨W3, hW3⟩ : ∃ W5, W5 = w2.alloc (.cells #[.int .u32 u, .int .u32 e, .int .u32 s, .int .u32 g, .slice (some ⟨G, 0, none⟩) len c] 25) := ⟨_, rfl⟩
      have hb5 : Below w2.heap.size w2 W3 := by rw [hW3]; exact bal _
      obtain ⟨s0, s1, s2', s3, s4⟩ := five_put hW3 rfl
      rw [← hW3]
      obtain ⟨x0, x1, x2, x3, x4⟩ := five_keep hb5 x0 x1 x2 x3 x4
      obtain ⟨y0, y1, y2, y3, y4⟩ := five_keep hb5 y0 y1 y2 y3 y4
      obtain ⟨o0, o1, o2, o3, o4⟩ := five_keep hb5 o0 o1 o2 o3 o4
      have HN5 := hid (HN2.out.below' hb5)
      have HN25 := hid (HN22.out.below' hb5)
      have HW5 := hid (bthen HW2.out hb5)
      have HK1 := hid (HO.out.1.below' hb5)
      have HK2 := hid (HO.out.2.1.below' hb5)
      have HK3 := hid (HO.out.2.2)
      have HLE : Hid (len ≤ 65536) := hid (by omega)
      have HLE2 : Hid (len2 ≤ 65536) := hid (by omega)
      clear hW3 hb5 q0 q1 q2 HN2 HN22 HW2 HO
      generalize w2.heap.size = H at *
      have HX3 := hid (And.intro x0 (And.intro x1 (And.intro x2 (And.intro x3 x4))))
      have HS3 := hid (And.intro s0 (And.intro s1 (And.intro s2' (And.intro s3 s4))))
      have HN3 := HN5
      have HK13 := HK1
      have HW3 := HW5
      refine (lend_any _ _ _ _ _ _ _ _ _ _ _ _ l _ HK2.out (by intro h; cases h) (by omega)).mono ?_
      rintro e' w4 ⟨v, rfl, ho4, hbx⟩
      obtain ⟨a9, c9, rfl, hN9⟩ := own_nums ho4
      obtain ⟨x0, x1, x2, x3, x4⟩ := five_keep hbx x0 x1 x2 x3 x4
      obtain ⟨y0, y1, y2, y3, y4⟩ := five_keep hbx y0 y1 y2 y3 y4
      obtain ⟨o0, o1, o2, o3, o4⟩ := five_keep hbx o0 o1 o2 o3 o4
      obtain ⟨s0, s1, s2', s3, s4⟩ := five_keep hbx s0 s1 s2' s3 s4
      have HN5 := hid (HN5.out.below' hbx)
      have HN25 := hid (HN25.out.below' hbx)
      have HK1 := hid (HK1.out.below' hbx)
      have HK2 := hid (HK2.out.below' hbx)
      have HW5 := hid (bthen HW5.out hbx)
      have HO4 := hid ho4
      have HZ4 := hid hbx.size
      have HXX := hid x0
      have q0 := World.block_lt_of_cell? _ _ x0
      have q1 := World.block_lt_of_cell? _ _ y0
      have q2 := World.block_lt_of_cell? _ _ o0
      have q3 := World.block_lt_of_cell? _ _ s0
      simp only [] at q0 q1 q2 q3
      have HU4 := hid hbx
      clear hbx ho4 hN9
      go_wp2_with fail
      obtain ⟨W5, hW5⟩ : ∃ W5, W5 = w4.alloc (.cells #[.int .u32 u, .int .u32 (lendE k m e uid), .int .u32 (lendE k m e uid), .int .u32 g, .slice a9 l.length c9] 25) := ⟨_, rfl⟩
      have hb5 : Below w4.heap.size w4 W5 := by rw [hW5]; exact bal _
      obtain ⟨t0, t1, t2, t3, t4⟩ := five_put hW5 rfl
      have HR8 : Hid (Row W5 w4.heap.size 25 [.int .u32 u, .int .u32 (lendE k m e uid), .int .u32 (lendE k m e uid), .int .u32 g, .slice a9 l.length c9]) := hid (by rw [hW5]; exact Row.new _ _ _)
      have HO5 : Hid (OwnN W5 W3.heap.size (.slice a9 l.length c9) l) := hid (by rw [hW5]; exact HO4.out.alloc _)
      rw [← hW5]
      obtain ⟨x0, x1, x2, x3, x4⟩ := five_keep hb5 x0 x1 x2 x3 x4
      obtain ⟨y0, y1, y2, y3, y4⟩ := five_keep hb5 y0 y1 y2 y3 y4
      obtain ⟨o0, o1, o2, o3, o4⟩ := five_keep hb5 o0 o1 o2 o3 o4
      obtain ⟨s0, s1, s2', s3, s4⟩ := five_keep hb5 s0 s1 s2' s3 s4
      have HN5 := hid (HN5.out.below' hb5)
      have HN25 := hid (HN25.out.below' hb5)
      have HK1 := hid (HK1.out.below' hb5)
      have HK2 := hid (HK2.out.below' hb5)
      have HW5 := hid (bthen HW5.out hb5)
      have HS8 := hid (World.block_lt_of_cell? _ _ t0)
      have HN9 := hid (own_nums HO5.out)
      have HU5 := hid (bthen HU4.out hb5)
      clear hW5 hb5 q0 q1 q2 q3 HO4
      have HZ8 : Hid (W3.heap.size ≤ w4.heap.size) := HZ4
      clear HZ4
      generalize w4.heap.size = H8 at *
      refine (rlend_any _ _ _ _ _ _ _ _ _ _ _ _ l _ HN5.out hcn (by omega)).mono ?_
      rintro e' w6 ⟨v, rfl, ho6, hbx⟩
      obtain ⟨a10, c10, rfl, hN10⟩ := own_nums ho6
      obtain ⟨x0, x1, x2, x3, x4⟩ := five_keep hbx x0 x1 x2 x3 x4
      obtain ⟨y0, y1, y2, y3, y4⟩ := five_keep hbx y0 y1 y2 y3 y4
      obtain ⟨o0, o1, o2, o3, o4⟩ := five_keep hbx o0 o1 o2 o3 o4
      obtain ⟨s0, s1, s2', s3, s4⟩ := five_keep hbx s0 s1 s2' s3 s4
      obtain ⟨t0, t1, t2, t3, t4⟩ := five_keep hbx t0 t1 t2 t3 t4
      have HN5 := hid (HN5.out.below' hbx)
      have HN25 := hid (HN25.out.below' hbx)
      have HK1 := hid (HK1.out.below' hbx)
      have HK2 := hid (HK2.out.below' hbx)
      have HW5 := hid (bthen HW5.out hbx)
      have HR8 := hid (HR8.out.below hbx HS8.out)
      have HU6 := hid (bthen HU5.out hbx)
      have HO6 : Hid (OwnN w6 W3.heap.size (.slice a9 l.length c9) l) := hid (own_below HO5.out hbx)
      have HN10 := hid hN10
      have q0 := World.block_lt_of_cell? _ _ x0
      have q1 := World.block_lt_of_cell? _ _ y0
      have q2 := World.block_lt_of_cell? _ _ o0
      have q3 := World.block_lt_of_cell? _ _ s0
      have q4 := World.block_lt_of_cell? _ _ t0
      simp only [] at q0 q1 q2 q3 q4
      clear hbx ho6 hN10 HO5
      go_wp2_with fail
      obtain ⟨W7, hW7⟩ : ∃ W5, W5 = w6.alloc (.cells #[.int .u32 u, .int .u32 (lendE k m e uid), .int .u32 (lendE k m e uid), .int .u32 g, .slice a10 l.length c10] 25) := ⟨_, rfl⟩
      have hb5 : Below w6.heap.size w6 W7 := by rw [hW7]; exact bal _
      obtain ⟨r0, r1, r2, r3, r4⟩ := five_put hW7 rfl
      rw [← hW7]
      obtain ⟨x0, x1, x2, x3, x4⟩ := five_keep hb5 x0 x1 x2 x3 x4
      obtain ⟨y0, y1, y2, y3, y4⟩ := five_keep hb5 y0 y1 y2 y3 y4
      obtain ⟨o0, o1, o2, o3, o4⟩ := five_keep hb5 o0 o1 o2 o3 o4
      obtain ⟨s0, s1, s2', s3, s4⟩ := five_keep hb5 s0 s1 s2' s3 s4
      obtain ⟨t0, t1, t2, t3, t4⟩ := five_keep hb5 t0 t1 t2 t3 t4
      have HN5 := hid (HN5.out.below' hb5)
      have HN25 := hid (HN25.out.below' hb5)
      have HK1 := hid (HK1.out.below' hb5)
      have HK2 := hid (HK2.out.below' hb5)
      have HN10 := hid (HN10.out.below' hb5)
      have HW5 := hid (bthen HW5.out hb5)
      have HR8 := hid (HR8.out.below hb5 q4)
      have HU7 := hid (bthen HU6.out hb5)
      have HO7 : Hid (OwnN W7 W3.heap.size (.slice a9 l.length c9) l) := hid (own_below HO6.out hb5)
      clear hW7 hb5 q0 q1 q2 q3 q4 HO6
      generalize w6.heap.size = H10 at *
      generalize lendE k m e uid = E at *
      have HQ0 := hid (St.five ⟨x0, x1, x2, x3, x4⟩)
      have HQ1 := hid (St.five ⟨y0, y1, y2, y3, y4⟩)
      have HQ2 := hid (St.five ⟨o0, o1, o2, o3, o4⟩)
      have HQ3 := hid (St.five ⟨s0, s1, s2', s3, s4⟩)
      have HQ4 := hid (St.five ⟨t0, t1, t2, t3, t4⟩)
      have HQ5 := hid (St.five ⟨r0, r1, r2, r3, r4⟩)
      clear x0 x1 x2 x3 x4 y0 y1 y2 y3 y4 o0 o1 o2 o3 o4 s0 s1 s2' s3 s4 t0 t1 t2 t3 t4 r0 r1 r2 r3 r4
      obtain ⟨x0, x1, x2, x3, x4⟩ := HQ0.out
      obtain ⟨y0, y1, y2, y3, y4⟩ := HQ1.out
      obtain ⟨o0, o1, o2, o3, o4⟩ := HQ2.out
      obtain ⟨s0, s1, s2', s3, s4⟩ := HQ3.out
      obtain ⟨t0, t1, t2, t3, t4⟩ := HQ4.out
      obtain ⟨r0, r1, r2, r3, r4⟩ := HQ5.out
      clear HQ0 HQ1 HQ2 HQ3 HQ4 HQ5
      have HLN : Hid (l.length ≤ 1048576) := hid (by rw [HLL.out]; have := HLE.out; omega)
      have HLM : Hid (len ≤ 1048576) := hid (by have := HLE.out; omega)
      have HLM2 : Hid (len2 ≤ 1048576) := hid (by have := HLE2.out; omega)
      have HN7 : Hid (Nums W7 .u32 a9 l.length l) := hid (by obtain ⟨a', c', e', h'⟩ := own_nums HO7.out; cases e'; exact h')
      have HRS1 := hid (fun (wr : World) (hs : St W7 wr) => rsame_any u E E g u E E g a9 l.length c9 l a10 l.length c10 l wr (St.nums HN7.out hs) (St.nums HN10.out hs) HLN.out HLN.out)
      have HRS2 := hid (fun (wr : World) (hs : St W7 wr) => rsame_any u e s g u2 e2 s2 g2 a len cap l a2 len2 cap2 l2 wr (St.nums HN5.out hs) (St.nums HN25.out hs) HLM.out HLM2.out)
      have HCS1 := hid (fun (wr : World) (hs : St W7 wr) => csame_any u e s g u2 e2 s2 g2 (some ⟨G, 0, none⟩) len c l a2 len2 cap2 l2 wr (St.nums HK2.out hs) (St.nums HN25.out hs) HLM.out HLM2.out)
      have HCS2 := hid (fun (wr : World) (hs : St W7 wr) (a' : Option Addr) (c' : Nat) (hn : Nums wr .u32 a' l.length l) => csame_any u e s g u e s g (some ⟨G, 0, none⟩) len c l a' l.length c' l wr (St.nums HK2.out hs) hn HLM.out HLN.out)
      have HCP := hid (fun (wr : World) (hs : St W7 wr) => copy_any u e s g a len cap l wr (St.nums HN5.out hs) hcn HLM.out)
      have e1 : sameB u E E g u E E g l l = true := by simp [sameB, eqN]
      have e2' : sameB u e s g u e s g l l = true := by simp [sameB, eqN]
      rw [e1] at HRS1
      rw [e2'] at HCS2
      generalize sameB u e s g u2 e2 s2 g2 l l2 = B at *
      clear e1 e2'
      go_region_held3 (St W7) (first | exact St.drew _ | exact St.step (by assumption) hbx | assumption) (first | (go_at_call 20; (first | (with_reducible refine ((HRS1.out _ (by assumption)).mono ?_)) | (with_reducible refine ((HRS2.out _ (by assumption)).mono ?_))); rintro e' wx ⟨rfl, hbx⟩) | (go_at_call 21; (first | (with_reducible refine ((HCS1.out _ (by assumption)).mono ?_)) | (with_reducible refine ((HCS2.out _ (by assumption) _ _ hN11).mono ?_))); rintro e' wx ⟨rfl, hbx⟩) | (go_at_call 22; with_reducible refine ((HCP.out _ (by assumption)).mono ?_); rintro e' wx ⟨v', rfl, hoc, hbx⟩; obtain ⟨a11, c11, rfl, hN11⟩ := own_nums hoc; clear hoc))
      have hst : St W7 wx := by assumption
      have hR8 := HR8.out.below hst (HR8.out.lt)
      have hO8 : OwnN wx W3.heap.size (.slice a9 l.length c9) l := own_below HO7.out hst
      have hU8 : Below W3.heap.size W3 wx := bthen HU7.out hst
      clear HRS1 HRS2 HCS1 HCS2 HCP HN7 HR8 HO7 HU7 HU6 HU5 HU4 HN10 HN5 HN25 HK1 HK2 HW5 hbx hN11 hst
      clear x0 x1 x2 x3 x4 y0 y1 y2 y3 y4 o0 o1 o2 o3 o4 s0 s1 s2' s3 s4 t0 t1 t2 t3 t4 r0 r1 r2 r3 r4
      obtain ⟨i0, hi, hz0, hz1, hz2⟩ := info_parts infoU32
      have HL1 := hid (show l.length + 1 ≤ maxLen by have := HLN.out; unfold maxLen; omega)
      have HL2 := hid (show (l.length + 1) * 4 ≤ 140737488355328 by have := HLN.out; omega)
      have HL3 := hid (fun o => show W3.heap.size ≤ (wx.alloc o).heap.size by have := hU8.size; simp only [World.size_alloc]; omega)
      have HN1 := hid (news_one wx (.int .u32 5) 22)
      have HO2 := hid (fun o => hO8.alloc o)
      have HO8 := hid hO8
      have HR2 := hid (fun o => hR8.alloc o)
      have HU2 := hid (fun o => hU8.alloc (Nat.le_trans (Nat.le_refl _) hU8.size) o)
      have hq8 := hR8.lt
      obtain ⟨t0, t1, t2, t3, t4⟩ := hR8.five
      obtain ⟨f0, f1, f2, f3, f4⟩ := hR8.fiveF
      have HNE := hid (own_row_ne hO8 hR8 (by decide))
      clear hR8 hO8 hU8
      go_wp2_with (at_builtin; go_must (refine wpList_append_own _ rfl _ _ 23 rfl W3.heap.size 22 i0 (.int .u32 0) 1 4 Try.underlying23 hi hz0 hz1 hz2 rfl (by decide) (.slice a9 l.length c9) l.length (l.map (Value.int .u32)) rfl (HO2.out _) ⟨wx.heap.size, 0, none⟩ 1 1 [.int .u32 5] rfl rfl HN1.out (ones_one _ _) HL1.out HL2.out (HL3.out _) ?_; intro v' w9 hown' hgrow _; have r8 := (HR2.out _).grown hgrow HNE.out; have hb2 := (HU2.out _).grown hgrow (HL3.out _) (fun k hk => own_low HO8.out (Nat.le_refl _) k hk); obtain ⟨G9, c', rfl, hc1, hc2, hc3, hc4⟩ := own_open hown' (Nat.succ_pos _); have HO3 := hid hown'; have HB2 := hid hb2; have HN3' := hid (own_row_ne hown' r8 (by decide)); have HR9 := hid r8; clear hown' hgrow hb2 t0 t1 t2 t3 t4 f0 f1 f2 f3 f4; obtain ⟨t0, t1, t2, t3, t4⟩ := r8.five; obtain ⟨f0, f1, f2, f3, f4⟩ := r8.fiveF; clear r8))
      obtain ⟨W10, hW10⟩ : ∃ W10, W10 = w9.setCell ⟨H8, 4, none⟩ (.slice (some ⟨G9, 0, none⟩) (l.length + 1) c') := ⟨_, rfl⟩
      have hR10 : Row W10 H8 25 [.int .u32 u, .int .u32 E, .int .u32 E, .int .u32 g, .slice (some ⟨G9, 0, none⟩) (l.length + 1) c'] := by rw [hW10]; exact HR9.out.set 4 _
      have hO10 : W10.ownsRow W3.heap.size 22 1 (.slice (some ⟨G9, 0, none⟩) (l.length + 1) c') (l.length + 1) ((l ++ [5]).map (Value.int .u32)) := by rw [hW10]; exact own_ext (own_setOther HO3.out HN3'.out _) rfl (by simp)
      have hU10 : Below W3.heap.size W3 W10 := by rw [hW10]; exact bset HB2.out (by have := HZ8.out; omega) _
      rw [← hW10]
      have HLEN := hid (show (l ++ [5]).length = l.length + 1 by simp)
      clear hW10 HR9 HO3 HN3' HB2 t0 t1 t2 t3 t4 f0 f1 f2 f3 f4 HO8 HR2 HU2 HO2 HN1 HL3
      go_loopw [12] (fun i wr => ∃ (k : Nat) (zs : List Int), k ≤ l.length + 1 ∧ i = .int .i64 k ∧ zs.length = l.length + 1 ∧ wr.ownsRow W3.heap.size 22 1 (.slice (some ⟨G9, 0, none⟩) (l.length + 1) c') (l.length + 1) (zs.map (Value.int .u32)) ∧ Row wr H8 25 [.int .u32 u, .int .u32 E, .int .u32 E, .int .u32 g, .slice (some ⟨G9, 0, none⟩) (l.length + 1) c'] ∧ Below W3.heap.size W3 wr) (fun i _ => l.length + 1 - (intOf i).toNat)
      case atStart => exact ⟨0, _, Nat.zero_le _, rfl, HLEN.out, hO10, hR10, hU10⟩
      case round =>
        clear hO10 hR10 hU10
        obtain ⟨k', zs, hk, rfl, hzl, ho, hr, hu⟩ := hrel
        have HZL := hid hzl
        have HO := hid ho
        have HR := hid hr
        have HU := hid hu
        have hq := hr.lt
        obtain ⟨t0, t1, t2, t3, t4⟩ := hr.five
        have hll := HLN.out
        by_cases hlt : k' < l.length + 1
        · have hlt2 : k' < zs.length := by omega
          have hx : wr.cell? ⟨G9, k', none⟩ = some (.int .u32 zs[k']) := by
            have := ho.cellAt k' (by omega)
            rw [this]; simp [hlt2]
          have hf : wr.frozen? ⟨G9, k', none⟩ = false := ho.frozenAt k'
          have hne := HO.out
          have HN := hid (own_row_ne ho hr (by decide))
          clear ho hr hu hzl hne
          go_wp2_with fail
          go_still_tail 10, (by kernel_rfl)
          go_wp2_with fail
          go_roundw
          case rel =>
            refine ⟨k' + 1, zs.set k' ((zs[k'] + 1) % 4294967296), by omega, by go_num, by rw [List.length_set]; exact HZL.out, ?_, ?_, ?_⟩
            · exact own_ext ((World.ownsRow.drew HO.out).stored k' _).1 rfl (by rw [List.map_set])
            · exact HR.out.drew.other (by intro h; exact HN.out (by rw [h]; rfl)) _
            · exact (HU.out.drew).setCell (p := ⟨G9, k', none⟩) (by omega) _
          case measure => simp [intOf]; omega
        · have hd : decide (k' < l.length + 1) = false := by simp; omega
          have hdi : decide ((k' : Int) < (l.length : Int) + 1) = false := by simp; omega
          obtain ⟨x0, x1, x2, x3, x4⟩ := five_keep hu HX3.out.1 HX3.out.2.1 HX3.out.2.2.1 HX3.out.2.2.2.1 HX3.out.2.2.2.2
          obtain ⟨s0, s1, s2', s3, s4⟩ := five_keep hu HS3.out.1 HS3.out.2.1 HS3.out.2.2.1 HS3.out.2.2.2.1 HS3.out.2.2.2.2
          have HNa := hid (HN3.out.below' hu)
          have HNb := hid (HK13.out.below' hu)
          have HWW := hid (bthen HW3.out hu)
          clear ho hr hu hzl
          go_wp2_with fail
          refine (kept_any _ _ _ _ _ _ _ _ _ l _ HNb.out HK3.out.1 HK3.out.2 HNa.out HLE.out).mono ?_
          rintro e' wy ⟨rfl, hby⟩
          have HWW := hid (bthen HWW.out hby)
          clear hby
          go_wp2_with (go_at_call 9; refine (works_any _).mono ?_; rintro e' w' ⟨rfl, hw⟩)
          go_ret
          exact ⟨rfl, bthen HWW.out hw⟩
end Go.Proofs.Ytjiaoppdpomjhaa
