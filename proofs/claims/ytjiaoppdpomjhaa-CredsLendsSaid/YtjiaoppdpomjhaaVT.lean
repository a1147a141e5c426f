/- CredsMay. -/
import Derived.Test.YtjiaoppdpomjhaaVS
namespace Go.Proofs.Ytjiaoppdpomjhaa
open Go.RowKit Go.Sort

theorem kept_nums {w : World} {G n c base : Nat} {l : List Int} (h : w.ownsRow base 22 1 (.slice (some ⟨G, 0, none⟩) (n + 1) c) (n + 1) ((l ++ [77]).map (Value.int .u32))) (hn : l.length = n) : Nums w .u32 (some ⟨G, 0, none⟩) (n + 1) (l ++ [77]) ∧ Nums w .u32 (some ⟨G, 0, none⟩) n l ∧ n + 1 ≤ c ∧ c ≤ maxLen := by
  obtain ⟨a, cap, e, hN⟩ := own_nums h
  cases e
  obtain ⟨_, _, e2, h1, _, _, h3⟩ := own_open h (by omega)
  cases e2
  refine ⟨hN, ⟨hn, fun i hi => ?_⟩, h1, h3⟩
  obtain ⟨b, off, e3, hc⟩ := hN.cell i (by simp; omega)
  cases e3
  refine ⟨G, 0, rfl, ?_⟩
  rw [List.getElem_append_left hi] at hc
  exact hc

set_option maxHeartbeats 4000000 in
theorem credsMay_walk (u e s g k m uid gid z want : Int) (a : Option Addr) (len cap : Nat) (l : List Int) (w : World) (hB : Nums w .u32 a len l) (hcn : a = none → cap = 0) (hl : len ≤ 9223372036854775807) (h0 : 0 ≤ m) (h1 : m ≤ 65535) (hw0 : 0 ≤ want) (hw1 : want ≤ 255) :
    Calls Try.prog 3 #[credV u e s g a len cap, nodeV k m uid gid z, .int .u8 want] w fun e' w' => e' = .returned (.bool true) ∧ Below w.heap.size w w' := by
  have hB2 : ∀ o1 o2, Nums ((w.alloc o1).alloc o2) .u32 a len l := fun o1 o2 => hB.below' (b2a o1 o2)
  have HB := hid hB2
  have HW := hid (@b2a w)
  have HLL := hid hB.hlen
  clear hB2 hB
  go_enter Try.func3, Try.ntmps3
  go_wp2_with fail
  obtain ⟨W2, hW2⟩ : ∃ W2, W2 = (w.alloc (.cells #[.int .u32 u, .int .u32 e, .int .u32 s, .int .u32 g, .slice a len cap] 25)).alloc (.cells #[.int .u8 k, .int .u16 m, .int .u32 uid, .int .u32 gid, .int .i64 z] 28) := ⟨_, rfl⟩
  rw [← hW2]
  obtain ⟨x0, x1, x2, x3, x4, y0, y1, y2, y3, y4⟩ : W2.cell? ⟨w.heap.size, 0, none⟩ = some (.int .u32 u) ∧ W2.cell? ⟨w.heap.size, 1, none⟩ = some (.int .u32 e) ∧ W2.cell? ⟨w.heap.size, 2, none⟩ = some (.int .u32 s) ∧ W2.cell? ⟨w.heap.size, 3, none⟩ = some (.int .u32 g) ∧ W2.cell? ⟨w.heap.size, 4, none⟩ = some (.slice a len cap) ∧
      W2.cell? ⟨w.heap.size + 1, 0, none⟩ = some (.int .u8 k) ∧ W2.cell? ⟨w.heap.size + 1, 1, none⟩ = some (.int .u16 m) ∧ W2.cell? ⟨w.heap.size + 1, 2, none⟩ = some (.int .u32 uid) ∧ W2.cell? ⟨w.heap.size + 1, 3, none⟩ = some (.int .u32 gid) ∧ W2.cell? ⟨w.heap.size + 1, 4, none⟩ = some (.int .i64 z) := by
    rw [hW2]; refine ⟨?_, ?_, ?_, ?_, ?_, ?_, ?_, ?_, ?_, ?_⟩ <;> simp
  have hBW : Nums W2 .u32 a len l := by rw [hW2]; exact HB.out _ _
  have hbW : Below w.heap.size w W2 := by rw [hW2]; exact HW.out _ _
  clear hW2 HB HW
  refine (large2_any _ _ _ _ _ _ _ _ hl).mono ?_
  rintro e' w1 ⟨rfl, hbx⟩
  obtain ⟨x0, x1, x2, x3, x4⟩ := five_keep hbx x0 x1 x2 x3 x4
  obtain ⟨y0, y1, y2, y3, y4⟩ := five_keep hbx y0 y1 y2 y3 y4
  have HB1 := hid (hBW.below' hbx)
  have HW1 := hid (bthen hbW hbx)
  clear hBW hbW hbx
  by_cases hlarge : 65536 < (len : Int)
  · have hd : decide (65536 < (len : Int)) = true := by simpa using hlarge
    rw [hd]
    go_wp2_with (go_at_call 9; refine (works_any _).mono ?_; rintro e' w' ⟨rfl, hw⟩)
    go_ret
    exact ⟨rfl, bthen HW1.out hw⟩
  · have hd : decide (65536 < (len : Int)) = false := by simpa using hlarge
    rw [hd]
    go_wp2_with fail
    refine (roomy_any _ _ _ _ _ _ _ l _ HB1.out hcn (by omega)).mono ?_
    rintro e' w2 ⟨G, c, rfl, ho, hbx⟩
    obtain ⟨x0, x1, x2, x3, x4⟩ := five_keep hbx x0 x1 x2 x3 x4
    obtain ⟨y0, y1, y2, y3, y4⟩ := five_keep hbx y0 y1 y2 y3 y4
    have HN2 := hid (HB1.out.below' hbx)
    have HW2 := hid (bthen HW1.out hbx)
    have HO := hid (kept_nums ho HLL.out)
    have q0 := World.block_lt_of_cell? _ _ x0
    have q1 := World.block_lt_of_cell? _ _ y0
    simp only [] at q0 q1
    clear hbx ho HB1 HW1
    go_wp2_with fail
    obtain ⟨W5, hW5⟩ : ∃ W5, W5 = w2.alloc (.cells #[.int .u32 u, .int .u32 e, .int .u32 s, .int .u32 g, .slice (some ⟨G, 0, none⟩) len c] 25) := ⟨_, rfl⟩
    have hb5 : Below w2.heap.size w2 W5 := by rw [hW5]; exact bal _
    obtain ⟨s0, s1, s2, s3, s4⟩ := five_put hW5 rfl
    rw [← hW5]
    obtain ⟨x0, x1, x2, x3, x4⟩ := five_keep hb5 x0 x1 x2 x3 x4
    obtain ⟨y0, y1, y2, y3, y4⟩ := five_keep hb5 y0 y1 y2 y3 y4
    have HN5 := hid (HN2.out.below' hb5)
    have HW5 := hid (bthen HW2.out hb5)
    have HK1 := hid (HO.out.1.below' hb5)
    have HK2 := hid (HO.out.2.1.below' hb5)
    have HK3 := hid (HO.out.2.2)
    have HLE : Hid (len ≤ 65536) := hid (by omega)
    clear hW5 hb5 q0 q1 HN2 HW2 HO
    generalize w2.heap.size = H at *
    have HQ1 := hid (five_rg ⟨x0, x1, x2, x3, x4⟩)
    have HQ2 := hid (five_rg ⟨y0, y1, y2, y3, y4⟩)
    have HQ3 := hid (five_rg ⟨s0, s1, s2, s3, s4⟩)
    clear x0 x1 x2 x3 x4 y0 y1 y2 y3 y4 s0 s1 s2 s3 s4
    obtain ⟨x0, x1, x2, x3, x4⟩ := HQ1.out
    obtain ⟨y0, y1, y2, y3, y4⟩ := HQ2.out
    obtain ⟨s0, s1, s2, s3, s4⟩ := HQ3.out
    clear HQ1 HQ2 HQ3
    have cc1 := hid (fun (d : Nat) (os : Array Obj) => rg_call (ccheck_any u e s g (some ⟨G, 0, none⟩) len c (rg W5 d os) (by have := HLE.out; omega)))
    have cc2 := hid (fun (d : Nat) (os : Array Obj) => rg_call (rcheck_any u e s g a len cap (rg W5 d os) (by have := HLE.out; omega)))
    have cc3 := hid (fun (d : Nat) (os : Array Obj) => rg_call (class_any u e s g k m uid gid z (some ⟨G, 0, none⟩) len c l (rg W5 d os) (nums_rg HK2.out d os) (by have := HLE.out; omega)))
    have cc4 := hid (fun (d : Nat) (os : Array Obj) => rg_call (rclass_any u e s g k m uid gid z a len cap l (rg W5 d os) (nums_rg HN5.out d os) (by have := HLE.out; omega)))
    have cc5 := hid (fun (d : Nat) (os : Array Obj) => rg_call (may_any u e s g k m uid gid z want (some ⟨G, 0, none⟩) len c l (rg W5 d os) (nums_rg HK2.out d os) (by have := HLE.out; omega) h0 h1))
    have cc6 := hid (fun (d : Nat) (os : Array Obj) => rg_call (rmay_any u e s g k m uid gid z want a len cap l (rg W5 d os) (nums_rg HN5.out d os) (by have := HLE.out; omega) h0 h1 hw0))
    have cc7 := hid (fun (d : Nat) (os : Array Obj) => rg_call (kept_any u e s g G c a len cap l (rg W5 d os) (nums_rg HK1.out d os) HK3.out.1 HK3.out.2 (nums_rg HN5.out d os) HLE.out))
    have cc8 := hid (fun (d : Nat) (os : Array Obj) => rg_call (works_any (rg W5 d os)))
    clear HN5 HK1 HK2 HK3 HLE
    generalize mayB e g l k m uid gid want = B at *
    generalize clsOf e g l uid gid = C at *
    generalize chkN (len : Int) = D at *
    refine region_rg (by kernel_rfl) (by kernel_rfl) ?_
    repeat (quiet_step (first | with_reducible exact cc1.out _ _ | with_reducible exact cc2.out _ _ | with_reducible exact cc3.out _ _ | with_reducible exact cc4.out _ _ | with_reducible exact cc5.out _ _ | with_reducible exact cc6.out _ _ | with_reducible exact cc7.out _ _ | with_reducible exact cc8.out _ _))
    refine wpQuiet_nil ?_
    intro _ hw'
    obtain ⟨⟨dq, osq⟩, hw''⟩ := hw'
    subst hw''
    go_wp2_with fail
    go_ret
    exact ⟨rfl, bthen HW5.out (rg_below _ _ _)⟩
end Go.Proofs.Ytjiaoppdpomjhaa
