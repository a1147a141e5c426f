/- CredsClasses: the walk. -/
import Derived.Test.YtjiaoppdpomjhaaVP
import Derived.Test.YtjiaoppdpomjhaaQ
namespace Go.Proofs.Ytjiaoppdpomjhaa
open Go.RowKit Go.Sort

theorem five_put2 {w W5 : World} {b : Nat} {T : TypeId} {v0 v1 v2 v3 v4 : Value} {o : Obj} (hW : W5 = (w.alloc (.cells #[v0, v1, v2, v3, v4] T)).alloc o) (hb : b = w.heap.size) :
    W5.cell? ⟨b, 0, none⟩ = some v0 ∧ W5.cell? ⟨b, 1, none⟩ = some v1 ∧ W5.cell? ⟨b, 2, none⟩ = some v2 ∧ W5.cell? ⟨b, 3, none⟩ = some v3 ∧ W5.cell? ⟨b, 4, none⟩ = some v4 := by
  obtain ⟨h0, h1, h2, h3, h4⟩ := five_put (w := w) (T := T) (v0 := v0) (v1 := v1) (v2 := v2) (v3 := v3) (v4 := v4) rfl hb
  subst hW
  exact five_keep (bal _) h0 h1 h2 h3 h4

set_option maxHeartbeats 4000000 in
theorem credsClasses_walk (u e s g k m uid gid z want : Int) (a : Option Addr) (len cap : Nat) (l : List Int) (w : World) (hB : Nums w .u32 a len l) (hl : len ≤ 9223372036854775807) (h0 : 0 ≤ m) (h1 : m ≤ 65535) (hw0 : 0 ≤ want) (hw1 : want ≤ 255) :
    Calls Try.prog 6 #[credV u e s g a len cap, nodeV k m uid gid z, .int .u8 want] w fun e' w' => e' = .returned (.bool true) ∧ Below w.heap.size w w' := by
  have hB2 : ∀ o1 o2, Nums ((w.alloc o1).alloc o2) .u32 a len l := fun o1 o2 => hB.below' (b2a o1 o2)
  have HB := hid hB2
  have HW := hid (@b2a w)
  have HLL := hid hB.hlen
  clear hB2 hB
  go_enter Try.func6, Try.ntmps6
  go_wp2_with fail
  obtain ⟨W2, hW2⟩ : ∃ W2, W2 = (w.alloc (.cells #[.int .u32 u, .int .u32 e, .int .u32 s, .int .u32 g, .slice a len cap] 25)).alloc (.cells #[.int .u8 k, .int .u16 m, .int .u32 uid, .int .u32 gid, .int .i64 z] 28) := ⟨_, rfl⟩
  rw [← hW2]
  obtain ⟨x0, x1, x2, x3, x4, y0, y1, y2, y3, y4⟩ : W2.cell? ⟨w.heap.size, 0, none⟩ = some (.int .u32 u) ∧ W2.cell? ⟨w.heap.size, 1, none⟩ = some (.int .u32 e) ∧ W2.cell? ⟨w.heap.size, 2, none⟩ = some (.int .u32 s) ∧ W2.cell? ⟨w.heap.size, 3, none⟩ = some (.int .u32 g) ∧ W2.cell? ⟨w.heap.size, 4, none⟩ = some (.slice a len cap) ∧
      W2.cell? ⟨w.heap.size + 1, 0, none⟩ = some (.int .u8 k) ∧ W2.cell? ⟨w.heap.size + 1, 1, none⟩ = some (.int .u16 m) ∧ W2.cell? ⟨w.heap.size + 1, 2, none⟩ = some (.int .u32 uid) ∧ W2.cell? ⟨w.heap.size + 1, 3, none⟩ = some (.int .u32 gid) ∧ W2.cell? ⟨w.heap.size + 1, 4, none⟩ = some (.int .i64 z) := by
    rw [hW2]; refine ⟨?_, ?_, ?_, ?_, ?_, ?_, ?_, ?_, ?_, ?_⟩ <;> simp
  have hBW : Nums W2 .u32 a len l := by rw [hW2]; exact HB.out _ _
  have hbW : Below w.heap.size w W2 := by rw [hW2]; exact HW.out _ _
  clear hW2 HB HW
  refine (large2_any _ _ _ _ _ _ _ _ hl).mono ?_
  rintro e' w1 ⟨rfl, hbx⟩
  obtain ⟨x0, x1, x2, x3, x4⟩ := five_keep hbx x0 x1 x2 x3 x4
  obtain ⟨y0, y1, y2, y3, y4⟩ := five_keep hbx y0 y1 y2 y3 y4
  have HB1 := hid (hBW.below' hbx)
  have HW1 := hid (bthen hbW hbx)
  clear hBW hbW hbx
  by_cases hlarge : 65536 < (len : Int)
  · have hd : decide (65536 < (len : Int)) = true := by simpa using hlarge
    rw [hd]
    go_wp2_with (go_at_call 9; refine (works_any _).mono ?_; rintro e' w' ⟨rfl, hw⟩)
    go_ret
    exact ⟨rfl, bthen HW1.out hw⟩
  · have hd : decide (65536 < (len : Int)) = false := by simpa using hlarge
    rw [hd]
    go_wp2_with fail
    refine (class_any _ _ _ _ _ _ _ _ _ _ _ _ l _ HB1.out (by omega)).mono ?_
    rintro e' w2 ⟨rfl, hbx⟩
    obtain ⟨x0, x1, x2, x3, x4⟩ := five_keep hbx x0 x1 x2 x3 x4
    obtain ⟨y0, y1, y2, y3, y4⟩ := five_keep hbx y0 y1 y2 y3 y4
    have HN2 := hid (HB1.out.below' hbx)
    have HW2 := hid (bthen HW1.out hbx)
    have q0 := World.block_lt_of_cell? _ _ x0
    have q1 := World.block_lt_of_cell? _ _ y0
    simp only [] at q0 q1
    clear hbx HB1 HW1
    have hcl : (e = uid ∧ clsOf e g l uid gid = 0) ∨ (e ≠ uid ∧ clsOf e g l uid gid = 1) ∨ (e ≠ uid ∧ clsOf e g l uid gid = 2) := by
      by_cases h : e = uid
      · exact .inl ⟨h, by unfold clsOf; rw [if_pos h]⟩
      · rcases cls_cases e g l uid gid with hc | hc | hc
        · unfold clsOf at hc; rw [if_neg h] at hc; split at hc <;> omega
        · exact .inr (.inl ⟨h, hc⟩)
        · exact .inr (.inr ⟨h, hc⟩)
    rcases hcl with ⟨hu, hc⟩ | ⟨hu, hc⟩ | ⟨hu, hc⟩
    · rw [hc]
      have hbu : (e == uid) = true := by simpa using hu
      have HC := hid hc
      clear hc hu
      by_cases h2 : e = 0
      · have hb2 : (e == 0) = true := by simpa using h2
        have H2 := hid h2
        clear h2
        go_wp2_with fail
        refine (may_any _ _ _ _ _ _ _ _ _ _ _ _ _ l _ HN2.out (by omega) h0 h1).mono ?_
        rintro e' w3 ⟨rfl, hbx⟩
        rw [show mayB e g l k m uid gid (bits .and .u8 (want % 8) 6) = true by rw [H2.out]; exact may_root (by omega) (by omega)]
        have HW3 := hid (bthen HW2.out hbx)
        clear hbx
        go_wp2_with (go_at_call 9; refine (works_any _).mono ?_; rintro e' w' ⟨rfl, hw⟩)
        go_ret
        exact ⟨rfl, bthen HW3.out hw⟩
      · have hb2 : (e == 0) = false := by simpa using h2
        have H2 := hid h2
        clear h2
        go_wp2_with fail
        obtain ⟨W5, hW5⟩ : ∃ W5, W5 = (w2.alloc (.cells #[.int .u8 k, .int .u16 (bits .and .u16 m 448), .int .u32 uid, .int .u32 gid, .int .i64 z] 28)).alloc (.cells #[.int .u8 k, .int .u16 (bits .andNot .u16 m 448), .int .u32 uid, .int .u32 gid, .int .i64 z] 28) := ⟨_, rfl⟩
        have hb5 : Below w2.heap.size w2 W5 := by rw [hW5]; exact b2a _ _
        obtain ⟨p0, p1, p2, p3, p4⟩ := five_put2 (b := w2.heap.size) hW5 rfl
        obtain ⟨r0, r1, r2, r3, r4⟩ := five_put (b := w2.heap.size + 1) hW5 (by simp)
        rw [← hW5]
        obtain ⟨x0, x1, x2, x3, x4⟩ := five_keep hb5 x0 x1 x2 x3 x4
        obtain ⟨y0, y1, y2, y3, y4⟩ := five_keep hb5 y0 y1 y2 y3 y4
        have HN5 := hid (HN2.out.below' hb5)
        have HW5 := hid (bthen HW2.out hb5)
        have hm1 := and_le16 m 448 h0 h1 (by omega)
        have HM1 := hid hm1
        have HE1 := hid (show mayB e g l k (bits .and .u16 m 448) uid gid want = mayB e g l k m uid gid want from may_mine (c := 0) H2.out HC.out h0 h1)
        have HE2 := hid (fun hw : ¬ want = 0 => show mayB e g l k (bits .andNot .u16 m 448) uid gid want = false from may_rest (c := 0) H2.out HC.out h0 h1 hw hw0 hw1)
        clear hW5 hb5 hm1 q0 q1 HN2 HW2
        generalize w2.heap.size = G at *
        generalize bits .and .u16 m 448 = mn at *
        generalize bits .andNot .u16 m 448 = mx at *
        have HC1 := hid (fun (wr : World) (hn : Nums wr .u32 a len l) => (may_any u e s g k m uid gid z want a len cap l wr hn (by omega) h0 h1))
        have HC2 := hid (fun (wr : World) (hn : Nums wr .u32 a len l) => (may_any u e s g k mn uid gid z want a len cap l wr hn (by omega) HM1.out.1.1 HM1.out.1.2))
        have HC3 := hid (fun (wr : World) (hn : Nums wr .u32 a len l) => (may_any u e s g k mx uid gid z want a len cap l wr hn (by omega) HM1.out.2.1 HM1.out.2.2))
        rw [HE1.out] at HC2
        generalize mayB e g l k m uid gid want = B at *
        cases hx : mayB e g l k mx uid gid want
        · rw [hx] at HC3
          clear HE1 HE2 HM1 HC hx
          have HQ1 := hid (five_rg ⟨x0, x1, x2, x3, x4⟩)
          have HQ2 := hid (five_rg ⟨y0, y1, y2, y3, y4⟩)
          have HQ3 := hid (five_rg ⟨p0, p1, p2, p3, p4⟩)
          have HQ4 := hid (five_rg ⟨r0, r1, r2, r3, r4⟩)
          clear x0 x1 x2 x3 x4 y0 y1 y2 y3 y4 p0 p1 p2 p3 p4 r0 r1 r2 r3 r4
          obtain ⟨x0, x1, x2, x3, x4⟩ := HQ1.out
          obtain ⟨y0, y1, y2, y3, y4⟩ := HQ2.out
          obtain ⟨p0, p1, p2, p3, p4⟩ := HQ3.out
          obtain ⟨r0, r1, r2, r3, r4⟩ := HQ4.out
          clear HQ1 HQ2 HQ3 HQ4
          have cc1 := hid (fun (d : Nat) (os : Array Obj) => rg_call (HC1.out (rg W5 d os) (nums_rg HN5.out d os)))
          have cc2 := hid (fun (d : Nat) (os : Array Obj) => rg_call (HC2.out (rg W5 d os) (nums_rg HN5.out d os)))
          have cc3 := hid (fun (d : Nat) (os : Array Obj) => rg_call (HC3.out (rg W5 d os) (nums_rg HN5.out d os)))
          have cc4 := hid (fun (d : Nat) (os : Array Obj) => rg_call (works_any (rg W5 d os)))
          clear HC1 HC2 HC3 HN5
          refine region_rg (by kernel_rfl) (by kernel_rfl) ?_
          repeat (quiet_step (first | with_reducible exact cc1.out _ _ | with_reducible exact cc2.out _ _ | with_reducible exact cc3.out _ _ | with_reducible exact cc4.out _ _))
          refine wpQuiet_nil ?_
          intro _ hw'
          obtain ⟨⟨dq, osq⟩, hw''⟩ := hw'
          subst hw''
          go_wp2_with fail
          go_ret
          exact ⟨rfl, bthen HW5.out (rg_below _ _ _)⟩
        · rw [hx] at HC3
          have hw0' : want = 0 := Decidable.byContradiction fun h => by have := HE2.out h; rw [hx] at this; cases this
          have hbw : (want == 0) = true := by simpa using hw0'
          clear HE1 HE2 HM1 HC hx hw0'
          have HQ1 := hid (five_rg ⟨x0, x1, x2, x3, x4⟩)
          have HQ2 := hid (five_rg ⟨y0, y1, y2, y3, y4⟩)
          have HQ3 := hid (five_rg ⟨p0, p1, p2, p3, p4⟩)
          have HQ4 := hid (five_rg ⟨r0, r1, r2, r3, r4⟩)
          clear x0 x1 x2 x3 x4 y0 y1 y2 y3 y4 p0 p1 p2 p3 p4 r0 r1 r2 r3 r4
          obtain ⟨x0, x1, x2, x3, x4⟩ := HQ1.out
          obtain ⟨y0, y1, y2, y3, y4⟩ := HQ2.out
          obtain ⟨p0, p1, p2, p3, p4⟩ := HQ3.out
          obtain ⟨r0, r1, r2, r3, r4⟩ := HQ4.out
          clear HQ1 HQ2 HQ3 HQ4
          have cc1 := hid (fun (d : Nat) (os : Array Obj) => rg_call (HC1.out (rg W5 d os) (nums_rg HN5.out d os)))
          have cc2 := hid (fun (d : Nat) (os : Array Obj) => rg_call (HC2.out (rg W5 d os) (nums_rg HN5.out d os)))
          have cc3 := hid (fun (d : Nat) (os : Array Obj) => rg_call (HC3.out (rg W5 d os) (nums_rg HN5.out d os)))
          have cc4 := hid (fun (d : Nat) (os : Array Obj) => rg_call (works_any (rg W5 d os)))
          clear HC1 HC2 HC3 HN5
          refine region_rg (by kernel_rfl) (by kernel_rfl) ?_
          repeat (quiet_step (first | with_reducible exact cc1.out _ _ | with_reducible exact cc2.out _ _ | with_reducible exact cc3.out _ _ | with_reducible exact cc4.out _ _))
          refine wpQuiet_nil ?_
          intro _ hw'
          obtain ⟨⟨dq, osq⟩, hw''⟩ := hw'
          subst hw''
          go_wp2_with fail
          go_ret
          exact ⟨rfl, bthen HW5.out (rg_below _ _ _)⟩
    · rw [hc]
      have hbu : (e == uid) = false := by simpa using hu
      have HC := hid hc
      clear hc hu
      by_cases h2 : e = 0
      · have hb2 : (e == 0) = true := by simpa using h2
        have H2 := hid h2
        clear h2
        go_wp2_with fail
        refine (may_any _ _ _ _ _ _ _ _ _ _ _ _ _ l _ HN2.out (by omega) h0 h1).mono ?_
        rintro e' w3 ⟨rfl, hbx⟩
        rw [show mayB e g l k m uid gid (bits .and .u8 (want % 8) 6) = true by rw [H2.out]; exact may_root (by omega) (by omega)]
        have HW3 := hid (bthen HW2.out hbx)
        clear hbx
        go_wp2_with (go_at_call 9; refine (works_any _).mono ?_; rintro e' w' ⟨rfl, hw⟩)
        go_ret
        exact ⟨rfl, bthen HW3.out hw⟩
      · have hb2 : (e == 0) = false := by simpa using h2
        have H2 := hid h2
        clear h2
        go_wp2_with fail
        obtain ⟨W5, hW5⟩ : ∃ W5, W5 = (w2.alloc (.cells #[.int .u8 k, .int .u16 (bits .and .u16 m 56), .int .u32 uid, .int .u32 gid, .int .i64 z] 28)).alloc (.cells #[.int .u8 k, .int .u16 (bits .andNot .u16 m 56), .int .u32 uid, .int .u32 gid, .int .i64 z] 28) := ⟨_, rfl⟩
        have hb5 : Below w2.heap.size w2 W5 := by rw [hW5]; exact b2a _ _
        obtain ⟨p0, p1, p2, p3, p4⟩ := five_put2 (b := w2.heap.size) hW5 rfl
        obtain ⟨r0, r1, r2, r3, r4⟩ := five_put (b := w2.heap.size + 1) hW5 (by simp)
        rw [← hW5]
        obtain ⟨x0, x1, x2, x3, x4⟩ := five_keep hb5 x0 x1 x2 x3 x4
        obtain ⟨y0, y1, y2, y3, y4⟩ := five_keep hb5 y0 y1 y2 y3 y4
        have HN5 := hid (HN2.out.below' hb5)
        have HW5 := hid (bthen HW2.out hb5)
        have hm1 := and_le16 m 56 h0 h1 (by omega)
        have HM1 := hid hm1
        have HE1 := hid (show mayB e g l k (bits .and .u16 m 56) uid gid want = mayB e g l k m uid gid want from may_mine (c := 1) H2.out HC.out h0 h1)
        have HE2 := hid (fun hw : ¬ want = 0 => show mayB e g l k (bits .andNot .u16 m 56) uid gid want = false from may_rest (c := 1) H2.out HC.out h0 h1 hw hw0 hw1)
        clear hW5 hb5 hm1 q0 q1 HN2 HW2
        generalize w2.heap.size = G at *
        generalize bits .and .u16 m 56 = mn at *
        generalize bits .andNot .u16 m 56 = mx at *
        have HC1 := hid (fun (wr : World) (hn : Nums wr .u32 a len l) => (may_any u e s g k m uid gid z want a len cap l wr hn (by omega) h0 h1))
        have HC2 := hid (fun (wr : World) (hn : Nums wr .u32 a len l) => (may_any u e s g k mn uid gid z want a len cap l wr hn (by omega) HM1.out.1.1 HM1.out.1.2))
        have HC3 := hid (fun (wr : World) (hn : Nums wr .u32 a len l) => (may_any u e s g k mx uid gid z want a len cap l wr hn (by omega) HM1.out.2.1 HM1.out.2.2))
        rw [HE1.out] at HC2
        generalize mayB e g l k m uid gid want = B at *
        cases hx : mayB e g l k mx uid gid want
        · rw [hx] at HC3
          clear HE1 HE2 HM1 HC hx
          have HQ1 := hid (five_rg ⟨x0, x1, x2, x3, x4⟩)
          have HQ2 := hid (five_rg ⟨y0, y1, y2, y3, y4⟩)
          have HQ3 := hid (five_rg ⟨p0, p1, p2, p3, p4⟩)
          have HQ4 := hid (five_rg ⟨r0, r1, r2, r3, r4⟩)
          clear x0 x1 x2 x3 x4 y0 y1 y2 y3 y4 p0 p1 p2 p3 p4 r0 r1 r2 r3 r4
          obtain ⟨x0, x1, x2, x3, x4⟩ := HQ1.out
          obtain ⟨y0, y1, y2, y3, y4⟩ := HQ2.out
          obtain ⟨p0, p1, p2, p3, p4⟩ := HQ3.out
          obtain ⟨r0, r1, r2, r3, r4⟩ := HQ4.out
          clear HQ1 HQ2 HQ3 HQ4
          have cc1 := hid (fun (d : Nat) (os : Array Obj) => rg_call (HC1.out (rg W5 d os) (nums_rg HN5.out d os)))
          have cc2 := hid (fun (d : Nat) (os : Array Obj) => rg_call (HC2.out (rg W5 d os) (nums_rg HN5.out d os)))
          have cc3 := hid (fun (d : Nat) (os : Array Obj) => rg_call (HC3.out (rg W5 d os) (nums_rg HN5.out d os)))
          have cc4 := hid (fun (d : Nat) (os : Array Obj) => rg_call (works_any (rg W5 d os)))
          clear HC1 HC2 HC3 HN5
          refine region_rg (by kernel_rfl) (by kernel_rfl) ?_
          repeat (quiet_step (first | with_reducible exact cc1.out _ _ | with_reducible exact cc2.out _ _ | with_reducible exact cc3.out _ _ | with_reducible exact cc4.out _ _))
          refine wpQuiet_nil ?_
          intro _ hw'
          obtain ⟨⟨dq, osq⟩, hw''⟩ := hw'
          subst hw''
          go_wp2_with fail
          go_ret
          exact ⟨rfl, bthen HW5.out (rg_below _ _ _)⟩
        · rw [hx] at HC3
          have hw0' : want = 0 := Decidable.byContradiction fun h => by have := HE2.out h; rw [hx] at this; cases this
          have hbw : (want == 0) = true := by simpa using hw0'
          clear HE1 HE2 HM1 HC hx hw0'
          have HQ1 := hid (five_rg ⟨x0, x1, x2, x3, x4⟩)
          have HQ2 := hid (five_rg ⟨y0, y1, y2, y3, y4⟩)
          have HQ3 := hid (five_rg ⟨p0, p1, p2, p3, p4⟩)
          have HQ4 := hid (five_rg ⟨r0, r1, r2, r3, r4⟩)
          clear x0 x1 x2 x3 x4 y0 y1 y2 y3 y4 p0 p1 p2 p3 p4 r0 r1 r2 r3 r4
          obtain ⟨x0, x1, x2, x3, x4⟩ := HQ1.out
          obtain ⟨y0, y1, y2, y3, y4⟩ := HQ2.out
          obtain ⟨p0, p1, p2, p3, p4⟩ := HQ3.out
          obtain ⟨r0, r1, r2, r3, r4⟩ := HQ4.out
          clear HQ1 HQ2 HQ3 HQ4
          have cc1 := hid (fun (d : Nat) (os : Array Obj) => rg_call (HC1.out (rg W5 d os) (nums_rg HN5.out d os)))
          have cc2 := hid (fun (d : Nat) (os : Array Obj) => rg_call (HC2.out (rg W5 d os) (nums_rg HN5.out d os)))
          have cc3 := hid (fun (d : Nat) (os : Array Obj) => rg_call (HC3.out (rg W5 d os) (nums_rg HN5.out d os)))
          have cc4 := hid (fun (d : Nat) (os : Array Obj) => rg_call (works_any (rg W5 d os)))
          clear HC1 HC2 HC3 HN5
          refine region_rg (by kernel_rfl) (by kernel_rfl) ?_
          repeat (quiet_step (first | with_reducible exact cc1.out _ _ | with_reducible exact cc2.out _ _ | with_reducible exact cc3.out _ _ | with_reducible exact cc4.out _ _))
          refine wpQuiet_nil ?_
          intro _ hw'
          obtain ⟨⟨dq, osq⟩, hw''⟩ := hw'
          subst hw''
          go_wp2_with fail
          go_ret
          exact ⟨rfl, bthen HW5.out (rg_below _ _ _)⟩
    · rw [hc]
      have hbu : (e == uid) = false := by simpa using hu
      have HC := hid hc
      clear hc hu
      by_cases h2 : e = 0
      · have hb2 : (e == 0) = true := by simpa using h2
        have H2 := hid h2
        clear h2
        go_wp2_with fail
        refine (may_any _ _ _ _ _ _ _ _ _ _ _ _ _ l _ HN2.out (by omega) h0 h1).mono ?_
        rintro e' w3 ⟨rfl, hbx⟩
        rw [show mayB e g l k m uid gid (bits .and .u8 (want % 8) 6) = true by rw [H2.out]; exact may_root (by omega) (by omega)]
        have HW3 := hid (bthen HW2.out hbx)
        clear hbx
        go_wp2_with (go_at_call 9; refine (works_any _).mono ?_; rintro e' w' ⟨rfl, hw⟩)
        go_ret
        exact ⟨rfl, bthen HW3.out hw⟩
      · have hb2 : (e == 0) = false := by simpa using h2
        have H2 := hid h2
        clear h2
        go_wp2_with fail
        obtain ⟨W5, hW5⟩ : ∃ W5, W5 = (w2.alloc (.cells #[.int .u8 k, .int .u16 (bits .and .u16 m 7), .int .u32 uid, .int .u32 gid, .int .i64 z] 28)).alloc (.cells #[.int .u8 k, .int .u16 (bits .andNot .u16 m 7), .int .u32 uid, .int .u32 gid, .int .i64 z] 28) := ⟨_, rfl⟩
        have hb5 : Below w2.heap.size w2 W5 := by rw [hW5]; exact b2a _ _
        obtain ⟨p0, p1, p2, p3, p4⟩ := five_put2 (b := w2.heap.size) hW5 rfl
        obtain ⟨r0, r1, r2, r3, r4⟩ := five_put (b := w2.heap.size + 1) hW5 (by simp)
        rw [← hW5]
        obtain ⟨x0, x1, x2, x3, x4⟩ := five_keep hb5 x0 x1 x2 x3 x4
        obtain ⟨y0, y1, y2, y3, y4⟩ := five_keep hb5 y0 y1 y2 y3 y4
        have HN5 := hid (HN2.out.below' hb5)
        have HW5 := hid (bthen HW2.out hb5)
        have hm1 := and_le16 m 7 h0 h1 (by omega)
        have HM1 := hid hm1
        have HE1 := hid (show mayB e g l k (bits .and .u16 m 7) uid gid want = mayB e g l k m uid gid want from may_mine (c := 2) H2.out HC.out h0 h1)
        have HE2 := hid (fun hw : ¬ want = 0 => show mayB e g l k (bits .andNot .u16 m 7) uid gid want = false from may_rest (c := 2) H2.out HC.out h0 h1 hw hw0 hw1)
        clear hW5 hb5 hm1 q0 q1 HN2 HW2
        generalize w2.heap.size = G at *
        generalize bits .and .u16 m 7 = mn at *
        generalize bits .andNot .u16 m 7 = mx at *
        have HC1 := hid (fun (wr : World) (hn : Nums wr .u32 a len l) => (may_any u e s g k m uid gid z want a len cap l wr hn (by omega) h0 h1))
        have HC2 := hid (fun (wr : World) (hn : Nums wr .u32 a len l) => (may_any u e s g k mn uid gid z want a len cap l wr hn (by omega) HM1.out.1.1 HM1.out.1.2))
        have HC3 := hid (fun (wr : World) (hn : Nums wr .u32 a len l) => (may_any u e s g k mx uid gid z want a len cap l wr hn (by omega) HM1.out.2.1 HM1.out.2.2))
        rw [HE1.out] at HC2
        generalize mayB e g l k m uid gid want = B at *
        cases hx : mayB e g l k mx uid gid want
        · rw [hx] at HC3
          clear HE1 HE2 HM1 HC hx
          have HQ1 := hid (five_rg ⟨x0, x1, x2, x3, x4⟩)
          have HQ2 := hid (five_rg ⟨y0, y1, y2, y3, y4⟩)
          have HQ3 := hid (five_rg ⟨p0, p1, p2, p3, p4⟩)
          have HQ4 := hid (five_rg ⟨r0, r1, r2, r3, r4⟩)
          clear x0 x1 x2 x3 x4 y0 y1 y2 y3 y4 p0 p1 p2 p3 p4 r0 r1 r2 r3 r4
          obtain ⟨x0, x1, x2, x3, x4⟩ := HQ1.out
          obtain ⟨y0, y1, y2, y3, y4⟩ := HQ2.out
          obtain ⟨p0, p1, p2, p3, p4⟩ := HQ3.out
          obtain ⟨r0, r1, r2, r3, r4⟩ := HQ4.out
          clear HQ1 HQ2 HQ3 HQ4
          have cc1 := hid (fun (d : Nat) (os : Array Obj) => rg_call (HC1.out (rg W5 d os) (nums_rg HN5.out d os)))
          have cc2 := hid (fun (d : Nat) (os : Array Obj) => rg_call (HC2.out (rg W5 d os) (nums_rg HN5.out d os)))
          have cc3 := hid (fun (d : Nat) (os : Array Obj) => rg_call (HC3.out (rg W5 d os) (nums_rg HN5.out d os)))
          have cc4 := hid (fun (d : Nat) (os : Array Obj) => rg_call (works_any (rg W5 d os)))
          clear HC1 HC2 HC3 HN5
          refine region_rg (by kernel_rfl) (by kernel_rfl) ?_
          repeat (quiet_step (first | with_reducible exact cc1.out _ _ | with_reducible exact cc2.out _ _ | with_reducible exact cc3.out _ _ | with_reducible exact cc4.out _ _))
          refine wpQuiet_nil ?_
          intro _ hw'
          obtain ⟨⟨dq, osq⟩, hw''⟩ := hw'
          subst hw''
          go_wp2_with fail
          go_ret
          exact ⟨rfl, bthen HW5.out (rg_below _ _ _)⟩
        · rw [hx] at HC3
          have hw0' : want = 0 := Decidable.byContradiction fun h => by have := HE2.out h; rw [hx] at this; cases this
          have hbw : (want == 0) = true := by simpa using hw0'
          clear HE1 HE2 HM1 HC hx hw0'
          have HQ1 := hid (five_rg ⟨x0, x1, x2, x3, x4⟩)
          have HQ2 := hid (five_rg ⟨y0, y1, y2, y3, y4⟩)
          have HQ3 := hid (five_rg ⟨p0, p1, p2, p3, p4⟩)
          have HQ4 := hid (five_rg ⟨r0, r1, r2, r3, r4⟩)
          clear x0 x1 x2 x3 x4 y0 y1 y2 y3 y4 p0 p1 p2 p3 p4 r0 r1 r2 r3 r4
          obtain ⟨x0, x1, x2, x3, x4⟩ := HQ1.out
          obtain ⟨y0, y1, y2, y3, y4⟩ := HQ2.out
          obtain ⟨p0, p1, p2, p3, p4⟩ := HQ3.out
          obtain ⟨r0, r1, r2, r3, r4⟩ := HQ4.out
          clear HQ1 HQ2 HQ3 HQ4
          have cc1 := hid (fun (d : Nat) (os : Array Obj) => rg_call (HC1.out (rg W5 d os) (nums_rg HN5.out d os)))
          have cc2 := hid (fun (d : Nat) (os : Array Obj) => rg_call (HC2.out (rg W5 d os) (nums_rg HN5.out d os)))
          have cc3 := hid (fun (d : Nat) (os : Array Obj) => rg_call (HC3.out (rg W5 d os) (nums_rg HN5.out d os)))
          have cc4 := hid (fun (d : Nat) (os : Array Obj) => rg_call (works_any (rg W5 d os)))
          clear HC1 HC2 HC3 HN5
          refine region_rg (by kernel_rfl) (by kernel_rfl) ?_
          repeat (quiet_step (first | with_reducible exact cc1.out _ _ | with_reducible exact cc2.out _ _ | with_reducible exact cc3.out _ _ | with_reducible exact cc4.out _ _))
          refine wpQuiet_nil ?_
          intro _ hw'
          obtain ⟨⟨dq, osq⟩, hw''⟩ := hw'
          subst hw''
          go_wp2_with fail
          go_ret
          exact ⟨rfl, bthen HW5.out (rg_below _ _ _)⟩
end Go.Proofs.Ytjiaoppdpomjhaa
