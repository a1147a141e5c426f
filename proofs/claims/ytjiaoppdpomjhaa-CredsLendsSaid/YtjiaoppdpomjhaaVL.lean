/- CredsBits. -/
import Derived.Test.YtjiaoppdpomjhaaV4
import Derived.Test.YtjiaoppdpomjhaaV5
import Derived.Test.YtjiaoppdpomjhaaV9
namespace Go.Proofs.Ytjiaoppdpomjhaa
open Go.RowKit

set_option maxHeartbeats 1000000 in
theorem large2_any (u e s g : Int) (a : Option Addr) (len cap : Nat) (w : World) (hl : len ≤ 9223372036854775807) :
    Calls Try.prog 8 #[credV u e s g a len cap] w fun e' w' => e' = .returned (.bool (decide (65536 < (len : Int)))) ∧ Below w.heap.size w w' := by
  have HW := hid (@bal w)
  by_cases h : 65536 < (len : Int)
  all_goals
    go_enter Try.func8, Try.ntmps8
    go_wp2_with fail
    go_ret
    exact ⟨ret_bool (by simp [h]), HW.out _⟩

def allB (e g : Int) (l : List Int) (k m uid gid want : Int) : Nat → Bool
  | 0 => true
  | n + 1 => allB e g l k m uid gid want n && (bits .and .u8 want (2 ^ n) == 0 || mayB e g l k m uid gid (2 ^ n))

theorem bits8 : ∀ (w c : Fin 8), (bits .andNot .u8 (w.val : Int) (c.val : Int) == 0) = (((true && (bits .and .u8 (w.val : Int) 1 == 0 || bits .andNot .u8 1 (c.val : Int) == 0)) && (bits .and .u8 (w.val : Int) 2 == 0 || bits .andNot .u8 2 (c.val : Int) == 0)) && (bits .and .u8 (w.val : Int) 4 == 0 || bits .andNot .u8 4 (c.val : Int) == 0)) := by decide +kernel
theorem bit1 : ∀ (w : Fin 8), (bits .and .u8 (w.val : Int) 1 == 0) = (decide (w.val % 2 = 0)) := by decide +kernel

theorem clsBits_lt (m c : Int) : 0 ≤ clsBits m c ∧ clsBits m c < 8 := by unfold clsBits; split <;> (try split) <;> omega

theorem bits_math (e g : Int) (l : List Int) (k m uid gid want : Int) (hw0 : 0 ≤ want) (hw1 : want ≤ 255) (h0 : 0 ≤ m) (h1 : m ≤ 65535) :
    mayB e g l k m uid gid want = (decide (want < 8) && allB e g l k m uid gid want 3) := by
  by_cases h : 7 < want
  · have hd : decide (want < 8) = false := by simp; omega
    rw [hd]
    simp [mayB, h]
  · have hd : decide (want < 8) = true := by simp; omega
    rw [hd, Bool.true_and]
    obtain ⟨n, rfl⟩ := Int.eq_ofNat_of_zero_le hw0
    have hn : n < 8 := by omega
    have hm : ∀ x : Int, x ≤ 7 → mayB e g l k m uid gid x = if e = 0 then mayE x k m else bits .andNot .u8 x (clsBits m (clsOf e g l uid gid)) == 0 := by
      intro x hx
      unfold mayB
      rw [if_neg (by omega)]
    have ha : allB e g l k m uid gid n 3 = (((true && (bits .and .u8 (n : Int) 1 == 0 || mayB e g l k m uid gid 1)) && (bits .and .u8 (n : Int) 2 == 0 || mayB e g l k m uid gid 2)) && (bits .and .u8 (n : Int) 4 == 0 || mayB e g l k m uid gid 4)) := rfl
    rw [ha, hm _ (by omega), hm 1 (by omega), hm 2 (by omega), hm 4 (by omega)]
    by_cases he : e = 0
    · simp only [he, if_true]
      have e2 : mayE 2 k m = true := by unfold mayE; rw [show (bits .and .u8 2 1 == 0) = true by decide +kernel]; rfl
      have e4 : mayE 4 k m = true := by unfold mayE; rw [show (bits .and .u8 4 1 == 0) = true by decide +kernel]; rfl
      have e1 : mayE 1 k m = ((k == 2) || (bits .and .u16 m 73 != 0)) := by unfold mayE; rw [show (bits .and .u8 1 1 == 0) = false by decide +kernel]; rfl
      rw [e1, e2, e4]
      unfold mayE
      simp [Bool.or_assoc]
    · simp only [he, if_false]
      obtain ⟨c0, c1⟩ := clsBits_lt m (clsOf e g l uid gid)
      obtain ⟨c, hc⟩ := Int.eq_ofNat_of_zero_le c0
      rw [hc]
      exact bits8 ⟨n, hn⟩ ⟨c, by omega⟩

set_option maxHeartbeats 2000000 in
theorem credsBits_walk (u e s g k m uid gid z want : Int) (a : Option Addr) (len cap : Nat) (l : List Int) (w : World) (hB : Nums w .u32 a len l) (hl : len ≤ 9223372036854775807) (h0 : 0 ≤ m) (h1 : m ≤ 65535) (hw0 : 0 ≤ want) (hw1 : want ≤ 255) :
    Calls Try.prog 5 #[credV u e s g a len cap, nodeV k m uid gid z, .int .u8 want] w fun e' w' => e' = .returned (.bool true) ∧ Below w.heap.size w w' := by
  have hB2 : ∀ o1 o2, Nums ((w.alloc o1).alloc o2) .u32 a len l := fun o1 o2 => hB.below' (b2a o1 o2)
  have HB := hid hB2
  have HW := hid (@b2a w)
  clear hB2 hB
  go_enter Try.func5, Try.ntmps5
  go_wp2_with fail
  obtain ⟨W2, hW2⟩ : ∃ W2, W2 = (w.alloc (.cells #[.int .u32 u, .int .u32 e, .int .u32 s, .int .u32 g, .slice a len cap] 25)).alloc (.cells #[.int .u8 k, .int .u16 m, .int .u32 uid, .int .u32 gid, .int .i64 z] 28) := ⟨_, rfl⟩
  rw [← hW2]
  obtain ⟨x0, x1, x2, x3, x4, y0, y1, y2, y3, y4⟩ : W2.cell? ⟨w.heap.size, 0, none⟩ = some (.int .u32 u) ∧ W2.cell? ⟨w.heap.size, 1, none⟩ = some (.int .u32 e) ∧ W2.cell? ⟨w.heap.size, 2, none⟩ = some (.int .u32 s) ∧ W2.cell? ⟨w.heap.size, 3, none⟩ = some (.int .u32 g) ∧ W2.cell? ⟨w.heap.size, 4, none⟩ = some (.slice a len cap) ∧
      W2.cell? ⟨w.heap.size + 1, 0, none⟩ = some (.int .u8 k) ∧ W2.cell? ⟨w.heap.size + 1, 1, none⟩ = some (.int .u16 m) ∧ W2.cell? ⟨w.heap.size + 1, 2, none⟩ = some (.int .u32 uid) ∧ W2.cell? ⟨w.heap.size + 1, 3, none⟩ = some (.int .u32 gid) ∧ W2.cell? ⟨w.heap.size + 1, 4, none⟩ = some (.int .i64 z) := by
    rw [hW2]; refine ⟨?_, ?_, ?_, ?_, ?_, ?_, ?_, ?_, ?_, ?_⟩ <;> simp
  have hBW : Nums W2 .u32 a len l := by rw [hW2]; exact HB.out _ _
  have hbW : Below w.heap.size w W2 := by rw [hW2]; exact HW.out _ _
  clear hW2 HB HW
  refine (large2_any _ _ _ _ _ _ _ _ hl).mono ?_
  rintro e' w1 ⟨rfl, hbx⟩
  obtain ⟨x0, x1, x2, x3, x4⟩ := five_keep hbx x0 x1 x2 x3 x4
  obtain ⟨y0, y1, y2, y3, y4⟩ := five_keep hbx y0 y1 y2 y3 y4
  have HB1 := hid (hBW.below' hbx)
  have HW1 := hid (bthen hbW hbx)
  clear hBW hbW hbx
  by_cases hlarge : 65536 < (len : Int)
  · have hd : decide (65536 < (len : Int)) = true := by simpa using hlarge
    rw [hd]
    go_wp2_with (go_at_call 9; refine (works_any _).mono ?_; rintro e' w' ⟨rfl, hw⟩)
    go_ret
    exact ⟨rfl, bthen HW1.out hw⟩
  · have hd : decide (65536 < (len : Int)) = false := by simpa using hlarge
    rw [hd]
    go_wp2_with fail
    go_loopw [7, 8] (fun all i wr => ∃ n : Nat, n ≤ 3 ∧ i = .int .i64 n ∧ all = .bool (allB e g l k m uid gid want n) ∧ Below w1.heap.size w1 wr) (fun _ i _ => 3 - (intOf i).toNat)
    case atStart => exact ⟨0, by omega, rfl, rfl, Below.refl _ _⟩
    case round =>
      obtain ⟨n, hn, rfl, rfl, hb⟩ := hrel
      obtain ⟨x0, x1, x2, x3, x4⟩ := five_keep hb x0 x1 x2 x3 x4
      obtain ⟨y0, y1, y2, y3, y4⟩ := five_keep hb y0 y1 y2 y3 y4
      have HBN := hid (bthen HW1.out hb)
      have HNN := hid (HB1.out.below' hb)
      have HH := hid hb
      clear hb
      have hc : n = 0 ∨ n = 1 ∨ n = 2 ∨ n = 3 := by omega
      rcases hc with rfl | rfl | rfl | rfl
      · cases hq : allB e g l k m uid gid want 0
        · cases hq
        · by_cases hbit : bits .and .u8 want 1 = 0
          · have hb2 : (bits .and .u8 want 1 == 0) = true := by simpa using hbit
            have HQ := hid (show allB e g l k m uid gid want 1 = true by unfold allB; rw [hq]; simp [hbit])
            clear hbit
            go_wp2_with fail
            exact ⟨⟨1, by omega, rfl, by rw [HQ.out], HH.out⟩, by simp [intOf]⟩
          · have hb2 : (bits .and .u8 want 1 == 0) = false := by simpa using hbit
            have HQ := hid (show allB e g l k m uid gid want 1 = mayB e g l k m uid gid 1 by unfold allB; rw [hq]; simp [hbit])
            clear hbit
            go_wp2_with fail
            refine (may_any _ _ _ _ _ _ _ _ _ _ _ _ _ l _ HNN.out (by omega) h0 h1).mono ?_
            rintro e' w2 ⟨rfl, hbx⟩
            have HX := hid (bthen HH.out hbx)
            clear hbx
            go_wp2_with fail
            exact ⟨⟨1, by omega, rfl, by rw [HQ.out], HX.out⟩, by simp [intOf]⟩
      · cases hq : allB e g l k m uid gid want 1
        · have HQ := hid (show allB e g l k m uid gid want 2 = false by unfold allB; rw [hq]; rfl)
          by_cases hbit : bits .and .u8 want 2 = 0
          · have hb2 : (bits .and .u8 want 2 == 0) = true := by simpa using hbit
            clear hbit
            go_wp2_with fail
            exact ⟨⟨2, by omega, rfl, by rw [HQ.out], HH.out⟩, by simp [intOf]⟩
          · have hb2 : (bits .and .u8 want 2 == 0) = false := by simpa using hbit
            clear hbit
            go_wp2_with fail
            exact ⟨⟨2, by omega, rfl, by rw [HQ.out], HH.out⟩, by simp [intOf]⟩
        · by_cases hbit : bits .and .u8 want 2 = 0
          · have hb2 : (bits .and .u8 want 2 == 0) = true := by simpa using hbit
            have HQ := hid (show allB e g l k m uid gid want 2 = true by unfold allB; rw [hq]; simp [hbit])
            clear hbit
            go_wp2_with fail
            exact ⟨⟨2, by omega, rfl, by rw [HQ.out], HH.out⟩, by simp [intOf]⟩
          · have hb2 : (bits .and .u8 want 2 == 0) = false := by simpa using hbit
            have HQ := hid (show allB e g l k m uid gid want 2 = mayB e g l k m uid gid 2 by unfold allB; rw [hq]; simp [hbit])
            clear hbit
            go_wp2_with fail
            refine (may_any _ _ _ _ _ _ _ _ _ _ _ _ _ l _ HNN.out (by omega) h0 h1).mono ?_
            rintro e' w2 ⟨rfl, hbx⟩
            have HX := hid (bthen HH.out hbx)
            clear hbx
            go_wp2_with fail
            exact ⟨⟨2, by omega, rfl, by rw [HQ.out], HX.out⟩, by simp [intOf]⟩
      · cases hq : allB e g l k m uid gid want 2
        · have HQ := hid (show allB e g l k m uid gid want 3 = false by unfold allB; rw [hq]; rfl)
          by_cases hbit : bits .and .u8 want 4 = 0
          · have hb2 : (bits .and .u8 want 4 == 0) = true := by simpa using hbit
            clear hbit
            go_wp2_with fail
            exact ⟨⟨3, by omega, rfl, by rw [HQ.out], HH.out⟩, by simp [intOf]⟩
          · have hb2 : (bits .and .u8 want 4 == 0) = false := by simpa using hbit
            clear hbit
            go_wp2_with fail
            exact ⟨⟨3, by omega, rfl, by rw [HQ.out], HH.out⟩, by simp [intOf]⟩
        · by_cases hbit : bits .and .u8 want 4 = 0
          · have hb2 : (bits .and .u8 want 4 == 0) = true := by simpa using hbit
            have HQ := hid (show allB e g l k m uid gid want 3 = true by unfold allB; rw [hq]; simp [hbit])
            clear hbit
            go_wp2_with fail
            exact ⟨⟨3, by omega, rfl, by rw [HQ.out], HH.out⟩, by simp [intOf]⟩
          · have hb2 : (bits .and .u8 want 4 == 0) = false := by simpa using hbit
            have HQ := hid (show allB e g l k m uid gid want 3 = mayB e g l k m uid gid 4 by unfold allB; rw [hq]; simp [hbit])
            clear hbit
            go_wp2_with fail
            refine (may_any _ _ _ _ _ _ _ _ _ _ _ _ _ l _ HNN.out (by omega) h0 h1).mono ?_
            rintro e' w2 ⟨rfl, hbx⟩
            have HX := hid (bthen HH.out hbx)
            clear hbx
            go_wp2_with fail
            exact ⟨⟨3, by omega, rfl, by rw [HQ.out], HX.out⟩, by simp [intOf]⟩
      · have HM := hid (bits_math e g l k m uid gid want hw0 hw1 h0 h1)
        have hlt : decide (((3 : Nat) : Int) < 3) = false := by decide
        go_wp2_with fail
        refine (may_any _ _ _ _ _ _ _ _ _ _ _ _ _ l _ HNN.out (by omega) h0 h1).mono ?_
        rintro e' w2 ⟨rfl, hbx⟩
        have HX := hid (bthen HBN.out hbx)
        clear hbx
        by_cases hw : want < 8
        · cases hq : allB e g l k m uid gid want 3
          · rw [show mayB e g l k m uid gid want = false by rw [HM.out, hq]; simp]
            go_wp2_with (go_at_call 9; refine (works_any _).mono ?_; rintro e' w' ⟨rfl, hw⟩)
            go_ret
            exact ⟨rfl, bthen HX.out hw⟩
          · rw [show mayB e g l k m uid gid want = true by rw [HM.out, hq]; simpa using hw]
            go_wp2_with (go_at_call 9; refine (works_any _).mono ?_; rintro e' w' ⟨rfl, hw⟩)
            go_ret
            exact ⟨rfl, bthen HX.out hw⟩
        · rw [show mayB e g l k m uid gid want = false by rw [HM.out, decide_eq_false hw]; rfl]
          go_wp2_with (go_at_call 9; refine (works_any _).mono ?_; rintro e' w' ⟨rfl, hw⟩)
          go_ret
          exact ⟨rfl, bthen HX.out hw⟩
end Go.Proofs.Ytjiaoppdpomjhaa
