
/- hostelref04: Class, May. -/
import Derived.Test.YthamfhenadaapaaGreatDoorVm
namespace Go.Proofs.YthamfhenadaapaaGreatDoor
open Go.RowKit

set_option maxHeartbeats 1000000 in
theorem rclass_any (u e s g k m uid gid z : Int) (a : Option Addr) (len cap : Nat) (l : List Int) (w : World) (hB : Nums w .u32 a len l) (hl : len ≤ 1048576) :
    Calls Tryz.prog 53 #[credV u e s g a len cap, nodeV k m uid gid z] w fun e' w' => e' = .returned (.int .i64 (clsOf e g l uid gid)) ∧ Below w.heap.size w w' := by
  have hB2 : ∀ o1 o2, Nums ((w.alloc o1).alloc o2) .u32 a len l := fun o1 o2 => hB.below' (b2a o1 o2)
  have HB := hid hB2
  have HW := hid (@b2a w)
  clear hB2
  by_cases h1 : e = uid
  · have hb1 : (e == uid) = true := by simpa using h1
    have H1 := hid h1
    clear h1
    go_enter Tryz.func53, Tryz.ntmps53
    go_wp2_with fail
    go_ret
    exact ⟨ret_i64 (by unfold clsOf; rw [if_pos H1.out]), HW.out _ _⟩
  · have hb1 : (e == uid) = false := by simpa using h1
    have H1 := hid h1
    clear h1
    by_cases h2 : g = gid
    · have hb2 : (g == gid) = true := by simpa using h2
      have H2 := hid h2
      clear h2
      go_enter Tryz.func53, Tryz.ntmps53
      go_wp2_with fail
      go_ret
      exact ⟨ret_i64 (by unfold clsOf; rw [if_neg H1.out, if_pos (.inl H2.out)]), HW.out _ _⟩
    · have hb2 : (g == gid) = false := by simpa using h2
      have H2 := hid h2
      clear h2
      obtain rfl := hB.hlen
      go_enter Tryz.func53, Tryz.ntmps53
      go_wp2_with fail
      obtain ⟨W2, hW2⟩ : ∃ W2, W2 = (w.alloc (.cells #[.int .u32 u, .int .u32 e, .int .u32 s, .int .u32 g, .slice a l.length cap] 26)).alloc (.cells #[.int .u8 k, .int .u16 m, .int .u32 uid, .int .u32 gid, .int .i64 z] 58) := ⟨_, rfl⟩
      rw [← hW2]
      have hBW : Nums W2 .u32 a l.length l := by rw [hW2]; exact HB.out _ _
      have hbW : Below w.heap.size w W2 := by rw [hW2]; exact HW.out _ _
      have x4 : W2.cell? ⟨w.heap.size, 4, none⟩ = some (.slice a l.length cap) := by rw [hW2]; simp
      have x3 : W2.cell? ⟨w.heap.size + 1, 3, none⟩ = some (.int .u32 gid) := by rw [hW2]; simp
      clear hW2 HB hB HW
      go_loopw [5] (fun i wr => ∃ k n : Nat, k ≤ l.length ∧ i = .int .i64 k ∧ (∀ j (h : j < l.length), j < k → l[j] ≠ gid) ∧ wr = W2.drewN n) (fun i _ => l.length - (intOf i).toNat)
      case atStart => exact ⟨0, 0, Nat.zero_le _, rfl, fun j h hj => by omega, rfl⟩
      case round =>
        obtain ⟨k, n, hk, rfl, hno, rfl⟩ := hrel
        have HNO := hid hno
        clear hno
        by_cases hlt : k < l.length
        · obtain ⟨b, off, rfl, hcell⟩ := hBW.some_of (by omega)
          have hx := hcell k hlt
          clear hBW hcell
          by_cases h : l[k] = gid
          · have hb : (l[k] == gid) = true := by simpa using h
            have HH := hid (show gid ∈ l by rw [← h]; exact List.getElem_mem _)
            clear h
            go_wp2_with fail
            go_quiet (fail)
            go_wp2_with fail
            go_ret
            exact ⟨ret_i64 (by unfold clsOf; rw [if_neg H1.out, if_pos (.inr HH.out)]), bdN (bdN hbW n) nq⟩
          · have hb : (l[k] == gid) = false := by simpa using h
            have HH := hid h
            clear h
            go_wp2_with fail
            go_quiet (fail)
            go_wp2_with fail
            go_roundw
            case rel =>
              refine ⟨k + 1, n + nq, by omega, by go_num, fun j h hj => ?_, by simp [World.drewN, Nat.add_assoc]⟩
              by_cases e : j = k
              · subst e; exact HH.out
              · exact HNO.out j h (by omega)
            case measure => simp [intOf]; omega
        · have hnm : ¬ gid ∈ l := by
            intro h
            obtain ⟨j, hj, e⟩ := List.getElem_of_mem h
            exact HNO.out j hj (by omega) e
          have HM := hid hnm
          clear hnm
          go_wp2_with fail
          go_ret
          exact ⟨ret_i64 (by unfold clsOf; rw [if_neg H1.out, if_neg (by rintro (h | h); exact H2.out h; exact HM.out h)]), bdN hbW n⟩
/-- The bits that permit: the two ways of asking. -/
theorem perm_eq (b want : Int) (hb0 : 0 ≤ b) (hb1 : b < 8) (hw0 : 0 ≤ want) (hw1 : want ≤ 7) : (bits .andNot .u8 want b == 0) = (bits .and .u8 b want == want) := by
  have h : ∀ x : Fin 8, ∀ y : Fin 8, (bits .andNot .u8 (y.val : Int) (x.val : Int) == 0) = (bits .and .u8 (x.val : Int) (y.val : Int) == (y.val : Int)) := by decide
  have := h ⟨b.toNat, by omega⟩ ⟨want.toNat, by omega⟩
  simp only at this
  rwa [Int.toNat_of_nonneg hb0, Int.toNat_of_nonneg hw0] at this

set_option maxHeartbeats 2000000 in
theorem rmay_any (u e s g k m uid gid z want : Int) (a : Option Addr) (len cap : Nat) (l : List Int) (w : World) (hB : Nums w .u32 a len l) (hl : len ≤ 1048576) (h0 : 0 ≤ m) (h1 : m ≤ 65535) (hw0 : 0 ≤ want) :
    Calls Tryz.prog 28 #[credV u e s g a len cap, nodeV k m uid gid z, .int .u8 want] w fun e' w' => e' = .returned (.bool (mayB e g l k m uid gid want)) ∧ Below w.heap.size w w' := by
  have hB2 : ∀ o1 o2, Nums ((w.alloc o1).alloc o2) .u32 a len l := fun o1 o2 => hB.below' (b2a o1 o2)
  have HB := hid hB2
  have HW := hid (@b2a w)
  clear hB2 hB
  by_cases hw : 7 < want
  · go_enter Tryz.func28, Tryz.ntmps28
    go_wp2_with fail
    go_ret
    exact ⟨ret_bool (by unfold mayB; rw [if_pos hw]), HW.out _ _⟩
  · by_cases he : e = 0
    · have hb : (e == 0) = true := by simpa using he
      have HE := hid he
      clear he
      have HM : Hid (mayB e g l k m uid gid want = mayE want k m) := hid (by unfold mayB; rw [if_neg hw, if_pos HE.out])
      cases c1 : (bits .and .u8 want 1 == 0) <;> cases c2 : (k == 2) <;> cases c3 : (bits .and .u16 m 73 != 0)
      all_goals
        have HC := hid (show _ = mayE want k m by unfold mayE; rw [c1, c2, c3])
        go_enter Tryz.func28, Tryz.ntmps28
        go_wp2_with fail
        go_ret
        exact ⟨ret_bool (by rw [HM.out, ← HC.out]; rfl), HW.out _ _⟩
    · have hb : (e == 0) = false := by simpa using he
      have HE := hid he
      clear he
      have HM : Hid (mayB e g l k m uid gid want = (bits .andNot .u8 want (clsBits m (clsOf e g l uid gid)) == 0)) := hid (by unfold mayB; rw [if_neg hw, if_neg HE.out])
      go_enter Tryz.func28, Tryz.ntmps28
      go_wp2_with fail
      refine (rclass_any _ _ _ _ _ _ _ _ _ _ _ _ l _ (HB.out _ _) hl).mono ?_
      rintro e' w1 ⟨rfl, hb1⟩
      have hbw1 := bthen (HW.out _ _) hb1
      have hN1 := (HB.out (.cells #[.int .u32 u, .int .u32 e, .int .u32 s, .int .u32 g, .slice a len cap] 26) (.cells #[.int .u8 k, .int .u16 m, .int .u32 uid, .int .u32 gid, .int .i64 z] 58)).below' hb1
      obtain ⟨x0, x1, x2, x3, x4, y0, y1, y2, y3, y4⟩ : w1.cell? ⟨w.heap.size, 0, none⟩ = some (.int .u32 u) ∧ w1.cell? ⟨w.heap.size, 1, none⟩ = some (.int .u32 e) ∧ w1.cell? ⟨w.heap.size, 2, none⟩ = some (.int .u32 s) ∧ w1.cell? ⟨w.heap.size, 3, none⟩ = some (.int .u32 g) ∧ w1.cell? ⟨w.heap.size, 4, none⟩ = some (.slice a len cap) ∧
          w1.cell? ⟨w.heap.size + 1, 0, none⟩ = some (.int .u8 k) ∧ w1.cell? ⟨w.heap.size + 1, 1, none⟩ = some (.int .u16 m) ∧ w1.cell? ⟨w.heap.size + 1, 2, none⟩ = some (.int .u32 uid) ∧ w1.cell? ⟨w.heap.size + 1, 3, none⟩ = some (.int .u32 gid) ∧ w1.cell? ⟨w.heap.size + 1, 4, none⟩ = some (.int .i64 z) := by
        refine ⟨keepC hb1 ?_, keepC hb1 ?_, keepC hb1 ?_, keepC hb1 ?_, keepC hb1 ?_, keepC hb1 ?_, keepC hb1 ?_, keepC hb1 ?_, keepC hb1 ?_, keepC hb1 ?_⟩ <;> simp
      have HN1 := hid hN1
      have HBW := hid hbw1
      have a1 := hid (and7_u8 (m / 64 % 256) (by omega) (by omega))
      have a2 := hid (and7_u8 (m / 8 % 256) (by omega) (by omega))
      have a3 := hid (and7_u16 m h0 h1)
      have a4 := hid (and7_u8 (m % 8) (by omega) (by omega))
      clear HB HW hb1 hbw1 hN1
      rcases cls_cases e g l uid gid with hc | hc | hc
      all_goals
        rw [hc]
        have HC := hid hc
        clear hc
        go_wp2_with fail
        refine (rclass_any _ _ _ _ _ _ _ _ _ _ _ _ l _ HN1.out hl).mono ?_
        rintro e' w2 ⟨rfl, hb2⟩
        rw [HC.out]
        obtain ⟨z1, z2⟩ : w2.cell? ⟨w.heap.size, 0, none⟩ = some (.int .u32 u) ∧ w2.cell? ⟨w.heap.size + 1, 1, none⟩ = some (.int .u16 m) := ⟨keepC hb2 x0, keepC hb2 y1⟩
        clear x0 x1 x2 x3 x4 y0 y1 y2 y3 y4
        go_wp2_with fail
        go_ret
        refine ⟨ret_bool ?_, bthen HBW.out hb2⟩
        rw [HM.out, HC.out]
        have e3 := a3.out
        first
          | (rw [show clsBits m 0 = m / 64 % 8 by rfl, perm_eq _ _ (by omega) (by omega) hw0 (by omega)])
          | (rw [show clsBits m 1 = m / 8 % 8 by rfl, perm_eq _ _ (by omega) (by omega) hw0 (by omega)])
          | (rw [show clsBits m 2 = m % 8 by rfl, perm_eq _ _ (by omega) (by omega) hw0 (by omega), e3, show m % 8 % 8 = m % 8 by omega])
          | (rw [show clsBits m 2 = m % 8 by rfl, perm_eq _ _ (by omega) (by omega) hw0 (by omega)])
end Go.Proofs.YthamfhenadaapaaGreatDoor
