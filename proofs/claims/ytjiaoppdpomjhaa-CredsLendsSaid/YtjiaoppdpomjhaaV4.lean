/- Contracts of creds.May and of its reference. -/
import Derived.Test.YtjiaoppdpomjhaaV3
import Derived.Laws.BitsAllLaws
import Derived.Deep.RegionHeld3
namespace Go.Proofs.Ytjiaoppdpomjhaa
open Go.RowKit

theorem and7_u16 (x : Int) (h0 : 0 ≤ x) (h1 : x ≤ 65535) : bits .and .u16 x 7 = x % 8 := by
  obtain ⟨n, rfl⟩ := Int.eq_ofNat_of_zero_le h0
  have h := u16_and_nat n 7 (by omega) (by omega)
  rw [show ((7 : Nat) : Int) = 7 from rfl] at h
  rw [h]
  have e := Nat.and_two_pow_sub_one_eq_mod n 3
  rw [show 2 ^ 3 - 1 = 7 from rfl] at e
  rw [e]
  rfl

theorem and7_u8 (x : Int) (h0 : 0 ≤ x) (h1 : x ≤ 255) : bits .and .u8 x 7 = x % 8 := by
  obtain ⟨n, rfl⟩ := Int.eq_ofNat_of_zero_le h0
  have h := u8_and_nat n 7 (by omega) (by omega)
  rw [show ((7 : Nat) : Int) = 7 from rfl] at h
  rw [h]
  have e := Nat.and_two_pow_sub_one_eq_mod n 3
  rw [show 2 ^ 3 - 1 = 7 from rfl] at e
  rw [e]
  rfl

set_option maxHeartbeats 1000000 in
theorem classBits_any (m : Int) (w : World) (h0 : 0 ≤ m) (h1 : m ≤ 65535) :
    Calls Try.prog 24 #[.int .u16 m] w fun e' w' => e' = .returned (.agg #[.int .u8 (m / 64 % 8), .int .u8 (m / 8 % 8), .int .u8 (m % 8)]) ∧ Below w.heap.size w w' := by
  have b1 := hid (and7_u16 (m / 64) (by omega) (by omega))
  have b2 := hid (and7_u16 (m / 8) (by omega) (by omega))
  have b3 := hid (and7_u16 m (by omega) (by omega))
  go_enter Try.func24, Try.ntmps24
  go_wp2_with fail
  refine bodyPost_ret (v := .agg #[.int .u8 (bits .and .u16 (m / 64) 7 % 256), .int .u8 (bits .and .u16 (m / 8) 7 % 256), .int .u8 (bits .and .u16 m 7 % 256)]) (by simp [results, Try.results24, go_sem]) rfl ⟨?_, bal _⟩
  rw [b1.out, b2.out, b3.out]
  have e1 : m / 64 % 8 % 256 = m / 64 % 8 := by omega
  have e2 : m / 8 % 8 % 256 = m / 8 % 8 := by omega
  have e3 : m % 8 % 256 = m % 8 := by omega
  rw [e1, e2, e3]

def clsBits (m c : Int) : Int := if c = 0 then m / 64 % 8 else if c = 1 then m / 8 % 8 else m % 8
def mayE (want k m : Int) : Bool := (bits .and .u8 want 1 == 0) || (k == 2) || (bits .and .u16 m 73 != 0)
def mayB (e g : Int) (l : List Int) (k m uid gid want : Int) : Bool :=
  if 7 < want then false else if e = 0 then mayE want k m else bits .andNot .u8 want (clsBits m (clsOf e g l uid gid)) == 0

theorem cls_cases (e g : Int) (l : List Int) (uid gid : Int) : clsOf e g l uid gid = 0 ∨ clsOf e g l uid gid = 1 ∨ clsOf e g l uid gid = 2 := by
  unfold clsOf; split
  · exact .inl rfl
  · split
    · exact .inr (.inl rfl)
    · exact .inr (.inr rfl)

set_option maxHeartbeats 2000000 in
theorem may_any (u e s g k m uid gid z want : Int) (a : Option Addr) (len cap : Nat) (l : List Int) (w : World) (hB : Nums w .u32 a len l) (hl : len ≤ 1048576) (h0 : 0 ≤ m) (h1 : m ≤ 65535) :
    Calls Try.prog 15 #[credV u e s g a len cap, nodeV k m uid gid z, .int .u8 want] w fun e' w' => e' = .returned (.bool (mayB e g l k m uid gid want)) ∧ Below w.heap.size w w' := by
  have hB2 : ∀ o1 o2, Nums ((w.alloc o1).alloc o2) .u32 a len l := fun o1 o2 => hB.below' (b2a o1 o2)
  have HB := hid hB2
  have HW := hid (@b2a w)
  clear hB2 hB
  by_cases hw : 7 < want
  · go_enter Try.func15, Try.ntmps15
    go_wp2_with fail
    go_ret
    exact ⟨ret_bool (by unfold mayB; rw [if_pos hw]), HW.out _ _⟩
  · by_cases he : e = 0
    · have hb : (e == 0) = true := by simpa using he
      have HE := hid he
      clear he
      have HM : Hid (mayB e g l k m uid gid want = mayE want k m) := hid (by unfold mayB; rw [if_neg hw, if_pos HE.out])
      cases c1 : (bits .and .u8 want 1 == 0) <;> cases c2 : (k == 2) <;> cases c3 : (bits .and .u16 m 73 != 0)
      all_goals
        have HC := hid (show _ = mayE want k m by unfold mayE; rw [c1, c2, c3])
        go_enter Try.func15, Try.ntmps15
        go_wp2_with fail
        go_ret
        exact ⟨ret_bool (by rw [HM.out, ← HC.out]; rfl), HW.out _ _⟩
    · have hb : (e == 0) = false := by simpa using he
      have HE := hid he
      clear he
      have HM : Hid (mayB e g l k m uid gid want = (bits .andNot .u8 want (clsBits m (clsOf e g l uid gid)) == 0)) := hid (by unfold mayB; rw [if_neg hw, if_neg HE.out])
      go_enter Try.func15, Try.ntmps15
      go_wp2_with fail
      obtain ⟨W2, hW2⟩ : ∃ W2, W2 = (w.alloc (.cells #[.int .u32 u, .int .u32 e, .int .u32 s, .int .u32 g, .slice a len cap] 25)).alloc (.cells #[.int .u8 k, .int .u16 m, .int .u32 uid, .int .u32 gid, .int .i64 z] 28) := ⟨_, rfl⟩
      rw [← hW2]
      have hBW : Nums W2 .u32 a len l := by rw [hW2]; exact HB.out _ _
      have hbW : Below w.heap.size w W2 := by rw [hW2]; exact HW.out _ _
      obtain ⟨x0, x1, x2, x3, x4, y0, y1, y2, y3, y4⟩ : W2.cell? ⟨w.heap.size, 0, none⟩ = some (.int .u32 u) ∧ W2.cell? ⟨w.heap.size, 1, none⟩ = some (.int .u32 e) ∧ W2.cell? ⟨w.heap.size, 2, none⟩ = some (.int .u32 s) ∧ W2.cell? ⟨w.heap.size, 3, none⟩ = some (.int .u32 g) ∧ W2.cell? ⟨w.heap.size, 4, none⟩ = some (.slice a len cap) ∧
          W2.cell? ⟨w.heap.size + 1, 0, none⟩ = some (.int .u8 k) ∧ W2.cell? ⟨w.heap.size + 1, 1, none⟩ = some (.int .u16 m) ∧ W2.cell? ⟨w.heap.size + 1, 2, none⟩ = some (.int .u32 uid) ∧ W2.cell? ⟨w.heap.size + 1, 3, none⟩ = some (.int .u32 gid) ∧ W2.cell? ⟨w.heap.size + 1, 4, none⟩ = some (.int .i64 z) := by
        rw [hW2]; refine ⟨?_, ?_, ?_, ?_, ?_, ?_, ?_, ?_, ?_, ?_⟩ <;> simp
      have hNW : ∀ w', Below W2.heap.size W2 w' → Nums w' .u32 a len l := fun w' hb => hBW.below' hb
      have HNW := hid hNW
      have HBW := hid hbW
      clear hW2 HB HW hBW hbW hNW
      have hidx : ∀ w, (Instr.index 43 (.agg #[.int .u8 (m / 64 % 8), .int .u8 (m / 8 % 8), .int .u8 (m % 8)]) (.int .i64 (clsOf e g l uid gid))).run Try.prog w = .ok (.int .u8 (clsBits m (clsOf e g l uid gid))) w := by
        intro w
        rcases cls_cases e g l uid gid with h | h | h <;> rw [h] <;> kernel_rfl
      go_region_held3 (fun w' => w'.cell? ⟨w.heap.size, 0, none⟩ = some (.int .u32 u) ∧ w'.cell? ⟨w.heap.size, 1, none⟩ = some (.int .u32 e) ∧ w'.cell? ⟨w.heap.size, 2, none⟩ = some (.int .u32 s) ∧ w'.cell? ⟨w.heap.size, 3, none⟩ = some (.int .u32 g) ∧ w'.cell? ⟨w.heap.size, 4, none⟩ = some (.slice a len cap) ∧
          w'.cell? ⟨w.heap.size + 1, 0, none⟩ = some (.int .u8 k) ∧ w'.cell? ⟨w.heap.size + 1, 1, none⟩ = some (.int .u16 m) ∧ w'.cell? ⟨w.heap.size + 1, 2, none⟩ = some (.int .u32 uid) ∧ w'.cell? ⟨w.heap.size + 1, 3, none⟩ = some (.int .u32 gid) ∧ w'.cell? ⟨w.heap.size + 1, 4, none⟩ = some (.int .i64 z))
        (first | go_keep | (refine ⟨keepC hbx ?_, keepC hbx ?_, keepC hbx ?_, keepC hbx ?_, keepC hbx ?_, keepC hbx ?_, keepC hbx ?_, keepC hbx ?_, keepC hbx ?_, keepC hbx ?_⟩ <;> go_keep))
        (first | (go_at_call 24; refine (classBits_any _ _ h0 h1).mono ?_; rintro e' wx ⟨rfl, hbx⟩) | (go_at_call 13; refine (class_any _ _ _ _ _ _ _ _ _ _ _ _ l _ (HNW.out _ (by first | exact Below.refl _ _ | exact (Below.refl _ _).drew | exact bdl hbx | exact hbx)) hl).mono ?_; rintro e' wx ⟨rfl, hbx⟩))
      go_wp2_with fail
      go_ret
      exact ⟨ret_bool HM.out.symm, HBW.out.trans ((bthen (bdl (by assumption)) hbx).mono HBW.out.size)⟩

/-- The bits that permit: the two ways of asking. -/
theorem perm_eq (b want : Int) (hb0 : 0 ≤ b) (hb1 : b < 8) (hw0 : 0 ≤ want) (hw1 : want ≤ 7) : (bits .andNot .u8 want b == 0) = (bits .and .u8 b want == want) := by
  have h : ∀ x : Fin 8, ∀ y : Fin 8, (bits .andNot .u8 (y.val : Int) (x.val : Int) == 0) = (bits .and .u8 (x.val : Int) (y.val : Int) == (y.val : Int)) := by decide
  have := h ⟨b.toNat, by omega⟩ ⟨want.toNat, by omega⟩
  simp only at this
  rwa [Int.toNat_of_nonneg hb0, Int.toNat_of_nonneg hw0] at this

set_option maxHeartbeats 2000000 in
theorem rmay_any (u e s g k m uid gid z want : Int) (a : Option Addr) (len cap : Nat) (l : List Int) (w : World) (hB : Nums w .u32 a len l) (hl : len ≤ 1048576) (h0 : 0 ≤ m) (h1 : m ≤ 65535) (hw0 : 0 ≤ want) :
    Calls Try.prog 16 #[credV u e s g a len cap, nodeV k m uid gid z, .int .u8 want] w fun e' w' => e' = .returned (.bool (mayB e g l k m uid gid want)) ∧ Below w.heap.size w w' := by
  have hB2 : ∀ o1 o2, Nums ((w.alloc o1).alloc o2) .u32 a len l := fun o1 o2 => hB.below' (b2a o1 o2)
  have HB := hid hB2
  have HW := hid (@b2a w)
  clear hB2 hB
  by_cases hw : 7 < want
  · go_enter Try.func16, Try.ntmps16
    go_wp2_with fail
    go_ret
    exact ⟨ret_bool (by unfold mayB; rw [if_pos hw]), HW.out _ _⟩
  · by_cases he : e = 0
    · have hb : (e == 0) = true := by simpa using he
      have HE := hid he
      clear he
      have HM : Hid (mayB e g l k m uid gid want = mayE want k m) := hid (by unfold mayB; rw [if_neg hw, if_pos HE.out])
      cases c1 : (bits .and .u8 want 1 == 0) <;> cases c2 : (k == 2) <;> cases c3 : (bits .and .u16 m 73 != 0)
      all_goals
        have HC := hid (show _ = mayE want k m by unfold mayE; rw [c1, c2, c3])
        go_enter Try.func16, Try.ntmps16
        go_wp2_with fail
        go_ret
        exact ⟨ret_bool (by rw [HM.out, ← HC.out]; rfl), HW.out _ _⟩
    · have hb : (e == 0) = false := by simpa using he
      have HE := hid he
      clear he
      have HM : Hid (mayB e g l k m uid gid want = (bits .andNot .u8 want (clsBits m (clsOf e g l uid gid)) == 0)) := hid (by unfold mayB; rw [if_neg hw, if_neg HE.out])
      go_enter Try.func16, Try.ntmps16
      go_wp2_with fail
      refine (rclass_any _ _ _ _ _ _ _ _ _ _ _ _ l _ (HB.out _ _) hl).mono ?_
      rintro e' w1 ⟨rfl, hb1⟩
      have hbw1 := bthen (HW.out _ _) hb1
      have hN1 := (HB.out (.cells #[.int .u32 u, .int .u32 e, .int .u32 s, .int .u32 g, .slice a len cap] 25) (.cells #[.int .u8 k, .int .u16 m, .int .u32 uid, .int .u32 gid, .int .i64 z] 28)).below' hb1
      obtain ⟨x0, x1, x2, x3, x4, y0, y1, y2, y3, y4⟩ : w1.cell? ⟨w.heap.size, 0, none⟩ = some (.int .u32 u) ∧ w1.cell? ⟨w.heap.size, 1, none⟩ = some (.int .u32 e) ∧ w1.cell? ⟨w.heap.size, 2, none⟩ = some (.int .u32 s) ∧ w1.cell? ⟨w.heap.size, 3, none⟩ = some (.int .u32 g) ∧ w1.cell? ⟨w.heap.size, 4, none⟩ = some (.slice a len cap) ∧
          w1.cell? ⟨w.heap.size + 1, 0, none⟩ = some (.int .u8 k) ∧ w1.cell? ⟨w.heap.size + 1, 1, none⟩ = some (.int .u16 m) ∧ w1.cell? ⟨w.heap.size + 1, 2, none⟩ = some (.int .u32 uid) ∧ w1.cell? ⟨w.heap.size + 1, 3, none⟩ = some (.int .u32 gid) ∧ w1.cell? ⟨w.heap.size + 1, 4, none⟩ = some (.int .i64 z) := by
        refine ⟨keepC hb1 ?_, keepC hb1 ?_, keepC hb1 ?_, keepC hb1 ?_, keepC hb1 ?_, keepC hb1 ?_, keepC hb1 ?_, keepC hb1 ?_, keepC hb1 ?_, keepC hb1 ?_⟩ <;> simp
      have HN1 := hid hN1
      have HBW := hid hbw1
      have a1 := hid (and7_u8 (m / 64 % 256) (by omega) (by omega))
      have a2 := hid (and7_u8 (m / 8 % 256) (by omega) (by omega))
      have a3 := hid (and7_u16 m h0 h1)
      have a4 := hid (and7_u8 (m % 8) (by omega) (by omega))
      clear HB HW hb1 hbw1 hN1
      rcases cls_cases e g l uid gid with hc | hc | hc
      all_goals
        rw [hc]
        have HC := hid hc
        clear hc
        go_wp2_with fail
        refine (rclass_any _ _ _ _ _ _ _ _ _ _ _ _ l _ HN1.out hl).mono ?_
        rintro e' w2 ⟨rfl, hb2⟩
        rw [HC.out]
        obtain ⟨z1, z2⟩ : w2.cell? ⟨w.heap.size, 0, none⟩ = some (.int .u32 u) ∧ w2.cell? ⟨w.heap.size + 1, 1, none⟩ = some (.int .u16 m) := ⟨keepC hb2 x0, keepC hb2 y1⟩
        clear x0 x1 x2 x3 x4 y0 y1 y2 y3 y4
        go_wp2_with fail
        go_ret
        refine ⟨ret_bool ?_, bthen HBW.out hb2⟩
        rw [HM.out, HC.out]
        have e3 := a3.out
        first
          | (rw [show clsBits m 0 = m / 64 % 8 by rfl, perm_eq _ _ (by omega) (by omega) hw0 (by omega)])
          | (rw [show clsBits m 1 = m / 8 % 8 by rfl, perm_eq _ _ (by omega) (by omega) hw0 (by omega)])
          | (rw [show clsBits m 2 = m % 8 by rfl, perm_eq _ _ (by omega) (by omega) hw0 (by omega), e3, show m % 8 % 8 = m % 8 by omega])
          | (rw [show clsBits m 2 = m % 8 by rfl, perm_eq _ _ (by omega) (by omega) hw0 (by omega)])
end Go.Proofs.Ytjiaoppdpomjhaa
