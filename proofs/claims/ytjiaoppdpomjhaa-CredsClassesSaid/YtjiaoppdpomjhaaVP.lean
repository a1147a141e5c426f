/- CredsClasses. -/
import Derived.Test.YtjiaoppdpomjhaaVM
import Derived.Laws.BitsAllLaws
namespace Go.Proofs.Ytjiaoppdpomjhaa
open Go.RowKit

theorem and_part (m b i : Nat) : (m &&& b) / 2 ^ i % 8 = (m / 2 ^ i % 8) &&& (b / 2 ^ i % 8) := by
  rw [← Nat.shiftRight_eq_div_pow, ← Nat.shiftRight_eq_div_pow, ← Nat.shiftRight_eq_div_pow]
  have h : ∀ x : Nat, x % 8 = x &&& 7 := fun x => (Nat.and_two_pow_sub_one_eq_mod x 3).symm
  rw [h, h (m >>> i), h (b >>> i), Nat.shiftRight_and_distrib]
  apply Nat.eq_of_testBit_eq
  intro j
  simp only [Nat.testBit_and]
  cases Nat.testBit (m >>> i) j <;> cases Nat.testBit (b >>> i) j <;> cases Nat.testBit 7 j <;> rfl

theorem and_seven (x : Nat) : (x % 8) &&& 7 = x % 8 := by
  have := Nat.and_two_pow_sub_one_eq_mod (x % 8) 3
  rw [show 2 ^ 3 - 1 = 7 from rfl] at this
  rw [this]; omega

/-- The mask of a class. -/
def mineOf (c : Int) : Int := if c = 0 then 448 else if c = 1 then 56 else 7

theorem mine_cls (m c : Int) (h0 : 0 ≤ m) (h1 : m ≤ 65535) : clsBits (bits .and .u16 m (mineOf c)) c = clsBits m c ∧ clsBits (bits .andNot .u16 m (mineOf c)) c = 0 := by
  obtain ⟨n, rfl⟩ := Int.eq_ofNat_of_zero_le h0
  have hn : n < 65536 := by omega
  unfold clsBits mineOf
  by_cases c0 : c = 0
  · simp only [c0, if_true]
    have e1 := u16_and_nat n 448 hn (by omega)
    have e2 := u16_andNot_nat n 448 hn (by omega)
    rw [show ((448 : Nat) : Int) = 448 from rfl] at e1 e2
    rw [e1, e2]
    have p1 := and_part n 448 6
    have p2 := and_part n (65535 - 448) 6
    have p3 := and_seven (n / 64)
    simp only [show (2 : Nat) ^ 6 = 64 from rfl, show 448 / 64 % 8 = 7 from rfl, show (65535 - 448) / 64 % 8 = 0 from rfl, Nat.and_zero] at p1 p2
    rw [p3] at p1
    omega
  · by_cases c1 : c = 1
    · simp only [c1, if_true]
      rw [if_neg (by decide), if_neg (by decide), if_neg (by decide), if_neg (by decide)]
      have e1 := u16_and_nat n 56 hn (by omega)
      have e2 := u16_andNot_nat n 56 hn (by omega)
      rw [show ((56 : Nat) : Int) = 56 from rfl] at e1 e2
      rw [e1, e2]
      have p1 := and_part n 56 3
      have p2 := and_part n (65535 - 56) 3
      have p3 := and_seven (n / 8)
      simp only [show (2 : Nat) ^ 3 = 8 from rfl, show 56 / 8 % 8 = 7 from rfl, show (65535 - 56) / 8 % 8 = 0 from rfl, Nat.and_zero] at p1 p2
      rw [p3] at p1
      omega
    · simp only [c0, c1, if_false]
      have e1 := u16_and_nat n 7 hn (by omega)
      have e2 := u16_andNot_nat n 7 hn (by omega)
      rw [show ((7 : Nat) : Int) = 7 from rfl] at e1 e2
      rw [e1, e2]
      have p1 := and_part n 7 0
      have p2 := and_part n (65535 - 7) 0
      have p3 := and_seven n
      simp only [Nat.pow_zero, Nat.div_one, show 7 % 8 = 7 from rfl, show (65535 - 7) % 8 = 0 from rfl, Nat.and_zero] at p1 p2
      rw [p3] at p1
      omega

theorem and_le16 (m c : Int) (h0 : 0 ≤ m) (h1 : m ≤ 65535) (hc : 0 ≤ c ∧ c ≤ 65535) : (0 ≤ bits .and .u16 m c ∧ bits .and .u16 m c ≤ 65535) ∧ (0 ≤ bits .andNot .u16 m c ∧ bits .andNot .u16 m c ≤ 65535) := by
  obtain ⟨n, rfl⟩ := Int.eq_ofNat_of_zero_le h0
  obtain ⟨b, rfl⟩ := Int.eq_ofNat_of_zero_le hc.1
  rw [u16_and_nat n b (by omega) (by omega), u16_andNot_nat n b (by omega) (by omega)]
  have e1 := Nat.and_le_left (n := n) (m := b)
  have e2 := Nat.and_le_left (n := n) (m := 65535 - b)
  omega

theorem may_mine {e g : Int} {l : List Int} {k m uid gid want c : Int} (he : ¬ e = 0) (hc : clsOf e g l uid gid = c) (h0 : 0 ≤ m) (h1 : m ≤ 65535) :
    mayB e g l k (bits .and .u16 m (mineOf c)) uid gid want = mayB e g l k m uid gid want := by
  unfold mayB
  rw [hc, (mine_cls m c h0 h1).1, if_neg he, if_neg he]

theorem may_rest {e g : Int} {l : List Int} {k m uid gid want c : Int} (he : ¬ e = 0) (hc : clsOf e g l uid gid = c) (h0 : 0 ≤ m) (h1 : m ≤ 65535) (hw : ¬ want = 0) (hw0 : 0 ≤ want) (hw1 : want ≤ 255) :
    mayB e g l k (bits .andNot .u16 m (mineOf c)) uid gid want = false := by
  unfold mayB
  rw [hc, (mine_cls m c h0 h1).2, if_neg he]
  split
  · rfl
  · obtain ⟨n, rfl⟩ := Int.eq_ofNat_of_zero_le hw0
    have e1 := u8_andNot_nat n 0 (by omega) (by omega)
    rw [show ((0 : Nat) : Int) = 0 from rfl] at e1
    rw [e1]
    have e2 := Nat.and_two_pow_sub_one_eq_mod n 8
    rw [show 255 - 0 = 2 ^ 8 - 1 from rfl, e2, beq_eq_false_iff_ne]
    omega

theorem six8 : ∀ (w : Fin 8), bits .and .u8 (w.val : Int) 6 ≤ 7 ∧ (bits .and .u8 (bits .and .u8 (w.val : Int) 6) 1 == 0) = true := by decide +kernel

theorem may_root {g : Int} {l : List Int} {k m uid gid x : Int} (h0 : 0 ≤ x) (h1 : x < 8) : mayB 0 g l k m uid gid (bits .and .u8 x 6) = true := by
  obtain ⟨n, rfl⟩ := Int.eq_ofNat_of_zero_le h0
  obtain ⟨e1, e2⟩ := six8 ⟨n, by omega⟩
  unfold mayB
  rw [if_neg (by simpa using e1), if_pos rfl]
  unfold mayE
  simp only [] at e2
  rw [e2]; rfl
end Go.Proofs.Ytjiaoppdpomjhaa
