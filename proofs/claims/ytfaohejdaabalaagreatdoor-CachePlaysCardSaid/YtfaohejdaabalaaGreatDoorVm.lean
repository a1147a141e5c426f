
/- creds.May, with what it needs. -/
import Derived.Test.YtfaohejdaabalaaGreatDoorRows
import Derived.Test.YtfaohejdaabalaaGreatDoorKA
import Derived.Deep.QuietTactic
import Derived.BigQuiet
import Derived.Laws.AppendOwnNone
import Derived.Lib.SliceRun
import Derived.Laws.BitsAllLaws
import Derived.Deep.RegionHeld3
namespace Go.Proofs.YtfaohejdaabalaaGreatDoor
open Go.RowKit

def IdxPost (x : Int) (l : List Int) (w : World) (e : Ending) (w' : World) : Prop := ∃ r : Int, e = .returned (.int .i64 r) ∧ -1 ≤ r ∧ ((0 ≤ r) ↔ x ∈ l) ∧ w = w'

def memB (x : Int) (l : List Int) : Bool := decide (x ∈ l)

abbrev credV (u e s g : Int) (a : Option Addr) (len cap : Nat) : Value := .agg #[.int .u32 u, .int .u32 e, .int .u32 s, .int .u32 g, .slice a len cap]
abbrev nodeV (k m u g z : Int) : Value := .agg #[.int .u8 k, .int .u16 m, .int .u32 u, .int .u32 g, .int .i64 z]

def clsOf (e g : Int) (l : List Int) (uid gid : Int) : Int := if e = uid then 0 else if g = gid ∨ gid ∈ l then 1 else 2

theorem b2a {w : World} (o1 o2 : Obj) : Below w.heap.size w ((w.alloc o1).alloc o2) := (bal o1).alloc (by simp) o2

theorem and7_u16 (x : Int) (h0 : 0 ≤ x) (h1 : x ≤ 65535) : bits .and .u16 x 7 = x % 8 := by
  obtain ⟨n, rfl⟩ := Int.eq_ofNat_of_zero_le h0
  have h := u16_and_nat n 7 (by omega) (by omega)
  rw [show ((7 : Nat) : Int) = 7 from rfl] at h
  rw [h]
  have e := Nat.and_two_pow_sub_one_eq_mod n 3
  rw [show 2 ^ 3 - 1 = 7 from rfl] at e
  rw [e]
  rfl

theorem and7_u8 (x : Int) (h0 : 0 ≤ x) (h1 : x ≤ 255) : bits .and .u8 x 7 = x % 8 := by
  obtain ⟨n, rfl⟩ := Int.eq_ofNat_of_zero_le h0
  have h := u8_and_nat n 7 (by omega) (by omega)
  rw [show ((7 : Nat) : Int) = 7 from rfl] at h
  rw [h]
  have e := Nat.and_two_pow_sub_one_eq_mod n 3
  rw [show 2 ^ 3 - 1 = 7 from rfl] at e
  rw [e]
  rfl

def clsBits (m c : Int) : Int := if c = 0 then m / 64 % 8 else if c = 1 then m / 8 % 8 else m % 8
def mayE (want k m : Int) : Bool := (bits .and .u8 want 1 == 0) || (k == 2) || (bits .and .u16 m 73 != 0)
def mayB (e g : Int) (l : List Int) (k m uid gid want : Int) : Bool :=
  if 7 < want then false else if e = 0 then mayE want k m else bits .andNot .u8 want (clsBits m (clsOf e g l uid gid)) == 0

theorem cls_cases (e g : Int) (l : List Int) (uid gid : Int) : clsOf e g l uid gid = 0 ∨ clsOf e g l uid gid = 1 ∨ clsOf e g l uid gid = 2 := by
  unfold clsOf; split
  · exact .inl rfl
  · split
    · exact .inr (.inl rfl)
    · exact .inr (.inr rfl)

end Go.Proofs.YtfaohejdaabalaaGreatDoor
