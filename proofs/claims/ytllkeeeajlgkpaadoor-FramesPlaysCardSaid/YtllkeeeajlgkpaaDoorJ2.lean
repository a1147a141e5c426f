
/- math/bits: the lowest bit of a word, and how many are set, as this program has them. -/
import Derived.Test.YtllkeeeajlgkpaaDoorJ1
import Derived.Laws.Bits64
import Derived.Test.YtllkeeeajlgkpaaDoorProg
import Derived.IntWalk
import Derived.Laws.Bits128
import Derived.BigQuiet
namespace Go.Proofs.YtllkeeeajlgkpaaDoor
open Go.RowKit Go.Sort

/-- The table of the library's variable. -/
def Tb (w : World) : Prop := ∀ j, j < 64 → w.cell? ⟨0, j, none⟩ = some (.int .u8 ((Lib.deBruijn64tab.getD j 0 : Nat) : Int))

theorem tz_num (x a : Nat) (hx : x < 18446744073709551616) (h0 : x ≠ 0) (ha : x &&& (18446744073709551616 - x) = a) :
    IntKind.u64.wrap (bits .and .u64 (x : Int) (IntKind.u64.wrap (-(x : Int))) * 285870213051353865) / 288230376151711744 = ((a * 285870213051353865 % 18446744073709551616 / 288230376151711744 : Nat) : Int) := by
  have e : IntKind.u64.wrap (-(x : Int)) = ((18446744073709551616 - x : Nat) : Int) := by rw [IntKind.wrap_u64]; omega
  rw [e, u64_and_nat x _ hx (by omega), ha, IntKind.wrap_u64]
  omega
set_option maxHeartbeats 1000000 in
theorem tz_at (x k idx : Nat) (w : World) (hx0 : ((x : Int) == 0) = false)
    (key : IntKind.u64.wrap (bits .and .u64 (x : Int) (IntKind.u64.wrap (-(x : Int))) * 285870213051353865) / 288230376151711744 = (idx : Int)) (hi : idx < 64) (hk : k < 64) (hc : w.cell? ⟨0, idx, none⟩ = some (.int .u8 (k : Int))) :
    Calls Tryd.prog 39 #[.int .u64 (x : Int)] w fun e w' => e = .returned (.int .i64 (k : Int)) ∧ w = w' := by
  go_enter Tryd.func39, Tryd.ntmps39
  go_wp2_with (simp only [key])
  go_ret
  exact ⟨rfl, rfl⟩
theorem tz_any (x : Nat) (w : World) (hx : x < 18446744073709551616) (h0 : x ≠ 0) (hT : Tb w) :
    Calls Tryd.prog 39 #[.int .u64 (x : Int)] w fun e w' => e = .returned (.int .i64 ((Lib.ctz 64 x : Nat) : Int)) ∧ w = w' := by
  obtain ⟨h1, h2⟩ := Lib.lowest_bit 64 x h0 hx
  obtain ⟨h3, h4⟩ := Lib.deBruijn64_at _ h2
  have hc := hT _ h3
  rw [h4] at hc
  exact tz_at x _ _ w (by simp; omega) (tz_num x _ hx h0 h1) h3 h2 hc

theorem m85 : rep 85 8 = 6148914691236517205 := by decide
theorem m51 : rep 51 8 = 3689348814741910323 := by decide
theorem m15 : rep 15 8 = 1085102592571150095 := by decide
theorem and_le_r (a b : Nat) : a &&& b ≤ b := Nat.and_le_right
theorem f1_le (x : Nat) : f1 8 x ≤ 12297829382473034410 := by
  unfold f1
  rw [m85]
  have h1 := and_le_r (x / 2) 6148914691236517205
  have h2 := and_le_r x 6148914691236517205
  omega
theorem f2_le (x : Nat) : f2 8 x ≤ 7378697629483820646 := by
  unfold f2
  rw [m51]
  have h1 := and_le_r (x / 4) 3689348814741910323
  have h2 := and_le_r x 3689348814741910323
  omega
theorem on1 (x : Nat) (h : x < 18446744073709551616) : IntKind.u64.wrap (bits .and .u64 ((x : Int) / 2) 6148914691236517205 + bits .and .u64 (x : Int) 6148914691236517205) = ((f1 8 x : Nat) : Int) := by
  have e : ((x : Int) / 2) = ((x / 2 : Nat) : Int) := by omega
  have e2 : (6148914691236517205 : Int) = ((6148914691236517205 : Nat) : Int) := rfl
  rw [e, e2, u64_and_nat _ _ (by omega) (by omega), u64_and_nat _ _ h (by omega), IntKind.wrap_u64]
  have hl := f1_le x
  unfold f1 at *
  rw [m85] at *
  omega
theorem on2 (x : Nat) (h : x < 18446744073709551616) : IntKind.u64.wrap (bits .and .u64 ((x : Int) / 4) 3689348814741910323 + bits .and .u64 (x : Int) 3689348814741910323) = ((f2 8 x : Nat) : Int) := by
  have e : ((x : Int) / 4) = ((x / 4 : Nat) : Int) := by omega
  have e2 : (3689348814741910323 : Int) = ((3689348814741910323 : Nat) : Int) := rfl
  rw [e, e2, u64_and_nat _ _ (by omega) (by omega), u64_and_nat _ _ h (by omega), IntKind.wrap_u64]
  have hl := f2_le x
  unfold f2 at *
  rw [m51] at *
  omega
theorem on3 (x : Nat) (h : x ≤ 7378697629483820646) : bits .and .u64 (IntKind.u64.wrap ((x : Int) / 16 + (x : Int))) 1085102592571150095 = ((f3 8 x : Nat) : Int) := by
  have e : IntKind.u64.wrap ((x : Int) / 16 + (x : Int)) = ((x / 16 + x : Nat) : Int) := by rw [IntKind.wrap_u64]; omega
  have e2 : (1085102592571150095 : Int) = ((1085102592571150095 : Nat) : Int) := rfl
  rw [e, e2, u64_and_nat _ _ (by omega) (by omega)]
  unfold f3
  rw [m15]
set_option maxHeartbeats 1000000 in
theorem ones_any (x : Nat) (w : World) (hx : x < 18446744073709551616) :
    Calls Tryd.prog 35 #[.int .u64 (x : Int)] w fun e w' => e = .returned (.int .i64 ((popc 64 x : Nat) : Int)) ∧ w = w' := by
  go_enter Tryd.func35, Tryd.ntmps35
  go_wp2_with fail
  go_ret
  refine ⟨?_, rfl⟩
  have g1 := f1_le x
  have g2 := f2_le (f1 8 x)
  obtain ⟨g3, g4, g5⟩ := ones_all x hx
  simp only [on1 x hx, on2 (f1 8 x) (by omega), on3 (f2 8 (f1 8 x)) g2]
  generalize f3 8 (f2 8 (f1 8 x)) = z at *
  have e4 : IntKind.u64.wrap ((z : Int) + (z : Int) / 256) = ((z + z / 256 : Nat) : Int) := by rw [IntKind.wrap_u64]; omega
  simp only [e4]
  have l4 : z + z / 256 ≤ 600000000000000000 := by omega
  unfold fold at g3
  simp only at g3
  generalize z + z / 256 = y at *
  have e5 : IntKind.u64.wrap ((y : Int) + (y : Int) / 65536) = ((y + y / 65536 : Nat) : Int) := by rw [IntKind.wrap_u64]; omega
  simp only [e5]
  have l5 : y + y / 65536 ≤ 700000000000000000 := by omega
  generalize y + y / 65536 = u at *
  have e6 : IntKind.u64.wrap ((u : Int) + (u : Int) / 4294967296) = ((u + u / 4294967296 : Nat) : Int) := by rw [IntKind.wrap_u64]; omega
  simp only [e6]
  have l6 : u + u / 4294967296 ≤ 800000000000000000 := by omega
  generalize u + u / 4294967296 = t at *
  have e7 : wrap64 (t : Int) = (t : Int) := IntWalk.wrap64_in _ ⟨by omega, by omega⟩
  simp only [e7, i64_and127]
  rw [← g3]
  simp

end Go.Proofs.YtllkeeeajlgkpaaDoor
