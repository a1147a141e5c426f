
/- Contracts of package words and of its reference: sums, pages, sizes. -/
import Derived.Test.YtkpopdkkobelaaaRows
import Derived.Test.YtkpopdkkobelaaaKA
namespace Go.Proofs.Ytkpopdkkobelaaa
open Go.RowKit

def isSz (n : Int) : Bool := decide (n = 1 ∨ n = 2 ∨ n = 4 ∨ n = 8)

def addV (a b : Int) : Int := if IntKind.u64.wrap (a + b) < a then 0 else IntKind.u64.wrap (a + b)
def addB (a b : Int) : Bool := decide (a ≤ IntKind.u64.wrap (a + b))

theorem ret_add {a b : Int} {x : Int} {f : Bool} (h : x = addV a b) (g : f = addB a b) : Ending.returned (.tuple #[.int .u64 x, .bool f]) = .returned (.tuple #[.int .u64 (addV a b), .bool (addB a b)]) := by rw [h, g]

set_option maxHeartbeats 400000 in
theorem add_any (a b : Int) (w : World) :
    Calls Try.prog 48 #[.int .u64 a, .int .u64 b] w fun e w' => e = .returned (.tuple #[.int .u64 (addV a b), .bool (addB a b)]) ∧ w = w' := by
  go_enter Try.func48, Try.ntmps48
  go_wp2
  all_goals go_ret2
  · have h : IntKind.u64.wrap (a + b) < a := by assumption
    exact ⟨ret_add (by unfold addV; rw [if_pos h]) (by unfold addB; simp; omega), rfl⟩
  · have h : a ≤ IntKind.u64.wrap (a + b) := by assumption
    exact ⟨ret_add (by unfold addV; rw [if_neg (by omega)]) (by unfold addB; simp; omega), rfl⟩

def insB (from' size end' : Int) : Bool := decide (size ≤ end' ∧ from' ≤ end' - size)

set_option maxHeartbeats 400000 in
theorem inside_any (a b c : Int) (w : World) (hb : 0 ≤ b) (hc : c ≤ 18446744073709551615) :
    Calls Try.prog 42 #[.int .u64 a, .int .u64 b, .int .u64 c] w fun e w' => e = .returned (.bool (insB a b c)) ∧ w = w' := by
  by_cases h : b ≤ c
  · go_enter Try.func42, Try.ntmps42
    go_wp2
    go_ret
    exact ⟨ret_bool (by unfold insB; simp [h]), rfl⟩
  · go_enter Try.func42, Try.ntmps42
    go_wp2
    go_ret
    exact ⟨ret_bool (by unfold insB; simp; omega), rfl⟩

set_option maxHeartbeats 400000 in
theorem down_any (a : Int) (w : World) (ha : 0 ≤ a) (hb : a ≤ 18446744073709551615) :
    Calls Try.prog 43 #[.int .u64 a] w fun e w' => e = .returned (.int .u64 (a - a % 4096)) ∧ w = w' := by
  go_enter Try.func43, Try.ntmps43
  go_wp2
  go_ret
  exact ⟨rfl, rfl⟩

def upV (a : Int) : Int := if a % 4096 = 0 then a else addV (a - a % 4096) 4096
def upB (a : Int) : Bool := if a % 4096 = 0 then true else addB (a - a % 4096) 4096

theorem ret_up {a : Int} {x : Int} {f : Bool} (h : x = upV a) (g : f = upB a) : Ending.returned (.tuple #[.int .u64 x, .bool f]) = .returned (.tuple #[.int .u64 (upV a), .bool (upB a)]) := by rw [h, g]

set_option maxHeartbeats 400000 in
theorem up_any (a : Int) (w : World) (ha : 0 ≤ a) (hb : a ≤ 18446744073709551615) :
    Calls Try.prog 41 #[.int .u64 a] w fun e w' => e = .returned (.tuple #[.int .u64 (upV a), .bool (upB a)]) ∧ w = w' := by
  by_cases h : a % 4096 = 0
  · have hz : (a - a % 4096 == a) = true := by simp; omega
    go_enter Try.func41, Try.ntmps41
    go_wp2_with (go_at_call 43; refine (down_any _ _ (by omega) (by omega)).mono ?_; rintro e w' ⟨rfl, rfl⟩)
    go_ret2
    exact ⟨ret_up (by unfold upV; rw [if_pos h]) (by unfold upB; rw [if_pos h]), rfl⟩
  · have hz : (a - a % 4096 == a) = false := by simp; omega
    go_enter Try.func41, Try.ntmps41
    go_wp2_with (first | (go_at_call 43; refine (down_any _ _ (by omega) (by omega)).mono ?_; rintro e w' ⟨rfl, rfl⟩) | (go_at_call 48; refine (add_any _ _ _).mono ?_; rintro e w' ⟨rfl, rfl⟩))
    go_ret2
    exact ⟨ret_up (by unfold upV; rw [if_neg h]) (by unfold upB; rw [if_neg h]), rfl⟩

theorem addB_eq {a b : Int} (ha : 0 ≤ a) (hb : 0 ≤ b) (ha' : a ≤ 18446744073709551615) (hb' : b ≤ 18446744073709551615) : addB a b = decide (a + b ≤ 18446744073709551615) := by
  unfold addB; rw [IntKind.wrap_u64, decide_eq_decide]; omega
theorem addV_eq {a b : Int} (ha : 0 ≤ a) (hb : 0 ≤ b) (ha' : a ≤ 18446744073709551615) (hb' : b ≤ 18446744073709551615) : addV a b = if a + b ≤ 18446744073709551615 then a + b else 0 := by
  unfold addV; rw [IntKind.wrap_u64]; split <;> split <;> omega

def pgF (a b : Int) : Int := if addB a b = true then a / 4096 else 0
def pgM (a b : Int) : Int := if addB a b = true then (if b = 0 then 0 else (a + b - 1) / 4096 - a / 4096 + 1) else 0
def pgE (a b : Int) : Int := if addB a b = true then 0 else 1

theorem ret_pg {a b x y z : Int} (h : x = pgF a b) (g : y = pgM a b) (k : z = pgE a b) : Ending.returned (.tuple #[.int .u64 x, .int .u64 y, .int .i64 z]) = .returned (.tuple #[.int .u64 (pgF a b), .int .u64 (pgM a b), .int .i64 (pgE a b)]) := by rw [h, g, k]

end Go.Proofs.Ytkpopdkkobelaaa
