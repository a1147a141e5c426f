
/- Contracts of package words and of its reference: sums, pages, sizes. -/
import Derived.Test.YtkkadknijjninaaDoorRows
import Derived.Test.YtkkadknijjninaaDoorKA
namespace Go.Proofs.YtkkadknijjninaaDoor
open Go.RowKit

def isSz (n : Int) : Bool := decide (n = 1 ∨ n = 2 ∨ n = 4 ∨ n = 8)

structure Sizes (w : World) : Prop where
  c0 : w.cell? ⟨1, 0, none⟩ = some (.int .i64 1)
  c1 : w.cell? ⟨1, 1, none⟩ = some (.int .i64 2)
  c2 : w.cell? ⟨1, 2, none⟩ = some (.int .i64 4)
  c3 : w.cell? ⟨1, 3, none⟩ = some (.int .i64 8)

theorem Sizes.below {w w' : World} (h : Sizes w) (hb : Below w.heap.size w w') : Sizes w' := by
  have hl := World.block_lt_of_cell? w _ h.c0
  have e : ∀ o, w'.cell? ⟨1, o, none⟩ = w.cell? ⟨1, o, none⟩ := fun o => hb.cell (p := ⟨1, o, none⟩) hl
  exact ⟨(e 0).trans h.c0, (e 1).trans h.c1, (e 2).trans h.c2, (e 3).trans h.c3⟩

set_option maxHeartbeats 1000000 in
theorem isSize_any (n : Int) (w : World) (hs : Sizes w) :
    Calls Tryd.prog 79 #[.int .i64 n] w fun e w' => e = .returned (.bool (isSz n)) ∧ w = w' := by
  obtain ⟨c0, c1, c2, c3⟩ := hs
  have i0 : ∀ w, (Instr.index 151 (.agg #[.int .i64 1, .int .i64 2, .int .i64 4, .int .i64 8]) (.int .i64 0)).run Tryd.prog w = .ok (.int .i64 1) w := fun _ => by kernel_rfl
  have i1 : ∀ w, (Instr.index 151 (.agg #[.int .i64 1, .int .i64 2, .int .i64 4, .int .i64 8]) (.int .i64 1)).run Tryd.prog w = .ok (.int .i64 2) w := fun _ => by kernel_rfl
  have i2 : ∀ w, (Instr.index 151 (.agg #[.int .i64 1, .int .i64 2, .int .i64 4, .int .i64 8]) (.int .i64 2)).run Tryd.prog w = .ok (.int .i64 4) w := fun _ => by kernel_rfl
  have i3 : ∀ w, (Instr.index 151 (.agg #[.int .i64 1, .int .i64 2, .int .i64 4, .int .i64 8]) (.int .i64 3)).run Tryd.prog w = .ok (.int .i64 8) w := fun _ => by kernel_rfl
  go_enter Tryd.func79, Tryd.ntmps79
  go_wp2
  refine wp_loop_rounds 5 ?_
  rw [rounds_succ]
  go_wp2
  all_goals try (rw [rounds_succ]; go_wp2)
  all_goals try (rw [rounds_succ]; go_wp2)
  all_goals try (rw [rounds_succ]; go_wp2)
  all_goals try (rw [rounds_succ]; go_wp2)
  all_goals go_ret
  all_goals (refine ⟨ret_bool ?_, rfl⟩; simp only [beq_iff_eq, beq_eq_false_iff_ne, ne_eq] at *; unfold isSz; simp; omega)

def addV (a b : Int) : Int := if IntKind.u64.wrap (a + b) < a then 0 else IntKind.u64.wrap (a + b)
def addB (a b : Int) : Bool := decide (a ≤ IntKind.u64.wrap (a + b))

theorem ret_add {a b : Int} {x : Int} {f : Bool} (h : x = addV a b) (g : f = addB a b) : Ending.returned (.tuple #[.int .u64 x, .bool f]) = .returned (.tuple #[.int .u64 (addV a b), .bool (addB a b)]) := by rw [h, g]

set_option maxHeartbeats 400000 in
theorem add_any (a b : Int) (w : World) :
    Calls Tryd.prog 75 #[.int .u64 a, .int .u64 b] w fun e w' => e = .returned (.tuple #[.int .u64 (addV a b), .bool (addB a b)]) ∧ w = w' := by
  go_enter Tryd.func75, Tryd.ntmps75
  go_wp2
  all_goals go_ret2
  · have h : IntKind.u64.wrap (a + b) < a := by assumption
    exact ⟨ret_add (by unfold addV; rw [if_pos h]) (by unfold addB; simp; omega), rfl⟩
  · have h : a ≤ IntKind.u64.wrap (a + b) := by assumption
    exact ⟨ret_add (by unfold addV; rw [if_neg (by omega)]) (by unfold addB; simp; omega), rfl⟩

def insB (from' size end' : Int) : Bool := decide (size ≤ end' ∧ from' ≤ end' - size)

set_option maxHeartbeats 400000 in
theorem inside_any (a b c : Int) (w : World) (hb : 0 ≤ b) (hc : c ≤ 18446744073709551615) :
    Calls Tryd.prog 47 #[.int .u64 a, .int .u64 b, .int .u64 c] w fun e w' => e = .returned (.bool (insB a b c)) ∧ w = w' := by
  by_cases h : b ≤ c
  · go_enter Tryd.func47, Tryd.ntmps47
    go_wp2
    go_ret
    exact ⟨ret_bool (by unfold insB; simp [h]), rfl⟩
  · go_enter Tryd.func47, Tryd.ntmps47
    go_wp2
    go_ret
    exact ⟨ret_bool (by unfold insB; simp; omega), rfl⟩

def upV (a : Int) : Int := if a % 4096 = 0 then a else addV (a - a % 4096) 4096
def upB (a : Int) : Bool := if a % 4096 = 0 then true else addB (a - a % 4096) 4096

theorem ret_up {a : Int} {x : Int} {f : Bool} (h : x = upV a) (g : f = upB a) : Ending.returned (.tuple #[.int .u64 x, .bool f]) = .returned (.tuple #[.int .u64 (upV a), .bool (upB a)]) := by rw [h, g]

theorem addB_eq {a b : Int} (ha : 0 ≤ a) (hb : 0 ≤ b) (ha' : a ≤ 18446744073709551615) (hb' : b ≤ 18446744073709551615) : addB a b = decide (a + b ≤ 18446744073709551615) := by
  unfold addB; rw [IntKind.wrap_u64, decide_eq_decide]; omega
theorem addV_eq {a b : Int} (ha : 0 ≤ a) (hb : 0 ≤ b) (ha' : a ≤ 18446744073709551615) (hb' : b ≤ 18446744073709551615) : addV a b = if a + b ≤ 18446744073709551615 then a + b else 0 := by
  unfold addV; rw [IntKind.wrap_u64]; split <;> split <;> omega

def pgF (a b : Int) : Int := if addB a b = true then a / 4096 else 0
def pgM (a b : Int) : Int := if addB a b = true then (if b = 0 then 0 else (a + b - 1) / 4096 - a / 4096 + 1) else 0
def pgE (a b : Int) : Int := if addB a b = true then 0 else 1

theorem ret_pg {a b x y z : Int} (h : x = pgF a b) (g : y = pgM a b) (k : z = pgE a b) : Ending.returned (.tuple #[.int .u64 x, .int .u64 y, .int .i64 z]) = .returned (.tuple #[.int .u64 (pgF a b), .int .u64 (pgM a b), .int .i64 (pgE a b)]) := by rw [h, g, k]

end Go.Proofs.YtkkadknijjninaaDoor
