/- Package regions: onPage, mayBe, Joins; the reference's One, Joins. -/
import Derived.Test.YtcafmhhfnleanaaRows
import Derived.Test.YtcafmhhfnleanaaI0
import Derived.IntWalk
namespace Go.Proofs.Ytcafmhhfnleanaa
open Go.RowKit Go.Sort

def pg (a : Int) : Bool := a % 4096 == 0
def wU (a : Int) : Int := IntKind.u64.wrap a

theorem onPage_any (a : Int) (w : World) (h0 : 0 ≤ a) :
    Calls Try.prog 49 #[.int .u64 a] w fun e w' => e = .returned (.bool (pg a)) ∧ w = w' := by
  go_enter Try.func49, Try.ntmps49
  go_wp2_with fail
  go_ret
  exact ⟨rfl, rfl⟩

def offB (x : RG) : Bool := if x.ino == -1 then x.off == 0 else decide (0 ≤ x.ino) && pg x.off && decide (x.off ≤ 281474976710656 - (x.to - x.fr))
def mayB (x : RG) : Bool := pg x.fr && pg x.to && decide (x.fr < x.to) && decide (x.to ≤ 140737488355328) && decide (x.pr ≤ 7) && offB x

set_option maxHeartbeats 1000000 in
theorem mayBe_any (x : RG) (w : World) (hx : RGok x) :
    Calls Try.prog 32 #[rgV x] w fun e w' => e = .returned (.bool (mayB x)) ∧ Below w.heap.size w w' := by
  obtain ⟨f, t, p, i, o⟩ := x
  obtain ⟨h1, h2, h3, h4, h5, h6, h7, h8, h9, h10⟩ := hx
  simp only at *
  have HW := hid (@bal w)
  go_enter Try.func32, Try.ntmps32
  go_wp2_with (go_at_call 49; refine (onPage_any _ _ (by assumption)).mono ?_; rintro e' w' ⟨rfl, rfl⟩)
  all_goals go_ret
  all_goals refine ⟨ret_bool ?_, HW.out _⟩
  all_goals (unfold mayB offB; simp_all; try omega)

def joinB (a b : RG) : Bool := a.to == b.fr && a.pr == b.pr && a.ino == b.ino && (a.ino == -1 || b.off == wU (a.off + wU (a.to - a.fr)))
set_option maxHeartbeats 1000000 in
theorem joins_any (x y : RG) (w : World) :
    Calls Try.prog 16 #[rgV x, rgV y] w fun e w' => e = .returned (.bool (joinB x y)) ∧ Below w.heap.size w w' := by
  obtain ⟨f, t, p, i, o⟩ := x
  obtain ⟨g, u, q, j, r⟩ := y
  have HW := hid (@b2a w)
  go_enter Try.func16, Try.ntmps16
  go_wp2_with fail
  all_goals go_ret
  all_goals refine ⟨ret_bool ?_, HW.out _ _⟩
  all_goals (unfold joinB wU; simp_all)
set_option maxHeartbeats 1000000 in
theorem rjoins_any (x y : RG) (w : World) :
    Calls Try.prog 17 #[rgV x, rgV y] w fun e w' => e = .returned (.bool (joinB x y)) ∧ Below w.heap.size w w' := by
  obtain ⟨f, t, p, i, o⟩ := x
  obtain ⟨g, u, q, j, r⟩ := y
  have HW := hid (@b2a w)
  go_enter Try.func17, Try.ntmps17
  go_wp2_with fail
  all_goals go_ret
  all_goals refine ⟨ret_bool ?_, HW.out _ _⟩
  all_goals (unfold joinB wU; simp_all)
set_option maxHeartbeats 1000000 in
theorem one_any (x : RG) (w : World) (hx : RGok x) :
    Calls Try.prog 33 #[rgV x] w fun e w' => e = .returned (.bool (mayB x)) ∧ Below w.heap.size w w' := by
  obtain ⟨f, t, p, i, o⟩ := x
  obtain ⟨h1, h2, h3, h4, h5, h6, h7, h8, h9, h10⟩ := hx
  simp only at *
  have HW := hid (@bal w)
  go_enter Try.func33, Try.ntmps33
  go_wp2_with fail
  all_goals go_ret
  all_goals refine ⟨ret_bool ?_, HW.out _⟩
  all_goals (unfold mayB offB pg; simp_all; try omega)
end Go.Proofs.Ytcafmhhfnleanaa
