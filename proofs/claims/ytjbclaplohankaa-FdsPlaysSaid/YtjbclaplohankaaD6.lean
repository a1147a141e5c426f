/- The anchor of hostellaw05; FdsNil. -/
import Derived.Test.YtjbclaplohankaaD5
import Derived.Laws.StructEq
namespace Go.Proofs.Ytjbclaplohankaa
open Go.RowKit Go.Sort

def L1 : List SL := zero16.set 0 (true, 3, 0, false)
def L2 : List SL := L1.set 1 (true, 4, 0, true)
theorem eq3 : ∀ w, (binOp .eql 44 (.agg #[.bool true, .int .i64 3, .int .i64 0, .bool false]) (.agg #[.bool true, .int .i64 3, .int .i64 0, .bool false])).run Try.prog w = .ok (.bool true) w := fun _ => by kernel_rfl
theorem eq0 : ∀ w, (binOp .eql 44 (.agg #[.bool false, .int .i64 0, .int .i64 0, .bool false]) (.agg #[.bool false, .int .i64 0, .int .i64 0, .bool false])).run Try.prog w = .ok (.bool true) w := fun _ => by kernel_rfl

set_option maxHeartbeats 2000000 in
theorem works_any (w : World) :
    Calls Try.prog 13 #[] w fun e' w' => e' = .returned (.bool true) ∧ Below w.heap.size w w' := by
  have he := eq3
  go_enter Try.func13, Try.ntmps13
  go_wp2_with fail
  refine (new_any _).mono ?_
  rintro e' w1 ⟨rfl, ht, hb⟩
  have HT := hid ht
  have HB1 := hid hb
  clear ht hb
  go_wp2_with fail
  refine (open_any _ _ _ _ _ HT.out).mono ?_
  rintro e' w2 ⟨rfl, ht, hg⟩
  rw [show openN zero16 3 = 0 by decide, show openC zero16 3 = 0 by decide]
  rw [show openS zero16 3 false = L1 by decide] at ht
  have HT := hid ht
  have HB2 := hid (HB1.out.grown hg HB1.out.size (fun k hk => by cases hk; exact Nat.le_refl _))
  clear ht hg
  go_wp2_with fail
  refine (open_any _ _ _ _ _ HT.out).mono ?_
  rintro e' w3 ⟨rfl, ht, hg⟩
  rw [show openN L1 4 = 1 by decide, show openC L1 4 = 0 by decide]
  rw [show openS L1 4 true = L2 by decide] at ht
  have HT := hid ht
  have HB3 := hid (HB2.out.grown hg HB2.out.size (fun k hk => by cases hk; exact Nat.le_refl _))
  clear ht hg
  go_wp2_with fail
  refine (sweep_any _ _ _ HT.out).mono ?_
  rintro e' w4 ⟨rfl, ht, hg⟩
  rw [show L2.map clr = L1 by decide] at ht
  have HT := hid ht
  have HB4 := hid (HB3.out.grown hg HB3.out.size (fun k hk => by cases hk; exact Nat.le_refl _))
  clear ht hg
  go_wp2_with fail
  refine (at_any _ _ _ _ HT.out).mono ?_
  rintro e' w5 ⟨rfl, hb⟩
  rw [show atS L1 0 = (true, 3, 0, false) by decide, show closeC L1 0 = 0 by decide]
  have HT := hid (HT.out.below hb)
  have HB5 := hid (bthen HB4.out hb)
  clear hb
  go_wp2_with fail
  have HT6 := hid (fun o => HT.out.below (@bal w5 o))
  have HB6 := hid (fun o => bthen HB5.out (@bal w5 o))
  have HR6 := hid (Row.new w5 44 [.bool true, .int .i64 3, .int .i64 0, .bool false])
  refine (at_any _ _ _ _ (HT6.out _)).mono ?_
  rintro e' w7 ⟨rfl, hb⟩
  rw [show atS L1 1 = slot0 by decide, show closeC L1 1 = 14 by decide]
  have HT7 := hid ((HT6.out _).below hb)
  have HB7 := hid (bthen (HB6.out _) hb)
  have hr7 := HR6.out.below hb HR6.out.lt
  obtain ⟨x0, x1, x2, x3⟩ := hr7.four
  have hlt := hr7.lt
  clear hb hr7
  go_wp2_with fail
  refine (list_any _ _ _ (HT7.out.below (bal _))).mono ?_
  rintro e' w8 ⟨rfl, _, hb⟩
  have HB8 := hid (bthen (bthen HB7.out (bal _)) hb)
  clear hb
  go_wp2_with fail
  go_ret
  exact ⟨rfl, HB8.out⟩

set_option maxHeartbeats 2000000 in
theorem fdsNil_walk (d t fd ino pos : Int) (c : Bool) (w : World) :
    Calls Try.prog 6 #[.agg #[.int .i64 d, .int .i64 t, .int .i64 fd, .int .i64 ino, .int .i64 pos, .bool c]] w fun e' w' => e' = .returned (.bool true) ∧ Below w.heap.size w w' := by
  have he := eq0
  have HB0 := hid (@bal w)
  have hr := Row.new w 31 [.int .i64 d, .int .i64 t, .int .i64 fd, .int .i64 ino, .int .i64 pos, .bool c]
  have HR := hid hr
  clear hr
  go_enter Try.func6, Try.ntmps6
  go_wp2_with (go_at_call 14; refine (open_nil _ _ _).mono ?_; rintro e' w' ⟨rfl, rfl⟩)
  refine (at_nil _ _).mono ?_
  rintro e' w2 ⟨rfl, hb⟩
  have hr := HR.out.below hb HR.out.lt
  have x2 := hr.cell 2 (by simp)
  have x3 := hr.cell 3 (by simp)
  have x4 := hr.cell 4 (by simp)
  have hlt := hr.lt
  simp only [List.getElem_cons_zero, List.getElem_cons_succ] at x2 x3 x4
  have HB2 := hid (bthen (HB0.out _) hb)
  clear hb hr
  go_wp2_with (first | (go_at_call 18; refine (sweep_nil _).mono ?_; rintro e' w' ⟨rfl, rfl⟩) | (go_at_call 15; refine (close_nil _ _).mono ?_; rintro e' w' ⟨rfl, rfl⟩) | (go_at_call 16; refine (move_nil _ _ _).mono ?_; rintro e' w' ⟨rfl, rfl⟩) | (go_at_call 9; refine (fork_nil _).mono ?_; rintro e' w' ⟨rfl, rfl⟩) | (go_at_call 17; refine (list_nil _).mono ?_; rintro e' w' ⟨rfl, rfl⟩) | (go_at_call 13; refine (works_any _).mono ?_; rintro e' w' ⟨rfl, hw⟩))
  go_ret
  exact ⟨rfl, bthen (bthen HB2.out (bal _)) hw⟩
end Go.Proofs.Ytjbclaplohankaa
