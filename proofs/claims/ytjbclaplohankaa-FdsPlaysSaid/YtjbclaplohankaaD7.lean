/- hostelref05.Eq of two slices that hold the same slots. -/
import Derived.Test.YtjbclaplohankaaD6
import Derived.Test.YtjbclaplohankaaO7
import Derived.Deep.QuietTactic
import Derived.BigQuiet
import Derived.Laws.StructEq
namespace Go.Proofs.Ytjbclaplohankaa
open Go.RowKit Go.Sort

def eqS (s t : SL) : Bool := s.1 == t.1 && (s.2.1 == t.2.1 && (s.2.2.1 == t.2.2.1 && s.2.2.2 == t.2.2.2))
theorem eqS_self (s : SL) : eqS s s = true := by simp [eqS]
theorem slot_neq (w : World) (u : Bool) (n p : Int) (c u' : Bool) (n' p' : Int) (c' : Bool) : (binOp .neq 44 (.agg #[.bool u, .int .i64 n, .int .i64 p, .bool c]) (.agg #[.bool u', .int .i64 n', .int .i64 p', .bool c'])).run Try.prog w = .ok (.bool (!eqS (u, n, p, c) (u', n', p', c'))) w := by
  rw [run_neq_struct, run_equalIn_agg w 9999 _ _ _ (by kernel_rfl) (by kernel_rfl)]
  simp [go_sem, Try.underlying44, Try.underlying3, Try.underlying4, Program.fieldsOf, eqS]
  repeat' split
  all_goals simp_all

set_option maxHeartbeats 1000000 in
theorem eqSlots_any (b c : Nat) (ss : List SL) (w : World) (hB : Tab w b 44 ss) (hC : Tab w c 44 ss) :
    Calls Try.prog 19 #[.slice (some ⟨b, 0, none⟩) 16 16, .slice (some ⟨c, 0, none⟩) 16 16] w fun e w' => e = .returned (.bool true) ∧ ∃ n, w' = w.drewN n := by
  have hl16 := hB.len
  have hlb := hB.row.lt
  have hlc := hC.row.lt
  have HB := hid hB
  have HC := hid hC
  clear hB hC
  have hne := slot_neq
  go_enter Try.func19, Try.ntmps19
  go_wp2_with fail
  go_loopw [5] (fun i wr => ∃ k : Nat, k ≤ 16 ∧ i = .int .i64 k ∧ ∃ n, wr = w.drewN n) (fun i _ => 16 - (intOf i).toNat)
  case atStart => exact ⟨0, Nat.zero_le _, rfl, 0, rfl⟩
  case round =>
    obtain ⟨k, hk, rfl, n, rfl⟩ := hrel
    by_cases h1 : k < 16
    · have d1 : decide ((k : Int) < 16) = true := by simp; omega
      have d1n : decide (k < 16) = true := by simp; omega
      have hks : k < ss.length := by omega
      obtain ⟨x0, x1, x2, x3⟩ := HB.out.at k hks
      obtain ⟨y0, y1, y2, y3⟩ := HC.out.at k hks
      have hq := eqS_self ss[k]
      generalize ss[k] = sk at *
      obtain ⟨u, m, p, c⟩ := sk
      go_wp2_with fail
      go_quiet (fail)
      go_wp2_with fail
      go_roundw
      case rel => exact ⟨k + 1, by omega, by go_num, n + nq, by simp [World.drewN, Nat.add_assoc]⟩
      case measure => simp [intOf]; omega
    · have d1 : decide ((k : Int) < 16) = false := by simp; omega
      have d1n : decide (k < 16) = false := by simp; omega
      go_wp2_with fail
      go_ret
      exact ⟨rfl, n, rfl⟩
end Go.Proofs.Ytjbclaplohankaa
