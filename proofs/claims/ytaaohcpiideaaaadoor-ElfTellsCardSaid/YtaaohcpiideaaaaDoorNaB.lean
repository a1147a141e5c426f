
/- hostelref12.Same of two heads that say the same; ElfCut. -/
import Derived.Test.YtaaohcpiideaaaaDoorNaA
import Derived.Test.YtaaohcpiideaaaaDoorKA
import Derived.Deep.QuietTactic
import Derived.BigQuiet
namespace Go.Proofs.YtaaohcpiideaaaaDoor
open Go.RowKit Go.Sort Go.Shelf
attribute [local go_sem] Oper.semAt_some

def eqSG (x y : SG) : Bool := x.kind == y.kind && (x.flags == y.flags && (x.off == y.off && (x.addr == y.addr && (x.fsz == y.fsz && x.msz == y.msz))))
theorem seg_neq (w : World) (x y : SG) : (binOp .neq 41 (sgV x) (sgV y)).run Tryd.prog w = .ok (.bool (!eqSG x y)) w := by
  unfold sgV
  rw [run_neq_struct, run_equalIn_agg w 9999 _ _ _ (by kernel_rfl) (by kernel_rfl)]
  simp [go_sem, Tryd.underlying41, Tryd.underlying39, Tryd.underlying23, Tryd.underlying5, Program.fieldsOf, eqSG, sgV]
  repeat' split
  all_goals simp_all
set_option maxRecDepth 100000 in
set_option maxHeartbeats 4000000 in
theorem same12_any (typ entry phoff : Int) (a b : Option Addr) (c d : Nat) (sg : List SG) (w : World) (hA : Sgs w a sg.length sg) (hB : Sgs w b sg.length sg) (hn : sg.length ≤ 1000000000) :
    Calls Tryd.prog 19 #[.agg #[.int .u16 typ, .int .u64 entry, .int .u64 phoff, .slice a sg.length c], .agg #[.int .u16 typ, .int .u64 entry, .int .u64 phoff, .slice b sg.length d]] w fun e w' => e = .returned (.bool true) ∧ Below w.heap.size w w' := by
  have hne : ∀ (w : World) (k f o ad z m : Int), (binOp .neq 41 (.agg #[.int .u32 k, .int .u8 f, .int .u64 o, .int .u64 ad, .int .u64 z, .int .u64 m]) (.agg #[.int .u32 k, .int .u8 f, .int .u64 o, .int .u64 ad, .int .u64 z, .int .u64 m])).run Tryd.prog w = .ok (.bool false) w := fun w k f o ad z m => by
    have h := seg_neq w ⟨k, f, o, ad, z, m⟩ ⟨k, f, o, ad, z, m⟩
    rw [show eqSG ⟨k, f, o, ad, z, m⟩ ⟨k, f, o, ad, z, m⟩ = true by simp [eqSG]] at h
    exact h
  obtain ⟨W, hW⟩ : ∃ W, W = (w.alloc (.cells #[.int .u16 typ, .int .u64 entry, .int .u64 phoff, .slice a sg.length c] 26)).alloc (.cells #[.int .u16 typ, .int .u64 entry, .int .u64 phoff, .slice b sg.length d] 26) := ⟨_, rfl⟩
  have HW := hid hW
  have HLOW := hid (show Below w.heap.size w W by rw [hW]; exact (bal _).alloc (bal (w := w) _).size _)
  have HRA := hid (show Row W w.heap.size 26 [.int .u16 typ, .int .u64 entry, .int .u64 phoff, .slice a sg.length c] by rw [hW]; exact (Row.new _ _ _).alloc _)
  have HRB := hid (show Row W (w.heap.size + 1) 26 [.int .u16 typ, .int .u64 entry, .int .u64 phoff, .slice b sg.length d] by
    rw [hW]
    have := Row.new (w.alloc (.cells #[.int .u16 typ, .int .u64 entry, .int .u64 phoff, .slice a sg.length c] 26)) 26 [.int .u16 typ, .int .u64 entry, .int .u64 phoff, .slice b sg.length d]
    rw [World.size_alloc] at this
    exact this)
  have HA := hid (hA.below' HLOW.out)
  have HB := hid (hB.below' HLOW.out)
  have e1 : (typ != typ) = false := by simp
  have e2 : (entry != entry) = false := by simp
  have e3 : (phoff != phoff) = false := by simp
  have e4 : ((sg.length : Int) != (sg.length : Int)) = false := by simp
  have a0 := HRA.out.cell' 0
  have a1 := HRA.out.cell' 1
  have a2 := HRA.out.cell' 2
  have a3 := HRA.out.cell' 3
  have b0 := HRB.out.cell' 0
  have b1 := HRB.out.cell' 1
  have b2 := HRB.out.cell' 2
  have b3 := HRB.out.cell' 3
  clear hW hA hB
  go_enter Tryd.func19, Tryd.ntmps19
  go_wp2_with fail
  rw [← HW.out]
  go_wp2_with fail
  go_loopw [5] (fun i wr => ∃ k : Nat, k ≤ sg.length ∧ i = .int .i64 k ∧ ∃ n, wr = W.drewN n) (fun i _ => sg.length - (intOf i).toNat)
  case atStart => exact ⟨0, Nat.zero_le _, rfl, 0, rfl⟩
  case round =>
    obtain ⟨k, hk, rfl, n, rfl⟩ := hrel
    by_cases h1 : k < sg.length
    · have d1 : decide ((k : Int) < (sg.length : Int)) = true := by simp; omega
      have d1n : decide (k < sg.length) = true := by simp; omega
      obtain ⟨ba, oa, rfl, x0, x1, x2, x3, x4, x5⟩ := HA.out.cells h1
      obtain ⟨bb, ob, rfl, y0, y1, y2, y3, y4, y5⟩ := HB.out.cells h1
      generalize sg[k] = x at *
      go_wp2_with fail
      go_quiet (fail)
      go_wp2_with fail
      go_roundw
      case rel => exact ⟨k + 1, by omega, by go_num, n + nq, by simp [World.drewN, Nat.add_assoc]⟩
      case measure => simp [intOf]; omega
    · have d1 : decide ((k : Int) < (sg.length : Int)) = false := by simp; omega
      have d1n : decide (k < sg.length) = false := by simp; omega
      go_wp2_with fail
      go_ret
      exact ⟨rfl, bdN HLOW.out n⟩
end Go.Proofs.YtaaohcpiideaaaaDoor
