
/- elf.Parse: its deferred closure. -/
import Derived.Test.YtaaohcpiideaaaaDoorNa2
import Derived.Tactics2
import Derived.Defers
import Derived.Recover
namespace Go.Proofs.YtaaohcpiideaaaaDoor
open Go.RowKit Go.Sort Go.Shelf
attribute [local go_sem] Oper.semAt_some

theorem ta_refusal (er : Int) (w : World) : (Instr.typeAssert (.iface 61 (.agg #[.int .i64 er])) 20 61 true).run Tryd.prog w = .ok (.tuple #[.agg #[.int .i64 er], .bool true]) w := by kernel_rfl
set_option maxHeartbeats 2000000 in
theorem catch_refused (H E : Nat) (er : Int) (a0 a1 a2 a3 e0 : Value) (older : List PanicEntry) (w : World) (hH : Row w H 26 [a0, a1, a2, a3]) (hE : Row w E 34 [e0]) (hne : H ≠ E) :
    CallsD Tryd.prog 37 #[.pointer (some ⟨H, 0, none⟩), .pointer (some ⟨E, 0, none⟩)] (.panicking ({ v := .iface 61 (.agg #[.int .i64 er]), recovered := false } :: older)) w fun e u' w' =>
      e = .returned (.tuple #[]) ∧ u' = .panicking ({ v := .iface 61 (.agg #[.int .i64 er]), recovered := true } :: older) ∧ Row w' H 26 [.int .u16 0, .int .u64 0, .int .u64 0, .slice none 0 0] ∧ Row w' E 34 [.int .i64 er] ∧ (∀ B, B ≤ H → B ≤ E → Below B w w') := by
  refine callsD_of_wpS Tryd.func37 rfl fun c₀ cs hu => ?_
  apply wpS_seq
  apply wpS_region
  simp [wpOpsS, go_sem, recoverD, hu, Tryd.ntmps37, Exit.thenS]
  refine wpS_of_wp ?_
  show Code.wp _ _ _ { tmps := #[.pointer (some ⟨H, 0, none⟩), .pointer (some ⟨E, 0, none⟩), .iface 61 (.agg #[.int .i64 er]), undef, undef, .iface 61 (.agg #[.int .i64 er]), undef, undef, undef, undef, undef, undef, undef, undef, undef, undef, undef, undef], defers := [] } _
  have hta := ta_refusal er
  have hb := hH.lt
  have he := hE.lt
  go_wp2_with fail
  obtain ⟨W, hW⟩ : ∃ W, W = w.alloc (.cells #[.int .i64 er] 61) := ⟨_, rfl⟩
  have HW := hid hW
  have hWH : Row W H 26 [a0, a1, a2, a3] := by rw [hW]; exact hH.below (bal _) hb
  have hWE : Row W E 34 [e0] := by rw [hW]; exact hE.below (bal _) he
  have hWX : W.cell? ⟨w.heap.size, 0, none⟩ = some (.int .i64 er) := by rw [hW]; exact (Row.new w 61 [.int .i64 er]).cell' 0
  have k0 := hWH.cell' 0
  have k1 := hWH.cell' 1
  have k2 := hWH.cell' 2
  have k3 := hWH.cell' 3
  have k4 := hWE.cell' 0
  have z0 := hWH.frozen 0
  have z1 := hWH.frozen 1
  have z2 := hWH.frozen 2
  have z3 := hWH.frozen 3
  have z4 := hWE.frozen 0
  have n1 : ¬ w.heap.size = H := by omega
  have n2 : ¬ w.heap.size = E := by omega
  have n3 : ¬ E = H := fun h => hne h.symm
  have HWH := hid hWH
  have HWE := hid hWE
  have HH := hid hH
  have HE := hid hE
  clear hWH hWE hH hE
  rw [← hW]
  clear hW
  go_region
  have hfin : Row (((((W.setCell ⟨H, 0, none⟩ (.int .u16 0)).setCell ⟨H, 1, none⟩ (.int .u64 0)).setCell ⟨H, 2, none⟩ (.int .u64 0)).setCell ⟨H, 3, none⟩ (.slice none 0 0)).setCell ⟨E, 0, none⟩ (.int .i64 er)).drew H 26 [.int .u16 0, .int .u64 0, .int .u64 0, .slice none 0 0] :=
    ((((((HWH.out.set 0 _).set 1 _).set 2 _).set 3 _).other (a := ⟨E, 0, none⟩) (by simpa using hne) _).drew)
  have hfin2 : Row (((((W.setCell ⟨H, 0, none⟩ (.int .u16 0)).setCell ⟨H, 1, none⟩ (.int .u64 0)).setCell ⟨H, 2, none⟩ (.int .u64 0)).setCell ⟨H, 3, none⟩ (.slice none 0 0)).setCell ⟨E, 0, none⟩ (.int .i64 er)).drew E 34 [.int .i64 er] :=
    ((((((HWE.out.other (a := ⟨H, 0, none⟩) (by simpa using Ne.symm hne) _).other (a := ⟨H, 1, none⟩) (by simpa using Ne.symm hne) _).other (a := ⟨H, 2, none⟩) (by simpa using Ne.symm hne) _).other (a := ⟨H, 3, none⟩) (by simpa using Ne.symm hne) _).set 0 _).drew)
  have hlow : ∀ B, B ≤ H → B ≤ E → Below B w (((((W.setCell ⟨H, 0, none⟩ (.int .u16 0)).setCell ⟨H, 1, none⟩ (.int .u64 0)).setCell ⟨H, 2, none⟩ (.int .u64 0)).setCell ⟨H, 3, none⟩ (.slice none 0 0)).setCell ⟨E, 0, none⟩ (.int .i64 er)).drew := fun B h1 h2 => by
    have hw : Below B w W := by rw [HW.out]; exact (Below.refl B w).alloc (by omega) _
    exact (bset (bset (bset (bset (bset hw h1 _) h1 _) h1 _) h1 _) h2 _).drew
  exact ⟨rfl, _, rfl, _, results_none rfl _ _ _, rfl, rfl, hfin, hfin2, hlow⟩
theorem ta_nothing (w : World) : (Instr.typeAssert .nilIface 20 61 true).run Tryd.prog w = .ok (.tuple #[.agg #[.int .i64 0], .bool false]) w := by kernel_rfl
set_option maxHeartbeats 2000000 in
theorem catch_idle (H E : Nat) (w : World) :
    CallsD Tryd.prog 37 #[.pointer (some ⟨H, 0, none⟩), .pointer (some ⟨E, 0, none⟩)] .returning w fun e u' w' => e = .returned (.tuple #[]) ∧ u' = .returning ∧ Below w.heap.size w w' := by
  refine callsD_of_wpS Tryd.func37 rfl fun c₀ cs hu => ?_
  apply wpS_seq
  apply wpS_region
  simp [wpOpsS, go_sem, recoverD, hu, Tryd.ntmps37, Exit.thenS]
  refine wpS_of_wp ?_
  show Code.wp _ _ _ { tmps := #[.pointer (some ⟨H, 0, none⟩), .pointer (some ⟨E, 0, none⟩), .nilIface, undef, undef, .nilIface, undef, undef, undef, undef, undef, undef, undef, undef, undef, undef, undef, undef], defers := [] } _
  have hta := ta_nothing
  go_wp2_with fail
  have hlow : Below w.heap.size w (w.alloc (.cells #[.int .i64 0] 61)) := bal _
  have hc : ({ c₀ with mode := .returning } : Frame) = c₀ := by cases c₀; simp_all
  exact ⟨rfl, .returning, by rw [hc], _, results_none rfl _ _ _, rfl, rfl, hlow⟩
end Go.Proofs.YtaaohcpiideaaaaDoor
