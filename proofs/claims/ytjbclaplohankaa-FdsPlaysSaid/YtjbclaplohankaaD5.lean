/- Package fds: Fork, List. -/
import Derived.Test.YtjbclaplohankaaD4
namespace Go.Proofs.Ytjbclaplohankaa
open Go.RowKit Go.Sort

theorem wpList_build {P : Program} {ops : Array Oper} {rest : List Oper} {o : Oper} {a : Act} {w : World} {Q : Exit → Act → World → Prop} (hgd : o.guard = none) (t : TypeId) (ps : Array (Nat × Operand)) (ho : o.op = .build t ps)
    (vs : Array (Nat × Value)) (hv : ps.map (fun (i, x) => (i, a.eval x)) = vs) (v : Value) (hrun : (Instr.build t vs).run P w = .ok v w) (h : wpList P ops Q rest (a.put o.dst v) w) : wpList P ops Q (o :: rest) a w := by
  refine wpList_plain hgd fun K hK => ?_
  subst hv
  unfold Oper.wp
  simp only [execOp, ho, Sem.run_bind, hrun, Result.andThen]
  exact hK _ _ h

set_option maxHeartbeats 1000000 in
theorem fork_any (b : Nat) (ss : List SL) (w : World) (ht : Tab w b 50 ss) :
    Calls Try.prog 9 #[.pointer (some ⟨b, 0, none⟩)] w fun e w' => e = .returned (.pointer (some ⟨w.heap.size, 0, none⟩)) ∧ Tab w' w.heap.size 50 ss ∧ Below w.heap.size w w' := by
  have HH := hid ht.row.heap
  have hl16 := ht.len
  have HS := hid (show (Try.prog.info? 48).map (·.size) = some (flat ss).toArray.size by rw [sizeTab, List.size_toArray, flat_len, ht.len])
  have HR := hid (Row.new w 50 (flat ss))
  have HW := hid (@bal w)
  have HBLD := hid (run_build ss ht.len)
  clear ht
  go_enter Try.func9, Try.ntmps9
  go_wp2_with (first | refine wpList_load_row rfl 48 _ rfl b rfl 50 (flat ss).toArray (0, 0) _ HH.out Try.underlying48 rfl HS.out ?_ | ((refine wpList_build rfl 50 #[(0, .tmp 8)] rfl #[(0, .agg (flat ss).toArray)] (by simp; rfl) _ (HBLD.out w) ?_)) | refine wpList_load_row rfl 48 _ rfl b rfl 50 (flat ss).toArray (0, 0) _ HH.out Try.underlying48 rfl HS.out ?_)
  go_ret
  exact ⟨rfl, ⟨HR.out, hl16⟩, HW.out _⟩

theorem cells_one (ss : List SL) : ∀ v ∈ flat ss, v.oneCell' = true := by
  intro v hv
  unfold flat at hv
  obtain ⟨s, _, h⟩ := List.mem_flatMap.1 hv
  simp only [scell, List.mem_cons, List.not_mem_nil, or_false] at h
  rcases h with rfl | rfl | rfl | rfl <;> rfl

set_option maxHeartbeats 1000000 in
set_option maxRecDepth 100000 in
theorem list_any (b : Nat) (ss : List SL) (w : World) (ht : Tab w b 50 ss) :
    Calls Try.prog 17 #[.pointer (some ⟨b, 0, none⟩)] w fun e w' => e = .returned (.slice (some ⟨w.heap.size, 0, none⟩) 16 16) ∧ Tab w' w.heap.size 44 ss ∧ Below w.heap.size w w' := by
  have hl16 := ht.len
  have HW := hid (@bal w)
  have hfl : (flat ss).length = 64 := by rw [flat_len, hl16]
  have HSRC := hid (fun (o : Obj) => show ∀ j v, (flat ss)[j]? = some v → (w.alloc o).cell? ((Addr.mk b 0 none).add j) = some v from fun j v hj => by
    have hadd : (Addr.mk b 0 none).add j = ⟨b, j, none⟩ := by unfold Addr.add; split <;> simp_all
    rw [hadd, (ht.row.alloc o).cell']
    exact hj)
  have hltb := ht.row.lt
  have hrow := ht.row.cell'
  have HROW := hid hrow
  clear ht hrow
  have HFL := hid hfl
  have HZ := hid (Row.new w 44 (flat zero16))
  have HLZ := hid (show (flat ss).length = (flat zero16).length by rw [HFL.out]; rfl)
  have HLM := hid (show (flat ss).length = Nat.min 16 16 * 4 by rw [HFL.out]; rfl)
  have HONE := hid (cells_one ss)
  have hmk : ∀ w, (Instr.makeSlice 40 (.int .i64 16) (.int .i64 16)).run Try.prog w = .ok (.slice (some ⟨w.heap.size, 0, none⟩) 16 16) (w.alloc (.cells (flat zero16).toArray 44)) := fun _ => by kernel_rfl
  go_enter Try.func17, Try.ntmps17
  go_wp2_with (refine wpList_copy_wide rfl (.tmp 7) (.tmp 11) 40 40 rfl 44 4 Try.underlying40 sizeSlot w.heap.size 16 16 ⟨b, 0, none⟩ 16 16 rfl rfl (flat zero16) 44 (HZ.out).heap (flat ss) HLM.out (HSRC.out _) HLZ.out HONE.out ?_; intro w2 hr2 hg2; have HR2 := hid hr2; have HG2 := hid hg2; clear hr2 hg2)
  go_ret
  refine ⟨rfl, ⟨HR2.out, hl16⟩, ?_⟩
  exact (HW.out _).grown HG2.out (by simp) (fun k hk => by cases hk; exact Nat.le_refl _)
end Go.Proofs.Ytjbclaplohankaa
