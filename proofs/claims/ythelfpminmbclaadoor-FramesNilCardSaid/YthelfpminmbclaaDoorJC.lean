/- FramesNil: the walk. -/
import Derived.Test.YthelfpminmbclaaDoorJB
namespace Go.Proofs.YthelfpminmbclaaDoor
open Go.RowKit Go.Sort

set_option maxRecDepth 100000 in
set_option maxHeartbeats 1000000 in
theorem framesNil_walk (x : OP) (w : World) (hT : Tb w) :
    Calls Tryd.prog 5 #[opV x] w fun e w' => e = .returned (.bool true) ∧ Below w.heap.size w w' := by
  have HT := hid (fun o => hT.below (bal o))
  have HB := hid (@bal w)
  have HX := hid (Row.new w 34 (opC x))
  have x1 := HX.out.cell 1 (by simp [opC])
  have x2 := HX.out.cell 2 (by simp [opC])
  have x3 := HX.out.cell 3 (by simp [opC])
  have x4 := HX.out.cell 4 (by simp [opC])
  simp only [opC, List.getElem_cons_zero, List.getElem_cons_succ] at x1 x2 x3 x4
  clear hT
  go_enter Tryd.func5, Tryd.ntmps5
  go_wp2_with (first | (go_at_call 16; refine (take_nil _).mono ?_; rintro e' w' ⟨rfl, rfl⟩) | (go_at_call 17; refine (up_nil _ _).mono ?_; rintro e' w' ⟨rfl, rfl⟩) | (go_at_call 18; refine (down_nil _ _).mono ?_; rintro e' w' ⟨rfl, rfl⟩) | (go_at_call 19; refine (load_nil _ _ _ _).mono ?_; rintro e' w' ⟨rfl, rfl⟩) | (go_at_call 20; refine (store_nil _ _ _ _).mono ?_; rintro e' w' ⟨rfl, rfl⟩) | (go_at_call 21; refine (copy_nil _ _).mono ?_; rintro e' w' ⟨rfl, rfl⟩) | (go_at_call 22; refine (count_nil _ _).mono ?_; rintro e' w' ⟨rfl, rfl⟩) | (go_at_call 23; refine (free_nil _).mono ?_; rintro e' w' ⟨rfl, rfl⟩) | (go_at_call 24; refine (size_nil _).mono ?_; rintro e' w' ⟨rfl, rfl⟩) | (go_at_call 11; refine (works_any _ (HT.out _)).mono ?_; rintro e' w' ⟨rfl, hw⟩))
  go_ret
  exact ⟨rfl, bthen (HB.out _) hw⟩
end Go.Proofs.YthelfpminmbclaaDoor
