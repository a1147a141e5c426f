/- The anchor of stage 1's statements. -/
import Derived.Test.YtneppfggbaiglaaDoorG2
namespace Go.Proofs.YtneppfggbaiglaaDoor
open Go.RowKit

set_option maxHeartbeats 1000000 in
theorem works_any (w : World) (hs : Sizes w) :
    Calls Tryd.prog 9 #[] w fun e w' => e = .returned (.bool true) ∧ Below w.heap.size w w' := by
  go_enter Tryd.func9, Tryd.ntmps9
  go_wp2_with fail
  have hb0 : Below w.heap.size w (w.alloc (.cells #[.int .u8 1, .int .u8 2, .int .u8 3] 5)) := (Below.refl _ w).alloc (Nat.le_refl _) _
  have hr0 := Row.new w 5 [.int .u8 1, .int .u8 2, .int .u8 3]
  have hs0 := hs.below hb0
  have hB0 : Byt (w.alloc (.cells #[.int .u8 1, .int .u8 2, .int .u8 3] 5)) (some ⟨w.heap.size, 0, none⟩) 3 [1, 2, 3] := Row.byt (rest := []) hr0 rfl
  refine (set_yes _ _ _ _ _ _ [1, 2, 3] _ hs0 (by decide) hB0 (by decide) (by decide) (by decide)).mono ?_
  rintro e w1 ⟨rfl, hr1, hb1⟩
  have hs1 := hs0.below hb1
  have el : (putB [1, 2, 3] (Int.toNat 1) (Int.toNat 66051) (Int.toNat 2)) = [1, 3, 2] := by decide
  rw [el] at hr1
  simp only [World.size_alloc] at hr1 hb1
  have hB1 : Byt w1 (some ⟨w.heap.size + 1, 0, none⟩) 3 [1, 3, 2] := Row.byt (rest := []) (by simpa using hr1) rfl
  have hstr := hB1.str (P := Tryd.prog) 22 9 5 3 Tryd.underlying22 Tryd.underlying5 Tryd.underlying9
  clear el hs hs0 hr0 hB0 hr1
  go_wp2_with fail
  refine (get_any _ _ _ _ _ [1, 3, 2] _ hs1 (by decide) hB1 (by decide)).mono ?_
  rintro e w2 ⟨rfl, rfl⟩
  rw [show getV [1, 3, 2] 0 2 = 769 by decide, show chk (3 : Nat) 0 2 = 0 by decide]
  go_wp2_with fail
  refine (up_any _ _ (by decide) (by decide)).mono ?_
  rintro e w2 ⟨rfl, rfl⟩
  rw [show upV 1 = 4096 by decide, show upB 1 = true by decide]
  go_wp2_with fail
  go_ret
  exact ⟨rfl, hb0.trans (hb1.mono (by omega))⟩
end Go.Proofs.YtneppfggbaiglaaDoor
