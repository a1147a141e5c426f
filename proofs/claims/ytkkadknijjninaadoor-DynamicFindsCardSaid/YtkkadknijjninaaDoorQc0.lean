
/- hostellaw13.plain: its bytes and its head; what is read of them. -/
import Derived.Test.YtkkadknijjninaaDoorQb8
import Derived.Test.YtkkadknijjninaaDoorM1
namespace Go.Proofs.YtkkadknijjninaaDoor
open Go.RowKit Go.Sort Go.Shelf Go.WideMaps Go.Maps

def n13 : List Nat := [1, 3, 14, 1, 4, 4272, 5, 4368, 10, 8, 6, 4296, 11, 24, 7, 4344, 8, 24, 9, 24, 0, 0, 8589934593, 1, 0, 0, 0, 0, 281543696187393, 77, 5, 4104, 4294967297, 18446744073709551615, 1644192000]
def st13 (j : Nat) : List UInt8 := (List.range j).foldl (fun l i => putB l (8 * i) (n13.getD i 0) 8) (List.replicate 280 0)
theorem st13_succ (j : Nat) : st13 (j + 1) = putB (st13 j) (8 * j) (n13.getD j 0) 8 := by
  unfold st13
  rw [List.range_succ, List.foldl_append]
  rfl
theorem st13_len : ∀ {j : Nat}, j ≤ 35 → (st13 j).length = 280
  | 0, _ => List.length_replicate
  | j + 1, h => by
    have hj := st13_len (show j ≤ 35 by omega)
    rw [st13_succ, putB_len _ _ _ _ (by omega), hj]
def sg13 : List SG := [⟨1, 4, 0, 4096, 280, 280⟩, ⟨2, 4, 0, 4096, 176, 176⟩]
theorem sg13_ok : ∀ s ∈ sg13, SGok s := by
  intro s hs
  rcases List.mem_cons.1 hs with rfl | hs
  · exact ⟨by decide, by decide, by decide, by decide, by decide, by decide, by decide, by decide, by decide, by decide, by decide⟩
  · rw [List.mem_singleton.1 hs]
    exact ⟨by decide, by decide, by decide, by decide, by decide, by decide, by decide, by decide, by decide, by decide, by decide⟩
def o13 : OBJ := ⟨[[98]], [97], [], [⟨[97], 77, 5, 1, true⟩], [⟨4104, 1, 1, -1⟩], [1], [0, 0]⟩
theorem parse13 : parseO (st13 35) sg13 = .inr o13 := by kernel_rfl
theorem look13 : lookR (.inr o13) [97] = (0, true) := by kernel_rfl
theorem right13 : rightR (.inr o13) = true := by kernel_rfl
theorem hash13 : hashN [97] = 97 := by kernel_rfl
end Go.Proofs.YtkkadknijjninaaDoor
