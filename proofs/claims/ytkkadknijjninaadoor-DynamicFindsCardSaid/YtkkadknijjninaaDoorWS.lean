
/- Contract of words.Set, for seats with bundles. -/
import Derived.Test.YtkkadknijjninaaDoorG1
import Derived.Test.YtkkadknijjninaaDoorKA
namespace Go.Proofs.YtkkadknijjninaaDoor
open Go.RowKit

theorem infoU8w : (Tryd.prog.info? 5).map (fun i => (i.zero, i.size, i.bytes)) = some (some (.int .u8 0), 1, 1) := by kernel_rfl
theorem sizeU8w : (Tryd.prog.info? 5).map (·.size) = some 1 := by kernel_rfl

theorem putB_all (x : Nat) (n : Nat) : putB (List.replicate n 0) 0 x n = leB x n := by unfold putB; simp
end Go.Proofs.YtkkadknijjninaaDoor
