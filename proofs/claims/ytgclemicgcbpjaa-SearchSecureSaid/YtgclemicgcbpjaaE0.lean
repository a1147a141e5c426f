/- Lists of texts in memory. -/
import Derived.Test.YtgclemicgcbpjaaRows
import Derived.Test.YtgclemicgcbpjaaC
import Derived.Test.YtgclemicgcbpjaaT
import Derived.Deep.QuietTactic
import Derived.BigQuiet
import Derived.Lib.Strings
namespace Go.Proofs.Ytgclemicgcbpjaa
open Go.RowKit Go.Sort

def strs (ds : List (List UInt8)) : List Value := ds.map fun l => .string (ba l)
def eqT (l m : List (List UInt8)) : Bool := decide (l = m)
theorem strs_at {w : World} {b off : Nat} {l : List (List UInt8)} (hc : ∀ i (h : i < (strs l).length), w.cell? ⟨b, off + i, none⟩ = some (strs l)[i]) {k : Nat} (hk : k < l.length) : w.cell? ⟨b, off + k, none⟩ = some (.string (ba l[k])) := by
  have := hc k (by simpa [strs] using hk)
  rw [this]
  simp [strs]
theorem ba_beq2 (x y : List UInt8) : ((ba x).toList == (ba y).toList) = decide (x = y) := by
  rw [Lib.toList_data, Lib.toList_data, ba_list, ba_list, Bool.eq_iff_iff, beq_iff_eq, decide_eq_true_eq]
end Go.Proofs.Ytgclemicgcbpjaa
