/-
  No cell of these rows narrows 'for every input' (looked for: loops, veiled, ifaces, maps, wideKeys, modest, calm, conditions, laid).
  DERIVED. THE GIVEN ROWS OF THIS SEAT. 6 by the template 'for every input the law returns true; each argument reads behind the call as it read before'; 0 by the template 'total and deterministic' (their statements: YtcafmhhfnleanaaTotals.lean).
  GIVEN WITH THE SEED: the statements are not yours to turn. If you find one false, say at which input.
  Laid BY PROGRAM, IN A SANDBOX (cutbox-rows.mjs): the forced cells as the released guide's own fill.sh prints them over the translation 1adcd229d3e63065… (all of the seat's roots in one cut). By AI agents, Wed Nov 11 2026. No macro, syntax, notation, axiom, sorry.
-/
import Derived.Test.YtcafmhhfnleanaaChecked
import GoSem.Claim
import GoSem.ClaimJoined
import GoSem.ClaimMapViews
import Derived.JoinedTies
import Derived.KernelRfl
namespace Go.Proofs.Ytcafmhhfnleanaa
/- THE CELL 'sum', in the pinned program and in every row, IS THE sha256 OF THE DUMP (.gsa) THAT YtcafmhhfnleanaaProg.lean LOADS. Nothing in Lean hashes anything: it is a label: what it is worth is what the hold of that sum in a sandbox is worth. -/
noncomputable def Try.pinned : Pinned := { name := "ytcafmhhfnleanaa", sum := "1adcd229d3e630655fb08d73a2df53b547584b8d0b8dc90ae570ac86a09f385e", checked := Try.checked }
namespace Rows
def none {H : Type} : Left H := { results := [], args := [] }

/-- 'hostellaw10.RegionsRight': WHATEVER THE INPUT: true; the input reads as it did. -/
def regionsRightSpec : ChangeSpec := { name := "regionsRight", fn := fun _ => fun
  | [d1, d2, d3] => { results := [.lit (.bool true)], args := [d1, d2, d3] }
  | _ => none }
def regionsRightRow : OpenClaim := { program := "ytcafmhhfnleanaa", sum := "1adcd229d3e630655fb08d73a2df53b547584b8d0b8dc90ae570ac86a09f385e", func := "hostel/hostellaw10.RegionsRight", spec := "regionsRight", unfollowed := true, recurses := true, apart := false }
def RegionsRightSaid : Prop := regionsRightRow.holds Try.pinned (OpenSpec.ofChange regionsRightSpec)

/-- ITS FALSE NEIGHBOUR: 'it returns false'. Refute it at one input. -/
def regionsRightWrong : ChangeSpec := { name := "regionsRight", fn := fun _ => fun
  | [d1, d2, d3] => { results := [.lit (.bool false)], args := [d1, d2, d3] }
  | _ => none }
def RegionsRightWrongFalsely : Prop := regionsRightRow.holds Try.pinned (OpenSpec.ofChange regionsRightWrong)

/-- 'hostellaw10.RegionsPuts': WHATEVER THE INPUT: true; the input reads as it did. -/
def regionsPutsSpec : ChangeSpec := { name := "regionsPuts", fn := fun _ => fun
  | [d1, d2] => { results := [.lit (.bool true)], args := [d1, d2] }
  | _ => none }
def regionsPutsRow : OpenClaim := { program := "ytcafmhhfnleanaa", sum := "1adcd229d3e630655fb08d73a2df53b547584b8d0b8dc90ae570ac86a09f385e", func := "hostel/hostellaw10.RegionsPuts", spec := "regionsPuts", unfollowed := true, recurses := true, apart := false }
def RegionsPutsSaid : Prop := regionsPutsRow.holds Try.pinned (OpenSpec.ofChange regionsPutsSpec)

/-- ITS FALSE NEIGHBOUR: 'it returns false'. Refute it at one input. -/
def regionsPutsWrong : ChangeSpec := { name := "regionsPuts", fn := fun _ => fun
  | [d1, d2] => { results := [.lit (.bool false)], args := [d1, d2] }
  | _ => none }
def RegionsPutsWrongFalsely : Prop := regionsPutsRow.holds Try.pinned (OpenSpec.ofChange regionsPutsWrong)

/-- 'hostellaw10.RegionsCuts': WHATEVER THE INPUT: true; the input reads as it did. -/
def regionsCutsSpec : ChangeSpec := { name := "regionsCuts", fn := fun _ => fun
  | [d1, d2] => { results := [.lit (.bool true)], args := [d1, d2] }
  | _ => none }
def regionsCutsRow : OpenClaim := { program := "ytcafmhhfnleanaa", sum := "1adcd229d3e630655fb08d73a2df53b547584b8d0b8dc90ae570ac86a09f385e", func := "hostel/hostellaw10.RegionsCuts", spec := "regionsCuts", unfollowed := true, recurses := true, apart := false }
def RegionsCutsSaid : Prop := regionsCutsRow.holds Try.pinned (OpenSpec.ofChange regionsCutsSpec)

/-- ITS FALSE NEIGHBOUR: 'it returns false'. Refute it at one input. -/
def regionsCutsWrong : ChangeSpec := { name := "regionsCuts", fn := fun _ => fun
  | [d1, d2] => { results := [.lit (.bool false)], args := [d1, d2] }
  | _ => none }
def RegionsCutsWrongFalsely : Prop := regionsCutsRow.holds Try.pinned (OpenSpec.ofChange regionsCutsWrong)

/-- 'hostellaw10.RegionsGaps': WHATEVER THE INPUT: true; the input reads as it did. -/
def regionsGapsSpec : ChangeSpec := { name := "regionsGaps", fn := fun _ => fun
  | [d1, d2, d3] => { results := [.lit (.bool true)], args := [d1, d2, d3] }
  | _ => none }
def regionsGapsRow : OpenClaim := { program := "ytcafmhhfnleanaa", sum := "1adcd229d3e630655fb08d73a2df53b547584b8d0b8dc90ae570ac86a09f385e", func := "hostel/hostellaw10.RegionsGaps", spec := "regionsGaps", unfollowed := true, recurses := true, apart := false }
def RegionsGapsSaid : Prop := regionsGapsRow.holds Try.pinned (OpenSpec.ofChange regionsGapsSpec)

/-- ITS FALSE NEIGHBOUR: 'it returns false'. Refute it at one input. -/
def regionsGapsWrong : ChangeSpec := { name := "regionsGaps", fn := fun _ => fun
  | [d1, d2, d3] => { results := [.lit (.bool false)], args := [d1, d2, d3] }
  | _ => none }
def RegionsGapsWrongFalsely : Prop := regionsGapsRow.holds Try.pinned (OpenSpec.ofChange regionsGapsWrong)

/-- 'hostellaw10.RegionsFollow': WHATEVER THE INPUT: true; the input reads as it did. -/
def regionsFollowSpec : ChangeSpec := { name := "regionsFollow", fn := fun _ => fun
  | [d] => { results := [.lit (.bool true)], args := [d] }
  | _ => none }
def regionsFollowRow : OpenClaim := { program := "ytcafmhhfnleanaa", sum := "1adcd229d3e630655fb08d73a2df53b547584b8d0b8dc90ae570ac86a09f385e", func := "hostel/hostellaw10.RegionsFollow", spec := "regionsFollow", unfollowed := true, recurses := true, apart := false }
def RegionsFollowSaid : Prop := regionsFollowRow.holds Try.pinned (OpenSpec.ofChange regionsFollowSpec)

/-- ITS FALSE NEIGHBOUR: 'it returns false'. Refute it at one input. -/
def regionsFollowWrong : ChangeSpec := { name := "regionsFollow", fn := fun _ => fun
  | [d] => { results := [.lit (.bool false)], args := [d] }
  | _ => none }
def RegionsFollowWrongFalsely : Prop := regionsFollowRow.holds Try.pinned (OpenSpec.ofChange regionsFollowWrong)

/-- 'hostellaw10.RegionsLowest': WHATEVER THE INPUT: true; the input reads as it did. -/
def regionsLowestSpec : ChangeSpec := { name := "regionsLowest", fn := fun _ => fun
  | [d1, d2, d3] => { results := [.lit (.bool true)], args := [d1, d2, d3] }
  | _ => none }
def regionsLowestRow : OpenClaim := { program := "ytcafmhhfnleanaa", sum := "1adcd229d3e630655fb08d73a2df53b547584b8d0b8dc90ae570ac86a09f385e", func := "hostel/hostellaw10.RegionsLowest", spec := "regionsLowest", unfollowed := true, recurses := true, apart := false }
def RegionsLowestSaid : Prop := regionsLowestRow.holds Try.pinned (OpenSpec.ofChange regionsLowestSpec)

/-- ITS FALSE NEIGHBOUR: 'it returns false'. Refute it at one input. -/
def regionsLowestWrong : ChangeSpec := { name := "regionsLowest", fn := fun _ => fun
  | [d1, d2, d3] => { results := [.lit (.bool false)], args := [d1, d2, d3] }
  | _ => none }
def RegionsLowestWrongFalsely : Prop := regionsLowestRow.holds Try.pinned (OpenSpec.ofChange regionsLowestWrong)

/- THE SECOND FORM. 'bulk': how many values and letters a reading holds, each counted each time it is reached (what is shared counts as often as it is met; a slice's spare places count too). A statement '..UptoSaid' is the law's where the arguments, and the package variables that the reading takes, are together of bulk at most 1048576: NARROWER than '..Said'. Prove '..Said' where nothing that the law and all that it calls make is longer than what came in: it says more and counts as full. Else prove '..UptoSaid'. A law counts once. -/
mutual
def uptoBulk {H : Type} : DataW H → Nat
  | .lit (.string bytes) => bytes.length + 1
  | .lit _ => 1
  | .nil => 1
  | .ptr d => uptoBulk d + 1
  | .slice elems spare => uptoBulkAll elems + uptoBulkAll spare + 1
  | .agg parts => uptoBulkAll parts + 1
  | .iface _ d => uptoBulk d + 1
  | .map entries => uptoBulkEntries entries + 1
  | .held _ => 1
def uptoBulkAll {H : Type} : List (DataW H) → Nat
  | [] => 0
  | d :: r => uptoBulk d + uptoBulkAll r
def uptoBulkEntries {H : Type} : List (Lit × DataW H) → Nat
  | [] => 0
  | x :: r => uptoBulkEntry x + uptoBulkEntries r
def uptoBulkEntry {H : Type} : Lit × DataW H → Nat
  | (.string bytes, d) => bytes.length + uptoBulk d + 1
  | (_, d) => uptoBulk d + 1
 end
def uptoSmall : (H : Type) → List (DataW H) → Bool := fun _ ds => decide (uptoBulkAll ds ≤ 1048576)
def OpenSpec.upto (s : _root_.Go.ChangeSpec) : _root_.Go.OpenSpec := { _root_.Go.OpenSpec.ofChange s with cond := some uptoSmall }

/-- 'hostellaw10.RegionsRight', WHERE WHAT IT READS IS OF BULK AT MOST 1048576: true; the input reads as it did. -/
def regionsRightUptoRow : OpenClaim := { program := "ytcafmhhfnleanaa", sum := "1adcd229d3e630655fb08d73a2df53b547584b8d0b8dc90ae570ac86a09f385e", func := "hostel/hostellaw10.RegionsRight", spec := "regionsRight", unfollowed := true, recurses := true, apart := false, narrowed := true }
def RegionsRightUptoSaid : Prop := regionsRightUptoRow.holds Try.pinned (OpenSpec.upto regionsRightSpec)

/-- 'hostellaw10.RegionsPuts', WHERE WHAT IT READS IS OF BULK AT MOST 1048576: true; the input reads as it did. -/
def regionsPutsUptoRow : OpenClaim := { program := "ytcafmhhfnleanaa", sum := "1adcd229d3e630655fb08d73a2df53b547584b8d0b8dc90ae570ac86a09f385e", func := "hostel/hostellaw10.RegionsPuts", spec := "regionsPuts", unfollowed := true, recurses := true, apart := false, narrowed := true }
def RegionsPutsUptoSaid : Prop := regionsPutsUptoRow.holds Try.pinned (OpenSpec.upto regionsPutsSpec)

/-- 'hostellaw10.RegionsCuts', WHERE WHAT IT READS IS OF BULK AT MOST 1048576: true; the input reads as it did. -/
def regionsCutsUptoRow : OpenClaim := { program := "ytcafmhhfnleanaa", sum := "1adcd229d3e630655fb08d73a2df53b547584b8d0b8dc90ae570ac86a09f385e", func := "hostel/hostellaw10.RegionsCuts", spec := "regionsCuts", unfollowed := true, recurses := true, apart := false, narrowed := true }
def RegionsCutsUptoSaid : Prop := regionsCutsUptoRow.holds Try.pinned (OpenSpec.upto regionsCutsSpec)

/-- 'hostellaw10.RegionsGaps', WHERE WHAT IT READS IS OF BULK AT MOST 1048576: true; the input reads as it did. -/
def regionsGapsUptoRow : OpenClaim := { program := "ytcafmhhfnleanaa", sum := "1adcd229d3e630655fb08d73a2df53b547584b8d0b8dc90ae570ac86a09f385e", func := "hostel/hostellaw10.RegionsGaps", spec := "regionsGaps", unfollowed := true, recurses := true, apart := false, narrowed := true }
def RegionsGapsUptoSaid : Prop := regionsGapsUptoRow.holds Try.pinned (OpenSpec.upto regionsGapsSpec)

/-- 'hostellaw10.RegionsFollow', WHERE WHAT IT READS IS OF BULK AT MOST 1048576: true; the input reads as it did. -/
def regionsFollowUptoRow : OpenClaim := { program := "ytcafmhhfnleanaa", sum := "1adcd229d3e630655fb08d73a2df53b547584b8d0b8dc90ae570ac86a09f385e", func := "hostel/hostellaw10.RegionsFollow", spec := "regionsFollow", unfollowed := true, recurses := true, apart := false, narrowed := true }
def RegionsFollowUptoSaid : Prop := regionsFollowUptoRow.holds Try.pinned (OpenSpec.upto regionsFollowSpec)

/-- 'hostellaw10.RegionsLowest', WHERE WHAT IT READS IS OF BULK AT MOST 1048576: true; the input reads as it did. -/
def regionsLowestUptoRow : OpenClaim := { program := "ytcafmhhfnleanaa", sum := "1adcd229d3e630655fb08d73a2df53b547584b8d0b8dc90ae570ac86a09f385e", func := "hostel/hostellaw10.RegionsLowest", spec := "regionsLowest", unfollowed := true, recurses := true, apart := false, narrowed := true }
def RegionsLowestUptoSaid : Prop := regionsLowestUptoRow.holds Try.pinned (OpenSpec.upto regionsLowestSpec)

end Rows
end Go.Proofs.Ytcafmhhfnleanaa
