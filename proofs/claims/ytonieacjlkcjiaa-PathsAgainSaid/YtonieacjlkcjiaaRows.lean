/-
  No cell of these rows narrows 'for every input' (looked for: loops, veiled, ifaces, maps, wideKeys, modest, calm, conditions, laid).
  DERIVED. THE GIVEN ROWS OF THIS SEAT. 5 by the template 'for every input the law returns true; each argument reads behind the call as it read before'; 0 by the template 'total and deterministic' (their statements: YtonieacjlkcjiaaTotals.lean).
  GIVEN WITH THE SEED: the statements are not yours to turn. If you find one false, say at which input.
  Laid BY PROGRAM, IN A SANDBOX (cutbox-rows.mjs): the forced cells as the released guide's own fill.sh prints them over the translation 8db967bbe3781a0e… (all of the seat's roots in one cut). By AI agents, Wed Nov 11 2026. No macro, syntax, notation, axiom, sorry.
-/
import Derived.Test.YtonieacjlkcjiaaChecked
import GoSem.Claim
import GoSem.ClaimJoined
import GoSem.ClaimMapViews
import Derived.JoinedTies
import Derived.KernelRfl
namespace Go.Proofs.Ytonieacjlkcjiaa
/- THE CELL 'sum', in the pinned program and in every row, IS THE sha256 OF THE DUMP (.gsa) THAT YtonieacjlkcjiaaProg.lean LOADS. Nothing in Lean hashes anything: it is a label: what it is worth is what the hold of that sum in a sandbox is worth. -/
noncomputable def Try.pinned : Pinned := { name := "ytonieacjlkcjiaa", sum := "8db967bbe3781a0e381920d8d6b4d01adca64ba18f8b22e4edee9c065228454f", checked := Try.checked }
namespace Rows
def none {H : Type} : Left H := { results := [], args := [] }

/-- 'hostellaw02.PathsChecks': WHATEVER THE INPUT: true; the input reads as it did. -/
def pathsChecksSpec : ChangeSpec := { name := "pathsChecks", fn := fun _ => fun
  | [d] => { results := [.lit (.bool true)], args := [d] }
  | _ => none }
def pathsChecksRow : OpenClaim := { program := "ytonieacjlkcjiaa", sum := "8db967bbe3781a0e381920d8d6b4d01adca64ba18f8b22e4edee9c065228454f", func := "hostel/hostellaw02.PathsChecks", spec := "pathsChecks", inPlace := ["internal/bytealg.IndexByteString"], unfollowed := true, recurses := true, apart := false }
def PathsChecksSaid : Prop := pathsChecksRow.holds Try.pinned (OpenSpec.ofChange pathsChecksSpec)

/-- ITS FALSE NEIGHBOUR: 'it returns false'. Refute it at one input. -/
def pathsChecksWrong : ChangeSpec := { name := "pathsChecks", fn := fun _ => fun
  | [d] => { results := [.lit (.bool false)], args := [d] }
  | _ => none }
def PathsChecksWrongFalsely : Prop := pathsChecksRow.holds Try.pinned (OpenSpec.ofChange pathsChecksWrong)

/-- 'hostellaw02.PathsCuts': WHATEVER THE INPUT: true; the input reads as it did. -/
def pathsCutsSpec : ChangeSpec := { name := "pathsCuts", fn := fun _ => fun
  | [d1, d2] => { results := [.lit (.bool true)], args := [d1, d2] }
  | _ => none }
def pathsCutsRow : OpenClaim := { program := "ytonieacjlkcjiaa", sum := "8db967bbe3781a0e381920d8d6b4d01adca64ba18f8b22e4edee9c065228454f", func := "hostel/hostellaw02.PathsCuts", spec := "pathsCuts", inPlace := ["internal/bytealg.IndexByteString"], unfollowed := true, recurses := true, apart := false }
def PathsCutsSaid : Prop := pathsCutsRow.holds Try.pinned (OpenSpec.ofChange pathsCutsSpec)

/-- ITS FALSE NEIGHBOUR: 'it returns false'. Refute it at one input. -/
def pathsCutsWrong : ChangeSpec := { name := "pathsCuts", fn := fun _ => fun
  | [d1, d2] => { results := [.lit (.bool false)], args := [d1, d2] }
  | _ => none }
def PathsCutsWrongFalsely : Prop := pathsCutsRow.holds Try.pinned (OpenSpec.ofChange pathsCutsWrong)

/-- 'hostellaw02.PathsJoins': WHATEVER THE INPUT: true; the input reads as it did. -/
def pathsJoinsSpec : ChangeSpec := { name := "pathsJoins", fn := fun _ => fun
  | [d1, d2] => { results := [.lit (.bool true)], args := [d1, d2] }
  | _ => none }
def pathsJoinsRow : OpenClaim := { program := "ytonieacjlkcjiaa", sum := "8db967bbe3781a0e381920d8d6b4d01adca64ba18f8b22e4edee9c065228454f", func := "hostel/hostellaw02.PathsJoins", spec := "pathsJoins", inPlace := ["internal/bytealg.IndexByteString"], unfollowed := true, recurses := true, apart := false }
def PathsJoinsSaid : Prop := pathsJoinsRow.holds Try.pinned (OpenSpec.ofChange pathsJoinsSpec)

/-- ITS FALSE NEIGHBOUR: 'it returns false'. Refute it at one input. -/
def pathsJoinsWrong : ChangeSpec := { name := "pathsJoins", fn := fun _ => fun
  | [d1, d2] => { results := [.lit (.bool false)], args := [d1, d2] }
  | _ => none }
def PathsJoinsWrongFalsely : Prop := pathsJoinsRow.holds Try.pinned (OpenSpec.ofChange pathsJoinsWrong)

/-- 'hostellaw02.PathsBack': WHATEVER THE INPUT: true; the input reads as it did. -/
def pathsBackSpec : ChangeSpec := { name := "pathsBack", fn := fun _ => fun
  | [d] => { results := [.lit (.bool true)], args := [d] }
  | _ => none }
def pathsBackRow : OpenClaim := { program := "ytonieacjlkcjiaa", sum := "8db967bbe3781a0e381920d8d6b4d01adca64ba18f8b22e4edee9c065228454f", func := "hostel/hostellaw02.PathsBack", spec := "pathsBack", inPlace := ["internal/bytealg.IndexByteString"], unfollowed := true, recurses := true, apart := false }
def PathsBackSaid : Prop := pathsBackRow.holds Try.pinned (OpenSpec.ofChange pathsBackSpec)

/-- ITS FALSE NEIGHBOUR: 'it returns false'. Refute it at one input. -/
def pathsBackWrong : ChangeSpec := { name := "pathsBack", fn := fun _ => fun
  | [d] => { results := [.lit (.bool false)], args := [d] }
  | _ => none }
def PathsBackWrongFalsely : Prop := pathsBackRow.holds Try.pinned (OpenSpec.ofChange pathsBackWrong)

/-- 'hostellaw02.PathsAgain': WHATEVER THE INPUT: true; the input reads as it did. -/
def pathsAgainSpec : ChangeSpec := { name := "pathsAgain", fn := fun _ => fun
  | [d] => { results := [.lit (.bool true)], args := [d] }
  | _ => none }
def pathsAgainRow : OpenClaim := { program := "ytonieacjlkcjiaa", sum := "8db967bbe3781a0e381920d8d6b4d01adca64ba18f8b22e4edee9c065228454f", func := "hostel/hostellaw02.PathsAgain", spec := "pathsAgain", inPlace := ["internal/bytealg.IndexByteString"], unfollowed := true, recurses := true, apart := false }
def PathsAgainSaid : Prop := pathsAgainRow.holds Try.pinned (OpenSpec.ofChange pathsAgainSpec)

/-- ITS FALSE NEIGHBOUR: 'it returns false'. Refute it at one input. -/
def pathsAgainWrong : ChangeSpec := { name := "pathsAgain", fn := fun _ => fun
  | [d] => { results := [.lit (.bool false)], args := [d] }
  | _ => none }
def PathsAgainWrongFalsely : Prop := pathsAgainRow.holds Try.pinned (OpenSpec.ofChange pathsAgainWrong)

/- THE SECOND FORM. 'bulk': how many values and letters a reading holds, each counted each time it is reached (what is shared counts as often as it is met; a slice's spare places count too). A statement '..UptoSaid' is the law's where the arguments, and the package variables that the reading takes, are together of bulk at most 1048576: NARROWER than '..Said'. Prove '..Said' where nothing that the law and all that it calls make is longer than what came in: it says more and counts as full. Else prove '..UptoSaid'. A law counts once. -/
mutual
def uptoBulk {H : Type} : DataW H → Nat
  | .lit (.string bytes) => bytes.length + 1
  | .lit _ => 1
  | .nil => 1
  | .ptr d => uptoBulk d + 1
  | .slice elems spare => uptoBulkAll elems + uptoBulkAll spare + 1
  | .agg parts => uptoBulkAll parts + 1
  | .iface _ d => uptoBulk d + 1
  | .map entries => uptoBulkEntries entries + 1
  | .held _ => 1
def uptoBulkAll {H : Type} : List (DataW H) → Nat
  | [] => 0
  | d :: r => uptoBulk d + uptoBulkAll r
def uptoBulkEntries {H : Type} : List (Lit × DataW H) → Nat
  | [] => 0
  | x :: r => uptoBulkEntry x + uptoBulkEntries r
def uptoBulkEntry {H : Type} : Lit × DataW H → Nat
  | (.string bytes, d) => bytes.length + uptoBulk d + 1
  | (_, d) => uptoBulk d + 1
 end
def uptoSmall : (H : Type) → List (DataW H) → Bool := fun _ ds => decide (uptoBulkAll ds ≤ 1048576)
def OpenSpec.upto (s : _root_.Go.ChangeSpec) : _root_.Go.OpenSpec := { _root_.Go.OpenSpec.ofChange s with cond := some uptoSmall }

/-- 'hostellaw02.PathsChecks', WHERE WHAT IT READS IS OF BULK AT MOST 1048576: true; the input reads as it did. -/
def pathsChecksUptoRow : OpenClaim := { program := "ytonieacjlkcjiaa", sum := "8db967bbe3781a0e381920d8d6b4d01adca64ba18f8b22e4edee9c065228454f", func := "hostel/hostellaw02.PathsChecks", spec := "pathsChecks", inPlace := ["internal/bytealg.IndexByteString"], unfollowed := true, recurses := true, apart := false, narrowed := true }
def PathsChecksUptoSaid : Prop := pathsChecksUptoRow.holds Try.pinned (OpenSpec.upto pathsChecksSpec)

/-- 'hostellaw02.PathsCuts', WHERE WHAT IT READS IS OF BULK AT MOST 1048576: true; the input reads as it did. -/
def pathsCutsUptoRow : OpenClaim := { program := "ytonieacjlkcjiaa", sum := "8db967bbe3781a0e381920d8d6b4d01adca64ba18f8b22e4edee9c065228454f", func := "hostel/hostellaw02.PathsCuts", spec := "pathsCuts", inPlace := ["internal/bytealg.IndexByteString"], unfollowed := true, recurses := true, apart := false, narrowed := true }
def PathsCutsUptoSaid : Prop := pathsCutsUptoRow.holds Try.pinned (OpenSpec.upto pathsCutsSpec)

/-- 'hostellaw02.PathsJoins', WHERE WHAT IT READS IS OF BULK AT MOST 1048576: true; the input reads as it did. -/
def pathsJoinsUptoRow : OpenClaim := { program := "ytonieacjlkcjiaa", sum := "8db967bbe3781a0e381920d8d6b4d01adca64ba18f8b22e4edee9c065228454f", func := "hostel/hostellaw02.PathsJoins", spec := "pathsJoins", inPlace := ["internal/bytealg.IndexByteString"], unfollowed := true, recurses := true, apart := false, narrowed := true }
def PathsJoinsUptoSaid : Prop := pathsJoinsUptoRow.holds Try.pinned (OpenSpec.upto pathsJoinsSpec)

/-- 'hostellaw02.PathsBack', WHERE WHAT IT READS IS OF BULK AT MOST 1048576: true; the input reads as it did. -/
def pathsBackUptoRow : OpenClaim := { program := "ytonieacjlkcjiaa", sum := "8db967bbe3781a0e381920d8d6b4d01adca64ba18f8b22e4edee9c065228454f", func := "hostel/hostellaw02.PathsBack", spec := "pathsBack", inPlace := ["internal/bytealg.IndexByteString"], unfollowed := true, recurses := true, apart := false, narrowed := true }
def PathsBackUptoSaid : Prop := pathsBackUptoRow.holds Try.pinned (OpenSpec.upto pathsBackSpec)

/-- 'hostellaw02.PathsAgain', WHERE WHAT IT READS IS OF BULK AT MOST 1048576: true; the input reads as it did. -/
def pathsAgainUptoRow : OpenClaim := { program := "ytonieacjlkcjiaa", sum := "8db967bbe3781a0e381920d8d6b4d01adca64ba18f8b22e4edee9c065228454f", func := "hostel/hostellaw02.PathsAgain", spec := "pathsAgain", inPlace := ["internal/bytealg.IndexByteString"], unfollowed := true, recurses := true, apart := false, narrowed := true }
def PathsAgainUptoSaid : Prop := pathsAgainUptoRow.holds Try.pinned (OpenSpec.upto pathsAgainSpec)

end Rows
end Go.Proofs.Ytonieacjlkcjiaa
