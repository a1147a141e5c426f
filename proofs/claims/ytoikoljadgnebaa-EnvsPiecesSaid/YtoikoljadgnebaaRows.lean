/-
  No cell of these rows narrows 'for every input' (looked for: loops, veiled, ifaces, maps, wideKeys, modest, calm, conditions, laid).
  DERIVED. THE GIVEN ROWS OF THIS SEAT. 6 by the template 'for every input the law returns true; each argument reads behind the call as it read before'; 0 by the template 'total and deterministic' (their statements: YtoikoljadgnebaaTotals.lean).
  GIVEN WITH THE SEED: the statements are not yours to turn. If you find one false, say at which input.
  Laid BY PROGRAM, IN A SANDBOX (cutbox-rows.mjs): the forced cells as the released guide's own fill.sh prints them over the translation 0c6890ed7211b39d… (all of the seat's roots in one cut). By AI agents, Wed Nov 11 2026. No macro, syntax, notation, axiom, sorry.
-/
import Derived.Test.YtoikoljadgnebaaChecked
import GoSem.Claim
import GoSem.ClaimJoined
import GoSem.ClaimMapViews
import Derived.JoinedTies
import Derived.KernelRfl
namespace Go.Proofs.Ytoikoljadgnebaa
/- THE CELL 'sum', in the pinned program and in every row, IS THE sha256 OF THE DUMP (.gsa) THAT YtoikoljadgnebaaProg.lean LOADS. Nothing in Lean hashes anything: it is a label: what it is worth is what the hold of that sum in a sandbox is worth. -/
noncomputable def Try.pinned : Pinned := { name := "ytoikoljadgnebaa", sum := "0c6890ed7211b39d5f1bec005a757d1a3c317221feeea74143441c1c261ff06e", checked := Try.checked }
namespace Rows
def none {H : Type} : Left H := { results := [], args := [] }

/-- 'hostellaw03.EnvsChecks': WHATEVER THE INPUT: true; the input reads as it did. -/
def envsChecksSpec : ChangeSpec := { name := "envsChecks", fn := fun _ => fun
  | [d1, d2] => { results := [.lit (.bool true)], args := [d1, d2] }
  | _ => none }
def envsChecksRow : OpenClaim := { program := "ytoikoljadgnebaa", sum := "0c6890ed7211b39d5f1bec005a757d1a3c317221feeea74143441c1c261ff06e", func := "hostel/hostellaw03.EnvsChecks", spec := "envsChecks", inPlace := ["internal/bytealg.IndexByteString"], unfollowed := true, recurses := true, apart := false }
def EnvsChecksSaid : Prop := envsChecksRow.holds Try.pinned (OpenSpec.ofChange envsChecksSpec)

/-- ITS FALSE NEIGHBOUR: 'it returns false'. Refute it at one input. -/
def envsChecksWrong : ChangeSpec := { name := "envsChecks", fn := fun _ => fun
  | [d1, d2] => { results := [.lit (.bool false)], args := [d1, d2] }
  | _ => none }
def EnvsChecksWrongFalsely : Prop := envsChecksRow.holds Try.pinned (OpenSpec.ofChange envsChecksWrong)

/-- 'hostellaw03.EnvsSets': WHATEVER THE INPUT: true; the input reads as it did. -/
def envsSetsSpec : ChangeSpec := { name := "envsSets", fn := fun _ => fun
  | [d1, d2, d3] => { results := [.lit (.bool true)], args := [d1, d2, d3] }
  | _ => none }
def envsSetsRow : OpenClaim := { program := "ytoikoljadgnebaa", sum := "0c6890ed7211b39d5f1bec005a757d1a3c317221feeea74143441c1c261ff06e", func := "hostel/hostellaw03.EnvsSets", spec := "envsSets", inPlace := ["internal/bytealg.IndexByteString"], unfollowed := true, recurses := true, apart := false }
def EnvsSetsSaid : Prop := envsSetsRow.holds Try.pinned (OpenSpec.ofChange envsSetsSpec)

/-- ITS FALSE NEIGHBOUR: 'it returns false'. Refute it at one input. -/
def envsSetsWrong : ChangeSpec := { name := "envsSets", fn := fun _ => fun
  | [d1, d2, d3] => { results := [.lit (.bool false)], args := [d1, d2, d3] }
  | _ => none }
def EnvsSetsWrongFalsely : Prop := envsSetsRow.holds Try.pinned (OpenSpec.ofChange envsSetsWrong)

/-- 'hostellaw03.EnvsLists': WHATEVER THE INPUT: true; the input reads as it did. -/
def envsListsSpec : ChangeSpec := { name := "envsLists", fn := fun _ => fun
  | [d] => { results := [.lit (.bool true)], args := [d] }
  | _ => none }
def envsListsRow : OpenClaim := { program := "ytoikoljadgnebaa", sum := "0c6890ed7211b39d5f1bec005a757d1a3c317221feeea74143441c1c261ff06e", func := "hostel/hostellaw03.EnvsLists", spec := "envsLists", inPlace := ["internal/bytealg.IndexByteString"], unfollowed := true, recurses := true, apart := false }
def EnvsListsSaid : Prop := envsListsRow.holds Try.pinned (OpenSpec.ofChange envsListsSpec)

/-- ITS FALSE NEIGHBOUR: 'it returns false'. Refute it at one input. -/
def envsListsWrong : ChangeSpec := { name := "envsLists", fn := fun _ => fun
  | [d] => { results := [.lit (.bool false)], args := [d] }
  | _ => none }
def EnvsListsWrongFalsely : Prop := envsListsRow.holds Try.pinned (OpenSpec.ofChange envsListsWrong)

/-- 'hostellaw03.EnvsBack': WHATEVER THE INPUT: true; the input reads as it did. -/
def envsBackSpec : ChangeSpec := { name := "envsBack", fn := fun _ => fun
  | [d1, d2, d3] => { results := [.lit (.bool true)], args := [d1, d2, d3] }
  | _ => none }
def envsBackRow : OpenClaim := { program := "ytoikoljadgnebaa", sum := "0c6890ed7211b39d5f1bec005a757d1a3c317221feeea74143441c1c261ff06e", func := "hostel/hostellaw03.EnvsBack", spec := "envsBack", inPlace := ["internal/bytealg.IndexByteString"], unfollowed := true, recurses := true, apart := false }
def EnvsBackSaid : Prop := envsBackRow.holds Try.pinned (OpenSpec.ofChange envsBackSpec)

/-- ITS FALSE NEIGHBOUR: 'it returns false'. Refute it at one input. -/
def envsBackWrong : ChangeSpec := { name := "envsBack", fn := fun _ => fun
  | [d1, d2, d3] => { results := [.lit (.bool false)], args := [d1, d2, d3] }
  | _ => none }
def EnvsBackWrongFalsely : Prop := envsBackRow.holds Try.pinned (OpenSpec.ofChange envsBackWrong)

/-- 'hostellaw03.EnvsScrubs': WHATEVER THE INPUT: true; the input reads as it did. -/
def envsScrubsSpec : ChangeSpec := { name := "envsScrubs", fn := fun _ => fun
  | [d] => { results := [.lit (.bool true)], args := [d] }
  | _ => none }
def envsScrubsRow : OpenClaim := { program := "ytoikoljadgnebaa", sum := "0c6890ed7211b39d5f1bec005a757d1a3c317221feeea74143441c1c261ff06e", func := "hostel/hostellaw03.EnvsScrubs", spec := "envsScrubs", inPlace := ["internal/bytealg.IndexByteString"], unfollowed := true, recurses := true, apart := false }
def EnvsScrubsSaid : Prop := envsScrubsRow.holds Try.pinned (OpenSpec.ofChange envsScrubsSpec)

/-- ITS FALSE NEIGHBOUR: 'it returns false'. Refute it at one input. -/
def envsScrubsWrong : ChangeSpec := { name := "envsScrubs", fn := fun _ => fun
  | [d] => { results := [.lit (.bool false)], args := [d] }
  | _ => none }
def EnvsScrubsWrongFalsely : Prop := envsScrubsRow.holds Try.pinned (OpenSpec.ofChange envsScrubsWrong)

/-- 'hostellaw03.EnvsPieces': WHATEVER THE INPUT: true; the input reads as it did. -/
def envsPiecesSpec : ChangeSpec := { name := "envsPieces", fn := fun _ => fun
  | [d] => { results := [.lit (.bool true)], args := [d] }
  | _ => none }
def envsPiecesRow : OpenClaim := { program := "ytoikoljadgnebaa", sum := "0c6890ed7211b39d5f1bec005a757d1a3c317221feeea74143441c1c261ff06e", func := "hostel/hostellaw03.EnvsPieces", spec := "envsPieces", inPlace := ["internal/bytealg.IndexByteString"], unfollowed := true, recurses := true, apart := false }
def EnvsPiecesSaid : Prop := envsPiecesRow.holds Try.pinned (OpenSpec.ofChange envsPiecesSpec)

/-- ITS FALSE NEIGHBOUR: 'it returns false'. Refute it at one input. -/
def envsPiecesWrong : ChangeSpec := { name := "envsPieces", fn := fun _ => fun
  | [d] => { results := [.lit (.bool false)], args := [d] }
  | _ => none }
def EnvsPiecesWrongFalsely : Prop := envsPiecesRow.holds Try.pinned (OpenSpec.ofChange envsPiecesWrong)

/- THE SECOND FORM. 'bulk': how many values and letters a reading holds, each counted each time it is reached (what is shared counts as often as it is met; a slice's spare places count too). A statement '..UptoSaid' is the law's where the arguments, and the package variables that the reading takes, are together of bulk at most 1048576: NARROWER than '..Said'. Prove '..Said' where nothing that the law and all that it calls make is longer than what came in: it says more and counts as full. Else prove '..UptoSaid'. A law counts once. -/
mutual
def uptoBulk {H : Type} : DataW H → Nat
  | .lit (.string bytes) => bytes.length + 1
  | .lit _ => 1
  | .nil => 1
  | .ptr d => uptoBulk d + 1
  | .slice elems spare => uptoBulkAll elems + uptoBulkAll spare + 1
  | .agg parts => uptoBulkAll parts + 1
  | .iface _ d => uptoBulk d + 1
  | .map entries => uptoBulkEntries entries + 1
  | .held _ => 1
def uptoBulkAll {H : Type} : List (DataW H) → Nat
  | [] => 0
  | d :: r => uptoBulk d + uptoBulkAll r
def uptoBulkEntries {H : Type} : List (Lit × DataW H) → Nat
  | [] => 0
  | x :: r => uptoBulkEntry x + uptoBulkEntries r
def uptoBulkEntry {H : Type} : Lit × DataW H → Nat
  | (.string bytes, d) => bytes.length + uptoBulk d + 1
  | (_, d) => uptoBulk d + 1
 end
def uptoSmall : (H : Type) → List (DataW H) → Bool := fun _ ds => decide (uptoBulkAll ds ≤ 1048576)
def OpenSpec.upto (s : _root_.Go.ChangeSpec) : _root_.Go.OpenSpec := { _root_.Go.OpenSpec.ofChange s with cond := some uptoSmall }

/-- 'hostellaw03.EnvsChecks', WHERE WHAT IT READS IS OF BULK AT MOST 1048576: true; the input reads as it did. -/
def envsChecksUptoRow : OpenClaim := { program := "ytoikoljadgnebaa", sum := "0c6890ed7211b39d5f1bec005a757d1a3c317221feeea74143441c1c261ff06e", func := "hostel/hostellaw03.EnvsChecks", spec := "envsChecks", inPlace := ["internal/bytealg.IndexByteString"], unfollowed := true, recurses := true, apart := false, narrowed := true }
def EnvsChecksUptoSaid : Prop := envsChecksUptoRow.holds Try.pinned (OpenSpec.upto envsChecksSpec)

/-- 'hostellaw03.EnvsSets', WHERE WHAT IT READS IS OF BULK AT MOST 1048576: true; the input reads as it did. -/
def envsSetsUptoRow : OpenClaim := { program := "ytoikoljadgnebaa", sum := "0c6890ed7211b39d5f1bec005a757d1a3c317221feeea74143441c1c261ff06e", func := "hostel/hostellaw03.EnvsSets", spec := "envsSets", inPlace := ["internal/bytealg.IndexByteString"], unfollowed := true, recurses := true, apart := false, narrowed := true }
def EnvsSetsUptoSaid : Prop := envsSetsUptoRow.holds Try.pinned (OpenSpec.upto envsSetsSpec)

/-- 'hostellaw03.EnvsLists', WHERE WHAT IT READS IS OF BULK AT MOST 1048576: true; the input reads as it did. -/
def envsListsUptoRow : OpenClaim := { program := "ytoikoljadgnebaa", sum := "0c6890ed7211b39d5f1bec005a757d1a3c317221feeea74143441c1c261ff06e", func := "hostel/hostellaw03.EnvsLists", spec := "envsLists", inPlace := ["internal/bytealg.IndexByteString"], unfollowed := true, recurses := true, apart := false, narrowed := true }
def EnvsListsUptoSaid : Prop := envsListsUptoRow.holds Try.pinned (OpenSpec.upto envsListsSpec)

/-- 'hostellaw03.EnvsBack', WHERE WHAT IT READS IS OF BULK AT MOST 1048576: true; the input reads as it did. -/
def envsBackUptoRow : OpenClaim := { program := "ytoikoljadgnebaa", sum := "0c6890ed7211b39d5f1bec005a757d1a3c317221feeea74143441c1c261ff06e", func := "hostel/hostellaw03.EnvsBack", spec := "envsBack", inPlace := ["internal/bytealg.IndexByteString"], unfollowed := true, recurses := true, apart := false, narrowed := true }
def EnvsBackUptoSaid : Prop := envsBackUptoRow.holds Try.pinned (OpenSpec.upto envsBackSpec)

/-- 'hostellaw03.EnvsScrubs', WHERE WHAT IT READS IS OF BULK AT MOST 1048576: true; the input reads as it did. -/
def envsScrubsUptoRow : OpenClaim := { program := "ytoikoljadgnebaa", sum := "0c6890ed7211b39d5f1bec005a757d1a3c317221feeea74143441c1c261ff06e", func := "hostel/hostellaw03.EnvsScrubs", spec := "envsScrubs", inPlace := ["internal/bytealg.IndexByteString"], unfollowed := true, recurses := true, apart := false, narrowed := true }
def EnvsScrubsUptoSaid : Prop := envsScrubsUptoRow.holds Try.pinned (OpenSpec.upto envsScrubsSpec)

/-- 'hostellaw03.EnvsPieces', WHERE WHAT IT READS IS OF BULK AT MOST 1048576: true; the input reads as it did. -/
def envsPiecesUptoRow : OpenClaim := { program := "ytoikoljadgnebaa", sum := "0c6890ed7211b39d5f1bec005a757d1a3c317221feeea74143441c1c261ff06e", func := "hostel/hostellaw03.EnvsPieces", spec := "envsPieces", inPlace := ["internal/bytealg.IndexByteString"], unfollowed := true, recurses := true, apart := false, narrowed := true }
def EnvsPiecesUptoSaid : Prop := envsPiecesUptoRow.holds Try.pinned (OpenSpec.upto envsPiecesSpec)

end Rows
end Go.Proofs.Ytoikoljadgnebaa
