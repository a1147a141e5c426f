/-
  No cell of these rows narrows 'for every input' (looked for: loops, veiled, ifaces, maps, wideKeys, modest, calm, conditions, laid).
  DERIVED. THE GIVEN ROWS OF THIS SEAT. 6 by the template 'for every input the law returns true; each argument reads behind the call as it read before'; 0 by the template 'total and deterministic' (their statements: YtnepccjcjkeneaaTotals.lean).
  GIVEN WITH THE SEED: the statements are not yours to turn. If you find one false, say at which input.
  Laid BY PROGRAM, IN A SANDBOX (cutbox-rows.mjs): the forced cells as the released guide's own fill.sh prints them over the translation 26a61c61b6adda66… (all of the seat's roots in one cut). By AI agents, Wed Nov 11 2026. No macro, syntax, notation, axiom, sorry.
-/
import Derived.Test.YtnepccjcjkeneaaChecked
import GoSem.Claim
import GoSem.ClaimJoined
import GoSem.ClaimMapViews
import Derived.JoinedTies
import Derived.KernelRfl
namespace Go.Proofs.Ytnepccjcjkeneaa
/- THE CELL 'sum', in the pinned program and in every row, IS THE sha256 OF THE DUMP (.gsa) THAT YtnepccjcjkeneaaProg.lean LOADS. Nothing in Lean hashes anything: it is a label: what it is worth is what the hold of that sum in a sandbox is worth. -/
noncomputable def Try.pinned : Pinned := { name := "ytnepccjcjkeneaa", sum := "26a61c61b6adda66b4c99e10f0cae0fac58ee57515abac13408c0fd6b98fefec", checked := Try.checked }
namespace Rows
def none {H : Type} : Left H := { results := [], args := [] }

/-- 'hostellaw06.VfsNews': WHATEVER THE INPUT: true; the input reads as it did. -/
def vfsNewsSpec : ChangeSpec := { name := "vfsNews", fn := fun _ => fun
  | [d1, d2] => { results := [.lit (.bool true)], args := [d1, d2] }
  | _ => none }
def vfsNewsRow : OpenClaim := { program := "ytnepccjcjkeneaa", sum := "26a61c61b6adda66b4c99e10f0cae0fac58ee57515abac13408c0fd6b98fefec", func := "hostel/hostellaw06.VfsNews", spec := "vfsNews", inPlace := ["internal/bytealg.IndexByteString", "internal/abi.NoEscape", "internal/bytealg.MakeNoZero"], unfollowed := true, recurses := true, apart := false }
def VfsNewsSaid : Prop := vfsNewsRow.holds Try.pinned (OpenSpec.ofChange vfsNewsSpec)

/-- ITS FALSE NEIGHBOUR: 'it returns false'. Refute it at one input. -/
def vfsNewsWrong : ChangeSpec := { name := "vfsNews", fn := fun _ => fun
  | [d1, d2] => { results := [.lit (.bool false)], args := [d1, d2] }
  | _ => none }
def VfsNewsWrongFalsely : Prop := vfsNewsRow.holds Try.pinned (OpenSpec.ofChange vfsNewsWrong)

/-- 'hostellaw06.VfsWalks': WHATEVER THE INPUT: true; the input reads as it did. -/
def vfsWalksSpec : ChangeSpec := { name := "vfsWalks", fn := fun _ => fun
  | [d1, d2, d3] => { results := [.lit (.bool true)], args := [d1, d2, d3] }
  | _ => none }
def vfsWalksRow : OpenClaim := { program := "ytnepccjcjkeneaa", sum := "26a61c61b6adda66b4c99e10f0cae0fac58ee57515abac13408c0fd6b98fefec", func := "hostel/hostellaw06.VfsWalks", spec := "vfsWalks", inPlace := ["internal/bytealg.IndexByteString", "internal/abi.NoEscape", "internal/bytealg.MakeNoZero"], unfollowed := true, recurses := true, apart := false }
def VfsWalksSaid : Prop := vfsWalksRow.holds Try.pinned (OpenSpec.ofChange vfsWalksSpec)

/-- ITS FALSE NEIGHBOUR: 'it returns false'. Refute it at one input. -/
def vfsWalksWrong : ChangeSpec := { name := "vfsWalks", fn := fun _ => fun
  | [d1, d2, d3] => { results := [.lit (.bool false)], args := [d1, d2, d3] }
  | _ => none }
def VfsWalksWrongFalsely : Prop := vfsWalksRow.holds Try.pinned (OpenSpec.ofChange vfsWalksWrong)

/-- 'hostellaw06.VfsReads': WHATEVER THE INPUT: true; the input reads as it did. -/
def vfsReadsSpec : ChangeSpec := { name := "vfsReads", fn := fun _ => fun
  | [d1, d2, d3] => { results := [.lit (.bool true)], args := [d1, d2, d3] }
  | _ => none }
def vfsReadsRow : OpenClaim := { program := "ytnepccjcjkeneaa", sum := "26a61c61b6adda66b4c99e10f0cae0fac58ee57515abac13408c0fd6b98fefec", func := "hostel/hostellaw06.VfsReads", spec := "vfsReads", inPlace := ["internal/bytealg.IndexByteString", "internal/abi.NoEscape", "internal/bytealg.MakeNoZero"], unfollowed := true, recurses := true, apart := false }
def VfsReadsSaid : Prop := vfsReadsRow.holds Try.pinned (OpenSpec.ofChange vfsReadsSpec)

/-- ITS FALSE NEIGHBOUR: 'it returns false'. Refute it at one input. -/
def vfsReadsWrong : ChangeSpec := { name := "vfsReads", fn := fun _ => fun
  | [d1, d2, d3] => { results := [.lit (.bool false)], args := [d1, d2, d3] }
  | _ => none }
def VfsReadsWrongFalsely : Prop := vfsReadsRow.holds Try.pinned (OpenSpec.ofChange vfsReadsWrong)

/-- 'hostellaw15.SearchPaths': WHATEVER THE INPUT: true; the input reads as it did. -/
def searchPathsSpec : ChangeSpec := { name := "searchPaths", fn := fun _ => fun
  | [d1, d2] => { results := [.lit (.bool true)], args := [d1, d2] }
  | _ => none }
def searchPathsRow : OpenClaim := { program := "ytnepccjcjkeneaa", sum := "26a61c61b6adda66b4c99e10f0cae0fac58ee57515abac13408c0fd6b98fefec", func := "hostel/hostellaw15.SearchPaths", spec := "searchPaths", inPlace := ["internal/bytealg.IndexByteString", "internal/abi.NoEscape", "internal/bytealg.MakeNoZero", "internal/bytealg.IndexString"], unfollowed := true, recurses := true, named := ["internal/bytealg.MaxLen"], apart := false }
def SearchPathsSaid : Prop := searchPathsRow.holds Try.pinned (OpenSpec.ofChange searchPathsSpec)

/-- ITS FALSE NEIGHBOUR: 'it returns false'. Refute it at one input. -/
def searchPathsWrong : ChangeSpec := { name := "searchPaths", fn := fun _ => fun
  | [d1, d2] => { results := [.lit (.bool false)], args := [d1, d2] }
  | _ => none }
def SearchPathsWrongFalsely : Prop := searchPathsRow.holds Try.pinned (OpenSpec.ofChange searchPathsWrong)

/-- 'hostellaw15.SearchFinds': WHATEVER THE INPUT: true; the input reads as it did. -/
def searchFindsSpec : ChangeSpec := { name := "searchFinds", fn := fun _ => fun
  | [d1, d2, d3] => { results := [.lit (.bool true)], args := [d1, d2, d3] }
  | _ => none }
def searchFindsRow : OpenClaim := { program := "ytnepccjcjkeneaa", sum := "26a61c61b6adda66b4c99e10f0cae0fac58ee57515abac13408c0fd6b98fefec", func := "hostel/hostellaw15.SearchFinds", spec := "searchFinds", inPlace := ["internal/bytealg.IndexByteString", "internal/abi.NoEscape", "internal/bytealg.MakeNoZero", "internal/bytealg.IndexString"], unfollowed := true, recurses := true, named := ["internal/bytealg.MaxLen"], apart := false }
def SearchFindsSaid : Prop := searchFindsRow.holds Try.pinned (OpenSpec.ofChange searchFindsSpec)

/-- ITS FALSE NEIGHBOUR: 'it returns false'. Refute it at one input. -/
def searchFindsWrong : ChangeSpec := { name := "searchFinds", fn := fun _ => fun
  | [d1, d2, d3] => { results := [.lit (.bool false)], args := [d1, d2, d3] }
  | _ => none }
def SearchFindsWrongFalsely : Prop := searchFindsRow.holds Try.pinned (OpenSpec.ofChange searchFindsWrong)

/-- 'hostellaw15.SearchFirst': WHATEVER THE INPUT: true; the input reads as it did. -/
def searchFirstSpec : ChangeSpec := { name := "searchFirst", fn := fun _ => fun
  | [d1, d2, d3] => { results := [.lit (.bool true)], args := [d1, d2, d3] }
  | _ => none }
def searchFirstRow : OpenClaim := { program := "ytnepccjcjkeneaa", sum := "26a61c61b6adda66b4c99e10f0cae0fac58ee57515abac13408c0fd6b98fefec", func := "hostel/hostellaw15.SearchFirst", spec := "searchFirst", inPlace := ["internal/bytealg.IndexByteString", "internal/abi.NoEscape", "internal/bytealg.MakeNoZero", "internal/bytealg.IndexString"], unfollowed := true, recurses := true, named := ["internal/bytealg.MaxLen"], apart := false }
def SearchFirstSaid : Prop := searchFirstRow.holds Try.pinned (OpenSpec.ofChange searchFirstSpec)

/-- ITS FALSE NEIGHBOUR: 'it returns false'. Refute it at one input. -/
def searchFirstWrong : ChangeSpec := { name := "searchFirst", fn := fun _ => fun
  | [d1, d2, d3] => { results := [.lit (.bool false)], args := [d1, d2, d3] }
  | _ => none }
def SearchFirstWrongFalsely : Prop := searchFirstRow.holds Try.pinned (OpenSpec.ofChange searchFirstWrong)

/- THE SECOND FORM. 'bulk': how many values and letters a reading holds, each counted each time it is reached (what is shared counts as often as it is met; a slice's spare places count too). A statement '..UptoSaid' is the law's where the arguments, and the package variables that the reading takes, are together of bulk at most 1048576: NARROWER than '..Said'. Prove '..Said' where nothing that the law and all that it calls make is longer than what came in: it says more and counts as full. Else prove '..UptoSaid'. A law counts once. -/
mutual
def uptoBulk {H : Type} : DataW H → Nat
  | .lit (.string bytes) => bytes.length + 1
  | .lit _ => 1
  | .nil => 1
  | .ptr d => uptoBulk d + 1
  | .slice elems spare => uptoBulkAll elems + uptoBulkAll spare + 1
  | .agg parts => uptoBulkAll parts + 1
  | .iface _ d => uptoBulk d + 1
  | .map entries => uptoBulkEntries entries + 1
  | .held _ => 1
def uptoBulkAll {H : Type} : List (DataW H) → Nat
  | [] => 0
  | d :: r => uptoBulk d + uptoBulkAll r
def uptoBulkEntries {H : Type} : List (Lit × DataW H) → Nat
  | [] => 0
  | x :: r => uptoBulkEntry x + uptoBulkEntries r
def uptoBulkEntry {H : Type} : Lit × DataW H → Nat
  | (.string bytes, d) => bytes.length + uptoBulk d + 1
  | (_, d) => uptoBulk d + 1
 end
def uptoSmall : (H : Type) → List (DataW H) → Bool := fun _ ds => decide (uptoBulkAll ds ≤ 1048576)
def OpenSpec.upto (s : _root_.Go.ChangeSpec) : _root_.Go.OpenSpec := { _root_.Go.OpenSpec.ofChange s with cond := some uptoSmall }

/-- 'hostellaw06.VfsNews', WHERE WHAT IT READS IS OF BULK AT MOST 1048576: true; the input reads as it did. -/
def vfsNewsUptoRow : OpenClaim := { program := "ytnepccjcjkeneaa", sum := "26a61c61b6adda66b4c99e10f0cae0fac58ee57515abac13408c0fd6b98fefec", func := "hostel/hostellaw06.VfsNews", spec := "vfsNews", inPlace := ["internal/bytealg.IndexByteString", "internal/abi.NoEscape", "internal/bytealg.MakeNoZero"], unfollowed := true, recurses := true, apart := false, narrowed := true }
def VfsNewsUptoSaid : Prop := vfsNewsUptoRow.holds Try.pinned (OpenSpec.upto vfsNewsSpec)

/-- 'hostellaw06.VfsWalks', WHERE WHAT IT READS IS OF BULK AT MOST 1048576: true; the input reads as it did. -/
def vfsWalksUptoRow : OpenClaim := { program := "ytnepccjcjkeneaa", sum := "26a61c61b6adda66b4c99e10f0cae0fac58ee57515abac13408c0fd6b98fefec", func := "hostel/hostellaw06.VfsWalks", spec := "vfsWalks", inPlace := ["internal/bytealg.IndexByteString", "internal/abi.NoEscape", "internal/bytealg.MakeNoZero"], unfollowed := true, recurses := true, apart := false, narrowed := true }
def VfsWalksUptoSaid : Prop := vfsWalksUptoRow.holds Try.pinned (OpenSpec.upto vfsWalksSpec)

/-- 'hostellaw06.VfsReads', WHERE WHAT IT READS IS OF BULK AT MOST 1048576: true; the input reads as it did. -/
def vfsReadsUptoRow : OpenClaim := { program := "ytnepccjcjkeneaa", sum := "26a61c61b6adda66b4c99e10f0cae0fac58ee57515abac13408c0fd6b98fefec", func := "hostel/hostellaw06.VfsReads", spec := "vfsReads", inPlace := ["internal/bytealg.IndexByteString", "internal/abi.NoEscape", "internal/bytealg.MakeNoZero"], unfollowed := true, recurses := true, apart := false, narrowed := true }
def VfsReadsUptoSaid : Prop := vfsReadsUptoRow.holds Try.pinned (OpenSpec.upto vfsReadsSpec)

/-- 'hostellaw15.SearchPaths', WHERE WHAT IT READS IS OF BULK AT MOST 1048576: true; the input reads as it did. -/
def searchPathsUptoRow : OpenClaim := { program := "ytnepccjcjkeneaa", sum := "26a61c61b6adda66b4c99e10f0cae0fac58ee57515abac13408c0fd6b98fefec", func := "hostel/hostellaw15.SearchPaths", spec := "searchPaths", inPlace := ["internal/bytealg.IndexByteString", "internal/abi.NoEscape", "internal/bytealg.MakeNoZero", "internal/bytealg.IndexString"], unfollowed := true, recurses := true, named := ["internal/bytealg.MaxLen"], apart := false, narrowed := true }
def SearchPathsUptoSaid : Prop := searchPathsUptoRow.holds Try.pinned (OpenSpec.upto searchPathsSpec)

/-- 'hostellaw15.SearchFinds', WHERE WHAT IT READS IS OF BULK AT MOST 1048576: true; the input reads as it did. -/
def searchFindsUptoRow : OpenClaim := { program := "ytnepccjcjkeneaa", sum := "26a61c61b6adda66b4c99e10f0cae0fac58ee57515abac13408c0fd6b98fefec", func := "hostel/hostellaw15.SearchFinds", spec := "searchFinds", inPlace := ["internal/bytealg.IndexByteString", "internal/abi.NoEscape", "internal/bytealg.MakeNoZero", "internal/bytealg.IndexString"], unfollowed := true, recurses := true, named := ["internal/bytealg.MaxLen"], apart := false, narrowed := true }
def SearchFindsUptoSaid : Prop := searchFindsUptoRow.holds Try.pinned (OpenSpec.upto searchFindsSpec)

/-- 'hostellaw15.SearchFirst', WHERE WHAT IT READS IS OF BULK AT MOST 1048576: true; the input reads as it did. -/
def searchFirstUptoRow : OpenClaim := { program := "ytnepccjcjkeneaa", sum := "26a61c61b6adda66b4c99e10f0cae0fac58ee57515abac13408c0fd6b98fefec", func := "hostel/hostellaw15.SearchFirst", spec := "searchFirst", inPlace := ["internal/bytealg.IndexByteString", "internal/abi.NoEscape", "internal/bytealg.MakeNoZero", "internal/bytealg.IndexString"], unfollowed := true, recurses := true, named := ["internal/bytealg.MaxLen"], apart := false, narrowed := true }
def SearchFirstUptoSaid : Prop := searchFirstUptoRow.holds Try.pinned (OpenSpec.upto searchFirstSpec)

end Rows
end Go.Proofs.Ytnepccjcjkeneaa
