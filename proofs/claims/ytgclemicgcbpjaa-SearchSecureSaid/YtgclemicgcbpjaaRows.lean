/-
  No cell of these rows narrows 'for every input' (looked for: loops, veiled, ifaces, maps, wideKeys, modest, calm, conditions, laid).
  DERIVED. THE GIVEN ROWS OF THIS SEAT. 8 by the template 'for every input the law returns true; each argument reads behind the call as it read before'; 0 by the template 'total and deterministic' (their statements: YtgclemicgcbpjaaTotals.lean).
  GIVEN WITH THE SEED: the statements are not yours to turn. If you find one false, say at which input.
  Laid BY PROGRAM, IN A SANDBOX (cutbox-rows.mjs): the forced cells as the released guide's own fill.sh prints them over the translation 05066b0ca89e28cf… (all of the seat's roots in one cut). By AI agents, Wed Nov 11 2026. No macro, syntax, notation, axiom, sorry.
-/
import Derived.Test.YtgclemicgcbpjaaChecked
import GoSem.Claim
import GoSem.ClaimJoined
import GoSem.ClaimMapViews
import Derived.JoinedTies
import Derived.KernelRfl
namespace Go.Proofs.Ytgclemicgcbpjaa
/- THE CELL 'sum', in the pinned program and in every row, IS THE sha256 OF THE DUMP (.gsa) THAT YtgclemicgcbpjaaProg.lean LOADS. Nothing in Lean hashes anything: it is a label: what it is worth is what the hold of that sum in a sandbox is worth. -/
noncomputable def Try.pinned : Pinned := { name := "ytgclemicgcbpjaa", sum := "05066b0ca89e28cfe0941adac9e279587f46c2326eca2880defe474cf523b4cb", checked := Try.checked }
namespace Rows
def none {H : Type} : Left H := { results := [], args := [] }

/-- 'hostellaw06.VfsNil': WHATEVER THE INPUT: true; the input reads as it did. -/
def vfsNilSpec : ChangeSpec := { name := "vfsNil", fn := fun _ => fun
  | [d1, d2, d3] => { results := [.lit (.bool true)], args := [d1, d2, d3] }
  | _ => none }
def vfsNilRow : OpenClaim := { program := "ytgclemicgcbpjaa", sum := "05066b0ca89e28cfe0941adac9e279587f46c2326eca2880defe474cf523b4cb", func := "hostel/hostellaw06.VfsNil", spec := "vfsNil", inPlace := ["internal/bytealg.IndexByteString", "internal/abi.NoEscape", "internal/bytealg.MakeNoZero"], unfollowed := true, recurses := true, apart := false }
def VfsNilSaid : Prop := vfsNilRow.holds Try.pinned (OpenSpec.ofChange vfsNilSpec)

/-- ITS FALSE NEIGHBOUR: 'it returns false'. Refute it at one input. -/
def vfsNilWrong : ChangeSpec := { name := "vfsNil", fn := fun _ => fun
  | [d1, d2, d3] => { results := [.lit (.bool false)], args := [d1, d2, d3] }
  | _ => none }
def VfsNilWrongFalsely : Prop := vfsNilRow.holds Try.pinned (OpenSpec.ofChange vfsNilWrong)

/-- 'hostellaw06.VfsRights': WHATEVER THE INPUT: true; the input reads as it did. -/
def vfsRightsSpec : ChangeSpec := { name := "vfsRights", fn := fun _ => fun
  | [d1, d2, d3] => { results := [.lit (.bool true)], args := [d1, d2, d3] }
  | _ => none }
def vfsRightsRow : OpenClaim := { program := "ytgclemicgcbpjaa", sum := "05066b0ca89e28cfe0941adac9e279587f46c2326eca2880defe474cf523b4cb", func := "hostel/hostellaw06.VfsRights", spec := "vfsRights", inPlace := ["internal/bytealg.IndexByteString", "internal/abi.NoEscape", "internal/bytealg.MakeNoZero"], unfollowed := true, recurses := true, apart := false }
def VfsRightsSaid : Prop := vfsRightsRow.holds Try.pinned (OpenSpec.ofChange vfsRightsSpec)

/-- ITS FALSE NEIGHBOUR: 'it returns false'. Refute it at one input. -/
def vfsRightsWrong : ChangeSpec := { name := "vfsRights", fn := fun _ => fun
  | [d1, d2, d3] => { results := [.lit (.bool false)], args := [d1, d2, d3] }
  | _ => none }
def VfsRightsWrongFalsely : Prop := vfsRightsRow.holds Try.pinned (OpenSpec.ofChange vfsRightsWrong)

/-- 'hostellaw06.VfsPaths': WHATEVER THE INPUT: true; the input reads as it did. -/
def vfsPathsSpec : ChangeSpec := { name := "vfsPaths", fn := fun _ => fun
  | [d1, d2] => { results := [.lit (.bool true)], args := [d1, d2] }
  | _ => none }
def vfsPathsRow : OpenClaim := { program := "ytgclemicgcbpjaa", sum := "05066b0ca89e28cfe0941adac9e279587f46c2326eca2880defe474cf523b4cb", func := "hostel/hostellaw06.VfsPaths", spec := "vfsPaths", inPlace := ["internal/bytealg.IndexByteString", "internal/abi.NoEscape", "internal/bytealg.MakeNoZero"], unfollowed := true, recurses := true, apart := false }
def VfsPathsSaid : Prop := vfsPathsRow.holds Try.pinned (OpenSpec.ofChange vfsPathsSpec)

/-- ITS FALSE NEIGHBOUR: 'it returns false'. Refute it at one input. -/
def vfsPathsWrong : ChangeSpec := { name := "vfsPaths", fn := fun _ => fun
  | [d1, d2] => { results := [.lit (.bool false)], args := [d1, d2] }
  | _ => none }
def VfsPathsWrongFalsely : Prop := vfsPathsRow.holds Try.pinned (OpenSpec.ofChange vfsPathsWrong)

/-- 'hostellaw06.VfsLinks': WHATEVER THE INPUT: true; the input reads as it did. -/
def vfsLinksSpec : ChangeSpec := { name := "vfsLinks", fn := fun _ => fun
  | [d1, d2] => { results := [.lit (.bool true)], args := [d1, d2] }
  | _ => none }
def vfsLinksRow : OpenClaim := { program := "ytgclemicgcbpjaa", sum := "05066b0ca89e28cfe0941adac9e279587f46c2326eca2880defe474cf523b4cb", func := "hostel/hostellaw06.VfsLinks", spec := "vfsLinks", inPlace := ["internal/bytealg.IndexByteString", "internal/abi.NoEscape", "internal/bytealg.MakeNoZero"], unfollowed := true, recurses := true, apart := false }
def VfsLinksSaid : Prop := vfsLinksRow.holds Try.pinned (OpenSpec.ofChange vfsLinksSpec)

/-- ITS FALSE NEIGHBOUR: 'it returns false'. Refute it at one input. -/
def vfsLinksWrong : ChangeSpec := { name := "vfsLinks", fn := fun _ => fun
  | [d1, d2] => { results := [.lit (.bool false)], args := [d1, d2] }
  | _ => none }
def VfsLinksWrongFalsely : Prop := vfsLinksRow.holds Try.pinned (OpenSpec.ofChange vfsLinksWrong)

/-- 'hostellaw15.SearchNil': WHATEVER THE INPUT: true; the input reads as it did. -/
def searchNilSpec : ChangeSpec := { name := "searchNil", fn := fun _ => fun
  | [d1, d2] => { results := [.lit (.bool true)], args := [d1, d2] }
  | _ => none }
def searchNilRow : OpenClaim := { program := "ytgclemicgcbpjaa", sum := "05066b0ca89e28cfe0941adac9e279587f46c2326eca2880defe474cf523b4cb", func := "hostel/hostellaw15.SearchNil", spec := "searchNil", inPlace := ["internal/bytealg.IndexByteString", "internal/abi.NoEscape", "internal/bytealg.MakeNoZero", "internal/bytealg.IndexString"], unfollowed := true, recurses := true, named := ["internal/bytealg.MaxLen"], apart := false }
def SearchNilSaid : Prop := searchNilRow.holds Try.pinned (OpenSpec.ofChange searchNilSpec)

/-- ITS FALSE NEIGHBOUR: 'it returns false'. Refute it at one input. -/
def searchNilWrong : ChangeSpec := { name := "searchNil", fn := fun _ => fun
  | [d1, d2] => { results := [.lit (.bool false)], args := [d1, d2] }
  | _ => none }
def SearchNilWrongFalsely : Prop := searchNilRow.holds Try.pinned (OpenSpec.ofChange searchNilWrong)

/-- 'hostellaw15.SearchSecure': WHATEVER THE INPUT: true; the input reads as it did. -/
def searchSecureSpec : ChangeSpec := { name := "searchSecure", fn := fun _ => fun
  | [d1, d2] => { results := [.lit (.bool true)], args := [d1, d2] }
  | _ => none }
def searchSecureRow : OpenClaim := { program := "ytgclemicgcbpjaa", sum := "05066b0ca89e28cfe0941adac9e279587f46c2326eca2880defe474cf523b4cb", func := "hostel/hostellaw15.SearchSecure", spec := "searchSecure", inPlace := ["internal/bytealg.IndexByteString", "internal/abi.NoEscape", "internal/bytealg.MakeNoZero", "internal/bytealg.IndexString"], unfollowed := true, recurses := true, named := ["internal/bytealg.MaxLen"], apart := false }
def SearchSecureSaid : Prop := searchSecureRow.holds Try.pinned (OpenSpec.ofChange searchSecureSpec)

/-- ITS FALSE NEIGHBOUR: 'it returns false'. Refute it at one input. -/
def searchSecureWrong : ChangeSpec := { name := "searchSecure", fn := fun _ => fun
  | [d1, d2] => { results := [.lit (.bool false)], args := [d1, d2] }
  | _ => none }
def SearchSecureWrongFalsely : Prop := searchSecureRow.holds Try.pinned (OpenSpec.ofChange searchSecureWrong)

/-- 'hostellaw15.SearchPaths': WHATEVER THE INPUT: true; the input reads as it did. -/
def searchPathsSpec : ChangeSpec := { name := "searchPaths", fn := fun _ => fun
  | [d1, d2] => { results := [.lit (.bool true)], args := [d1, d2] }
  | _ => none }
def searchPathsRow : OpenClaim := { program := "ytgclemicgcbpjaa", sum := "05066b0ca89e28cfe0941adac9e279587f46c2326eca2880defe474cf523b4cb", func := "hostel/hostellaw15.SearchPaths", spec := "searchPaths", inPlace := ["internal/bytealg.IndexByteString", "internal/abi.NoEscape", "internal/bytealg.MakeNoZero", "internal/bytealg.IndexString"], unfollowed := true, recurses := true, named := ["internal/bytealg.MaxLen"], apart := false }
def SearchPathsSaid : Prop := searchPathsRow.holds Try.pinned (OpenSpec.ofChange searchPathsSpec)

/-- ITS FALSE NEIGHBOUR: 'it returns false'. Refute it at one input. -/
def searchPathsWrong : ChangeSpec := { name := "searchPaths", fn := fun _ => fun
  | [d1, d2] => { results := [.lit (.bool false)], args := [d1, d2] }
  | _ => none }
def SearchPathsWrongFalsely : Prop := searchPathsRow.holds Try.pinned (OpenSpec.ofChange searchPathsWrong)

/-- 'hostellaw15.SearchFirst': WHATEVER THE INPUT: true; the input reads as it did. -/
def searchFirstSpec : ChangeSpec := { name := "searchFirst", fn := fun _ => fun
  | [d1, d2, d3] => { results := [.lit (.bool true)], args := [d1, d2, d3] }
  | _ => none }
def searchFirstRow : OpenClaim := { program := "ytgclemicgcbpjaa", sum := "05066b0ca89e28cfe0941adac9e279587f46c2326eca2880defe474cf523b4cb", func := "hostel/hostellaw15.SearchFirst", spec := "searchFirst", inPlace := ["internal/bytealg.IndexByteString", "internal/abi.NoEscape", "internal/bytealg.MakeNoZero", "internal/bytealg.IndexString"], unfollowed := true, recurses := true, named := ["internal/bytealg.MaxLen"], apart := false }
def SearchFirstSaid : Prop := searchFirstRow.holds Try.pinned (OpenSpec.ofChange searchFirstSpec)

/-- ITS FALSE NEIGHBOUR: 'it returns false'. Refute it at one input. -/
def searchFirstWrong : ChangeSpec := { name := "searchFirst", fn := fun _ => fun
  | [d1, d2, d3] => { results := [.lit (.bool false)], args := [d1, d2, d3] }
  | _ => none }
def SearchFirstWrongFalsely : Prop := searchFirstRow.holds Try.pinned (OpenSpec.ofChange searchFirstWrong)

/- THE SECOND FORM. 'bulk': how many values and letters a reading holds, each counted each time it is reached (what is shared counts as often as it is met; a slice's spare places count too). A statement '..UptoSaid' is the law's where the arguments, and the package variables that the reading takes, are together of bulk at most 1048576: NARROWER than '..Said'. Prove '..Said' where nothing that the law and all that it calls make is longer than what came in: it says more and counts as full. Else prove '..UptoSaid'. A law counts once. -/
mutual
def uptoBulk {H : Type} : DataW H → Nat
  | .lit (.string bytes) => bytes.length + 1
  | .lit _ => 1
  | .nil => 1
  | .ptr d => uptoBulk d + 1
  | .slice elems spare => uptoBulkAll elems + uptoBulkAll spare + 1
  | .agg parts => uptoBulkAll parts + 1
  | .iface _ d => uptoBulk d + 1
  | .map entries => uptoBulkEntries entries + 1
  | .held _ => 1
def uptoBulkAll {H : Type} : List (DataW H) → Nat
  | [] => 0
  | d :: r => uptoBulk d + uptoBulkAll r
def uptoBulkEntries {H : Type} : List (Lit × DataW H) → Nat
  | [] => 0
  | x :: r => uptoBulkEntry x + uptoBulkEntries r
def uptoBulkEntry {H : Type} : Lit × DataW H → Nat
  | (.string bytes, d) => bytes.length + uptoBulk d + 1
  | (_, d) => uptoBulk d + 1
 end
def uptoSmall : (H : Type) → List (DataW H) → Bool := fun _ ds => decide (uptoBulkAll ds ≤ 1048576)
def OpenSpec.upto (s : _root_.Go.ChangeSpec) : _root_.Go.OpenSpec := { _root_.Go.OpenSpec.ofChange s with cond := some uptoSmall }

/-- 'hostellaw06.VfsNil', WHERE WHAT IT READS IS OF BULK AT MOST 1048576: true; the input reads as it did. -/
def vfsNilUptoRow : OpenClaim := { program := "ytgclemicgcbpjaa", sum := "05066b0ca89e28cfe0941adac9e279587f46c2326eca2880defe474cf523b4cb", func := "hostel/hostellaw06.VfsNil", spec := "vfsNil", inPlace := ["internal/bytealg.IndexByteString", "internal/abi.NoEscape", "internal/bytealg.MakeNoZero"], unfollowed := true, recurses := true, apart := false, narrowed := true }
def VfsNilUptoSaid : Prop := vfsNilUptoRow.holds Try.pinned (OpenSpec.upto vfsNilSpec)

/-- 'hostellaw06.VfsRights', WHERE WHAT IT READS IS OF BULK AT MOST 1048576: true; the input reads as it did. -/
def vfsRightsUptoRow : OpenClaim := { program := "ytgclemicgcbpjaa", sum := "05066b0ca89e28cfe0941adac9e279587f46c2326eca2880defe474cf523b4cb", func := "hostel/hostellaw06.VfsRights", spec := "vfsRights", inPlace := ["internal/bytealg.IndexByteString", "internal/abi.NoEscape", "internal/bytealg.MakeNoZero"], unfollowed := true, recurses := true, apart := false, narrowed := true }
def VfsRightsUptoSaid : Prop := vfsRightsUptoRow.holds Try.pinned (OpenSpec.upto vfsRightsSpec)

/-- 'hostellaw06.VfsPaths', WHERE WHAT IT READS IS OF BULK AT MOST 1048576: true; the input reads as it did. -/
def vfsPathsUptoRow : OpenClaim := { program := "ytgclemicgcbpjaa", sum := "05066b0ca89e28cfe0941adac9e279587f46c2326eca2880defe474cf523b4cb", func := "hostel/hostellaw06.VfsPaths", spec := "vfsPaths", inPlace := ["internal/bytealg.IndexByteString", "internal/abi.NoEscape", "internal/bytealg.MakeNoZero"], unfollowed := true, recurses := true, apart := false, narrowed := true }
def VfsPathsUptoSaid : Prop := vfsPathsUptoRow.holds Try.pinned (OpenSpec.upto vfsPathsSpec)

/-- 'hostellaw06.VfsLinks', WHERE WHAT IT READS IS OF BULK AT MOST 1048576: true; the input reads as it did. -/
def vfsLinksUptoRow : OpenClaim := { program := "ytgclemicgcbpjaa", sum := "05066b0ca89e28cfe0941adac9e279587f46c2326eca2880defe474cf523b4cb", func := "hostel/hostellaw06.VfsLinks", spec := "vfsLinks", inPlace := ["internal/bytealg.IndexByteString", "internal/abi.NoEscape", "internal/bytealg.MakeNoZero"], unfollowed := true, recurses := true, apart := false, narrowed := true }
def VfsLinksUptoSaid : Prop := vfsLinksUptoRow.holds Try.pinned (OpenSpec.upto vfsLinksSpec)

/-- 'hostellaw15.SearchNil', WHERE WHAT IT READS IS OF BULK AT MOST 1048576: true; the input reads as it did. -/
def searchNilUptoRow : OpenClaim := { program := "ytgclemicgcbpjaa", sum := "05066b0ca89e28cfe0941adac9e279587f46c2326eca2880defe474cf523b4cb", func := "hostel/hostellaw15.SearchNil", spec := "searchNil", inPlace := ["internal/bytealg.IndexByteString", "internal/abi.NoEscape", "internal/bytealg.MakeNoZero", "internal/bytealg.IndexString"], unfollowed := true, recurses := true, named := ["internal/bytealg.MaxLen"], apart := false, narrowed := true }
def SearchNilUptoSaid : Prop := searchNilUptoRow.holds Try.pinned (OpenSpec.upto searchNilSpec)

/-- 'hostellaw15.SearchSecure', WHERE WHAT IT READS IS OF BULK AT MOST 1048576: true; the input reads as it did. -/
def searchSecureUptoRow : OpenClaim := { program := "ytgclemicgcbpjaa", sum := "05066b0ca89e28cfe0941adac9e279587f46c2326eca2880defe474cf523b4cb", func := "hostel/hostellaw15.SearchSecure", spec := "searchSecure", inPlace := ["internal/bytealg.IndexByteString", "internal/abi.NoEscape", "internal/bytealg.MakeNoZero", "internal/bytealg.IndexString"], unfollowed := true, recurses := true, named := ["internal/bytealg.MaxLen"], apart := false, narrowed := true }
def SearchSecureUptoSaid : Prop := searchSecureUptoRow.holds Try.pinned (OpenSpec.upto searchSecureSpec)

/-- 'hostellaw15.SearchPaths', WHERE WHAT IT READS IS OF BULK AT MOST 1048576: true; the input reads as it did. -/
def searchPathsUptoRow : OpenClaim := { program := "ytgclemicgcbpjaa", sum := "05066b0ca89e28cfe0941adac9e279587f46c2326eca2880defe474cf523b4cb", func := "hostel/hostellaw15.SearchPaths", spec := "searchPaths", inPlace := ["internal/bytealg.IndexByteString", "internal/abi.NoEscape", "internal/bytealg.MakeNoZero", "internal/bytealg.IndexString"], unfollowed := true, recurses := true, named := ["internal/bytealg.MaxLen"], apart := false, narrowed := true }
def SearchPathsUptoSaid : Prop := searchPathsUptoRow.holds Try.pinned (OpenSpec.upto searchPathsSpec)

/-- 'hostellaw15.SearchFirst', WHERE WHAT IT READS IS OF BULK AT MOST 1048576: true; the input reads as it did. -/
def searchFirstUptoRow : OpenClaim := { program := "ytgclemicgcbpjaa", sum := "05066b0ca89e28cfe0941adac9e279587f46c2326eca2880defe474cf523b4cb", func := "hostel/hostellaw15.SearchFirst", spec := "searchFirst", inPlace := ["internal/bytealg.IndexByteString", "internal/abi.NoEscape", "internal/bytealg.MakeNoZero", "internal/bytealg.IndexString"], unfollowed := true, recurses := true, named := ["internal/bytealg.MaxLen"], apart := false, narrowed := true }
def SearchFirstUptoSaid : Prop := searchFirstUptoRow.holds Try.pinned (OpenSpec.upto searchFirstSpec)

end Rows
end Go.Proofs.Ytgclemicgcbpjaa
