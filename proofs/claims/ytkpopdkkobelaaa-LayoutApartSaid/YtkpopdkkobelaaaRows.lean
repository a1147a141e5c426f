/-
  No cell of these rows narrows 'for every input' (looked for: loops, veiled, ifaces, maps, wideKeys, modest, calm, conditions, laid).
  DERIVED. THE GIVEN ROWS OF THIS SEAT. 6 by the template 'for every input the law returns true; each argument reads behind the call as it read before'; 0 by the template 'total and deterministic' (their statements: YtkpopdkkobelaaaTotals.lean).
  GIVEN WITH THE SEED: the statements are not yours to turn. If you find one false, say at which input.
  Laid BY PROGRAM, IN A SANDBOX (cutbox-rows.mjs): the forced cells as the released guide's own fill.sh prints them over the translation 0654bea71e743105… (all of the seat's roots in one cut). By AI agents, Wed Nov 11 2026. No macro, syntax, notation, axiom, sorry.
-/
import Derived.Test.YtkpopdkkobelaaaChecked
import GoSem.Claim
import GoSem.ClaimJoined
import GoSem.ClaimMapViews
import Derived.JoinedTies
import Derived.KernelRfl
namespace Go.Proofs.Ytkpopdkkobelaaa
/- THE CELL 'sum', in the pinned program and in every row, IS THE sha256 OF THE DUMP (.gsa) THAT YtkpopdkkobelaaaProg.lean LOADS. Nothing in Lean hashes anything: it is a label: what it is worth is what the hold of that sum in a sandbox is worth. -/
noncomputable def Try.pinned : Pinned := { name := "ytkpopdkkobelaaa", sum := "0654bea71e74310533720af5b4372bfecad25291a925a25ee068946743069c10", checked := Try.checked }
namespace Rows
def none {H : Type} : Left H := { results := [], args := [] }

/-- 'hostellaw17.LayoutRights': WHATEVER THE INPUT: true; the input reads as it did. -/
def layoutRightsSpec : ChangeSpec := { name := "layoutRights", fn := fun _ => fun
  | [d] => { results := [.lit (.bool true)], args := [d] }
  | _ => none }
def layoutRightsRow : OpenClaim := { program := "ytkpopdkkobelaaa", sum := "0654bea71e74310533720af5b4372bfecad25291a925a25ee068946743069c10", func := "hostel/hostellaw17.LayoutRights", spec := "layoutRights", unfollowed := true, recurses := true, apart := false }
def LayoutRightsSaid : Prop := layoutRightsRow.holds Try.pinned (OpenSpec.ofChange layoutRightsSpec)

/-- ITS FALSE NEIGHBOUR: 'it returns false'. Refute it at one input. -/
def layoutRightsWrong : ChangeSpec := { name := "layoutRights", fn := fun _ => fun
  | [d] => { results := [.lit (.bool false)], args := [d] }
  | _ => none }
def LayoutRightsWrongFalsely : Prop := layoutRightsRow.holds Try.pinned (OpenSpec.ofChange layoutRightsWrong)

/-- 'hostellaw17.LayoutBases': WHATEVER THE INPUT: true; the input reads as it did. -/
def layoutBasesSpec : ChangeSpec := { name := "layoutBases", fn := fun _ => fun
  | [d] => { results := [.lit (.bool true)], args := [d] }
  | _ => none }
def layoutBasesRow : OpenClaim := { program := "ytkpopdkkobelaaa", sum := "0654bea71e74310533720af5b4372bfecad25291a925a25ee068946743069c10", func := "hostel/hostellaw17.LayoutBases", spec := "layoutBases", unfollowed := true, recurses := true, apart := false }
def LayoutBasesSaid : Prop := layoutBasesRow.holds Try.pinned (OpenSpec.ofChange layoutBasesSpec)

/-- ITS FALSE NEIGHBOUR: 'it returns false'. Refute it at one input. -/
def layoutBasesWrong : ChangeSpec := { name := "layoutBases", fn := fun _ => fun
  | [d] => { results := [.lit (.bool false)], args := [d] }
  | _ => none }
def LayoutBasesWrongFalsely : Prop := layoutBasesRow.holds Try.pinned (OpenSpec.ofChange layoutBasesWrong)

/-- 'hostellaw17.LayoutPieces': WHATEVER THE INPUT: true; the input reads as it did. -/
def layoutPiecesSpec : ChangeSpec := { name := "layoutPieces", fn := fun _ => fun
  | [d] => { results := [.lit (.bool true)], args := [d] }
  | _ => none }
def layoutPiecesRow : OpenClaim := { program := "ytkpopdkkobelaaa", sum := "0654bea71e74310533720af5b4372bfecad25291a925a25ee068946743069c10", func := "hostel/hostellaw17.LayoutPieces", spec := "layoutPieces", unfollowed := true, recurses := true, apart := false }
def LayoutPiecesSaid : Prop := layoutPiecesRow.holds Try.pinned (OpenSpec.ofChange layoutPiecesSpec)

/-- ITS FALSE NEIGHBOUR: 'it returns false'. Refute it at one input. -/
def layoutPiecesWrong : ChangeSpec := { name := "layoutPieces", fn := fun _ => fun
  | [d] => { results := [.lit (.bool false)], args := [d] }
  | _ => none }
def LayoutPiecesWrongFalsely : Prop := layoutPiecesRow.holds Try.pinned (OpenSpec.ofChange layoutPiecesWrong)

/-- 'hostellaw17.LayoutApart': WHATEVER THE INPUT: true; the input reads as it did. -/
def layoutApartSpec : ChangeSpec := { name := "layoutApart", fn := fun _ => fun
  | [d1, d2] => { results := [.lit (.bool true)], args := [d1, d2] }
  | _ => none }
def layoutApartRow : OpenClaim := { program := "ytkpopdkkobelaaa", sum := "0654bea71e74310533720af5b4372bfecad25291a925a25ee068946743069c10", func := "hostel/hostellaw17.LayoutApart", spec := "layoutApart", unfollowed := true, recurses := true, apart := false }
def LayoutApartSaid : Prop := layoutApartRow.holds Try.pinned (OpenSpec.ofChange layoutApartSpec)

/-- ITS FALSE NEIGHBOUR: 'it returns false'. Refute it at one input. -/
def layoutApartWrong : ChangeSpec := { name := "layoutApart", fn := fun _ => fun
  | [d1, d2] => { results := [.lit (.bool false)], args := [d1, d2] }
  | _ => none }
def LayoutApartWrongFalsely : Prop := layoutApartRow.holds Try.pinned (OpenSpec.ofChange layoutApartWrong)

/-- 'hostellaw17.LayoutCovers': WHATEVER THE INPUT: true; the input reads as it did. -/
def layoutCoversSpec : ChangeSpec := { name := "layoutCovers", fn := fun _ => fun
  | [d1, d2, d3] => { results := [.lit (.bool true)], args := [d1, d2, d3] }
  | _ => none }
def layoutCoversRow : OpenClaim := { program := "ytkpopdkkobelaaa", sum := "0654bea71e74310533720af5b4372bfecad25291a925a25ee068946743069c10", func := "hostel/hostellaw17.LayoutCovers", spec := "layoutCovers", unfollowed := true, recurses := true, apart := false }
def LayoutCoversSaid : Prop := layoutCoversRow.holds Try.pinned (OpenSpec.ofChange layoutCoversSpec)

/-- ITS FALSE NEIGHBOUR: 'it returns false'. Refute it at one input. -/
def layoutCoversWrong : ChangeSpec := { name := "layoutCovers", fn := fun _ => fun
  | [d1, d2, d3] => { results := [.lit (.bool false)], args := [d1, d2, d3] }
  | _ => none }
def LayoutCoversWrongFalsely : Prop := layoutCoversRow.holds Try.pinned (OpenSpec.ofChange layoutCoversWrong)

/-- 'hostellaw17.LayoutMoved': WHATEVER THE INPUT: true; the input reads as it did. -/
def layoutMovedSpec : ChangeSpec := { name := "layoutMoved", fn := fun _ => fun
  | [d1, d2] => { results := [.lit (.bool true)], args := [d1, d2] }
  | _ => none }
def layoutMovedRow : OpenClaim := { program := "ytkpopdkkobelaaa", sum := "0654bea71e74310533720af5b4372bfecad25291a925a25ee068946743069c10", func := "hostel/hostellaw17.LayoutMoved", spec := "layoutMoved", unfollowed := true, recurses := true, apart := false }
def LayoutMovedSaid : Prop := layoutMovedRow.holds Try.pinned (OpenSpec.ofChange layoutMovedSpec)

/-- ITS FALSE NEIGHBOUR: 'it returns false'. Refute it at one input. -/
def layoutMovedWrong : ChangeSpec := { name := "layoutMoved", fn := fun _ => fun
  | [d1, d2] => { results := [.lit (.bool false)], args := [d1, d2] }
  | _ => none }
def LayoutMovedWrongFalsely : Prop := layoutMovedRow.holds Try.pinned (OpenSpec.ofChange layoutMovedWrong)

/- THE SECOND FORM. 'bulk': how many values and letters a reading holds, each counted each time it is reached (what is shared counts as often as it is met; a slice's spare places count too). A statement '..UptoSaid' is the law's where the arguments, and the package variables that the reading takes, are together of bulk at most 1048576: NARROWER than '..Said'. Prove '..Said' where nothing that the law and all that it calls make is longer than what came in: it says more and counts as full. Else prove '..UptoSaid'. A law counts once. -/
mutual
def uptoBulk {H : Type} : DataW H → Nat
  | .lit (.string bytes) => bytes.length + 1
  | .lit _ => 1
  | .nil => 1
  | .ptr d => uptoBulk d + 1
  | .slice elems spare => uptoBulkAll elems + uptoBulkAll spare + 1
  | .agg parts => uptoBulkAll parts + 1
  | .iface _ d => uptoBulk d + 1
  | .map entries => uptoBulkEntries entries + 1
  | .held _ => 1
def uptoBulkAll {H : Type} : List (DataW H) → Nat
  | [] => 0
  | d :: r => uptoBulk d + uptoBulkAll r
def uptoBulkEntries {H : Type} : List (Lit × DataW H) → Nat
  | [] => 0
  | x :: r => uptoBulkEntry x + uptoBulkEntries r
def uptoBulkEntry {H : Type} : Lit × DataW H → Nat
  | (.string bytes, d) => bytes.length + uptoBulk d + 1
  | (_, d) => uptoBulk d + 1
 end
def uptoSmall : (H : Type) → List (DataW H) → Bool := fun _ ds => decide (uptoBulkAll ds ≤ 1048576)
def OpenSpec.upto (s : _root_.Go.ChangeSpec) : _root_.Go.OpenSpec := { _root_.Go.OpenSpec.ofChange s with cond := some uptoSmall }

/-- 'hostellaw17.LayoutRights', WHERE WHAT IT READS IS OF BULK AT MOST 1048576: true; the input reads as it did. -/
def layoutRightsUptoRow : OpenClaim := { program := "ytkpopdkkobelaaa", sum := "0654bea71e74310533720af5b4372bfecad25291a925a25ee068946743069c10", func := "hostel/hostellaw17.LayoutRights", spec := "layoutRights", unfollowed := true, recurses := true, apart := false, narrowed := true }
def LayoutRightsUptoSaid : Prop := layoutRightsUptoRow.holds Try.pinned (OpenSpec.upto layoutRightsSpec)

/-- 'hostellaw17.LayoutBases', WHERE WHAT IT READS IS OF BULK AT MOST 1048576: true; the input reads as it did. -/
def layoutBasesUptoRow : OpenClaim := { program := "ytkpopdkkobelaaa", sum := "0654bea71e74310533720af5b4372bfecad25291a925a25ee068946743069c10", func := "hostel/hostellaw17.LayoutBases", spec := "layoutBases", unfollowed := true, recurses := true, apart := false, narrowed := true }
def LayoutBasesUptoSaid : Prop := layoutBasesUptoRow.holds Try.pinned (OpenSpec.upto layoutBasesSpec)

/-- 'hostellaw17.LayoutPieces', WHERE WHAT IT READS IS OF BULK AT MOST 1048576: true; the input reads as it did. -/
def layoutPiecesUptoRow : OpenClaim := { program := "ytkpopdkkobelaaa", sum := "0654bea71e74310533720af5b4372bfecad25291a925a25ee068946743069c10", func := "hostel/hostellaw17.LayoutPieces", spec := "layoutPieces", unfollowed := true, recurses := true, apart := false, narrowed := true }
def LayoutPiecesUptoSaid : Prop := layoutPiecesUptoRow.holds Try.pinned (OpenSpec.upto layoutPiecesSpec)

/-- 'hostellaw17.LayoutApart', WHERE WHAT IT READS IS OF BULK AT MOST 1048576: true; the input reads as it did. -/
def layoutApartUptoRow : OpenClaim := { program := "ytkpopdkkobelaaa", sum := "0654bea71e74310533720af5b4372bfecad25291a925a25ee068946743069c10", func := "hostel/hostellaw17.LayoutApart", spec := "layoutApart", unfollowed := true, recurses := true, apart := false, narrowed := true }
def LayoutApartUptoSaid : Prop := layoutApartUptoRow.holds Try.pinned (OpenSpec.upto layoutApartSpec)

/-- 'hostellaw17.LayoutCovers', WHERE WHAT IT READS IS OF BULK AT MOST 1048576: true; the input reads as it did. -/
def layoutCoversUptoRow : OpenClaim := { program := "ytkpopdkkobelaaa", sum := "0654bea71e74310533720af5b4372bfecad25291a925a25ee068946743069c10", func := "hostel/hostellaw17.LayoutCovers", spec := "layoutCovers", unfollowed := true, recurses := true, apart := false, narrowed := true }
def LayoutCoversUptoSaid : Prop := layoutCoversUptoRow.holds Try.pinned (OpenSpec.upto layoutCoversSpec)

/-- 'hostellaw17.LayoutMoved', WHERE WHAT IT READS IS OF BULK AT MOST 1048576: true; the input reads as it did. -/
def layoutMovedUptoRow : OpenClaim := { program := "ytkpopdkkobelaaa", sum := "0654bea71e74310533720af5b4372bfecad25291a925a25ee068946743069c10", func := "hostel/hostellaw17.LayoutMoved", spec := "layoutMoved", unfollowed := true, recurses := true, apart := false, narrowed := true }
def LayoutMovedUptoSaid : Prop := layoutMovedUptoRow.holds Try.pinned (OpenSpec.upto layoutMovedSpec)

end Rows
end Go.Proofs.Ytkpopdkkobelaaa
