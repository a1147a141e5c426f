/-
  No cell of these rows narrows 'for every input' (looked for: loops, veiled, ifaces, maps, wideKeys, modest, calm, conditions, laid).
  DERIVED. THE GIVEN ROWS OF THIS SEAT. 5 by the template 'for every input the law returns true; each argument reads behind the call as it read before'; 0 by the template 'total and deterministic' (their statements: YtblefgkhikfmhaaTotals.lean).
  GIVEN WITH THE SEED: the statements are not yours to turn. If you find one false, say at which input.
  Laid BY PROGRAM, IN A SANDBOX (cutbox-rows.mjs): the forced cells as the released guide's own fill.sh prints them over the translation d58ca1a58d45242e… (all of the seat's roots in one cut). By AI agents, Wed Nov 11 2026. No macro, syntax, notation, axiom, sorry.
-/
import Derived.Test.YtblefgkhikfmhaaChecked
import GoSem.Claim
import GoSem.ClaimJoined
import GoSem.ClaimMapViews
import Derived.JoinedTies
import Derived.KernelRfl
namespace Go.Proofs.Ytblefgkhikfmhaa
/- THE CELL 'sum', in the pinned program and in every row, IS THE sha256 OF THE DUMP (.gsa) THAT YtblefgkhikfmhaaProg.lean LOADS. Nothing in Lean hashes anything: it is a label: what it is worth is what the hold of that sum in a sandbox is worth. -/
noncomputable def Try.pinned : Pinned := { name := "ytblefgkhikfmhaa", sum := "d58ca1a58d45242e010a578a932c351e51a9f6ac9781290514296d00e2e27125", checked := Try.checked }
namespace Rows
def none {H : Type} : Left H := { results := [], args := [] }

/-- 'hostellaw18.SymbolsLooks': WHATEVER THE INPUT: true; the input reads as it did. -/
def symbolsLooksSpec : ChangeSpec := { name := "symbolsLooks", fn := fun _ => fun
  | [d1, d2] => { results := [.lit (.bool true)], args := [d1, d2] }
  | _ => none }
def symbolsLooksRow : OpenClaim := { program := "ytblefgkhikfmhaa", sum := "d58ca1a58d45242e010a578a932c351e51a9f6ac9781290514296d00e2e27125", func := "hostel/hostellaw18.SymbolsLooks", spec := "symbolsLooks", unfollowed := true, recurses := true, apart := false }
def SymbolsLooksSaid : Prop := symbolsLooksRow.holds Try.pinned (OpenSpec.ofChange symbolsLooksSpec)

/-- ITS FALSE NEIGHBOUR: 'it returns false'. Refute it at one input. -/
def symbolsLooksWrong : ChangeSpec := { name := "symbolsLooks", fn := fun _ => fun
  | [d1, d2] => { results := [.lit (.bool false)], args := [d1, d2] }
  | _ => none }
def SymbolsLooksWrongFalsely : Prop := symbolsLooksRow.holds Try.pinned (OpenSpec.ofChange symbolsLooksWrong)

/-- 'hostellaw18.SymbolsOf': WHATEVER THE INPUT: true; the input reads as it did. -/
def symbolsOfSpec : ChangeSpec := { name := "symbolsOf", fn := fun _ => fun
  | [d1, d2] => { results := [.lit (.bool true)], args := [d1, d2] }
  | _ => none }
def symbolsOfRow : OpenClaim := { program := "ytblefgkhikfmhaa", sum := "d58ca1a58d45242e010a578a932c351e51a9f6ac9781290514296d00e2e27125", func := "hostel/hostellaw18.SymbolsOf", spec := "symbolsOf", unfollowed := true, recurses := true, apart := false }
def SymbolsOfSaid : Prop := symbolsOfRow.holds Try.pinned (OpenSpec.ofChange symbolsOfSpec)

/-- ITS FALSE NEIGHBOUR: 'it returns false'. Refute it at one input. -/
def symbolsOfWrong : ChangeSpec := { name := "symbolsOf", fn := fun _ => fun
  | [d1, d2] => { results := [.lit (.bool false)], args := [d1, d2] }
  | _ => none }
def SymbolsOfWrongFalsely : Prop := symbolsOfRow.holds Try.pinned (OpenSpec.ofChange symbolsOfWrong)

/-- 'hostellaw18.SymbolsAll': WHATEVER THE INPUT: true; the input reads as it did. -/
def symbolsAllSpec : ChangeSpec := { name := "symbolsAll", fn := fun _ => fun
  | [d1, d2] => { results := [.lit (.bool true)], args := [d1, d2] }
  | _ => none }
def symbolsAllRow : OpenClaim := { program := "ytblefgkhikfmhaa", sum := "d58ca1a58d45242e010a578a932c351e51a9f6ac9781290514296d00e2e27125", func := "hostel/hostellaw18.SymbolsAll", spec := "symbolsAll", unfollowed := true, recurses := true, apart := false }
def SymbolsAllSaid : Prop := symbolsAllRow.holds Try.pinned (OpenSpec.ofChange symbolsAllSpec)

/-- ITS FALSE NEIGHBOUR: 'it returns false'. Refute it at one input. -/
def symbolsAllWrong : ChangeSpec := { name := "symbolsAll", fn := fun _ => fun
  | [d1, d2] => { results := [.lit (.bool false)], args := [d1, d2] }
  | _ => none }
def SymbolsAllWrongFalsely : Prop := symbolsAllRow.holds Try.pinned (OpenSpec.ofChange symbolsAllWrong)

/-- 'hostellaw18.SymbolsOrder': WHATEVER THE INPUT: true; the input reads as it did. -/
def symbolsOrderSpec : ChangeSpec := { name := "symbolsOrder", fn := fun _ => fun
  | [d1, d2, d3] => { results := [.lit (.bool true)], args := [d1, d2, d3] }
  | _ => none }
def symbolsOrderRow : OpenClaim := { program := "ytblefgkhikfmhaa", sum := "d58ca1a58d45242e010a578a932c351e51a9f6ac9781290514296d00e2e27125", func := "hostel/hostellaw18.SymbolsOrder", spec := "symbolsOrder", unfollowed := true, recurses := true, apart := false }
def SymbolsOrderSaid : Prop := symbolsOrderRow.holds Try.pinned (OpenSpec.ofChange symbolsOrderSpec)

/-- ITS FALSE NEIGHBOUR: 'it returns false'. Refute it at one input. -/
def symbolsOrderWrong : ChangeSpec := { name := "symbolsOrder", fn := fun _ => fun
  | [d1, d2, d3] => { results := [.lit (.bool false)], args := [d1, d2, d3] }
  | _ => none }
def SymbolsOrderWrongFalsely : Prop := symbolsOrderRow.holds Try.pinned (OpenSpec.ofChange symbolsOrderWrong)

/-- 'hostellaw18.SymbolsOne': WHATEVER THE INPUT: true; the input reads as it did. -/
def symbolsOneSpec : ChangeSpec := { name := "symbolsOne", fn := fun _ => fun
  | [d] => { results := [.lit (.bool true)], args := [d] }
  | _ => none }
def symbolsOneRow : OpenClaim := { program := "ytblefgkhikfmhaa", sum := "d58ca1a58d45242e010a578a932c351e51a9f6ac9781290514296d00e2e27125", func := "hostel/hostellaw18.SymbolsOne", spec := "symbolsOne", unfollowed := true, recurses := true, apart := false }
def SymbolsOneSaid : Prop := symbolsOneRow.holds Try.pinned (OpenSpec.ofChange symbolsOneSpec)

/-- ITS FALSE NEIGHBOUR: 'it returns false'. Refute it at one input. -/
def symbolsOneWrong : ChangeSpec := { name := "symbolsOne", fn := fun _ => fun
  | [d] => { results := [.lit (.bool false)], args := [d] }
  | _ => none }
def SymbolsOneWrongFalsely : Prop := symbolsOneRow.holds Try.pinned (OpenSpec.ofChange symbolsOneWrong)

/- THE SECOND FORM. 'bulk': how many values and letters a reading holds, each counted each time it is reached (what is shared counts as often as it is met; a slice's spare places count too). A statement '..UptoSaid' is the law's where the arguments, and the package variables that the reading takes, are together of bulk at most 1048576: NARROWER than '..Said'. Prove '..Said' where nothing that the law and all that it calls make is longer than what came in: it says more and counts as full. Else prove '..UptoSaid'. A law counts once. -/
mutual
def uptoBulk {H : Type} : DataW H → Nat
  | .lit (.string bytes) => bytes.length + 1
  | .lit _ => 1
  | .nil => 1
  | .ptr d => uptoBulk d + 1
  | .slice elems spare => uptoBulkAll elems + uptoBulkAll spare + 1
  | .agg parts => uptoBulkAll parts + 1
  | .iface _ d => uptoBulk d + 1
  | .map entries => uptoBulkEntries entries + 1
  | .held _ => 1
def uptoBulkAll {H : Type} : List (DataW H) → Nat
  | [] => 0
  | d :: r => uptoBulk d + uptoBulkAll r
def uptoBulkEntries {H : Type} : List (Lit × DataW H) → Nat
  | [] => 0
  | x :: r => uptoBulkEntry x + uptoBulkEntries r
def uptoBulkEntry {H : Type} : Lit × DataW H → Nat
  | (.string bytes, d) => bytes.length + uptoBulk d + 1
  | (_, d) => uptoBulk d + 1
 end
def uptoSmall : (H : Type) → List (DataW H) → Bool := fun _ ds => decide (uptoBulkAll ds ≤ 1048576)
def OpenSpec.upto (s : _root_.Go.ChangeSpec) : _root_.Go.OpenSpec := { _root_.Go.OpenSpec.ofChange s with cond := some uptoSmall }

/-- 'hostellaw18.SymbolsLooks', WHERE WHAT IT READS IS OF BULK AT MOST 1048576: true; the input reads as it did. -/
def symbolsLooksUptoRow : OpenClaim := { program := "ytblefgkhikfmhaa", sum := "d58ca1a58d45242e010a578a932c351e51a9f6ac9781290514296d00e2e27125", func := "hostel/hostellaw18.SymbolsLooks", spec := "symbolsLooks", unfollowed := true, recurses := true, apart := false, narrowed := true }
def SymbolsLooksUptoSaid : Prop := symbolsLooksUptoRow.holds Try.pinned (OpenSpec.upto symbolsLooksSpec)

/-- 'hostellaw18.SymbolsOf', WHERE WHAT IT READS IS OF BULK AT MOST 1048576: true; the input reads as it did. -/
def symbolsOfUptoRow : OpenClaim := { program := "ytblefgkhikfmhaa", sum := "d58ca1a58d45242e010a578a932c351e51a9f6ac9781290514296d00e2e27125", func := "hostel/hostellaw18.SymbolsOf", spec := "symbolsOf", unfollowed := true, recurses := true, apart := false, narrowed := true }
def SymbolsOfUptoSaid : Prop := symbolsOfUptoRow.holds Try.pinned (OpenSpec.upto symbolsOfSpec)

/-- 'hostellaw18.SymbolsAll', WHERE WHAT IT READS IS OF BULK AT MOST 1048576: true; the input reads as it did. -/
def symbolsAllUptoRow : OpenClaim := { program := "ytblefgkhikfmhaa", sum := "d58ca1a58d45242e010a578a932c351e51a9f6ac9781290514296d00e2e27125", func := "hostel/hostellaw18.SymbolsAll", spec := "symbolsAll", unfollowed := true, recurses := true, apart := false, narrowed := true }
def SymbolsAllUptoSaid : Prop := symbolsAllUptoRow.holds Try.pinned (OpenSpec.upto symbolsAllSpec)

/-- 'hostellaw18.SymbolsOrder', WHERE WHAT IT READS IS OF BULK AT MOST 1048576: true; the input reads as it did. -/
def symbolsOrderUptoRow : OpenClaim := { program := "ytblefgkhikfmhaa", sum := "d58ca1a58d45242e010a578a932c351e51a9f6ac9781290514296d00e2e27125", func := "hostel/hostellaw18.SymbolsOrder", spec := "symbolsOrder", unfollowed := true, recurses := true, apart := false, narrowed := true }
def SymbolsOrderUptoSaid : Prop := symbolsOrderUptoRow.holds Try.pinned (OpenSpec.upto symbolsOrderSpec)

/-- 'hostellaw18.SymbolsOne', WHERE WHAT IT READS IS OF BULK AT MOST 1048576: true; the input reads as it did. -/
def symbolsOneUptoRow : OpenClaim := { program := "ytblefgkhikfmhaa", sum := "d58ca1a58d45242e010a578a932c351e51a9f6ac9781290514296d00e2e27125", func := "hostel/hostellaw18.SymbolsOne", spec := "symbolsOne", unfollowed := true, recurses := true, apart := false, narrowed := true }
def SymbolsOneUptoSaid : Prop := symbolsOneUptoRow.holds Try.pinned (OpenSpec.upto symbolsOneSpec)

end Rows
end Go.Proofs.Ytblefgkhikfmhaa
