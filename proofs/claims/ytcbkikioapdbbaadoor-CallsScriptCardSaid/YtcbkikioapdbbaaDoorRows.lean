/-
  NARROWER THAN 'FOR EVERY INPUT', by the rows' own cells (each row's printed sentence says how): CallsChecks: laid · CallsForms: laid · CallsReads: laid · CallsSteps: laid · CallsBack: laid · CallsOne: laid · CallsScript: laid.
  DERIVED. THE GIVEN ROWS OF THIS SEAT. 7 by the template 'for every input the law returns true; each argument reads behind the call as it read before'; 0 by the template 'total and deterministic' (their statements: YtcbkikioapdbbaaDoorTotals.lean).
  GIVEN WITH THE SEED: the statements are not yours to turn. If you find one false, say at which input.
  Laid BY PROGRAM, IN A SANDBOX (cutbox-rows.mjs): the forced cells as the released guide's own fill.sh prints them over the translation 9ef236615c3f1489… (all of the seat's roots in one cut). By AI agents, Wed Nov 11 2026. No macro, syntax, notation, axiom, sorry.
-/
import Derived.Test.YtcbkikioapdbbaaDoorChecked
import GoSem.Claim
import GoSem.ClaimJoined
import GoSem.ClaimMapViews
import Derived.JoinedTies
import Derived.KernelRfl
namespace Go.Proofs.YtcbkikioapdbbaaDoor
/- THE CELL 'sum', in the pinned program and in every row, IS THE sha256 OF THE DUMP (.gsa) THAT YtcbkikioapdbbaaDoorProg.lean LOADS. Nothing in Lean hashes anything: it is a label: what it is worth is what the hold of that sum in a sandbox is worth. -/
noncomputable def Tryd.pinned : Pinned := { name := "ytcbkikioapdbbaadoor", sum := "9ef236615c3f14898c5be3947e63aa4d1f1164be01fcbd5c2c41d381c8675ed3", checked := Tryd.checked }
namespace Rows
def none {H : Type} : Left H := { results := [], args := [] }

/- WHAT THE LISTED PACKAGE-LEVEL VARIABLES READ AS WHEN THE CALL BEGINS. Each datum BY PROGRAM (the guide's laid-datum.mjs) off the statement by which the dump's own 'gosem.cut.vars' lays the variable. In a bare row this is a premise. The card (YtcbkikioapdbbaaDoorCards.lean) ties it to the program's text. -/
def laid_hostel_words_sizes {H : Type} : DataW H := .agg [.lit (.int .i64 1), .lit (.int .i64 2), .lit (.int .i64 4), .lit (.int .i64 8)]

/-- 'hostellaw25.CallsChecks': WHATEVER THE INPUT: true; the input reads as it did. -/
def callsChecksSpec : ChangeSpec := { name := "callsChecks", fn := fun _ => fun
  | [d] => { results := [.lit (.bool true)], args := [d] }
  | _ => none }
def callsChecksRow : OpenClaim := { program := "ytcbkikioapdbbaadoor", sum := "9ef236615c3f14898c5be3947e63aa4d1f1164be01fcbd5c2c41d381c8675ed3", func := "hostel/hostellaw25.CallsChecks", spec := "callsChecks", inPlace := ["internal/bytealg.IndexByteString"], unfollowed := true, recurses := true, named := ["hostel/words.sizes"], apart := false, laid := [("hostel/words.sizes", laid_hostel_words_sizes)] }
def CallsChecksSaid : Prop := callsChecksRow.holds Tryd.pinned (OpenSpec.ofChange callsChecksSpec)

/-- ITS FALSE NEIGHBOUR: 'it returns false'. Refute it at one input. -/
def callsChecksWrong : ChangeSpec := { name := "callsChecks", fn := fun _ => fun
  | [d] => { results := [.lit (.bool false)], args := [d] }
  | _ => none }
def CallsChecksWrongFalsely : Prop := callsChecksRow.holds Tryd.pinned (OpenSpec.ofChange callsChecksWrong)

/-- 'hostellaw25.CallsForms': WHATEVER THE INPUT: true; the input reads as it did. -/
def callsFormsSpec : ChangeSpec := { name := "callsForms", fn := fun _ => fun
  | [d] => { results := [.lit (.bool true)], args := [d] }
  | _ => none }
def callsFormsRow : OpenClaim := { program := "ytcbkikioapdbbaadoor", sum := "9ef236615c3f14898c5be3947e63aa4d1f1164be01fcbd5c2c41d381c8675ed3", func := "hostel/hostellaw25.CallsForms", spec := "callsForms", inPlace := ["internal/bytealg.IndexByteString"], unfollowed := true, recurses := true, named := ["hostel/words.sizes"], apart := false, laid := [("hostel/words.sizes", laid_hostel_words_sizes)] }
def CallsFormsSaid : Prop := callsFormsRow.holds Tryd.pinned (OpenSpec.ofChange callsFormsSpec)

/-- ITS FALSE NEIGHBOUR: 'it returns false'. Refute it at one input. -/
def callsFormsWrong : ChangeSpec := { name := "callsForms", fn := fun _ => fun
  | [d] => { results := [.lit (.bool false)], args := [d] }
  | _ => none }
def CallsFormsWrongFalsely : Prop := callsFormsRow.holds Tryd.pinned (OpenSpec.ofChange callsFormsWrong)

/-- 'hostellaw25.CallsReads': WHATEVER THE INPUT: true; the input reads as it did. -/
def callsReadsSpec : ChangeSpec := { name := "callsReads", fn := fun _ => fun
  | [d] => { results := [.lit (.bool true)], args := [d] }
  | _ => none }
def callsReadsRow : OpenClaim := { program := "ytcbkikioapdbbaadoor", sum := "9ef236615c3f14898c5be3947e63aa4d1f1164be01fcbd5c2c41d381c8675ed3", func := "hostel/hostellaw25.CallsReads", spec := "callsReads", inPlace := ["internal/bytealg.IndexByteString"], unfollowed := true, recurses := true, named := ["hostel/words.sizes"], apart := false, laid := [("hostel/words.sizes", laid_hostel_words_sizes)] }
def CallsReadsSaid : Prop := callsReadsRow.holds Tryd.pinned (OpenSpec.ofChange callsReadsSpec)

/-- ITS FALSE NEIGHBOUR: 'it returns false'. Refute it at one input. -/
def callsReadsWrong : ChangeSpec := { name := "callsReads", fn := fun _ => fun
  | [d] => { results := [.lit (.bool false)], args := [d] }
  | _ => none }
def CallsReadsWrongFalsely : Prop := callsReadsRow.holds Tryd.pinned (OpenSpec.ofChange callsReadsWrong)

/-- 'hostellaw25.CallsSteps': WHATEVER THE INPUT: true; the input reads as it did. -/
def callsStepsSpec : ChangeSpec := { name := "callsSteps", fn := fun _ => fun
  | [d] => { results := [.lit (.bool true)], args := [d] }
  | _ => none }
def callsStepsRow : OpenClaim := { program := "ytcbkikioapdbbaadoor", sum := "9ef236615c3f14898c5be3947e63aa4d1f1164be01fcbd5c2c41d381c8675ed3", func := "hostel/hostellaw25.CallsSteps", spec := "callsSteps", inPlace := ["internal/bytealg.IndexByteString"], unfollowed := true, recurses := true, named := ["hostel/words.sizes"], apart := false, laid := [("hostel/words.sizes", laid_hostel_words_sizes)] }
def CallsStepsSaid : Prop := callsStepsRow.holds Tryd.pinned (OpenSpec.ofChange callsStepsSpec)

/-- ITS FALSE NEIGHBOUR: 'it returns false'. Refute it at one input. -/
def callsStepsWrong : ChangeSpec := { name := "callsSteps", fn := fun _ => fun
  | [d] => { results := [.lit (.bool false)], args := [d] }
  | _ => none }
def CallsStepsWrongFalsely : Prop := callsStepsRow.holds Tryd.pinned (OpenSpec.ofChange callsStepsWrong)

/-- 'hostellaw25.CallsBack': WHATEVER THE INPUT: true; the input reads as it did. -/
def callsBackSpec : ChangeSpec := { name := "callsBack", fn := fun _ => fun
  | [d1, d2, d3] => { results := [.lit (.bool true)], args := [d1, d2, d3] }
  | _ => none }
def callsBackRow : OpenClaim := { program := "ytcbkikioapdbbaadoor", sum := "9ef236615c3f14898c5be3947e63aa4d1f1164be01fcbd5c2c41d381c8675ed3", func := "hostel/hostellaw25.CallsBack", spec := "callsBack", inPlace := ["internal/bytealg.IndexByteString"], unfollowed := true, recurses := true, named := ["hostel/words.sizes"], apart := false, laid := [("hostel/words.sizes", laid_hostel_words_sizes)] }
def CallsBackSaid : Prop := callsBackRow.holds Tryd.pinned (OpenSpec.ofChange callsBackSpec)

/-- ITS FALSE NEIGHBOUR: 'it returns false'. Refute it at one input. -/
def callsBackWrong : ChangeSpec := { name := "callsBack", fn := fun _ => fun
  | [d1, d2, d3] => { results := [.lit (.bool false)], args := [d1, d2, d3] }
  | _ => none }
def CallsBackWrongFalsely : Prop := callsBackRow.holds Tryd.pinned (OpenSpec.ofChange callsBackWrong)

/-- 'hostellaw25.CallsOne': WHATEVER THE INPUT: true; the input reads as it did. -/
def callsOneSpec : ChangeSpec := { name := "callsOne", fn := fun _ => fun
  | [d] => { results := [.lit (.bool true)], args := [d] }
  | _ => none }
def callsOneRow : OpenClaim := { program := "ytcbkikioapdbbaadoor", sum := "9ef236615c3f14898c5be3947e63aa4d1f1164be01fcbd5c2c41d381c8675ed3", func := "hostel/hostellaw25.CallsOne", spec := "callsOne", inPlace := ["internal/bytealg.IndexByteString"], unfollowed := true, recurses := true, named := ["hostel/words.sizes"], apart := false, laid := [("hostel/words.sizes", laid_hostel_words_sizes)] }
def CallsOneSaid : Prop := callsOneRow.holds Tryd.pinned (OpenSpec.ofChange callsOneSpec)

/-- ITS FALSE NEIGHBOUR: 'it returns false'. Refute it at one input. -/
def callsOneWrong : ChangeSpec := { name := "callsOne", fn := fun _ => fun
  | [d] => { results := [.lit (.bool false)], args := [d] }
  | _ => none }
def CallsOneWrongFalsely : Prop := callsOneRow.holds Tryd.pinned (OpenSpec.ofChange callsOneWrong)

/-- 'hostellaw25.CallsScript': WHATEVER THE INPUT: true; the input reads as it did. -/
def callsScriptSpec : ChangeSpec := { name := "callsScript", fn := fun _ => fun
  | [d1, d2] => { results := [.lit (.bool true)], args := [d1, d2] }
  | _ => none }
def callsScriptRow : OpenClaim := { program := "ytcbkikioapdbbaadoor", sum := "9ef236615c3f14898c5be3947e63aa4d1f1164be01fcbd5c2c41d381c8675ed3", func := "hostel/hostellaw25.CallsScript", spec := "callsScript", inPlace := ["internal/bytealg.IndexByteString"], unfollowed := true, recurses := true, named := ["hostel/words.sizes"], apart := false, laid := [("hostel/words.sizes", laid_hostel_words_sizes)] }
def CallsScriptSaid : Prop := callsScriptRow.holds Tryd.pinned (OpenSpec.ofChange callsScriptSpec)

/-- ITS FALSE NEIGHBOUR: 'it returns false'. Refute it at one input. -/
def callsScriptWrong : ChangeSpec := { name := "callsScript", fn := fun _ => fun
  | [d1, d2] => { results := [.lit (.bool false)], args := [d1, d2] }
  | _ => none }
def CallsScriptWrongFalsely : Prop := callsScriptRow.holds Tryd.pinned (OpenSpec.ofChange callsScriptWrong)

/- THE SECOND FORM. 'bulk': how many values and letters a reading holds, each counted each time it is reached (what is shared counts as often as it is met; a slice's spare places count too). A statement '..UptoSaid' is the law's where the arguments, and the package variables that the reading takes, are together of bulk at most 1048576: NARROWER than '..Said'. Prove '..Said' where nothing that the law and all that it calls make is longer than what came in: it says more and counts as full. Else prove '..UptoSaid'. A law counts once. -/
mutual
def uptoBulk {H : Type} : DataW H → Nat
  | .lit (.string bytes) => bytes.length + 1
  | .lit _ => 1
  | .nil => 1
  | .ptr d => uptoBulk d + 1
  | .slice elems spare => uptoBulkAll elems + uptoBulkAll spare + 1
  | .agg parts => uptoBulkAll parts + 1
  | .iface _ d => uptoBulk d + 1
  | .map entries => uptoBulkEntries entries + 1
  | .held _ => 1
def uptoBulkAll {H : Type} : List (DataW H) → Nat
  | [] => 0
  | d :: r => uptoBulk d + uptoBulkAll r
def uptoBulkEntries {H : Type} : List (Lit × DataW H) → Nat
  | [] => 0
  | x :: r => uptoBulkEntry x + uptoBulkEntries r
def uptoBulkEntry {H : Type} : Lit × DataW H → Nat
  | (.string bytes, d) => bytes.length + uptoBulk d + 1
  | (_, d) => uptoBulk d + 1
 end
def uptoSmall : (H : Type) → List (DataW H) → Bool := fun _ ds => decide (uptoBulkAll ds ≤ 1048576)
def OpenSpec.upto (s : _root_.Go.ChangeSpec) : _root_.Go.OpenSpec := { _root_.Go.OpenSpec.ofChange s with cond := some uptoSmall }

/-- 'hostellaw25.CallsChecks', WHERE WHAT IT READS IS OF BULK AT MOST 1048576: true; the input reads as it did. -/
def callsChecksUptoRow : OpenClaim := { program := "ytcbkikioapdbbaadoor", sum := "9ef236615c3f14898c5be3947e63aa4d1f1164be01fcbd5c2c41d381c8675ed3", func := "hostel/hostellaw25.CallsChecks", spec := "callsChecks", inPlace := ["internal/bytealg.IndexByteString"], unfollowed := true, recurses := true, named := ["hostel/words.sizes"], apart := false, laid := [("hostel/words.sizes", laid_hostel_words_sizes)], narrowed := true }
def CallsChecksUptoSaid : Prop := callsChecksUptoRow.holds Tryd.pinned (OpenSpec.upto callsChecksSpec)

/-- 'hostellaw25.CallsForms', WHERE WHAT IT READS IS OF BULK AT MOST 1048576: true; the input reads as it did. -/
def callsFormsUptoRow : OpenClaim := { program := "ytcbkikioapdbbaadoor", sum := "9ef236615c3f14898c5be3947e63aa4d1f1164be01fcbd5c2c41d381c8675ed3", func := "hostel/hostellaw25.CallsForms", spec := "callsForms", inPlace := ["internal/bytealg.IndexByteString"], unfollowed := true, recurses := true, named := ["hostel/words.sizes"], apart := false, laid := [("hostel/words.sizes", laid_hostel_words_sizes)], narrowed := true }
def CallsFormsUptoSaid : Prop := callsFormsUptoRow.holds Tryd.pinned (OpenSpec.upto callsFormsSpec)

/-- 'hostellaw25.CallsReads', WHERE WHAT IT READS IS OF BULK AT MOST 1048576: true; the input reads as it did. -/
def callsReadsUptoRow : OpenClaim := { program := "ytcbkikioapdbbaadoor", sum := "9ef236615c3f14898c5be3947e63aa4d1f1164be01fcbd5c2c41d381c8675ed3", func := "hostel/hostellaw25.CallsReads", spec := "callsReads", inPlace := ["internal/bytealg.IndexByteString"], unfollowed := true, recurses := true, named := ["hostel/words.sizes"], apart := false, laid := [("hostel/words.sizes", laid_hostel_words_sizes)], narrowed := true }
def CallsReadsUptoSaid : Prop := callsReadsUptoRow.holds Tryd.pinned (OpenSpec.upto callsReadsSpec)

/-- 'hostellaw25.CallsSteps', WHERE WHAT IT READS IS OF BULK AT MOST 1048576: true; the input reads as it did. -/
def callsStepsUptoRow : OpenClaim := { program := "ytcbkikioapdbbaadoor", sum := "9ef236615c3f14898c5be3947e63aa4d1f1164be01fcbd5c2c41d381c8675ed3", func := "hostel/hostellaw25.CallsSteps", spec := "callsSteps", inPlace := ["internal/bytealg.IndexByteString"], unfollowed := true, recurses := true, named := ["hostel/words.sizes"], apart := false, laid := [("hostel/words.sizes", laid_hostel_words_sizes)], narrowed := true }
def CallsStepsUptoSaid : Prop := callsStepsUptoRow.holds Tryd.pinned (OpenSpec.upto callsStepsSpec)

/-- 'hostellaw25.CallsBack', WHERE WHAT IT READS IS OF BULK AT MOST 1048576: true; the input reads as it did. -/
def callsBackUptoRow : OpenClaim := { program := "ytcbkikioapdbbaadoor", sum := "9ef236615c3f14898c5be3947e63aa4d1f1164be01fcbd5c2c41d381c8675ed3", func := "hostel/hostellaw25.CallsBack", spec := "callsBack", inPlace := ["internal/bytealg.IndexByteString"], unfollowed := true, recurses := true, named := ["hostel/words.sizes"], apart := false, laid := [("hostel/words.sizes", laid_hostel_words_sizes)], narrowed := true }
def CallsBackUptoSaid : Prop := callsBackUptoRow.holds Tryd.pinned (OpenSpec.upto callsBackSpec)

/-- 'hostellaw25.CallsOne', WHERE WHAT IT READS IS OF BULK AT MOST 1048576: true; the input reads as it did. -/
def callsOneUptoRow : OpenClaim := { program := "ytcbkikioapdbbaadoor", sum := "9ef236615c3f14898c5be3947e63aa4d1f1164be01fcbd5c2c41d381c8675ed3", func := "hostel/hostellaw25.CallsOne", spec := "callsOne", inPlace := ["internal/bytealg.IndexByteString"], unfollowed := true, recurses := true, named := ["hostel/words.sizes"], apart := false, laid := [("hostel/words.sizes", laid_hostel_words_sizes)], narrowed := true }
def CallsOneUptoSaid : Prop := callsOneUptoRow.holds Tryd.pinned (OpenSpec.upto callsOneSpec)

/-- 'hostellaw25.CallsScript', WHERE WHAT IT READS IS OF BULK AT MOST 1048576: true; the input reads as it did. -/
def callsScriptUptoRow : OpenClaim := { program := "ytcbkikioapdbbaadoor", sum := "9ef236615c3f14898c5be3947e63aa4d1f1164be01fcbd5c2c41d381c8675ed3", func := "hostel/hostellaw25.CallsScript", spec := "callsScript", inPlace := ["internal/bytealg.IndexByteString"], unfollowed := true, recurses := true, named := ["hostel/words.sizes"], apart := false, laid := [("hostel/words.sizes", laid_hostel_words_sizes)], narrowed := true }
def CallsScriptUptoSaid : Prop := callsScriptUptoRow.holds Tryd.pinned (OpenSpec.upto callsScriptSpec)

end Rows
end Go.Proofs.YtcbkikioapdbbaaDoor
