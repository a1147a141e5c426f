/-
  NARROWER THAN 'FOR EVERY INPUT', by the rows' own cells (each row's printed sentence says how): StackLays: laid · StackBack: laid · StackTells: laid.
  DERIVED. THE GIVEN ROWS OF THIS SEAT. 3 by the template 'for every input the law returns true; each argument reads behind the call as it read before'; 0 by the template 'total and deterministic' (their statements: YtihaakcfegelkaaDoorTotals.lean).
  GIVEN WITH THE SEED: the statements are not yours to turn. If you find one false, say at which input.
  Laid BY PROGRAM, IN A SANDBOX (cutbox-rows.mjs): the forced cells as the released guide's own fill.sh prints them over the translation 1df453d381cd3ce2… (all of the seat's roots in one cut). By AI agents, Wed Nov 11 2026. No macro, syntax, notation, axiom, sorry.
-/
import Derived.Test.YtihaakcfegelkaaDoorChecked
import GoSem.Claim
import GoSem.ClaimJoined
import GoSem.ClaimMapViews
import Derived.JoinedTies
import Derived.KernelRfl
namespace Go.Proofs.YtihaakcfegelkaaDoor
/- THE CELL 'sum', in the pinned program and in every row, IS THE sha256 OF THE DUMP (.gsa) THAT YtihaakcfegelkaaDoorProg.lean LOADS. Nothing in Lean hashes anything: it is a label: what it is worth is what the hold of that sum in a sandbox is worth. -/
noncomputable def Tryd.pinned : Pinned := { name := "ytihaakcfegelkaadoor", sum := "1df453d381cd3ce20192587036420774dbccda775ab09c3edc0736043cb5b00c", checked := Tryd.checked }
namespace Rows
def none {H : Type} : Left H := { results := [], args := [] }

/- WHAT THE LISTED PACKAGE-LEVEL VARIABLES READ AS WHEN THE CALL BEGINS. Each datum BY PROGRAM (the guide's laid-datum.mjs) off the statement by which the dump's own 'gosem.cut.vars' lays the variable. In a bare row this is a premise. The card (YtihaakcfegelkaaDoorCards.lean) ties it to the program's text. -/
def laid_hostel_words_sizes {H : Type} : DataW H := .agg [.lit (.int .i64 1), .lit (.int .i64 2), .lit (.int .i64 4), .lit (.int .i64 8)]

/-- 'hostellaw20.StackLays': WHATEVER THE INPUT: true; the input reads as it did. -/
def stackLaysSpec : ChangeSpec := { name := "stackLays", fn := fun _ => fun
  | [d] => { results := [.lit (.bool true)], args := [d] }
  | _ => none }
def stackLaysRow : OpenClaim := { program := "ytihaakcfegelkaadoor", sum := "1df453d381cd3ce20192587036420774dbccda775ab09c3edc0736043cb5b00c", func := "hostel/hostellaw20.StackLays", spec := "stackLays", inPlace := ["internal/bytealg.IndexByteString", "internal/bytealg.IndexByte"], unfollowed := true, recurses := true, named := ["hostel/words.sizes"], apart := false, laid := [("hostel/words.sizes", laid_hostel_words_sizes)] }
def StackLaysSaid : Prop := stackLaysRow.holds Tryd.pinned (OpenSpec.ofChange stackLaysSpec)

/-- ITS FALSE NEIGHBOUR: 'it returns false'. Refute it at one input. -/
def stackLaysWrong : ChangeSpec := { name := "stackLays", fn := fun _ => fun
  | [d] => { results := [.lit (.bool false)], args := [d] }
  | _ => none }
def StackLaysWrongFalsely : Prop := stackLaysRow.holds Tryd.pinned (OpenSpec.ofChange stackLaysWrong)

/-- 'hostellaw20.StackBack': WHATEVER THE INPUT: true; the input reads as it did. -/
def stackBackSpec : ChangeSpec := { name := "stackBack", fn := fun _ => fun
  | [d] => { results := [.lit (.bool true)], args := [d] }
  | _ => none }
def stackBackRow : OpenClaim := { program := "ytihaakcfegelkaadoor", sum := "1df453d381cd3ce20192587036420774dbccda775ab09c3edc0736043cb5b00c", func := "hostel/hostellaw20.StackBack", spec := "stackBack", inPlace := ["internal/bytealg.IndexByteString", "internal/bytealg.IndexByte"], unfollowed := true, recurses := true, named := ["hostel/words.sizes"], apart := false, laid := [("hostel/words.sizes", laid_hostel_words_sizes)] }
def StackBackSaid : Prop := stackBackRow.holds Tryd.pinned (OpenSpec.ofChange stackBackSpec)

/-- ITS FALSE NEIGHBOUR: 'it returns false'. Refute it at one input. -/
def stackBackWrong : ChangeSpec := { name := "stackBack", fn := fun _ => fun
  | [d] => { results := [.lit (.bool false)], args := [d] }
  | _ => none }
def StackBackWrongFalsely : Prop := stackBackRow.holds Tryd.pinned (OpenSpec.ofChange stackBackWrong)

/-- 'hostellaw20.StackTells': WHATEVER THE INPUT: true; the input reads as it did. -/
def stackTellsSpec : ChangeSpec := { name := "stackTells", fn := fun _ => fun
  | [d1, d2] => { results := [.lit (.bool true)], args := [d1, d2] }
  | _ => none }
def stackTellsRow : OpenClaim := { program := "ytihaakcfegelkaadoor", sum := "1df453d381cd3ce20192587036420774dbccda775ab09c3edc0736043cb5b00c", func := "hostel/hostellaw20.StackTells", spec := "stackTells", inPlace := ["internal/bytealg.IndexByteString", "internal/bytealg.IndexByte"], unfollowed := true, recurses := true, named := ["hostel/words.sizes"], apart := false, laid := [("hostel/words.sizes", laid_hostel_words_sizes)] }
def StackTellsSaid : Prop := stackTellsRow.holds Tryd.pinned (OpenSpec.ofChange stackTellsSpec)

/-- ITS FALSE NEIGHBOUR: 'it returns false'. Refute it at one input. -/
def stackTellsWrong : ChangeSpec := { name := "stackTells", fn := fun _ => fun
  | [d1, d2] => { results := [.lit (.bool false)], args := [d1, d2] }
  | _ => none }
def StackTellsWrongFalsely : Prop := stackTellsRow.holds Tryd.pinned (OpenSpec.ofChange stackTellsWrong)

/- THE SECOND FORM. 'bulk': how many values and letters a reading holds, each counted each time it is reached (what is shared counts as often as it is met; a slice's spare places count too). A statement '..UptoSaid' is the law's where the arguments, and the package variables that the reading takes, are together of bulk at most 1048576: NARROWER than '..Said'. Prove '..Said' where nothing that the law and all that it calls make is longer than what came in: it says more and counts as full. Else prove '..UptoSaid'. A law counts once. -/
mutual
def uptoBulk {H : Type} : DataW H → Nat
  | .lit (.string bytes) => bytes.length + 1
  | .lit _ => 1
  | .nil => 1
  | .ptr d => uptoBulk d + 1
  | .slice elems spare => uptoBulkAll elems + uptoBulkAll spare + 1
  | .agg parts => uptoBulkAll parts + 1
  | .iface _ d => uptoBulk d + 1
  | .map entries => uptoBulkEntries entries + 1
  | .held _ => 1
def uptoBulkAll {H : Type} : List (DataW H) → Nat
  | [] => 0
  | d :: r => uptoBulk d + uptoBulkAll r
def uptoBulkEntries {H : Type} : List (Lit × DataW H) → Nat
  | [] => 0
  | x :: r => uptoBulkEntry x + uptoBulkEntries r
def uptoBulkEntry {H : Type} : Lit × DataW H → Nat
  | (.string bytes, d) => bytes.length + uptoBulk d + 1
  | (_, d) => uptoBulk d + 1
 end
def uptoSmall : (H : Type) → List (DataW H) → Bool := fun _ ds => decide (uptoBulkAll ds ≤ 1048576)
def OpenSpec.upto (s : _root_.Go.ChangeSpec) : _root_.Go.OpenSpec := { _root_.Go.OpenSpec.ofChange s with cond := some uptoSmall }

/-- 'hostellaw20.StackLays', WHERE WHAT IT READS IS OF BULK AT MOST 1048576: true; the input reads as it did. -/
def stackLaysUptoRow : OpenClaim := { program := "ytihaakcfegelkaadoor", sum := "1df453d381cd3ce20192587036420774dbccda775ab09c3edc0736043cb5b00c", func := "hostel/hostellaw20.StackLays", spec := "stackLays", inPlace := ["internal/bytealg.IndexByteString", "internal/bytealg.IndexByte"], unfollowed := true, recurses := true, named := ["hostel/words.sizes"], apart := false, laid := [("hostel/words.sizes", laid_hostel_words_sizes)], narrowed := true }
def StackLaysUptoSaid : Prop := stackLaysUptoRow.holds Tryd.pinned (OpenSpec.upto stackLaysSpec)

/-- 'hostellaw20.StackBack', WHERE WHAT IT READS IS OF BULK AT MOST 1048576: true; the input reads as it did. -/
def stackBackUptoRow : OpenClaim := { program := "ytihaakcfegelkaadoor", sum := "1df453d381cd3ce20192587036420774dbccda775ab09c3edc0736043cb5b00c", func := "hostel/hostellaw20.StackBack", spec := "stackBack", inPlace := ["internal/bytealg.IndexByteString", "internal/bytealg.IndexByte"], unfollowed := true, recurses := true, named := ["hostel/words.sizes"], apart := false, laid := [("hostel/words.sizes", laid_hostel_words_sizes)], narrowed := true }
def StackBackUptoSaid : Prop := stackBackUptoRow.holds Tryd.pinned (OpenSpec.upto stackBackSpec)

/-- 'hostellaw20.StackTells', WHERE WHAT IT READS IS OF BULK AT MOST 1048576: true; the input reads as it did. -/
def stackTellsUptoRow : OpenClaim := { program := "ytihaakcfegelkaadoor", sum := "1df453d381cd3ce20192587036420774dbccda775ab09c3edc0736043cb5b00c", func := "hostel/hostellaw20.StackTells", spec := "stackTells", inPlace := ["internal/bytealg.IndexByteString", "internal/bytealg.IndexByte"], unfollowed := true, recurses := true, named := ["hostel/words.sizes"], apart := false, laid := [("hostel/words.sizes", laid_hostel_words_sizes)], narrowed := true }
def StackTellsUptoSaid : Prop := stackTellsUptoRow.holds Tryd.pinned (OpenSpec.upto stackTellsSpec)

end Rows
end Go.Proofs.YtihaakcfegelkaaDoor
