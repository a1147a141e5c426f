/-
  NARROWER THAN 'FOR EVERY INPUT', by the rows' own cells (each row's printed sentence says how): ElfTells: laid · ElfHolds: laid · ElfFree: laid · ElfCut: laid.
  DERIVED. THE GIVEN ROWS OF THIS SEAT. 4 by the template 'for every input the law returns true; each argument reads behind the call as it read before'; 0 by the template 'total and deterministic' (their statements: YtaaohcpiideaaaaDoorTotals.lean).
  GIVEN WITH THE SEED: the statements are not yours to turn. If you find one false, say at which input.
  Laid BY PROGRAM, IN A SANDBOX (cutbox-rows.mjs): the forced cells as the released guide's own fill.sh prints them over the translation 3f6f4f68ff1d5a11… (all of the seat's roots in one cut). By AI agents, Wed Nov 11 2026. No macro, syntax, notation, axiom, sorry.
-/
import Derived.Test.YtaaohcpiideaaaaDoorChecked
import GoSem.Claim
import GoSem.ClaimJoined
import GoSem.ClaimMapViews
import Derived.JoinedTies
import Derived.KernelRfl
namespace Go.Proofs.YtaaohcpiideaaaaDoor
/- THE CELL 'sum', in the pinned program and in every row, IS THE sha256 OF THE DUMP (.gsa) THAT YtaaohcpiideaaaaDoorProg.lean LOADS. Nothing in Lean hashes anything: it is a label: what it is worth is what the hold of that sum in a sandbox is worth. -/
noncomputable def Tryd.pinned : Pinned := { name := "ytaaohcpiideaaaadoor", sum := "3f6f4f68ff1d5a113252c1eedb16a72d89c9793cef6ec2254c1bb2dd8d4337ed", checked := Tryd.checked }
namespace Rows
def none {H : Type} : Left H := { results := [], args := [] }

/- WHAT THE LISTED PACKAGE-LEVEL VARIABLES READ AS WHEN THE CALL BEGINS. Each datum BY PROGRAM (the guide's laid-datum.mjs) off the statement by which the dump's own 'gosem.cut.vars' lays the variable. In a bare row this is a premise. The card (YtaaohcpiideaaaaDoorCards.lean) ties it to the program's text. -/
def laid_hostel_words_sizes {H : Type} : DataW H := .agg [.lit (.int .i64 1), .lit (.int .i64 2), .lit (.int .i64 4), .lit (.int .i64 8)]

/-- 'hostellaw12.ElfTells': WHATEVER THE INPUT: true; the input reads as it did. -/
def elfTellsSpec : ChangeSpec := { name := "elfTells", fn := fun _ => fun
  | [d1, d2] => { results := [.lit (.bool true)], args := [d1, d2] }
  | _ => none }
def elfTellsRow : OpenClaim := { program := "ytaaohcpiideaaaadoor", sum := "3f6f4f68ff1d5a113252c1eedb16a72d89c9793cef6ec2254c1bb2dd8d4337ed", func := "hostel/hostellaw12.ElfTells", spec := "elfTells", inPlace := ["internal/bytealg.IndexByteString"], unfollowed := true, recurses := true, named := ["hostel/words.sizes"], apart := false, laid := [("hostel/words.sizes", laid_hostel_words_sizes)] }
def ElfTellsSaid : Prop := elfTellsRow.holds Tryd.pinned (OpenSpec.ofChange elfTellsSpec)

/-- ITS FALSE NEIGHBOUR: 'it returns false'. Refute it at one input. -/
def elfTellsWrong : ChangeSpec := { name := "elfTells", fn := fun _ => fun
  | [d1, d2] => { results := [.lit (.bool false)], args := [d1, d2] }
  | _ => none }
def ElfTellsWrongFalsely : Prop := elfTellsRow.holds Tryd.pinned (OpenSpec.ofChange elfTellsWrong)

/-- 'hostellaw12.ElfHolds': WHATEVER THE INPUT: true; the input reads as it did. -/
def elfHoldsSpec : ChangeSpec := { name := "elfHolds", fn := fun _ => fun
  | [d] => { results := [.lit (.bool true)], args := [d] }
  | _ => none }
def elfHoldsRow : OpenClaim := { program := "ytaaohcpiideaaaadoor", sum := "3f6f4f68ff1d5a113252c1eedb16a72d89c9793cef6ec2254c1bb2dd8d4337ed", func := "hostel/hostellaw12.ElfHolds", spec := "elfHolds", unfollowed := true, recurses := true, named := ["hostel/words.sizes"], apart := false, laid := [("hostel/words.sizes", laid_hostel_words_sizes)] }
def ElfHoldsSaid : Prop := elfHoldsRow.holds Tryd.pinned (OpenSpec.ofChange elfHoldsSpec)

/-- ITS FALSE NEIGHBOUR: 'it returns false'. Refute it at one input. -/
def elfHoldsWrong : ChangeSpec := { name := "elfHolds", fn := fun _ => fun
  | [d] => { results := [.lit (.bool false)], args := [d] }
  | _ => none }
def ElfHoldsWrongFalsely : Prop := elfHoldsRow.holds Tryd.pinned (OpenSpec.ofChange elfHoldsWrong)

/-- 'hostellaw12.ElfFree': WHATEVER THE INPUT: true; the input reads as it did. -/
def elfFreeSpec : ChangeSpec := { name := "elfFree", fn := fun _ => fun
  | [d1, d2, d3] => { results := [.lit (.bool true)], args := [d1, d2, d3] }
  | _ => none }
def elfFreeRow : OpenClaim := { program := "ytaaohcpiideaaaadoor", sum := "3f6f4f68ff1d5a113252c1eedb16a72d89c9793cef6ec2254c1bb2dd8d4337ed", func := "hostel/hostellaw12.ElfFree", spec := "elfFree", unfollowed := true, recurses := true, named := ["hostel/words.sizes"], apart := false, laid := [("hostel/words.sizes", laid_hostel_words_sizes)] }
def ElfFreeSaid : Prop := elfFreeRow.holds Tryd.pinned (OpenSpec.ofChange elfFreeSpec)

/-- ITS FALSE NEIGHBOUR: 'it returns false'. Refute it at one input. -/
def elfFreeWrong : ChangeSpec := { name := "elfFree", fn := fun _ => fun
  | [d1, d2, d3] => { results := [.lit (.bool false)], args := [d1, d2, d3] }
  | _ => none }
def ElfFreeWrongFalsely : Prop := elfFreeRow.holds Tryd.pinned (OpenSpec.ofChange elfFreeWrong)

/-- 'hostellaw12.ElfCut': WHATEVER THE INPUT: true; the input reads as it did. -/
def elfCutSpec : ChangeSpec := { name := "elfCut", fn := fun _ => fun
  | [d1, d2] => { results := [.lit (.bool true)], args := [d1, d2] }
  | _ => none }
def elfCutRow : OpenClaim := { program := "ytaaohcpiideaaaadoor", sum := "3f6f4f68ff1d5a113252c1eedb16a72d89c9793cef6ec2254c1bb2dd8d4337ed", func := "hostel/hostellaw12.ElfCut", spec := "elfCut", unfollowed := true, recurses := true, named := ["hostel/words.sizes"], apart := false, laid := [("hostel/words.sizes", laid_hostel_words_sizes)] }
def ElfCutSaid : Prop := elfCutRow.holds Tryd.pinned (OpenSpec.ofChange elfCutSpec)

/-- ITS FALSE NEIGHBOUR: 'it returns false'. Refute it at one input. -/
def elfCutWrong : ChangeSpec := { name := "elfCut", fn := fun _ => fun
  | [d1, d2] => { results := [.lit (.bool false)], args := [d1, d2] }
  | _ => none }
def ElfCutWrongFalsely : Prop := elfCutRow.holds Tryd.pinned (OpenSpec.ofChange elfCutWrong)

/- THE SECOND FORM. 'bulk': how many values and letters a reading holds, each counted each time it is reached (what is shared counts as often as it is met; a slice's spare places count too). A statement '..UptoSaid' is the law's where the arguments, and the package variables that the reading takes, are together of bulk at most 1048576: NARROWER than '..Said'. Prove '..Said' where nothing that the law and all that it calls make is longer than what came in: it says more and counts as full. Else prove '..UptoSaid'. A law counts once. -/
mutual
def uptoBulk {H : Type} : DataW H → Nat
  | .lit (.string bytes) => bytes.length + 1
  | .lit _ => 1
  | .nil => 1
  | .ptr d => uptoBulk d + 1
  | .slice elems spare => uptoBulkAll elems + uptoBulkAll spare + 1
  | .agg parts => uptoBulkAll parts + 1
  | .iface _ d => uptoBulk d + 1
  | .map entries => uptoBulkEntries entries + 1
  | .held _ => 1
def uptoBulkAll {H : Type} : List (DataW H) → Nat
  | [] => 0
  | d :: r => uptoBulk d + uptoBulkAll r
def uptoBulkEntries {H : Type} : List (Lit × DataW H) → Nat
  | [] => 0
  | x :: r => uptoBulkEntry x + uptoBulkEntries r
def uptoBulkEntry {H : Type} : Lit × DataW H → Nat
  | (.string bytes, d) => bytes.length + uptoBulk d + 1
  | (_, d) => uptoBulk d + 1
 end
def uptoSmall : (H : Type) → List (DataW H) → Bool := fun _ ds => decide (uptoBulkAll ds ≤ 1048576)
def OpenSpec.upto (s : _root_.Go.ChangeSpec) : _root_.Go.OpenSpec := { _root_.Go.OpenSpec.ofChange s with cond := some uptoSmall }

/-- 'hostellaw12.ElfTells', WHERE WHAT IT READS IS OF BULK AT MOST 1048576: true; the input reads as it did. -/
def elfTellsUptoRow : OpenClaim := { program := "ytaaohcpiideaaaadoor", sum := "3f6f4f68ff1d5a113252c1eedb16a72d89c9793cef6ec2254c1bb2dd8d4337ed", func := "hostel/hostellaw12.ElfTells", spec := "elfTells", inPlace := ["internal/bytealg.IndexByteString"], unfollowed := true, recurses := true, named := ["hostel/words.sizes"], apart := false, laid := [("hostel/words.sizes", laid_hostel_words_sizes)], narrowed := true }
def ElfTellsUptoSaid : Prop := elfTellsUptoRow.holds Tryd.pinned (OpenSpec.upto elfTellsSpec)

/-- 'hostellaw12.ElfHolds', WHERE WHAT IT READS IS OF BULK AT MOST 1048576: true; the input reads as it did. -/
def elfHoldsUptoRow : OpenClaim := { program := "ytaaohcpiideaaaadoor", sum := "3f6f4f68ff1d5a113252c1eedb16a72d89c9793cef6ec2254c1bb2dd8d4337ed", func := "hostel/hostellaw12.ElfHolds", spec := "elfHolds", unfollowed := true, recurses := true, named := ["hostel/words.sizes"], apart := false, laid := [("hostel/words.sizes", laid_hostel_words_sizes)], narrowed := true }
def ElfHoldsUptoSaid : Prop := elfHoldsUptoRow.holds Tryd.pinned (OpenSpec.upto elfHoldsSpec)

/-- 'hostellaw12.ElfFree', WHERE WHAT IT READS IS OF BULK AT MOST 1048576: true; the input reads as it did. -/
def elfFreeUptoRow : OpenClaim := { program := "ytaaohcpiideaaaadoor", sum := "3f6f4f68ff1d5a113252c1eedb16a72d89c9793cef6ec2254c1bb2dd8d4337ed", func := "hostel/hostellaw12.ElfFree", spec := "elfFree", unfollowed := true, recurses := true, named := ["hostel/words.sizes"], apart := false, laid := [("hostel/words.sizes", laid_hostel_words_sizes)], narrowed := true }
def ElfFreeUptoSaid : Prop := elfFreeUptoRow.holds Tryd.pinned (OpenSpec.upto elfFreeSpec)

/-- 'hostellaw12.ElfCut', WHERE WHAT IT READS IS OF BULK AT MOST 1048576: true; the input reads as it did. -/
def elfCutUptoRow : OpenClaim := { program := "ytaaohcpiideaaaadoor", sum := "3f6f4f68ff1d5a113252c1eedb16a72d89c9793cef6ec2254c1bb2dd8d4337ed", func := "hostel/hostellaw12.ElfCut", spec := "elfCut", unfollowed := true, recurses := true, named := ["hostel/words.sizes"], apart := false, laid := [("hostel/words.sizes", laid_hostel_words_sizes)], narrowed := true }
def ElfCutUptoSaid : Prop := elfCutUptoRow.holds Tryd.pinned (OpenSpec.upto elfCutSpec)

end Rows
end Go.Proofs.YtaaohcpiideaaaaDoor
