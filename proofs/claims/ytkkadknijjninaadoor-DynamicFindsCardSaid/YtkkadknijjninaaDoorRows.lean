/-
  NARROWER THAN 'FOR EVERY INPUT', by the rows' own cells (each row's printed sentence says how): DynamicLooks: laid · DynamicFinds: laid · DynamicHolds: laid · DynamicNone: laid.
  DERIVED. THE GIVEN ROWS OF THIS SEAT. 4 by the template 'for every input the law returns true; each argument reads behind the call as it read before'; 0 by the template 'total and deterministic' (their statements: YtkkadknijjninaaDoorTotals.lean).
  GIVEN WITH THE SEED: the statements are not yours to turn. If you find one false, say at which input.
  Laid BY PROGRAM, IN A SANDBOX (cutbox-rows.mjs): the forced cells as the released guide's own fill.sh prints them over the translation ecc9398427eaf168… (all of the seat's roots in one cut). By AI agents, Wed Nov 11 2026. No macro, syntax, notation, axiom, sorry.
-/
import Derived.Test.YtkkadknijjninaaDoorChecked
import GoSem.Claim
import GoSem.ClaimJoined
import GoSem.ClaimMapViews
import Derived.JoinedTies
import Derived.KernelRfl
namespace Go.Proofs.YtkkadknijjninaaDoor
/- THE CELL 'sum', in the pinned program and in every row, IS THE sha256 OF THE DUMP (.gsa) THAT YtkkadknijjninaaDoorProg.lean LOADS. Nothing in Lean hashes anything: it is a label: what it is worth is what the hold of that sum in a sandbox is worth. -/
noncomputable def Tryd.pinned : Pinned := { name := "ytkkadknijjninaadoor", sum := "ecc9398427eaf16846e17ebe60753a75593e3769baa8f60a27f4ee155876d841", checked := Tryd.checked }
namespace Rows
def none {H : Type} : Left H := { results := [], args := [] }

/- WHAT THE LISTED PACKAGE-LEVEL VARIABLES READ AS WHEN THE CALL BEGINS. Each datum BY PROGRAM (the guide's laid-datum.mjs) off the statement by which the dump's own 'gosem.cut.vars' lays the variable. In a bare row this is a premise. The card (YtkkadknijjninaaDoorCards.lean) ties it to the program's text. -/
def laid_hostel_words_sizes {H : Type} : DataW H := .agg [.lit (.int .i64 1), .lit (.int .i64 2), .lit (.int .i64 4), .lit (.int .i64 8)]

/-- 'hostellaw13.DynamicLooks': WHATEVER THE INPUT: true; the input reads as it did. -/
def dynamicLooksSpec : ChangeSpec := { name := "dynamicLooks", fn := fun _ => fun
  | [d1, d2, d3] => { results := [.lit (.bool true)], args := [d1, d2, d3] }
  | _ => none }
def dynamicLooksRow : OpenClaim := { program := "ytkkadknijjninaadoor", sum := "ecc9398427eaf16846e17ebe60753a75593e3769baa8f60a27f4ee155876d841", func := "hostel/hostellaw13.DynamicLooks", spec := "dynamicLooks", inPlace := ["internal/bytealg.IndexByte"], unfollowed := true, recurses := true, named := ["hostel/words.sizes"], apart := false, laid := [("hostel/words.sizes", laid_hostel_words_sizes)] }
def DynamicLooksSaid : Prop := dynamicLooksRow.holds Tryd.pinned (OpenSpec.ofChange dynamicLooksSpec)

/-- ITS FALSE NEIGHBOUR: 'it returns false'. Refute it at one input. -/
def dynamicLooksWrong : ChangeSpec := { name := "dynamicLooks", fn := fun _ => fun
  | [d1, d2, d3] => { results := [.lit (.bool false)], args := [d1, d2, d3] }
  | _ => none }
def DynamicLooksWrongFalsely : Prop := dynamicLooksRow.holds Tryd.pinned (OpenSpec.ofChange dynamicLooksWrong)

/-- 'hostellaw13.DynamicFinds': WHATEVER THE INPUT: true; the input reads as it did. -/
def dynamicFindsSpec : ChangeSpec := { name := "dynamicFinds", fn := fun _ => fun
  | [d1, d2, d3] => { results := [.lit (.bool true)], args := [d1, d2, d3] }
  | _ => none }
def dynamicFindsRow : OpenClaim := { program := "ytkkadknijjninaadoor", sum := "ecc9398427eaf16846e17ebe60753a75593e3769baa8f60a27f4ee155876d841", func := "hostel/hostellaw13.DynamicFinds", spec := "dynamicFinds", inPlace := ["internal/bytealg.IndexByte"], unfollowed := true, recurses := true, named := ["hostel/words.sizes"], apart := false, laid := [("hostel/words.sizes", laid_hostel_words_sizes)] }
def DynamicFindsSaid : Prop := dynamicFindsRow.holds Tryd.pinned (OpenSpec.ofChange dynamicFindsSpec)

/-- ITS FALSE NEIGHBOUR: 'it returns false'. Refute it at one input. -/
def dynamicFindsWrong : ChangeSpec := { name := "dynamicFinds", fn := fun _ => fun
  | [d1, d2, d3] => { results := [.lit (.bool false)], args := [d1, d2, d3] }
  | _ => none }
def DynamicFindsWrongFalsely : Prop := dynamicFindsRow.holds Tryd.pinned (OpenSpec.ofChange dynamicFindsWrong)

/-- 'hostellaw13.DynamicHolds': WHATEVER THE INPUT: true; the input reads as it did. -/
def dynamicHoldsSpec : ChangeSpec := { name := "dynamicHolds", fn := fun _ => fun
  | [d1, d2] => { results := [.lit (.bool true)], args := [d1, d2] }
  | _ => none }
def dynamicHoldsRow : OpenClaim := { program := "ytkkadknijjninaadoor", sum := "ecc9398427eaf16846e17ebe60753a75593e3769baa8f60a27f4ee155876d841", func := "hostel/hostellaw13.DynamicHolds", spec := "dynamicHolds", inPlace := ["internal/bytealg.IndexByte"], unfollowed := true, recurses := true, named := ["hostel/words.sizes"], apart := false, laid := [("hostel/words.sizes", laid_hostel_words_sizes)] }
def DynamicHoldsSaid : Prop := dynamicHoldsRow.holds Tryd.pinned (OpenSpec.ofChange dynamicHoldsSpec)

/-- ITS FALSE NEIGHBOUR: 'it returns false'. Refute it at one input. -/
def dynamicHoldsWrong : ChangeSpec := { name := "dynamicHolds", fn := fun _ => fun
  | [d1, d2] => { results := [.lit (.bool false)], args := [d1, d2] }
  | _ => none }
def DynamicHoldsWrongFalsely : Prop := dynamicHoldsRow.holds Tryd.pinned (OpenSpec.ofChange dynamicHoldsWrong)

/-- 'hostellaw13.DynamicNone': WHATEVER THE INPUT: true; the input reads as it did. -/
def dynamicNoneSpec : ChangeSpec := { name := "dynamicNone", fn := fun _ => fun
  | [d1, d2, d3] => { results := [.lit (.bool true)], args := [d1, d2, d3] }
  | _ => none }
def dynamicNoneRow : OpenClaim := { program := "ytkkadknijjninaadoor", sum := "ecc9398427eaf16846e17ebe60753a75593e3769baa8f60a27f4ee155876d841", func := "hostel/hostellaw13.DynamicNone", spec := "dynamicNone", inPlace := ["internal/bytealg.IndexByte"], unfollowed := true, recurses := true, named := ["hostel/words.sizes"], apart := false, laid := [("hostel/words.sizes", laid_hostel_words_sizes)] }
def DynamicNoneSaid : Prop := dynamicNoneRow.holds Tryd.pinned (OpenSpec.ofChange dynamicNoneSpec)

/-- ITS FALSE NEIGHBOUR: 'it returns false'. Refute it at one input. -/
def dynamicNoneWrong : ChangeSpec := { name := "dynamicNone", fn := fun _ => fun
  | [d1, d2, d3] => { results := [.lit (.bool false)], args := [d1, d2, d3] }
  | _ => none }
def DynamicNoneWrongFalsely : Prop := dynamicNoneRow.holds Tryd.pinned (OpenSpec.ofChange dynamicNoneWrong)

/- THE SECOND FORM. 'bulk': how many values and letters a reading holds, each counted each time it is reached (what is shared counts as often as it is met; a slice's spare places count too). A statement '..UptoSaid' is the law's where the arguments, and the package variables that the reading takes, are together of bulk at most 1048576: NARROWER than '..Said'. Prove '..Said' where nothing that the law and all that it calls make is longer than what came in: it says more and counts as full. Else prove '..UptoSaid'. A law counts once. -/
mutual
def uptoBulk {H : Type} : DataW H → Nat
  | .lit (.string bytes) => bytes.length + 1
  | .lit _ => 1
  | .nil => 1
  | .ptr d => uptoBulk d + 1
  | .slice elems spare => uptoBulkAll elems + uptoBulkAll spare + 1
  | .agg parts => uptoBulkAll parts + 1
  | .iface _ d => uptoBulk d + 1
  | .map entries => uptoBulkEntries entries + 1
  | .held _ => 1
def uptoBulkAll {H : Type} : List (DataW H) → Nat
  | [] => 0
  | d :: r => uptoBulk d + uptoBulkAll r
def uptoBulkEntries {H : Type} : List (Lit × DataW H) → Nat
  | [] => 0
  | x :: r => uptoBulkEntry x + uptoBulkEntries r
def uptoBulkEntry {H : Type} : Lit × DataW H → Nat
  | (.string bytes, d) => bytes.length + uptoBulk d + 1
  | (_, d) => uptoBulk d + 1
 end
def uptoSmall : (H : Type) → List (DataW H) → Bool := fun _ ds => decide (uptoBulkAll ds ≤ 1048576)
def OpenSpec.upto (s : _root_.Go.ChangeSpec) : _root_.Go.OpenSpec := { _root_.Go.OpenSpec.ofChange s with cond := some uptoSmall }

/-- 'hostellaw13.DynamicLooks', WHERE WHAT IT READS IS OF BULK AT MOST 1048576: true; the input reads as it did. -/
def dynamicLooksUptoRow : OpenClaim := { program := "ytkkadknijjninaadoor", sum := "ecc9398427eaf16846e17ebe60753a75593e3769baa8f60a27f4ee155876d841", func := "hostel/hostellaw13.DynamicLooks", spec := "dynamicLooks", inPlace := ["internal/bytealg.IndexByte"], unfollowed := true, recurses := true, named := ["hostel/words.sizes"], apart := false, laid := [("hostel/words.sizes", laid_hostel_words_sizes)], narrowed := true }
def DynamicLooksUptoSaid : Prop := dynamicLooksUptoRow.holds Tryd.pinned (OpenSpec.upto dynamicLooksSpec)

/-- 'hostellaw13.DynamicFinds', WHERE WHAT IT READS IS OF BULK AT MOST 1048576: true; the input reads as it did. -/
def dynamicFindsUptoRow : OpenClaim := { program := "ytkkadknijjninaadoor", sum := "ecc9398427eaf16846e17ebe60753a75593e3769baa8f60a27f4ee155876d841", func := "hostel/hostellaw13.DynamicFinds", spec := "dynamicFinds", inPlace := ["internal/bytealg.IndexByte"], unfollowed := true, recurses := true, named := ["hostel/words.sizes"], apart := false, laid := [("hostel/words.sizes", laid_hostel_words_sizes)], narrowed := true }
def DynamicFindsUptoSaid : Prop := dynamicFindsUptoRow.holds Tryd.pinned (OpenSpec.upto dynamicFindsSpec)

/-- 'hostellaw13.DynamicHolds', WHERE WHAT IT READS IS OF BULK AT MOST 1048576: true; the input reads as it did. -/
def dynamicHoldsUptoRow : OpenClaim := { program := "ytkkadknijjninaadoor", sum := "ecc9398427eaf16846e17ebe60753a75593e3769baa8f60a27f4ee155876d841", func := "hostel/hostellaw13.DynamicHolds", spec := "dynamicHolds", inPlace := ["internal/bytealg.IndexByte"], unfollowed := true, recurses := true, named := ["hostel/words.sizes"], apart := false, laid := [("hostel/words.sizes", laid_hostel_words_sizes)], narrowed := true }
def DynamicHoldsUptoSaid : Prop := dynamicHoldsUptoRow.holds Tryd.pinned (OpenSpec.upto dynamicHoldsSpec)

/-- 'hostellaw13.DynamicNone', WHERE WHAT IT READS IS OF BULK AT MOST 1048576: true; the input reads as it did. -/
def dynamicNoneUptoRow : OpenClaim := { program := "ytkkadknijjninaadoor", sum := "ecc9398427eaf16846e17ebe60753a75593e3769baa8f60a27f4ee155876d841", func := "hostel/hostellaw13.DynamicNone", spec := "dynamicNone", inPlace := ["internal/bytealg.IndexByte"], unfollowed := true, recurses := true, named := ["hostel/words.sizes"], apart := false, laid := [("hostel/words.sizes", laid_hostel_words_sizes)], narrowed := true }
def DynamicNoneUptoSaid : Prop := dynamicNoneUptoRow.holds Tryd.pinned (OpenSpec.upto dynamicNoneSpec)

end Rows
end Go.Proofs.YtkkadknijjninaaDoor
