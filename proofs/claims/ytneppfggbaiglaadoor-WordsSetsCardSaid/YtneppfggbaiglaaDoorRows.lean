/-
  NARROWER THAN 'FOR EVERY INPUT', by the rows' own cells (each row's printed sentence says how): WordsGets: laid · WordsSets: laid · WordsAdds: laid · WordsPages: laid · WordsBack: laid · WordsParts: laid.
  DERIVED. THE GIVEN ROWS OF THIS SEAT. 6 by the template 'for every input the law returns true; each argument reads behind the call as it read before'; 0 by the template 'total and deterministic' (their statements: YtneppfggbaiglaaDoorTotals.lean).
  GIVEN WITH THE SEED: the statements are not yours to turn. If you find one false, say at which input.
  Laid BY PROGRAM, IN A SANDBOX (cutbox-rows.mjs): the forced cells as the released guide's own fill.sh prints them over the translation 9be9ead8ce757511… (all of the seat's roots in one cut). By AI agents, Wed Nov 11 2026. No macro, syntax, notation, axiom, sorry.
-/
import Derived.Test.YtneppfggbaiglaaDoorChecked
import GoSem.Claim
import GoSem.ClaimJoined
import GoSem.ClaimMapViews
import Derived.JoinedTies
import Derived.KernelRfl
namespace Go.Proofs.YtneppfggbaiglaaDoor
/- THE CELL 'sum', in the pinned program and in every row, IS THE sha256 OF THE DUMP (.gsa) THAT YtneppfggbaiglaaDoorProg.lean LOADS. Nothing in Lean hashes anything: it is a label: what it is worth is what the hold of that sum in a sandbox is worth. -/
noncomputable def Tryd.pinned : Pinned := { name := "ytneppfggbaiglaadoor", sum := "9be9ead8ce7575117bf9b81eac611cbd9d61c4aa6db681320372239db3197453", checked := Tryd.checked }
namespace Rows
def none {H : Type} : Left H := { results := [], args := [] }

/- WHAT THE LISTED PACKAGE-LEVEL VARIABLES READ AS WHEN THE CALL BEGINS. Each datum BY PROGRAM (the guide's laid-datum.mjs) off the statement by which the dump's own 'gosem.cut.vars' lays the variable. In a bare row this is a premise. The card (YtneppfggbaiglaaDoorCards.lean) ties it to the program's text. -/
def laid_hostel_words_sizes {H : Type} : DataW H := .agg [.lit (.int .i64 1), .lit (.int .i64 2), .lit (.int .i64 4), .lit (.int .i64 8)]

/-- 'hostellaw01.WordsGets': WHATEVER THE INPUT: true; the input reads as it did. -/
def wordsGetsSpec : ChangeSpec := { name := "wordsGets", fn := fun _ => fun
  | [d1, d2, d3] => { results := [.lit (.bool true)], args := [d1, d2, d3] }
  | _ => none }
def wordsGetsRow : OpenClaim := { program := "ytneppfggbaiglaadoor", sum := "9be9ead8ce7575117bf9b81eac611cbd9d61c4aa6db681320372239db3197453", func := "hostel/hostellaw01.WordsGets", spec := "wordsGets", named := ["hostel/words.sizes"], apart := false, laid := [("hostel/words.sizes", laid_hostel_words_sizes)] }
def WordsGetsSaid : Prop := wordsGetsRow.holds Tryd.pinned (OpenSpec.ofChange wordsGetsSpec)

/-- ITS FALSE NEIGHBOUR: 'it returns false'. Refute it at one input. -/
def wordsGetsWrong : ChangeSpec := { name := "wordsGets", fn := fun _ => fun
  | [d1, d2, d3] => { results := [.lit (.bool false)], args := [d1, d2, d3] }
  | _ => none }
def WordsGetsWrongFalsely : Prop := wordsGetsRow.holds Tryd.pinned (OpenSpec.ofChange wordsGetsWrong)

/-- 'hostellaw01.WordsSets': WHATEVER THE INPUT: true; the input reads as it did. -/
def wordsSetsSpec : ChangeSpec := { name := "wordsSets", fn := fun _ => fun
  | [d] => { results := [.lit (.bool true)], args := [d] }
  | _ => none }
def wordsSetsRow : OpenClaim := { program := "ytneppfggbaiglaadoor", sum := "9be9ead8ce7575117bf9b81eac611cbd9d61c4aa6db681320372239db3197453", func := "hostel/hostellaw01.WordsSets", spec := "wordsSets", named := ["hostel/words.sizes"], apart := false, laid := [("hostel/words.sizes", laid_hostel_words_sizes)] }
def WordsSetsSaid : Prop := wordsSetsRow.holds Tryd.pinned (OpenSpec.ofChange wordsSetsSpec)

/-- ITS FALSE NEIGHBOUR: 'it returns false'. Refute it at one input. -/
def wordsSetsWrong : ChangeSpec := { name := "wordsSets", fn := fun _ => fun
  | [d] => { results := [.lit (.bool false)], args := [d] }
  | _ => none }
def WordsSetsWrongFalsely : Prop := wordsSetsRow.holds Tryd.pinned (OpenSpec.ofChange wordsSetsWrong)

/-- 'hostellaw01.WordsAdds': WHATEVER THE INPUT: true; the input reads as it did. -/
def wordsAddsSpec : ChangeSpec := { name := "wordsAdds", fn := fun _ => fun
  | [d1, d2, d3] => { results := [.lit (.bool true)], args := [d1, d2, d3] }
  | _ => none }
def wordsAddsRow : OpenClaim := { program := "ytneppfggbaiglaadoor", sum := "9be9ead8ce7575117bf9b81eac611cbd9d61c4aa6db681320372239db3197453", func := "hostel/hostellaw01.WordsAdds", spec := "wordsAdds", named := ["hostel/words.sizes"], apart := false, laid := [("hostel/words.sizes", laid_hostel_words_sizes)] }
def WordsAddsSaid : Prop := wordsAddsRow.holds Tryd.pinned (OpenSpec.ofChange wordsAddsSpec)

/-- ITS FALSE NEIGHBOUR: 'it returns false'. Refute it at one input. -/
def wordsAddsWrong : ChangeSpec := { name := "wordsAdds", fn := fun _ => fun
  | [d1, d2, d3] => { results := [.lit (.bool false)], args := [d1, d2, d3] }
  | _ => none }
def WordsAddsWrongFalsely : Prop := wordsAddsRow.holds Tryd.pinned (OpenSpec.ofChange wordsAddsWrong)

/-- 'hostellaw01.WordsPages': WHATEVER THE INPUT: true; the input reads as it did. -/
def wordsPagesSpec : ChangeSpec := { name := "wordsPages", fn := fun _ => fun
  | [d1, d2] => { results := [.lit (.bool true)], args := [d1, d2] }
  | _ => none }
def wordsPagesRow : OpenClaim := { program := "ytneppfggbaiglaadoor", sum := "9be9ead8ce7575117bf9b81eac611cbd9d61c4aa6db681320372239db3197453", func := "hostel/hostellaw01.WordsPages", spec := "wordsPages", named := ["hostel/words.sizes"], apart := false, laid := [("hostel/words.sizes", laid_hostel_words_sizes)] }
def WordsPagesSaid : Prop := wordsPagesRow.holds Tryd.pinned (OpenSpec.ofChange wordsPagesSpec)

/-- ITS FALSE NEIGHBOUR: 'it returns false'. Refute it at one input. -/
def wordsPagesWrong : ChangeSpec := { name := "wordsPages", fn := fun _ => fun
  | [d1, d2] => { results := [.lit (.bool false)], args := [d1, d2] }
  | _ => none }
def WordsPagesWrongFalsely : Prop := wordsPagesRow.holds Tryd.pinned (OpenSpec.ofChange wordsPagesWrong)

/-- 'hostellaw01.WordsBack': WHATEVER THE INPUT: true; the input reads as it did. -/
def wordsBackSpec : ChangeSpec := { name := "wordsBack", fn := fun _ => fun
  | [d] => { results := [.lit (.bool true)], args := [d] }
  | _ => none }
def wordsBackRow : OpenClaim := { program := "ytneppfggbaiglaadoor", sum := "9be9ead8ce7575117bf9b81eac611cbd9d61c4aa6db681320372239db3197453", func := "hostel/hostellaw01.WordsBack", spec := "wordsBack", named := ["hostel/words.sizes"], apart := false, laid := [("hostel/words.sizes", laid_hostel_words_sizes)] }
def WordsBackSaid : Prop := wordsBackRow.holds Tryd.pinned (OpenSpec.ofChange wordsBackSpec)

/-- ITS FALSE NEIGHBOUR: 'it returns false'. Refute it at one input. -/
def wordsBackWrong : ChangeSpec := { name := "wordsBack", fn := fun _ => fun
  | [d] => { results := [.lit (.bool false)], args := [d] }
  | _ => none }
def WordsBackWrongFalsely : Prop := wordsBackRow.holds Tryd.pinned (OpenSpec.ofChange wordsBackWrong)

/-- 'hostellaw01.WordsParts': WHATEVER THE INPUT: true; the input reads as it did. -/
def wordsPartsSpec : ChangeSpec := { name := "wordsParts", fn := fun _ => fun
  | [d1, d2, d3] => { results := [.lit (.bool true)], args := [d1, d2, d3] }
  | _ => none }
def wordsPartsRow : OpenClaim := { program := "ytneppfggbaiglaadoor", sum := "9be9ead8ce7575117bf9b81eac611cbd9d61c4aa6db681320372239db3197453", func := "hostel/hostellaw01.WordsParts", spec := "wordsParts", named := ["hostel/words.sizes"], apart := false, laid := [("hostel/words.sizes", laid_hostel_words_sizes)] }
def WordsPartsSaid : Prop := wordsPartsRow.holds Tryd.pinned (OpenSpec.ofChange wordsPartsSpec)

/-- ITS FALSE NEIGHBOUR: 'it returns false'. Refute it at one input. -/
def wordsPartsWrong : ChangeSpec := { name := "wordsParts", fn := fun _ => fun
  | [d1, d2, d3] => { results := [.lit (.bool false)], args := [d1, d2, d3] }
  | _ => none }
def WordsPartsWrongFalsely : Prop := wordsPartsRow.holds Tryd.pinned (OpenSpec.ofChange wordsPartsWrong)

/- THE SECOND FORM. 'bulk': how many values and letters a reading holds, each counted each time it is reached (what is shared counts as often as it is met; a slice's spare places count too). A statement '..UptoSaid' is the law's where the arguments, and the package variables that the reading takes, are together of bulk at most 1048576: NARROWER than '..Said'. Prove '..Said' where nothing that the law and all that it calls make is longer than what came in: it says more and counts as full. Else prove '..UptoSaid'. A law counts once. -/
mutual
def uptoBulk {H : Type} : DataW H → Nat
  | .lit (.string bytes) => bytes.length + 1
  | .lit _ => 1
  | .nil => 1
  | .ptr d => uptoBulk d + 1
  | .slice elems spare => uptoBulkAll elems + uptoBulkAll spare + 1
  | .agg parts => uptoBulkAll parts + 1
  | .iface _ d => uptoBulk d + 1
  | .map entries => uptoBulkEntries entries + 1
  | .held _ => 1
def uptoBulkAll {H : Type} : List (DataW H) → Nat
  | [] => 0
  | d :: r => uptoBulk d + uptoBulkAll r
def uptoBulkEntries {H : Type} : List (Lit × DataW H) → Nat
  | [] => 0
  | x :: r => uptoBulkEntry x + uptoBulkEntries r
def uptoBulkEntry {H : Type} : Lit × DataW H → Nat
  | (.string bytes, d) => bytes.length + uptoBulk d + 1
  | (_, d) => uptoBulk d + 1
 end
def uptoSmall : (H : Type) → List (DataW H) → Bool := fun _ ds => decide (uptoBulkAll ds ≤ 1048576)
def OpenSpec.upto (s : _root_.Go.ChangeSpec) : _root_.Go.OpenSpec := { _root_.Go.OpenSpec.ofChange s with cond := some uptoSmall }

/-- 'hostellaw01.WordsGets', WHERE WHAT IT READS IS OF BULK AT MOST 1048576: true; the input reads as it did. -/
def wordsGetsUptoRow : OpenClaim := { program := "ytneppfggbaiglaadoor", sum := "9be9ead8ce7575117bf9b81eac611cbd9d61c4aa6db681320372239db3197453", func := "hostel/hostellaw01.WordsGets", spec := "wordsGets", named := ["hostel/words.sizes"], apart := false, laid := [("hostel/words.sizes", laid_hostel_words_sizes)], narrowed := true }
def WordsGetsUptoSaid : Prop := wordsGetsUptoRow.holds Tryd.pinned (OpenSpec.upto wordsGetsSpec)

/-- 'hostellaw01.WordsSets', WHERE WHAT IT READS IS OF BULK AT MOST 1048576: true; the input reads as it did. -/
def wordsSetsUptoRow : OpenClaim := { program := "ytneppfggbaiglaadoor", sum := "9be9ead8ce7575117bf9b81eac611cbd9d61c4aa6db681320372239db3197453", func := "hostel/hostellaw01.WordsSets", spec := "wordsSets", named := ["hostel/words.sizes"], apart := false, laid := [("hostel/words.sizes", laid_hostel_words_sizes)], narrowed := true }
def WordsSetsUptoSaid : Prop := wordsSetsUptoRow.holds Tryd.pinned (OpenSpec.upto wordsSetsSpec)

/-- 'hostellaw01.WordsAdds', WHERE WHAT IT READS IS OF BULK AT MOST 1048576: true; the input reads as it did. -/
def wordsAddsUptoRow : OpenClaim := { program := "ytneppfggbaiglaadoor", sum := "9be9ead8ce7575117bf9b81eac611cbd9d61c4aa6db681320372239db3197453", func := "hostel/hostellaw01.WordsAdds", spec := "wordsAdds", named := ["hostel/words.sizes"], apart := false, laid := [("hostel/words.sizes", laid_hostel_words_sizes)], narrowed := true }
def WordsAddsUptoSaid : Prop := wordsAddsUptoRow.holds Tryd.pinned (OpenSpec.upto wordsAddsSpec)

/-- 'hostellaw01.WordsPages', WHERE WHAT IT READS IS OF BULK AT MOST 1048576: true; the input reads as it did. -/
def wordsPagesUptoRow : OpenClaim := { program := "ytneppfggbaiglaadoor", sum := "9be9ead8ce7575117bf9b81eac611cbd9d61c4aa6db681320372239db3197453", func := "hostel/hostellaw01.WordsPages", spec := "wordsPages", named := ["hostel/words.sizes"], apart := false, laid := [("hostel/words.sizes", laid_hostel_words_sizes)], narrowed := true }
def WordsPagesUptoSaid : Prop := wordsPagesUptoRow.holds Tryd.pinned (OpenSpec.upto wordsPagesSpec)

/-- 'hostellaw01.WordsBack', WHERE WHAT IT READS IS OF BULK AT MOST 1048576: true; the input reads as it did. -/
def wordsBackUptoRow : OpenClaim := { program := "ytneppfggbaiglaadoor", sum := "9be9ead8ce7575117bf9b81eac611cbd9d61c4aa6db681320372239db3197453", func := "hostel/hostellaw01.WordsBack", spec := "wordsBack", named := ["hostel/words.sizes"], apart := false, laid := [("hostel/words.sizes", laid_hostel_words_sizes)], narrowed := true }
def WordsBackUptoSaid : Prop := wordsBackUptoRow.holds Tryd.pinned (OpenSpec.upto wordsBackSpec)

/-- 'hostellaw01.WordsParts', WHERE WHAT IT READS IS OF BULK AT MOST 1048576: true; the input reads as it did. -/
def wordsPartsUptoRow : OpenClaim := { program := "ytneppfggbaiglaadoor", sum := "9be9ead8ce7575117bf9b81eac611cbd9d61c4aa6db681320372239db3197453", func := "hostel/hostellaw01.WordsParts", spec := "wordsParts", named := ["hostel/words.sizes"], apart := false, laid := [("hostel/words.sizes", laid_hostel_words_sizes)], narrowed := true }
def WordsPartsUptoSaid : Prop := wordsPartsUptoRow.holds Tryd.pinned (OpenSpec.upto wordsPartsSpec)

end Rows
end Go.Proofs.YtneppfggbaiglaaDoor
