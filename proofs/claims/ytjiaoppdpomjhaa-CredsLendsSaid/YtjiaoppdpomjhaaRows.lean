/-
  No cell of these rows narrows 'for every input' (looked for: loops, veiled, ifaces, maps, wideKeys, modest, calm, conditions, laid).
  DERIVED. THE GIVEN ROWS OF THIS SEAT. 5 by the template 'for every input the law returns true; each argument reads behind the call as it read before'; 0 by the template 'total and deterministic' (their statements: YtjiaoppdpomjhaaTotals.lean).
  GIVEN WITH THE SEED: the statements are not yours to turn. If you find one false, say at which input.
  Laid BY PROGRAM, IN A SANDBOX (cutbox-rows.mjs): the forced cells as the released guide's own fill.sh prints them over the translation 84fe04dfb6d5d381… (all of the seat's roots in one cut). By AI agents, Wed Nov 11 2026. No macro, syntax, notation, axiom, sorry.
-/
import Derived.Test.YtjiaoppdpomjhaaChecked
import GoSem.Claim
import GoSem.ClaimJoined
import GoSem.ClaimMapViews
import Derived.JoinedTies
import Derived.KernelRfl
namespace Go.Proofs.Ytjiaoppdpomjhaa
/- THE CELL 'sum', in the pinned program and in every row, IS THE sha256 OF THE DUMP (.gsa) THAT YtjiaoppdpomjhaaProg.lean LOADS. Nothing in Lean hashes anything: it is a label: what it is worth is what the hold of that sum in a sandbox is worth. -/
noncomputable def Try.pinned : Pinned := { name := "ytjiaoppdpomjhaa", sum := "84fe04dfb6d5d3817a0a94bff8419c088a343173b5ca3cce1cbf586d5d4c5cd8", checked := Try.checked }
namespace Rows
def none {H : Type} : Left H := { results := [], args := [] }

/-- 'hostellaw04.CredsMay': WHATEVER THE INPUT: true; the input reads as it did. -/
def credsMaySpec : ChangeSpec := { name := "credsMay", fn := fun _ => fun
  | [d1, d2, d3] => { results := [.lit (.bool true)], args := [d1, d2, d3] }
  | _ => none }
def credsMayRow : OpenClaim := { program := "ytjiaoppdpomjhaa", sum := "84fe04dfb6d5d3817a0a94bff8419c088a343173b5ca3cce1cbf586d5d4c5cd8", func := "hostel/hostellaw04.CredsMay", spec := "credsMay", apart := false }
def CredsMaySaid : Prop := credsMayRow.holds Try.pinned (OpenSpec.ofChange credsMaySpec)

/-- ITS FALSE NEIGHBOUR: 'it returns false'. Refute it at one input. -/
def credsMayWrong : ChangeSpec := { name := "credsMay", fn := fun _ => fun
  | [d1, d2, d3] => { results := [.lit (.bool false)], args := [d1, d2, d3] }
  | _ => none }
def CredsMayWrongFalsely : Prop := credsMayRow.holds Try.pinned (OpenSpec.ofChange credsMayWrong)

/-- 'hostellaw04.CredsLends': WHATEVER THE INPUT: true; the input reads as it did. -/
def credsLendsSpec : ChangeSpec := { name := "credsLends", fn := fun _ => fun
  | [d1, d2, d3] => { results := [.lit (.bool true)], args := [d1, d2, d3] }
  | _ => none }
def credsLendsRow : OpenClaim := { program := "ytjiaoppdpomjhaa", sum := "84fe04dfb6d5d3817a0a94bff8419c088a343173b5ca3cce1cbf586d5d4c5cd8", func := "hostel/hostellaw04.CredsLends", spec := "credsLends", apart := false }
def CredsLendsSaid : Prop := credsLendsRow.holds Try.pinned (OpenSpec.ofChange credsLendsSpec)

/-- ITS FALSE NEIGHBOUR: 'it returns false'. Refute it at one input. -/
def credsLendsWrong : ChangeSpec := { name := "credsLends", fn := fun _ => fun
  | [d1, d2, d3] => { results := [.lit (.bool false)], args := [d1, d2, d3] }
  | _ => none }
def CredsLendsWrongFalsely : Prop := credsLendsRow.holds Try.pinned (OpenSpec.ofChange credsLendsWrong)

/-- 'hostellaw04.CredsBits': WHATEVER THE INPUT: true; the input reads as it did. -/
def credsBitsSpec : ChangeSpec := { name := "credsBits", fn := fun _ => fun
  | [d1, d2, d3] => { results := [.lit (.bool true)], args := [d1, d2, d3] }
  | _ => none }
def credsBitsRow : OpenClaim := { program := "ytjiaoppdpomjhaa", sum := "84fe04dfb6d5d3817a0a94bff8419c088a343173b5ca3cce1cbf586d5d4c5cd8", func := "hostel/hostellaw04.CredsBits", spec := "credsBits", apart := false }
def CredsBitsSaid : Prop := credsBitsRow.holds Try.pinned (OpenSpec.ofChange credsBitsSpec)

/-- ITS FALSE NEIGHBOUR: 'it returns false'. Refute it at one input. -/
def credsBitsWrong : ChangeSpec := { name := "credsBits", fn := fun _ => fun
  | [d1, d2, d3] => { results := [.lit (.bool false)], args := [d1, d2, d3] }
  | _ => none }
def CredsBitsWrongFalsely : Prop := credsBitsRow.holds Try.pinned (OpenSpec.ofChange credsBitsWrong)

/-- 'hostellaw04.CredsClasses': WHATEVER THE INPUT: true; the input reads as it did. -/
def credsClassesSpec : ChangeSpec := { name := "credsClasses", fn := fun _ => fun
  | [d1, d2, d3] => { results := [.lit (.bool true)], args := [d1, d2, d3] }
  | _ => none }
def credsClassesRow : OpenClaim := { program := "ytjiaoppdpomjhaa", sum := "84fe04dfb6d5d3817a0a94bff8419c088a343173b5ca3cce1cbf586d5d4c5cd8", func := "hostel/hostellaw04.CredsClasses", spec := "credsClasses", apart := false }
def CredsClassesSaid : Prop := credsClassesRow.holds Try.pinned (OpenSpec.ofChange credsClassesSpec)

/-- ITS FALSE NEIGHBOUR: 'it returns false'. Refute it at one input. -/
def credsClassesWrong : ChangeSpec := { name := "credsClasses", fn := fun _ => fun
  | [d1, d2, d3] => { results := [.lit (.bool false)], args := [d1, d2, d3] }
  | _ => none }
def CredsClassesWrongFalsely : Prop := credsClassesRow.holds Try.pinned (OpenSpec.ofChange credsClassesWrong)

/-- 'hostellaw04.CredsAgain': WHATEVER THE INPUT: true; the input reads as it did. -/
def credsAgainSpec : ChangeSpec := { name := "credsAgain", fn := fun _ => fun
  | [d1, d2] => { results := [.lit (.bool true)], args := [d1, d2] }
  | _ => none }
def credsAgainRow : OpenClaim := { program := "ytjiaoppdpomjhaa", sum := "84fe04dfb6d5d3817a0a94bff8419c088a343173b5ca3cce1cbf586d5d4c5cd8", func := "hostel/hostellaw04.CredsAgain", spec := "credsAgain", apart := false }
def CredsAgainSaid : Prop := credsAgainRow.holds Try.pinned (OpenSpec.ofChange credsAgainSpec)

/-- ITS FALSE NEIGHBOUR: 'it returns false'. Refute it at one input. -/
def credsAgainWrong : ChangeSpec := { name := "credsAgain", fn := fun _ => fun
  | [d1, d2] => { results := [.lit (.bool false)], args := [d1, d2] }
  | _ => none }
def CredsAgainWrongFalsely : Prop := credsAgainRow.holds Try.pinned (OpenSpec.ofChange credsAgainWrong)

/- THE SECOND FORM. 'bulk': how many values and letters a reading holds, each counted each time it is reached (what is shared counts as often as it is met; a slice's spare places count too). A statement '..UptoSaid' is the law's where the arguments, and the package variables that the reading takes, are together of bulk at most 1048576: NARROWER than '..Said'. Prove '..Said' where nothing that the law and all that it calls make is longer than what came in: it says more and counts as full. Else prove '..UptoSaid'. A law counts once. -/
mutual
def uptoBulk {H : Type} : DataW H → Nat
  | .lit (.string bytes) => bytes.length + 1
  | .lit _ => 1
  | .nil => 1
  | .ptr d => uptoBulk d + 1
  | .slice elems spare => uptoBulkAll elems + uptoBulkAll spare + 1
  | .agg parts => uptoBulkAll parts + 1
  | .iface _ d => uptoBulk d + 1
  | .map entries => uptoBulkEntries entries + 1
  | .held _ => 1
def uptoBulkAll {H : Type} : List (DataW H) → Nat
  | [] => 0
  | d :: r => uptoBulk d + uptoBulkAll r
def uptoBulkEntries {H : Type} : List (Lit × DataW H) → Nat
  | [] => 0
  | x :: r => uptoBulkEntry x + uptoBulkEntries r
def uptoBulkEntry {H : Type} : Lit × DataW H → Nat
  | (.string bytes, d) => bytes.length + uptoBulk d + 1
  | (_, d) => uptoBulk d + 1
 end
def uptoSmall : (H : Type) → List (DataW H) → Bool := fun _ ds => decide (uptoBulkAll ds ≤ 1048576)
def OpenSpec.upto (s : _root_.Go.ChangeSpec) : _root_.Go.OpenSpec := { _root_.Go.OpenSpec.ofChange s with cond := some uptoSmall }

/-- 'hostellaw04.CredsMay', WHERE WHAT IT READS IS OF BULK AT MOST 1048576: true; the input reads as it did. -/
def credsMayUptoRow : OpenClaim := { program := "ytjiaoppdpomjhaa", sum := "84fe04dfb6d5d3817a0a94bff8419c088a343173b5ca3cce1cbf586d5d4c5cd8", func := "hostel/hostellaw04.CredsMay", spec := "credsMay", apart := false, narrowed := true }
def CredsMayUptoSaid : Prop := credsMayUptoRow.holds Try.pinned (OpenSpec.upto credsMaySpec)

/-- 'hostellaw04.CredsLends', WHERE WHAT IT READS IS OF BULK AT MOST 1048576: true; the input reads as it did. -/
def credsLendsUptoRow : OpenClaim := { program := "ytjiaoppdpomjhaa", sum := "84fe04dfb6d5d3817a0a94bff8419c088a343173b5ca3cce1cbf586d5d4c5cd8", func := "hostel/hostellaw04.CredsLends", spec := "credsLends", apart := false, narrowed := true }
def CredsLendsUptoSaid : Prop := credsLendsUptoRow.holds Try.pinned (OpenSpec.upto credsLendsSpec)

/-- 'hostellaw04.CredsBits', WHERE WHAT IT READS IS OF BULK AT MOST 1048576: true; the input reads as it did. -/
def credsBitsUptoRow : OpenClaim := { program := "ytjiaoppdpomjhaa", sum := "84fe04dfb6d5d3817a0a94bff8419c088a343173b5ca3cce1cbf586d5d4c5cd8", func := "hostel/hostellaw04.CredsBits", spec := "credsBits", apart := false, narrowed := true }
def CredsBitsUptoSaid : Prop := credsBitsUptoRow.holds Try.pinned (OpenSpec.upto credsBitsSpec)

/-- 'hostellaw04.CredsClasses', WHERE WHAT IT READS IS OF BULK AT MOST 1048576: true; the input reads as it did. -/
def credsClassesUptoRow : OpenClaim := { program := "ytjiaoppdpomjhaa", sum := "84fe04dfb6d5d3817a0a94bff8419c088a343173b5ca3cce1cbf586d5d4c5cd8", func := "hostel/hostellaw04.CredsClasses", spec := "credsClasses", apart := false, narrowed := true }
def CredsClassesUptoSaid : Prop := credsClassesUptoRow.holds Try.pinned (OpenSpec.upto credsClassesSpec)

/-- 'hostellaw04.CredsAgain', WHERE WHAT IT READS IS OF BULK AT MOST 1048576: true; the input reads as it did. -/
def credsAgainUptoRow : OpenClaim := { program := "ytjiaoppdpomjhaa", sum := "84fe04dfb6d5d3817a0a94bff8419c088a343173b5ca3cce1cbf586d5d4c5cd8", func := "hostel/hostellaw04.CredsAgain", spec := "credsAgain", apart := false, narrowed := true }
def CredsAgainUptoSaid : Prop := credsAgainUptoRow.holds Try.pinned (OpenSpec.upto credsAgainSpec)

end Rows
end Go.Proofs.Ytjiaoppdpomjhaa
