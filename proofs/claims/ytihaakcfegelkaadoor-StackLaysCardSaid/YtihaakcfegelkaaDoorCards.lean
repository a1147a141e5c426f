/-
  DERIVED. GIVEN WITH THE SEED: THE CARDS: each row of YtihaakcfegelkaaDoorRows.lean that lists a variable, with what it lists TIED to the program's text (the seventh form; the later family's looks); each row that meets fmt, with fmt's text TOLD by the authors' own Lean function (tested against real Go, not proved from fmt's source: count such statements apart). THE CARD IS WHAT COUNTS. Prove the row's statement (the work); the ties are given (YtihaakcfegelkaaDoorTie.lean); close each card by the builder's one call (the guide's Derived/Test/ToyasCard.lean, 'card_holds'). Laid BY PROGRAM, IN A SANDBOX (cutbox-door.mjs). By AI agents, Wed Nov 11 2026. No macro, syntax, notation, axiom, sorry.
-/
import Derived.Test.YtihaakcfegelkaaDoorRows
import GoSem.ClaimSeven
namespace Go.Proofs.YtihaakcfegelkaaDoor
namespace Rows

/-- THE TIED CARD OF 'hostellaw20.StackLays'. -/
def stackLaysCard : Claim7 := { stood := { row := stackLaysRow, standIns := [], harness := (true, "ac5b7bb19cbd738e23cf554834fa68c767b20c15d871ccba7474bb24e0822aae"), looks := false }, kinds := [], alts := [], laidByText := true, laidKinds := [.data], laidTests := true, laidLooks := .later }
def StackLaysCardSaid : Prop := Claim7.holds Tryd.pinned (.plain (OpenSpec.ofChange stackLaysSpec)) stackLaysCard

/-- THE TIED CARD OF 'hostellaw20.StackBack'. -/
def stackBackCard : Claim7 := { stood := { row := stackBackRow, standIns := [], harness := (true, "ac5b7bb19cbd738e23cf554834fa68c767b20c15d871ccba7474bb24e0822aae"), looks := false }, kinds := [], alts := [], laidByText := true, laidKinds := [.data], laidTests := true, laidLooks := .later }
def StackBackCardSaid : Prop := Claim7.holds Tryd.pinned (.plain (OpenSpec.ofChange stackBackSpec)) stackBackCard

/-- THE TIED CARD OF 'hostellaw20.StackTells'. -/
def stackTellsCard : Claim7 := { stood := { row := stackTellsRow, standIns := [], harness := (true, "ac5b7bb19cbd738e23cf554834fa68c767b20c15d871ccba7474bb24e0822aae"), looks := false }, kinds := [], alts := [], laidByText := true, laidKinds := [.data], laidTests := true, laidLooks := .later }
def StackTellsCardSaid : Prop := Claim7.holds Tryd.pinned (.plain (OpenSpec.ofChange stackTellsSpec)) stackTellsCard

/-- THE SECOND FORM's CARD OF 'hostellaw20.StackLays'. -/
def stackLaysUptoCard : Claim7 := { stood := { row := stackLaysUptoRow, standIns := [], harness := (true, "ac5b7bb19cbd738e23cf554834fa68c767b20c15d871ccba7474bb24e0822aae"), looks := false }, kinds := [], alts := [], laidByText := true, laidKinds := [.data], laidTests := true, laidLooks := .later }
def StackLaysUptoCardSaid : Prop := Claim7.holds Tryd.pinned (.plain (OpenSpec.upto stackLaysSpec)) stackLaysUptoCard

/-- THE SECOND FORM's CARD OF 'hostellaw20.StackBack'. -/
def stackBackUptoCard : Claim7 := { stood := { row := stackBackUptoRow, standIns := [], harness := (true, "ac5b7bb19cbd738e23cf554834fa68c767b20c15d871ccba7474bb24e0822aae"), looks := false }, kinds := [], alts := [], laidByText := true, laidKinds := [.data], laidTests := true, laidLooks := .later }
def StackBackUptoCardSaid : Prop := Claim7.holds Tryd.pinned (.plain (OpenSpec.upto stackBackSpec)) stackBackUptoCard

/-- THE SECOND FORM's CARD OF 'hostellaw20.StackTells'. -/
def stackTellsUptoCard : Claim7 := { stood := { row := stackTellsUptoRow, standIns := [], harness := (true, "ac5b7bb19cbd738e23cf554834fa68c767b20c15d871ccba7474bb24e0822aae"), looks := false }, kinds := [], alts := [], laidByText := true, laidKinds := [.data], laidTests := true, laidLooks := .later }
def StackTellsUptoCardSaid : Prop := Claim7.holds Tryd.pinned (.plain (OpenSpec.upto stackTellsSpec)) stackTellsUptoCard
end Rows
end Go.Proofs.YtihaakcfegelkaaDoor
