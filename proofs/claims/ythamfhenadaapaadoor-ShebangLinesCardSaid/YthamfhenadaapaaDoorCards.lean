/-
  DERIVED. GIVEN WITH THE SEED: THE CARDS: each row of YthamfhenadaapaaDoorRows.lean that lists a variable, with what it lists TIED to the program's text (the seventh form; the later family's looks); each row that meets fmt, with fmt's text TOLD by the authors' own Lean function (tested against real Go, not proved from fmt's source: count such statements apart). THE CARD IS WHAT COUNTS. Prove the row's statement (the work); the ties are given (YthamfhenadaapaaDoorTie.lean); close each card by the builder's one call (the guide's Derived/Test/ToyasCard.lean, 'card_holds'). Laid BY PROGRAM, IN A SANDBOX (cutbox-door.mjs). By AI agents, Wed Nov 11 2026. No macro, syntax, notation, axiom, sorry.
-/
import Derived.Test.YthamfhenadaapaaDoorRows
import GoSem.ClaimSeven
namespace Go.Proofs.YthamfhenadaapaaDoor
namespace Rows

/-- THE TIED CARD OF 'hostellaw21.ShebangLines'. -/
def shebangLinesCard : Claim7 := { stood := { row := shebangLinesRow, standIns := [], harness := (true, "01d2c9b8a9177f0ee3e7787d37dc5cec375baff8b88ce50f4145ddba383fb3ff"), looks := true }, kinds := [], alts := [], laidByText := true, laidKinds := [.data, .pinned], laidTests := true, laidLooks := .later }
def ShebangLinesCardSaid : Prop := Claim7.holds Tryd.pinned (.plain (OpenSpec.ofChange shebangLinesSpec)) shebangLinesCard

/-- THE SECOND FORM's CARD OF 'hostellaw21.ShebangLines'. -/
def shebangLinesUptoCard : Claim7 := { stood := { row := shebangLinesUptoRow, standIns := [], harness := (true, "01d2c9b8a9177f0ee3e7787d37dc5cec375baff8b88ce50f4145ddba383fb3ff"), looks := true }, kinds := [], alts := [], laidByText := true, laidKinds := [.data, .pinned], laidTests := true, laidLooks := .later }
def ShebangLinesUptoCardSaid : Prop := Claim7.holds Tryd.pinned (.plain (OpenSpec.upto shebangLinesSpec)) shebangLinesUptoCard
end Rows
end Go.Proofs.YthamfhenadaapaaDoor
