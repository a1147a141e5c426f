/-
  DERIVED. GIVEN WITH THE SEED: THE CARDS: each row of YtaaohcpiideaaaaDoorRows.lean that lists a variable, with what it lists TIED to the program's text (the seventh form; the later family's looks); each row that meets fmt, with fmt's text TOLD by the authors' own Lean function (tested against real Go, not proved from fmt's source: count such statements apart). THE CARD IS WHAT COUNTS. Prove the row's statement (the work); the ties are given (YtaaohcpiideaaaaDoorTie.lean); close each card by the builder's one call (the guide's Derived/Test/ToyasCard.lean, 'card_holds'). Laid BY PROGRAM, IN A SANDBOX (cutbox-door.mjs). By AI agents, Wed Nov 11 2026. No macro, syntax, notation, axiom, sorry.
-/
import Derived.Test.YtaaohcpiideaaaaDoorRows
import GoSem.ClaimSeven
namespace Go.Proofs.YtaaohcpiideaaaaDoor
namespace Rows

/-- THE TIED CARD OF 'hostellaw12.ElfTells'. -/
def elfTellsCard : Claim7 := { stood := { row := elfTellsRow, standIns := [], harness := (true, "303fb6a65732b0f8e44c84b8ffbda14bbf928c7f9f8e023ab1ed36e7295dc015"), looks := true }, kinds := [], alts := [], laidByText := true, laidKinds := [.data], laidTests := true, laidLooks := .later }
def ElfTellsCardSaid : Prop := Claim7.holds Tryd.pinned (.plain (OpenSpec.ofChange elfTellsSpec)) elfTellsCard

/-- THE TIED CARD OF 'hostellaw12.ElfHolds'. -/
def elfHoldsCard : Claim7 := { stood := { row := elfHoldsRow, standIns := [], harness := (true, "303fb6a65732b0f8e44c84b8ffbda14bbf928c7f9f8e023ab1ed36e7295dc015"), looks := true }, kinds := [], alts := [], laidByText := true, laidKinds := [.data], laidTests := true, laidLooks := .later }
def ElfHoldsCardSaid : Prop := Claim7.holds Tryd.pinned (.plain (OpenSpec.ofChange elfHoldsSpec)) elfHoldsCard

/-- THE TIED CARD OF 'hostellaw12.ElfFree'. -/
def elfFreeCard : Claim7 := { stood := { row := elfFreeRow, standIns := [], harness := (true, "303fb6a65732b0f8e44c84b8ffbda14bbf928c7f9f8e023ab1ed36e7295dc015"), looks := true }, kinds := [], alts := [], laidByText := true, laidKinds := [.data], laidTests := true, laidLooks := .later }
def ElfFreeCardSaid : Prop := Claim7.holds Tryd.pinned (.plain (OpenSpec.ofChange elfFreeSpec)) elfFreeCard

/-- THE TIED CARD OF 'hostellaw12.ElfCut'. -/
def elfCutCard : Claim7 := { stood := { row := elfCutRow, standIns := [], harness := (true, "303fb6a65732b0f8e44c84b8ffbda14bbf928c7f9f8e023ab1ed36e7295dc015"), looks := true }, kinds := [], alts := [], laidByText := true, laidKinds := [.data], laidTests := true, laidLooks := .later }
def ElfCutCardSaid : Prop := Claim7.holds Tryd.pinned (.plain (OpenSpec.ofChange elfCutSpec)) elfCutCard

/-- THE SECOND FORM's CARD OF 'hostellaw12.ElfTells'. -/
def elfTellsUptoCard : Claim7 := { stood := { row := elfTellsUptoRow, standIns := [], harness := (true, "303fb6a65732b0f8e44c84b8ffbda14bbf928c7f9f8e023ab1ed36e7295dc015"), looks := true }, kinds := [], alts := [], laidByText := true, laidKinds := [.data], laidTests := true, laidLooks := .later }
def ElfTellsUptoCardSaid : Prop := Claim7.holds Tryd.pinned (.plain (OpenSpec.upto elfTellsSpec)) elfTellsUptoCard

/-- THE SECOND FORM's CARD OF 'hostellaw12.ElfHolds'. -/
def elfHoldsUptoCard : Claim7 := { stood := { row := elfHoldsUptoRow, standIns := [], harness := (true, "303fb6a65732b0f8e44c84b8ffbda14bbf928c7f9f8e023ab1ed36e7295dc015"), looks := true }, kinds := [], alts := [], laidByText := true, laidKinds := [.data], laidTests := true, laidLooks := .later }
def ElfHoldsUptoCardSaid : Prop := Claim7.holds Tryd.pinned (.plain (OpenSpec.upto elfHoldsSpec)) elfHoldsUptoCard

/-- THE SECOND FORM's CARD OF 'hostellaw12.ElfFree'. -/
def elfFreeUptoCard : Claim7 := { stood := { row := elfFreeUptoRow, standIns := [], harness := (true, "303fb6a65732b0f8e44c84b8ffbda14bbf928c7f9f8e023ab1ed36e7295dc015"), looks := true }, kinds := [], alts := [], laidByText := true, laidKinds := [.data], laidTests := true, laidLooks := .later }
def ElfFreeUptoCardSaid : Prop := Claim7.holds Tryd.pinned (.plain (OpenSpec.upto elfFreeSpec)) elfFreeUptoCard

/-- THE SECOND FORM's CARD OF 'hostellaw12.ElfCut'. -/
def elfCutUptoCard : Claim7 := { stood := { row := elfCutUptoRow, standIns := [], harness := (true, "303fb6a65732b0f8e44c84b8ffbda14bbf928c7f9f8e023ab1ed36e7295dc015"), looks := true }, kinds := [], alts := [], laidByText := true, laidKinds := [.data], laidTests := true, laidLooks := .later }
def ElfCutUptoCardSaid : Prop := Claim7.holds Tryd.pinned (.plain (OpenSpec.upto elfCutSpec)) elfCutUptoCard
end Rows
end Go.Proofs.YtaaohcpiideaaaaDoor
