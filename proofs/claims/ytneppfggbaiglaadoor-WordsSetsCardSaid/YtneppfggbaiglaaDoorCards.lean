/-
  DERIVED. GIVEN WITH THE SEED: THE CARDS: each row of YtneppfggbaiglaaDoorRows.lean that lists a variable, with what it lists TIED to the program's text (the seventh form; the later family's looks); each row that meets fmt, with fmt's text TOLD by the authors' own Lean function (tested against real Go, not proved from fmt's source: count such statements apart). THE CARD IS WHAT COUNTS. Prove the row's statement (the work); the ties are given (YtneppfggbaiglaaDoorTie.lean); close each card by the builder's one call (the guide's Derived/Test/ToyasCard.lean, 'card_holds'). Laid BY PROGRAM, IN A SANDBOX (cutbox-door.mjs). By AI agents, Wed Nov 11 2026. No macro, syntax, notation, axiom, sorry.
-/
import Derived.Test.YtneppfggbaiglaaDoorRows
import GoSem.ClaimSeven
namespace Go.Proofs.YtneppfggbaiglaaDoor
namespace Rows

/-- THE TIED CARD OF 'hostellaw01.WordsGets'. -/
def wordsGetsCard : Claim7 := { stood := { row := wordsGetsRow, standIns := [], harness := (true, "69f74b0649f2cadfc42ff2d2babc5affe36e35b8e216209ecff7c19a29089723"), looks := false }, kinds := [], alts := [], laidByText := true, laidKinds := [.data], laidTests := true, laidLooks := .later }
def WordsGetsCardSaid : Prop := Claim7.holds Tryd.pinned (.plain (OpenSpec.ofChange wordsGetsSpec)) wordsGetsCard

/-- THE TIED CARD OF 'hostellaw01.WordsSets'. -/
def wordsSetsCard : Claim7 := { stood := { row := wordsSetsRow, standIns := [], harness := (true, "69f74b0649f2cadfc42ff2d2babc5affe36e35b8e216209ecff7c19a29089723"), looks := false }, kinds := [], alts := [], laidByText := true, laidKinds := [.data], laidTests := true, laidLooks := .later }
def WordsSetsCardSaid : Prop := Claim7.holds Tryd.pinned (.plain (OpenSpec.ofChange wordsSetsSpec)) wordsSetsCard

/-- THE TIED CARD OF 'hostellaw01.WordsAdds'. -/
def wordsAddsCard : Claim7 := { stood := { row := wordsAddsRow, standIns := [], harness := (true, "69f74b0649f2cadfc42ff2d2babc5affe36e35b8e216209ecff7c19a29089723"), looks := false }, kinds := [], alts := [], laidByText := true, laidKinds := [.data], laidTests := true, laidLooks := .later }
def WordsAddsCardSaid : Prop := Claim7.holds Tryd.pinned (.plain (OpenSpec.ofChange wordsAddsSpec)) wordsAddsCard

/-- THE TIED CARD OF 'hostellaw01.WordsPages'. -/
def wordsPagesCard : Claim7 := { stood := { row := wordsPagesRow, standIns := [], harness := (true, "69f74b0649f2cadfc42ff2d2babc5affe36e35b8e216209ecff7c19a29089723"), looks := false }, kinds := [], alts := [], laidByText := true, laidKinds := [.data], laidTests := true, laidLooks := .later }
def WordsPagesCardSaid : Prop := Claim7.holds Tryd.pinned (.plain (OpenSpec.ofChange wordsPagesSpec)) wordsPagesCard

/-- THE TIED CARD OF 'hostellaw01.WordsBack'. -/
def wordsBackCard : Claim7 := { stood := { row := wordsBackRow, standIns := [], harness := (true, "69f74b0649f2cadfc42ff2d2babc5affe36e35b8e216209ecff7c19a29089723"), looks := false }, kinds := [], alts := [], laidByText := true, laidKinds := [.data], laidTests := true, laidLooks := .later }
def WordsBackCardSaid : Prop := Claim7.holds Tryd.pinned (.plain (OpenSpec.ofChange wordsBackSpec)) wordsBackCard

/-- THE TIED CARD OF 'hostellaw01.WordsParts'. -/
def wordsPartsCard : Claim7 := { stood := { row := wordsPartsRow, standIns := [], harness := (true, "69f74b0649f2cadfc42ff2d2babc5affe36e35b8e216209ecff7c19a29089723"), looks := false }, kinds := [], alts := [], laidByText := true, laidKinds := [.data], laidTests := true, laidLooks := .later }
def WordsPartsCardSaid : Prop := Claim7.holds Tryd.pinned (.plain (OpenSpec.ofChange wordsPartsSpec)) wordsPartsCard

/-- THE SECOND FORM's CARD OF 'hostellaw01.WordsGets'. -/
def wordsGetsUptoCard : Claim7 := { stood := { row := wordsGetsUptoRow, standIns := [], harness := (true, "69f74b0649f2cadfc42ff2d2babc5affe36e35b8e216209ecff7c19a29089723"), looks := false }, kinds := [], alts := [], laidByText := true, laidKinds := [.data], laidTests := true, laidLooks := .later }
def WordsGetsUptoCardSaid : Prop := Claim7.holds Tryd.pinned (.plain (OpenSpec.upto wordsGetsSpec)) wordsGetsUptoCard

/-- THE SECOND FORM's CARD OF 'hostellaw01.WordsSets'. -/
def wordsSetsUptoCard : Claim7 := { stood := { row := wordsSetsUptoRow, standIns := [], harness := (true, "69f74b0649f2cadfc42ff2d2babc5affe36e35b8e216209ecff7c19a29089723"), looks := false }, kinds := [], alts := [], laidByText := true, laidKinds := [.data], laidTests := true, laidLooks := .later }
def WordsSetsUptoCardSaid : Prop := Claim7.holds Tryd.pinned (.plain (OpenSpec.upto wordsSetsSpec)) wordsSetsUptoCard

/-- THE SECOND FORM's CARD OF 'hostellaw01.WordsAdds'. -/
def wordsAddsUptoCard : Claim7 := { stood := { row := wordsAddsUptoRow, standIns := [], harness := (true, "69f74b0649f2cadfc42ff2d2babc5affe36e35b8e216209ecff7c19a29089723"), looks := false }, kinds := [], alts := [], laidByText := true, laidKinds := [.data], laidTests := true, laidLooks := .later }
def WordsAddsUptoCardSaid : Prop := Claim7.holds Tryd.pinned (.plain (OpenSpec.upto wordsAddsSpec)) wordsAddsUptoCard

/-- THE SECOND FORM's CARD OF 'hostellaw01.WordsPages'. -/
def wordsPagesUptoCard : Claim7 := { stood := { row := wordsPagesUptoRow, standIns := [], harness := (true, "69f74b0649f2cadfc42ff2d2babc5affe36e35b8e216209ecff7c19a29089723"), looks := false }, kinds := [], alts := [], laidByText := true, laidKinds := [.data], laidTests := true, laidLooks := .later }
def WordsPagesUptoCardSaid : Prop := Claim7.holds Tryd.pinned (.plain (OpenSpec.upto wordsPagesSpec)) wordsPagesUptoCard

/-- THE SECOND FORM's CARD OF 'hostellaw01.WordsBack'. -/
def wordsBackUptoCard : Claim7 := { stood := { row := wordsBackUptoRow, standIns := [], harness := (true, "69f74b0649f2cadfc42ff2d2babc5affe36e35b8e216209ecff7c19a29089723"), looks := false }, kinds := [], alts := [], laidByText := true, laidKinds := [.data], laidTests := true, laidLooks := .later }
def WordsBackUptoCardSaid : Prop := Claim7.holds Tryd.pinned (.plain (OpenSpec.upto wordsBackSpec)) wordsBackUptoCard

/-- THE SECOND FORM's CARD OF 'hostellaw01.WordsParts'. -/
def wordsPartsUptoCard : Claim7 := { stood := { row := wordsPartsUptoRow, standIns := [], harness := (true, "69f74b0649f2cadfc42ff2d2babc5affe36e35b8e216209ecff7c19a29089723"), looks := false }, kinds := [], alts := [], laidByText := true, laidKinds := [.data], laidTests := true, laidLooks := .later }
def WordsPartsUptoCardSaid : Prop := Claim7.holds Tryd.pinned (.plain (OpenSpec.upto wordsPartsSpec)) wordsPartsUptoCard
end Rows
end Go.Proofs.YtneppfggbaiglaaDoor
