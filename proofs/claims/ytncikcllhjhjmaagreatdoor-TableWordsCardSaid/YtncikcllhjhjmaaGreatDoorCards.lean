/-
  DERIVED. GIVEN WITH THE SEED: THE CARDS: each row of YtncikcllhjhjmaaGreatDoorRows.lean that lists a variable, with what it lists TIED to the program's text (the seventh form; the later family's looks); each row that meets fmt, with fmt's text TOLD by the authors' own Lean function (tested against real Go, not proved from fmt's source: count such statements apart). THE CARD IS WHAT COUNTS. Prove the row's statement (the work); the ties are given (YtncikcllhjhjmaaGreatDoorTie.lean); close each card by the builder's one call (the guide's Derived/Test/ToyasCard.lean, 'card_holds'). Laid BY PROGRAM, IN A SANDBOX (cutbox-door.mjs). By AI agents, Wed Nov 11 2026. No macro, syntax, notation, axiom, sorry.
-/
import Derived.Test.YtncikcllhjhjmaaGreatDoorRows
import GoSem.ClaimSeven
namespace Go.Proofs.YtncikcllhjhjmaaGreatDoor
namespace Rows

/-- THE TIED CARD OF 'hostellaw09.TableWords'. -/
def tableWordsCard : Claim7 := { stood := { row := tableWordsRow, standIns := [], harness := (true, "3561d6696c80bb4317c240a17ad60f11349684110923ab38213b943de0849489"), looks := true }, kinds := [], alts := [], laidByText := true, laidKinds := [.data, .data], laidTests := true, laidLooks := .later }
def TableWordsCardSaid : Prop := Claim7.holds Tryz.pinned (.plain (OpenSpec.ofChange tableWordsSpec)) tableWordsCard

/-- THE TIED CARD OF 'hostellaw09.TableCounts'. -/
def tableCountsCard : Claim7 := { stood := { row := tableCountsRow, standIns := [], harness := (true, "3561d6696c80bb4317c240a17ad60f11349684110923ab38213b943de0849489"), looks := true }, kinds := [], alts := [], laidByText := true, laidKinds := [.data, .data], laidTests := true, laidLooks := .later }
def TableCountsCardSaid : Prop := Claim7.holds Tryz.pinned (.plain (OpenSpec.ofChange tableCountsSpec)) tableCountsCard

/-- THE TIED CARD OF 'hostellaw09.TableApart'. -/
def tableApartCard : Claim7 := { stood := { row := tableApartRow, standIns := [], harness := (true, "3561d6696c80bb4317c240a17ad60f11349684110923ab38213b943de0849489"), looks := true }, kinds := [], alts := [], laidByText := true, laidKinds := [.data, .data], laidTests := true, laidLooks := .later }
def TableApartCardSaid : Prop := Claim7.holds Tryz.pinned (.plain (OpenSpec.ofChange tableApartSpec)) tableApartCard

/-- THE TIED CARD OF 'hostellaw09.TableUndone'. -/
def tableUndoneCard : Claim7 := { stood := { row := tableUndoneRow, standIns := [], harness := (true, "3561d6696c80bb4317c240a17ad60f11349684110923ab38213b943de0849489"), looks := true }, kinds := [], alts := [], laidByText := true, laidKinds := [.data, .data], laidTests := true, laidLooks := .later }
def TableUndoneCardSaid : Prop := Claim7.holds Tryz.pinned (.plain (OpenSpec.ofChange tableUndoneSpec)) tableUndoneCard

/-- THE TIED CARD OF 'hostellaw09.TableBack'. -/
def tableBackCard : Claim7 := { stood := { row := tableBackRow, standIns := [], harness := (true, "3561d6696c80bb4317c240a17ad60f11349684110923ab38213b943de0849489"), looks := true }, kinds := [], alts := [], laidByText := true, laidKinds := [.data, .data], laidTests := true, laidLooks := .later }
def TableBackCardSaid : Prop := Claim7.holds Tryz.pinned (.plain (OpenSpec.ofChange tableBackSpec)) tableBackCard

/-- THE TIED CARD OF 'hostellaw09.TableFrees'. -/
def tableFreesCard : Claim7 := { stood := { row := tableFreesRow, standIns := [], harness := (true, "3561d6696c80bb4317c240a17ad60f11349684110923ab38213b943de0849489"), looks := true }, kinds := [], alts := [], laidByText := true, laidKinds := [.data, .data], laidTests := true, laidLooks := .later }
def TableFreesCardSaid : Prop := Claim7.holds Tryz.pinned (.plain (OpenSpec.ofChange tableFreesSpec)) tableFreesCard

/-- THE SECOND FORM's CARD OF 'hostellaw09.TableWords'. -/
def tableWordsUptoCard : Claim7 := { stood := { row := tableWordsUptoRow, standIns := [], harness := (true, "3561d6696c80bb4317c240a17ad60f11349684110923ab38213b943de0849489"), looks := true }, kinds := [], alts := [], laidByText := true, laidKinds := [.data, .data], laidTests := true, laidLooks := .later }
def TableWordsUptoCardSaid : Prop := Claim7.holds Tryz.pinned (.plain (OpenSpec.upto tableWordsSpec)) tableWordsUptoCard

/-- THE SECOND FORM's CARD OF 'hostellaw09.TableCounts'. -/
def tableCountsUptoCard : Claim7 := { stood := { row := tableCountsUptoRow, standIns := [], harness := (true, "3561d6696c80bb4317c240a17ad60f11349684110923ab38213b943de0849489"), looks := true }, kinds := [], alts := [], laidByText := true, laidKinds := [.data, .data], laidTests := true, laidLooks := .later }
def TableCountsUptoCardSaid : Prop := Claim7.holds Tryz.pinned (.plain (OpenSpec.upto tableCountsSpec)) tableCountsUptoCard

/-- THE SECOND FORM's CARD OF 'hostellaw09.TableApart'. -/
def tableApartUptoCard : Claim7 := { stood := { row := tableApartUptoRow, standIns := [], harness := (true, "3561d6696c80bb4317c240a17ad60f11349684110923ab38213b943de0849489"), looks := true }, kinds := [], alts := [], laidByText := true, laidKinds := [.data, .data], laidTests := true, laidLooks := .later }
def TableApartUptoCardSaid : Prop := Claim7.holds Tryz.pinned (.plain (OpenSpec.upto tableApartSpec)) tableApartUptoCard

/-- THE SECOND FORM's CARD OF 'hostellaw09.TableUndone'. -/
def tableUndoneUptoCard : Claim7 := { stood := { row := tableUndoneUptoRow, standIns := [], harness := (true, "3561d6696c80bb4317c240a17ad60f11349684110923ab38213b943de0849489"), looks := true }, kinds := [], alts := [], laidByText := true, laidKinds := [.data, .data], laidTests := true, laidLooks := .later }
def TableUndoneUptoCardSaid : Prop := Claim7.holds Tryz.pinned (.plain (OpenSpec.upto tableUndoneSpec)) tableUndoneUptoCard

/-- THE SECOND FORM's CARD OF 'hostellaw09.TableBack'. -/
def tableBackUptoCard : Claim7 := { stood := { row := tableBackUptoRow, standIns := [], harness := (true, "3561d6696c80bb4317c240a17ad60f11349684110923ab38213b943de0849489"), looks := true }, kinds := [], alts := [], laidByText := true, laidKinds := [.data, .data], laidTests := true, laidLooks := .later }
def TableBackUptoCardSaid : Prop := Claim7.holds Tryz.pinned (.plain (OpenSpec.upto tableBackSpec)) tableBackUptoCard

/-- THE SECOND FORM's CARD OF 'hostellaw09.TableFrees'. -/
def tableFreesUptoCard : Claim7 := { stood := { row := tableFreesUptoRow, standIns := [], harness := (true, "3561d6696c80bb4317c240a17ad60f11349684110923ab38213b943de0849489"), looks := true }, kinds := [], alts := [], laidByText := true, laidKinds := [.data, .data], laidTests := true, laidLooks := .later }
def TableFreesUptoCardSaid : Prop := Claim7.holds Tryz.pinned (.plain (OpenSpec.upto tableFreesSpec)) tableFreesUptoCard
end Rows
end Go.Proofs.YtncikcllhjhjmaaGreatDoor
