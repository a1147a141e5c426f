/-
  DERIVED. GIVEN WITH THE SEED: THE CARDS: each row of YtcbkikioapdbbaaDoorRows.lean that lists a variable, with what it lists TIED to the program's text (the seventh form; the later family's looks); each row that meets fmt, with fmt's text TOLD by the authors' own Lean function (tested against real Go, not proved from fmt's source: count such statements apart). THE CARD IS WHAT COUNTS. Prove the row's statement (the work); the ties are given (YtcbkikioapdbbaaDoorTie.lean); close each card by the builder's one call (the guide's Derived/Test/ToyasCard.lean, 'card_holds'). Laid BY PROGRAM, IN A SANDBOX (cutbox-door.mjs). By AI agents, Wed Nov 11 2026. No macro, syntax, notation, axiom, sorry.
-/
import Derived.Test.YtcbkikioapdbbaaDoorRows
import GoSem.ClaimSeven
namespace Go.Proofs.YtcbkikioapdbbaaDoor
namespace Rows

/-- THE TIED CARD OF 'hostellaw25.CallsChecks'. -/
def callsChecksCard : Claim7 := { stood := { row := callsChecksRow, standIns := [], harness := (true, "4bc59af13abe946081c6ac4cd5f61dbe9a397bcaf3bdcf9fa89e4ac18ccc2f62"), looks := false }, kinds := [], alts := [], laidByText := true, laidKinds := [.data], laidTests := true, laidLooks := .later }
def CallsChecksCardSaid : Prop := Claim7.holds Tryd.pinned (.plain (OpenSpec.ofChange callsChecksSpec)) callsChecksCard

/-- THE TIED CARD OF 'hostellaw25.CallsForms'. -/
def callsFormsCard : Claim7 := { stood := { row := callsFormsRow, standIns := [], harness := (true, "4bc59af13abe946081c6ac4cd5f61dbe9a397bcaf3bdcf9fa89e4ac18ccc2f62"), looks := false }, kinds := [], alts := [], laidByText := true, laidKinds := [.data], laidTests := true, laidLooks := .later }
def CallsFormsCardSaid : Prop := Claim7.holds Tryd.pinned (.plain (OpenSpec.ofChange callsFormsSpec)) callsFormsCard

/-- THE TIED CARD OF 'hostellaw25.CallsReads'. -/
def callsReadsCard : Claim7 := { stood := { row := callsReadsRow, standIns := [], harness := (true, "4bc59af13abe946081c6ac4cd5f61dbe9a397bcaf3bdcf9fa89e4ac18ccc2f62"), looks := false }, kinds := [], alts := [], laidByText := true, laidKinds := [.data], laidTests := true, laidLooks := .later }
def CallsReadsCardSaid : Prop := Claim7.holds Tryd.pinned (.plain (OpenSpec.ofChange callsReadsSpec)) callsReadsCard

/-- THE TIED CARD OF 'hostellaw25.CallsSteps'. -/
def callsStepsCard : Claim7 := { stood := { row := callsStepsRow, standIns := [], harness := (true, "4bc59af13abe946081c6ac4cd5f61dbe9a397bcaf3bdcf9fa89e4ac18ccc2f62"), looks := false }, kinds := [], alts := [], laidByText := true, laidKinds := [.data], laidTests := true, laidLooks := .later }
def CallsStepsCardSaid : Prop := Claim7.holds Tryd.pinned (.plain (OpenSpec.ofChange callsStepsSpec)) callsStepsCard

/-- THE TIED CARD OF 'hostellaw25.CallsBack'. -/
def callsBackCard : Claim7 := { stood := { row := callsBackRow, standIns := [], harness := (true, "4bc59af13abe946081c6ac4cd5f61dbe9a397bcaf3bdcf9fa89e4ac18ccc2f62"), looks := false }, kinds := [], alts := [], laidByText := true, laidKinds := [.data], laidTests := true, laidLooks := .later }
def CallsBackCardSaid : Prop := Claim7.holds Tryd.pinned (.plain (OpenSpec.ofChange callsBackSpec)) callsBackCard

/-- THE TIED CARD OF 'hostellaw25.CallsOne'. -/
def callsOneCard : Claim7 := { stood := { row := callsOneRow, standIns := [], harness := (true, "4bc59af13abe946081c6ac4cd5f61dbe9a397bcaf3bdcf9fa89e4ac18ccc2f62"), looks := false }, kinds := [], alts := [], laidByText := true, laidKinds := [.data], laidTests := true, laidLooks := .later }
def CallsOneCardSaid : Prop := Claim7.holds Tryd.pinned (.plain (OpenSpec.ofChange callsOneSpec)) callsOneCard

/-- THE TIED CARD OF 'hostellaw25.CallsScript'. -/
def callsScriptCard : Claim7 := { stood := { row := callsScriptRow, standIns := [], harness := (true, "4bc59af13abe946081c6ac4cd5f61dbe9a397bcaf3bdcf9fa89e4ac18ccc2f62"), looks := false }, kinds := [], alts := [], laidByText := true, laidKinds := [.data], laidTests := true, laidLooks := .later }
def CallsScriptCardSaid : Prop := Claim7.holds Tryd.pinned (.plain (OpenSpec.ofChange callsScriptSpec)) callsScriptCard

/-- THE SECOND FORM's CARD OF 'hostellaw25.CallsChecks'. -/
def callsChecksUptoCard : Claim7 := { stood := { row := callsChecksUptoRow, standIns := [], harness := (true, "4bc59af13abe946081c6ac4cd5f61dbe9a397bcaf3bdcf9fa89e4ac18ccc2f62"), looks := false }, kinds := [], alts := [], laidByText := true, laidKinds := [.data], laidTests := true, laidLooks := .later }
def CallsChecksUptoCardSaid : Prop := Claim7.holds Tryd.pinned (.plain (OpenSpec.upto callsChecksSpec)) callsChecksUptoCard

/-- THE SECOND FORM's CARD OF 'hostellaw25.CallsForms'. -/
def callsFormsUptoCard : Claim7 := { stood := { row := callsFormsUptoRow, standIns := [], harness := (true, "4bc59af13abe946081c6ac4cd5f61dbe9a397bcaf3bdcf9fa89e4ac18ccc2f62"), looks := false }, kinds := [], alts := [], laidByText := true, laidKinds := [.data], laidTests := true, laidLooks := .later }
def CallsFormsUptoCardSaid : Prop := Claim7.holds Tryd.pinned (.plain (OpenSpec.upto callsFormsSpec)) callsFormsUptoCard

/-- THE SECOND FORM's CARD OF 'hostellaw25.CallsReads'. -/
def callsReadsUptoCard : Claim7 := { stood := { row := callsReadsUptoRow, standIns := [], harness := (true, "4bc59af13abe946081c6ac4cd5f61dbe9a397bcaf3bdcf9fa89e4ac18ccc2f62"), looks := false }, kinds := [], alts := [], laidByText := true, laidKinds := [.data], laidTests := true, laidLooks := .later }
def CallsReadsUptoCardSaid : Prop := Claim7.holds Tryd.pinned (.plain (OpenSpec.upto callsReadsSpec)) callsReadsUptoCard

/-- THE SECOND FORM's CARD OF 'hostellaw25.CallsSteps'. -/
def callsStepsUptoCard : Claim7 := { stood := { row := callsStepsUptoRow, standIns := [], harness := (true, "4bc59af13abe946081c6ac4cd5f61dbe9a397bcaf3bdcf9fa89e4ac18ccc2f62"), looks := false }, kinds := [], alts := [], laidByText := true, laidKinds := [.data], laidTests := true, laidLooks := .later }
def CallsStepsUptoCardSaid : Prop := Claim7.holds Tryd.pinned (.plain (OpenSpec.upto callsStepsSpec)) callsStepsUptoCard

/-- THE SECOND FORM's CARD OF 'hostellaw25.CallsBack'. -/
def callsBackUptoCard : Claim7 := { stood := { row := callsBackUptoRow, standIns := [], harness := (true, "4bc59af13abe946081c6ac4cd5f61dbe9a397bcaf3bdcf9fa89e4ac18ccc2f62"), looks := false }, kinds := [], alts := [], laidByText := true, laidKinds := [.data], laidTests := true, laidLooks := .later }
def CallsBackUptoCardSaid : Prop := Claim7.holds Tryd.pinned (.plain (OpenSpec.upto callsBackSpec)) callsBackUptoCard

/-- THE SECOND FORM's CARD OF 'hostellaw25.CallsOne'. -/
def callsOneUptoCard : Claim7 := { stood := { row := callsOneUptoRow, standIns := [], harness := (true, "4bc59af13abe946081c6ac4cd5f61dbe9a397bcaf3bdcf9fa89e4ac18ccc2f62"), looks := false }, kinds := [], alts := [], laidByText := true, laidKinds := [.data], laidTests := true, laidLooks := .later }
def CallsOneUptoCardSaid : Prop := Claim7.holds Tryd.pinned (.plain (OpenSpec.upto callsOneSpec)) callsOneUptoCard

/-- THE SECOND FORM's CARD OF 'hostellaw25.CallsScript'. -/
def callsScriptUptoCard : Claim7 := { stood := { row := callsScriptUptoRow, standIns := [], harness := (true, "4bc59af13abe946081c6ac4cd5f61dbe9a397bcaf3bdcf9fa89e4ac18ccc2f62"), looks := false }, kinds := [], alts := [], laidByText := true, laidKinds := [.data], laidTests := true, laidLooks := .later }
def CallsScriptUptoCardSaid : Prop := Claim7.holds Tryd.pinned (.plain (OpenSpec.upto callsScriptSpec)) callsScriptUptoCard
end Rows
end Go.Proofs.YtcbkikioapdbbaaDoor
