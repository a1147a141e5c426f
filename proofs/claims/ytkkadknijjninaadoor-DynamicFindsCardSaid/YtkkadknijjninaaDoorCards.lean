/-
  DERIVED. GIVEN WITH THE SEED: THE CARDS: each row of YtkkadknijjninaaDoorRows.lean that lists a variable, with what it lists TIED to the program's text (the seventh form; the later family's looks); each row that meets fmt, with fmt's text TOLD by the authors' own Lean function (tested against real Go, not proved from fmt's source: count such statements apart). THE CARD IS WHAT COUNTS. Prove the row's statement (the work); the ties are given (YtkkadknijjninaaDoorTie.lean); close each card by the builder's one call (the guide's Derived/Test/ToyasCard.lean, 'card_holds'). Laid BY PROGRAM, IN A SANDBOX (cutbox-door.mjs). By AI agents, Wed Nov 11 2026. No macro, syntax, notation, axiom, sorry.
-/
import Derived.Test.YtkkadknijjninaaDoorRows
import GoSem.ClaimSeven
namespace Go.Proofs.YtkkadknijjninaaDoor
namespace Rows

/-- THE TIED CARD OF 'hostellaw13.DynamicLooks'. -/
def dynamicLooksCard : Claim7 := { stood := { row := dynamicLooksRow, standIns := [], harness := (true, "5ca1c0c7abfb88a58fdfc6c2548b6caeba7f5e18cc0f18fbee2110fe7d31188d"), looks := false }, kinds := [], alts := [], laidByText := true, laidKinds := [.data], laidTests := true, laidLooks := .later }
def DynamicLooksCardSaid : Prop := Claim7.holds Tryd.pinned (.plain (OpenSpec.ofChange dynamicLooksSpec)) dynamicLooksCard

/-- THE TIED CARD OF 'hostellaw13.DynamicFinds'. -/
def dynamicFindsCard : Claim7 := { stood := { row := dynamicFindsRow, standIns := [], harness := (true, "5ca1c0c7abfb88a58fdfc6c2548b6caeba7f5e18cc0f18fbee2110fe7d31188d"), looks := false }, kinds := [], alts := [], laidByText := true, laidKinds := [.data], laidTests := true, laidLooks := .later }
def DynamicFindsCardSaid : Prop := Claim7.holds Tryd.pinned (.plain (OpenSpec.ofChange dynamicFindsSpec)) dynamicFindsCard

/-- THE TIED CARD OF 'hostellaw13.DynamicHolds'. -/
def dynamicHoldsCard : Claim7 := { stood := { row := dynamicHoldsRow, standIns := [], harness := (true, "5ca1c0c7abfb88a58fdfc6c2548b6caeba7f5e18cc0f18fbee2110fe7d31188d"), looks := false }, kinds := [], alts := [], laidByText := true, laidKinds := [.data], laidTests := true, laidLooks := .later }
def DynamicHoldsCardSaid : Prop := Claim7.holds Tryd.pinned (.plain (OpenSpec.ofChange dynamicHoldsSpec)) dynamicHoldsCard

/-- THE TIED CARD OF 'hostellaw13.DynamicNone'. -/
def dynamicNoneCard : Claim7 := { stood := { row := dynamicNoneRow, standIns := [], harness := (true, "5ca1c0c7abfb88a58fdfc6c2548b6caeba7f5e18cc0f18fbee2110fe7d31188d"), looks := false }, kinds := [], alts := [], laidByText := true, laidKinds := [.data], laidTests := true, laidLooks := .later }
def DynamicNoneCardSaid : Prop := Claim7.holds Tryd.pinned (.plain (OpenSpec.ofChange dynamicNoneSpec)) dynamicNoneCard

/-- THE SECOND FORM's CARD OF 'hostellaw13.DynamicLooks'. -/
def dynamicLooksUptoCard : Claim7 := { stood := { row := dynamicLooksUptoRow, standIns := [], harness := (true, "5ca1c0c7abfb88a58fdfc6c2548b6caeba7f5e18cc0f18fbee2110fe7d31188d"), looks := false }, kinds := [], alts := [], laidByText := true, laidKinds := [.data], laidTests := true, laidLooks := .later }
def DynamicLooksUptoCardSaid : Prop := Claim7.holds Tryd.pinned (.plain (OpenSpec.upto dynamicLooksSpec)) dynamicLooksUptoCard

/-- THE SECOND FORM's CARD OF 'hostellaw13.DynamicFinds'. -/
def dynamicFindsUptoCard : Claim7 := { stood := { row := dynamicFindsUptoRow, standIns := [], harness := (true, "5ca1c0c7abfb88a58fdfc6c2548b6caeba7f5e18cc0f18fbee2110fe7d31188d"), looks := false }, kinds := [], alts := [], laidByText := true, laidKinds := [.data], laidTests := true, laidLooks := .later }
def DynamicFindsUptoCardSaid : Prop := Claim7.holds Tryd.pinned (.plain (OpenSpec.upto dynamicFindsSpec)) dynamicFindsUptoCard

/-- THE SECOND FORM's CARD OF 'hostellaw13.DynamicHolds'. -/
def dynamicHoldsUptoCard : Claim7 := { stood := { row := dynamicHoldsUptoRow, standIns := [], harness := (true, "5ca1c0c7abfb88a58fdfc6c2548b6caeba7f5e18cc0f18fbee2110fe7d31188d"), looks := false }, kinds := [], alts := [], laidByText := true, laidKinds := [.data], laidTests := true, laidLooks := .later }
def DynamicHoldsUptoCardSaid : Prop := Claim7.holds Tryd.pinned (.plain (OpenSpec.upto dynamicHoldsSpec)) dynamicHoldsUptoCard

/-- THE SECOND FORM's CARD OF 'hostellaw13.DynamicNone'. -/
def dynamicNoneUptoCard : Claim7 := { stood := { row := dynamicNoneUptoRow, standIns := [], harness := (true, "5ca1c0c7abfb88a58fdfc6c2548b6caeba7f5e18cc0f18fbee2110fe7d31188d"), looks := false }, kinds := [], alts := [], laidByText := true, laidKinds := [.data], laidTests := true, laidLooks := .later }
def DynamicNoneUptoCardSaid : Prop := Claim7.holds Tryd.pinned (.plain (OpenSpec.upto dynamicNoneSpec)) dynamicNoneUptoCard
end Rows
end Go.Proofs.YtkkadknijjninaaDoor
