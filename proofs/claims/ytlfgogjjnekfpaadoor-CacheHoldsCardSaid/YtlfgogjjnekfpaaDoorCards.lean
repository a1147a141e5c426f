/-
  DERIVED. GIVEN WITH THE SEED: THE CARDS: each row of YtlfgogjjnekfpaaDoorRows.lean that lists a variable, with what it lists TIED to the program's text (the seventh form; the later family's looks); each row that meets fmt, with fmt's text TOLD by the authors' own Lean function (tested against real Go, not proved from fmt's source: count such statements apart). THE CARD IS WHAT COUNTS. Prove the row's statement (the work); the ties are given (YtlfgogjjnekfpaaDoorTie.lean); close each card by the builder's one call (the guide's Derived/Test/ToyasCard.lean, 'card_holds'). Laid BY PROGRAM, IN A SANDBOX (cutbox-door.mjs). By AI agents, Wed Nov 11 2026. No macro, syntax, notation, axiom, sorry.
-/
import Derived.Test.YtlfgogjjnekfpaaDoorRows
import GoSem.ClaimSeven
namespace Go.Proofs.YtlfgogjjnekfpaaDoor
namespace Rows

/-- THE TIED CARD OF 'hostellaw08.CacheNil'. -/
def cacheNilCard : Claim7 := { stood := { row := cacheNilRow, standIns := [], harness := (true, "77a12f389bb9ec1be861c7edf5483fa0cc15bb17c5fb225042f739729aadff85"), looks := true }, kinds := [], alts := [], laidByText := true, laidKinds := [.data], laidTests := true, laidLooks := .later }
def CacheNilCardSaid : Prop := Claim7.holds Tryd.pinned (.plain (OpenSpec.ofChange cacheNilSpec)) cacheNilCard

/-- THE TIED CARD OF 'hostellaw08.CacheCounts'. -/
def cacheCountsCard : Claim7 := { stood := { row := cacheCountsRow, standIns := [], harness := (true, "77a12f389bb9ec1be861c7edf5483fa0cc15bb17c5fb225042f739729aadff85"), looks := true }, kinds := [], alts := [], laidByText := true, laidKinds := [.data], laidTests := true, laidLooks := .later }
def CacheCountsCardSaid : Prop := Claim7.holds Tryd.pinned (.plain (OpenSpec.ofChange cacheCountsSpec)) cacheCountsCard

/-- THE TIED CARD OF 'hostellaw08.CacheFills'. -/
def cacheFillsCard : Claim7 := { stood := { row := cacheFillsRow, standIns := [], harness := (true, "77a12f389bb9ec1be861c7edf5483fa0cc15bb17c5fb225042f739729aadff85"), looks := true }, kinds := [], alts := [], laidByText := true, laidKinds := [.data], laidTests := true, laidLooks := .later }
def CacheFillsCardSaid : Prop := Claim7.holds Tryd.pinned (.plain (OpenSpec.ofChange cacheFillsSpec)) cacheFillsCard

/-- THE TIED CARD OF 'hostellaw08.CacheHolds'. -/
def cacheHoldsCard : Claim7 := { stood := { row := cacheHoldsRow, standIns := [], harness := (true, "77a12f389bb9ec1be861c7edf5483fa0cc15bb17c5fb225042f739729aadff85"), looks := true }, kinds := [], alts := [], laidByText := true, laidKinds := [.data], laidTests := true, laidLooks := .later }
def CacheHoldsCardSaid : Prop := Claim7.holds Tryd.pinned (.plain (OpenSpec.ofChange cacheHoldsSpec)) cacheHoldsCard

/-- THE TIED CARD OF 'hostellaw08.CacheRoom'. -/
def cacheRoomCard : Claim7 := { stood := { row := cacheRoomRow, standIns := [], harness := (true, "77a12f389bb9ec1be861c7edf5483fa0cc15bb17c5fb225042f739729aadff85"), looks := true }, kinds := [], alts := [], laidByText := true, laidKinds := [.data], laidTests := true, laidLooks := .later }
def CacheRoomCardSaid : Prop := Claim7.holds Tryd.pinned (.plain (OpenSpec.ofChange cacheRoomSpec)) cacheRoomCard

/-- THE TIED CARD OF 'hostellaw08.CacheDrops'. -/
def cacheDropsCard : Claim7 := { stood := { row := cacheDropsRow, standIns := [], harness := (true, "77a12f389bb9ec1be861c7edf5483fa0cc15bb17c5fb225042f739729aadff85"), looks := true }, kinds := [], alts := [], laidByText := true, laidKinds := [.data], laidTests := true, laidLooks := .later }
def CacheDropsCardSaid : Prop := Claim7.holds Tryd.pinned (.plain (OpenSpec.ofChange cacheDropsSpec)) cacheDropsCard

/-- THE SECOND FORM's CARD OF 'hostellaw08.CacheNil'. -/
def cacheNilUptoCard : Claim7 := { stood := { row := cacheNilUptoRow, standIns := [], harness := (true, "77a12f389bb9ec1be861c7edf5483fa0cc15bb17c5fb225042f739729aadff85"), looks := true }, kinds := [], alts := [], laidByText := true, laidKinds := [.data], laidTests := true, laidLooks := .later }
def CacheNilUptoCardSaid : Prop := Claim7.holds Tryd.pinned (.plain (OpenSpec.upto cacheNilSpec)) cacheNilUptoCard

/-- THE SECOND FORM's CARD OF 'hostellaw08.CacheCounts'. -/
def cacheCountsUptoCard : Claim7 := { stood := { row := cacheCountsUptoRow, standIns := [], harness := (true, "77a12f389bb9ec1be861c7edf5483fa0cc15bb17c5fb225042f739729aadff85"), looks := true }, kinds := [], alts := [], laidByText := true, laidKinds := [.data], laidTests := true, laidLooks := .later }
def CacheCountsUptoCardSaid : Prop := Claim7.holds Tryd.pinned (.plain (OpenSpec.upto cacheCountsSpec)) cacheCountsUptoCard

/-- THE SECOND FORM's CARD OF 'hostellaw08.CacheFills'. -/
def cacheFillsUptoCard : Claim7 := { stood := { row := cacheFillsUptoRow, standIns := [], harness := (true, "77a12f389bb9ec1be861c7edf5483fa0cc15bb17c5fb225042f739729aadff85"), looks := true }, kinds := [], alts := [], laidByText := true, laidKinds := [.data], laidTests := true, laidLooks := .later }
def CacheFillsUptoCardSaid : Prop := Claim7.holds Tryd.pinned (.plain (OpenSpec.upto cacheFillsSpec)) cacheFillsUptoCard

/-- THE SECOND FORM's CARD OF 'hostellaw08.CacheHolds'. -/
def cacheHoldsUptoCard : Claim7 := { stood := { row := cacheHoldsUptoRow, standIns := [], harness := (true, "77a12f389bb9ec1be861c7edf5483fa0cc15bb17c5fb225042f739729aadff85"), looks := true }, kinds := [], alts := [], laidByText := true, laidKinds := [.data], laidTests := true, laidLooks := .later }
def CacheHoldsUptoCardSaid : Prop := Claim7.holds Tryd.pinned (.plain (OpenSpec.upto cacheHoldsSpec)) cacheHoldsUptoCard

/-- THE SECOND FORM's CARD OF 'hostellaw08.CacheRoom'. -/
def cacheRoomUptoCard : Claim7 := { stood := { row := cacheRoomUptoRow, standIns := [], harness := (true, "77a12f389bb9ec1be861c7edf5483fa0cc15bb17c5fb225042f739729aadff85"), looks := true }, kinds := [], alts := [], laidByText := true, laidKinds := [.data], laidTests := true, laidLooks := .later }
def CacheRoomUptoCardSaid : Prop := Claim7.holds Tryd.pinned (.plain (OpenSpec.upto cacheRoomSpec)) cacheRoomUptoCard

/-- THE SECOND FORM's CARD OF 'hostellaw08.CacheDrops'. -/
def cacheDropsUptoCard : Claim7 := { stood := { row := cacheDropsUptoRow, standIns := [], harness := (true, "77a12f389bb9ec1be861c7edf5483fa0cc15bb17c5fb225042f739729aadff85"), looks := true }, kinds := [], alts := [], laidByText := true, laidKinds := [.data], laidTests := true, laidLooks := .later }
def CacheDropsUptoCardSaid : Prop := Claim7.holds Tryd.pinned (.plain (OpenSpec.upto cacheDropsSpec)) cacheDropsUptoCard
end Rows
end Go.Proofs.YtlfgogjjnekfpaaDoor
