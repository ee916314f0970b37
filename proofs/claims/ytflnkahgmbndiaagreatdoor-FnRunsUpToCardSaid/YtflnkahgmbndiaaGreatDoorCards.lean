/-
  DERIVED. GIVEN WITH THE SEED: THE CARDS: each row of YtflnkahgmbndiaaGreatDoorRows.lean that lists a variable, with what it lists TIED to the program's text (the seventh form; the later family's looks); each row that meets fmt, with fmt's text TOLD by the authors' own Lean function (tested against real Go, not proved from fmt's source: count such statements apart). THE CARD IS WHAT COUNTS. Prove the row's statement (the work); the ties are given (YtflnkahgmbndiaaGreatDoorTie.lean); close each card by the builder's one call (the guide's Derived/Test/ToyasCard.lean, 'card_holds'). Laid BY PROGRAM, IN A SANDBOX (cutbox-door.mjs). By AI agents, Wed Nov 11 2026. No macro, syntax, notation, axiom, sorry.
-/
import Derived.Test.YtflnkahgmbndiaaGreatDoorRows
import GoSem.ClaimSeven
namespace Go.Proofs.YtflnkahgmbndiaaGreatDoor
namespace Rows

/-- THE TIED CARD OF 'laws.FnRunsUpTo'. -/
def fnRunsUpToCard : Claim7 := { stood := { row := fnRunsUpToRow, standIns := [], harness := (true, "7da1889301c497732c62379c4420a9dbbde49b21b86251b872a696e0e2a63f79"), looks := false }, kinds := [], alts := [], laidByText := true, laidKinds := [.sentinel, .sentinel, .sentinel, .sentinel, .sentinel, .sentinel, .sentinel], laidTests := true, laidLooks := .later }
def FnRunsUpToCardSaid : Prop := Claim7.holds Tryz.pinned (.plain (OpenSpec.ofChange fnRunsUpToSpec)) fnRunsUpToCard

/-- THE TIED CARD OF 'laws.FnExactParsePlace'. -/
def fnExactParsePlaceCard : Claim7 := { stood := { row := fnExactParsePlaceRow, standIns := [], harness := (true, "7da1889301c497732c62379c4420a9dbbde49b21b86251b872a696e0e2a63f79"), looks := false }, kinds := [], alts := [], laidByText := true, laidKinds := [.data, .data, .data, .data, .sentinel, .sentinel, .sentinel, .sentinel, .sentinel, .sentinel, .sentinel, .sentinel, .sentinel, .sentinel, .pinned], laidTests := true, laidLooks := .later }
def FnExactParsePlaceCardSaid : Prop := Claim7.holds Tryz.pinned (.plain (OpenSpec.ofChange fnExactParsePlaceSpec)) fnExactParsePlaceCard

/-- THE TIED CARD OF 'laws.FnPlaceText'. -/
def fnPlaceTextCard : Claim7 := { stood := { row := fnPlaceTextRow, standIns := [], harness := (true, "7da1889301c497732c62379c4420a9dbbde49b21b86251b872a696e0e2a63f79"), looks := false }, kinds := [], alts := [], laidByText := true, laidKinds := [.data, .data, .data, .data, .sentinel, .sentinel, .sentinel, .sentinel, .sentinel, .sentinel, .sentinel, .sentinel, .sentinel, .sentinel, .pinned], laidTests := true, laidLooks := .later }
def FnPlaceTextCardSaid : Prop := Claim7.holds Tryz.pinned (.plain (OpenSpec.ofChange fnPlaceTextSpec)) fnPlaceTextCard

/-- THE SECOND FORM's CARD OF 'laws.FnRunsUpTo'. -/
def fnRunsUpToUptoCard : Claim7 := { stood := { row := fnRunsUpToUptoRow, standIns := [], harness := (true, "7da1889301c497732c62379c4420a9dbbde49b21b86251b872a696e0e2a63f79"), looks := false }, kinds := [], alts := [], laidByText := true, laidKinds := [.sentinel, .sentinel, .sentinel, .sentinel, .sentinel, .sentinel, .sentinel], laidTests := true, laidLooks := .later }
def FnRunsUpToUptoCardSaid : Prop := Claim7.holds Tryz.pinned (.plain (OpenSpec.upto fnRunsUpToSpec)) fnRunsUpToUptoCard

/-- THE SECOND FORM's CARD OF 'laws.FnExactParsePlace'. -/
def fnExactParsePlaceUptoCard : Claim7 := { stood := { row := fnExactParsePlaceUptoRow, standIns := [], harness := (true, "7da1889301c497732c62379c4420a9dbbde49b21b86251b872a696e0e2a63f79"), looks := false }, kinds := [], alts := [], laidByText := true, laidKinds := [.data, .data, .data, .data, .sentinel, .sentinel, .sentinel, .sentinel, .sentinel, .sentinel, .sentinel, .sentinel, .sentinel, .sentinel, .pinned], laidTests := true, laidLooks := .later }
def FnExactParsePlaceUptoCardSaid : Prop := Claim7.holds Tryz.pinned (.plain (OpenSpec.upto fnExactParsePlaceSpec)) fnExactParsePlaceUptoCard

/-- THE SECOND FORM's CARD OF 'laws.FnPlaceText'. -/
def fnPlaceTextUptoCard : Claim7 := { stood := { row := fnPlaceTextUptoRow, standIns := [], harness := (true, "7da1889301c497732c62379c4420a9dbbde49b21b86251b872a696e0e2a63f79"), looks := false }, kinds := [], alts := [], laidByText := true, laidKinds := [.data, .data, .data, .data, .sentinel, .sentinel, .sentinel, .sentinel, .sentinel, .sentinel, .sentinel, .sentinel, .sentinel, .sentinel, .pinned], laidTests := true, laidLooks := .later }
def FnPlaceTextUptoCardSaid : Prop := Claim7.holds Tryz.pinned (.plain (OpenSpec.upto fnPlaceTextSpec)) fnPlaceTextUptoCard
end Rows
end Go.Proofs.YtflnkahgmbndiaaGreatDoor
