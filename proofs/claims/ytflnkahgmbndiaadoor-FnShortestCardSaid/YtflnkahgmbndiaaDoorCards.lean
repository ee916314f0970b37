/-
  DERIVED. GIVEN WITH THE SEED: THE CARDS: each row of YtflnkahgmbndiaaDoorRows.lean that lists a variable, with what it lists TIED to the program's text (the seventh form; the later family's looks); each row that meets fmt, with fmt's text TOLD by the authors' own Lean function (tested against real Go, not proved from fmt's source: count such statements apart). THE CARD IS WHAT COUNTS. Prove the row's statement (the work); the ties are given (YtflnkahgmbndiaaDoorTie.lean); close each card by the builder's one call (the guide's Derived/Test/ToyasCard.lean, 'card_holds'). Laid BY PROGRAM, IN A SANDBOX (cutbox-door.mjs). By AI agents, Wed Nov 11 2026. No macro, syntax, notation, axiom, sorry.
-/
import Derived.Test.YtflnkahgmbndiaaDoorRows
import GoSem.ClaimSeven
namespace Go.Proofs.YtflnkahgmbndiaaDoor
namespace Rows

/-- THE TIED CARD OF 'laws.FnExactRunsUpTo'. -/
def fnExactRunsUpToCard : Claim7 := { stood := { row := fnExactRunsUpToRow, standIns := [], harness := (true, "b3cb7ed4d4369da39e99fbb38eabd381d272e8b97fcb7c7d40db3342abdee238"), looks := false }, kinds := [], alts := [], laidByText := true, laidKinds := [.sentinel, .sentinel, .sentinel, .sentinel, .sentinel, .sentinel, .sentinel], laidTests := true, laidLooks := .later }
def FnExactRunsUpToCardSaid : Prop := Claim7.holds Tryd.pinned (.plain (OpenSpec.ofChange fnExactRunsUpToSpec)) fnExactRunsUpToCard

/-- THE TIED CARD OF 'laws.FnShortest'. -/
def fnShortestCard : Claim7 := { stood := { row := fnShortestRow, standIns := [], harness := (true, "b3cb7ed4d4369da39e99fbb38eabd381d272e8b97fcb7c7d40db3342abdee238"), looks := false }, kinds := [], alts := [], laidByText := true, laidKinds := [.sentinel, .sentinel, .sentinel, .sentinel, .sentinel, .sentinel, .sentinel], laidTests := true, laidLooks := .later }
def FnShortestCardSaid : Prop := Claim7.holds Tryd.pinned (.plain (OpenSpec.ofChange fnShortestSpec)) fnShortestCard

/-- THE TIED CARD OF 'laws.FnExactFormatPlace'. -/
def fnExactFormatPlaceCard : Claim7 := { stood := { row := fnExactFormatPlaceRow, standIns := [], harness := (true, "b3cb7ed4d4369da39e99fbb38eabd381d272e8b97fcb7c7d40db3342abdee238"), looks := false }, kinds := [], alts := [], laidByText := true, laidKinds := [.data, .data, .data, .sentinel, .sentinel, .sentinel, .sentinel, .sentinel, .sentinel, .sentinel, .sentinel], laidTests := true, laidLooks := .later }
def FnExactFormatPlaceCardSaid : Prop := Claim7.holds Tryd.pinned (.plain (OpenSpec.ofChange fnExactFormatPlaceSpec)) fnExactFormatPlaceCard

/-- THE SECOND FORM's CARD OF 'laws.FnExactRunsUpTo'. -/
def fnExactRunsUpToUptoCard : Claim7 := { stood := { row := fnExactRunsUpToUptoRow, standIns := [], harness := (true, "b3cb7ed4d4369da39e99fbb38eabd381d272e8b97fcb7c7d40db3342abdee238"), looks := false }, kinds := [], alts := [], laidByText := true, laidKinds := [.sentinel, .sentinel, .sentinel, .sentinel, .sentinel, .sentinel, .sentinel], laidTests := true, laidLooks := .later }
def FnExactRunsUpToUptoCardSaid : Prop := Claim7.holds Tryd.pinned (.plain (OpenSpec.upto fnExactRunsUpToSpec)) fnExactRunsUpToUptoCard

/-- THE SECOND FORM's CARD OF 'laws.FnShortest'. -/
def fnShortestUptoCard : Claim7 := { stood := { row := fnShortestUptoRow, standIns := [], harness := (true, "b3cb7ed4d4369da39e99fbb38eabd381d272e8b97fcb7c7d40db3342abdee238"), looks := false }, kinds := [], alts := [], laidByText := true, laidKinds := [.sentinel, .sentinel, .sentinel, .sentinel, .sentinel, .sentinel, .sentinel], laidTests := true, laidLooks := .later }
def FnShortestUptoCardSaid : Prop := Claim7.holds Tryd.pinned (.plain (OpenSpec.upto fnShortestSpec)) fnShortestUptoCard

/-- THE SECOND FORM's CARD OF 'laws.FnExactFormatPlace'. -/
def fnExactFormatPlaceUptoCard : Claim7 := { stood := { row := fnExactFormatPlaceUptoRow, standIns := [], harness := (true, "b3cb7ed4d4369da39e99fbb38eabd381d272e8b97fcb7c7d40db3342abdee238"), looks := false }, kinds := [], alts := [], laidByText := true, laidKinds := [.data, .data, .data, .sentinel, .sentinel, .sentinel, .sentinel, .sentinel, .sentinel, .sentinel, .sentinel], laidTests := true, laidLooks := .later }
def FnExactFormatPlaceUptoCardSaid : Prop := Claim7.holds Tryd.pinned (.plain (OpenSpec.upto fnExactFormatPlaceSpec)) fnExactFormatPlaceUptoCard
end Rows
end Go.Proofs.YtflnkahgmbndiaaDoor
