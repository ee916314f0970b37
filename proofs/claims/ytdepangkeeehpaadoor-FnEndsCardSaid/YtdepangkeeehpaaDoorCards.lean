/-
  DERIVED. GIVEN WITH THE SEED: THE CARDS: each row of YtdepangkeeehpaaDoorRows.lean that lists a variable, with what it lists TIED to the program's text (the seventh form; the later family's looks); each row that meets fmt, with fmt's text TOLD by the authors' own Lean function (tested against real Go, not proved from fmt's source: count such statements apart). THE CARD IS WHAT COUNTS. Prove the row's statement (the work); the ties are given (YtdepangkeeehpaaDoorTie.lean); close each card by the builder's one call (the guide's Derived/Test/ToyasCard.lean, 'card_holds'). Laid BY PROGRAM, IN A SANDBOX (cutbox-door.mjs). By AI agents, Wed Nov 11 2026. No macro, syntax, notation, axiom, sorry.
-/
import Derived.Test.YtdepangkeeehpaaDoorRows
import GoSem.ClaimSeven
namespace Go.Proofs.YtdepangkeeehpaaDoor
namespace Rows

/-- THE TIED CARD OF 'laws.FnExactSwapTerms'. -/
def fnExactSwapTermsCard : Claim7 := { stood := { row := fnExactSwapTermsRow, standIns := [], harness := (true, "dd8978b833d589400c6d2aca568315bf7c2c56f1e9508c4c497c9aa2ac77a8ba"), looks := true }, kinds := [], alts := [], laidByText := true, laidKinds := [.sentinel, .sentinel, .sentinel, .sentinel, .sentinel, .sentinel, .sentinel], laidTests := true, laidLooks := .later }
def FnExactSwapTermsCardSaid : Prop := Claim7.holds Tryd.pinned (.plain (OpenSpec.ofChange fnExactSwapTermsSpec)) fnExactSwapTermsCard

/-- THE TIED CARD OF 'laws.FnExactTermsIn'. -/
def fnExactTermsInCard : Claim7 := { stood := { row := fnExactTermsInRow, standIns := [], harness := (true, "dd8978b833d589400c6d2aca568315bf7c2c56f1e9508c4c497c9aa2ac77a8ba"), looks := true }, kinds := [], alts := [], laidByText := true, laidKinds := [.sentinel, .sentinel, .sentinel, .sentinel, .sentinel, .sentinel, .sentinel], laidTests := true, laidLooks := .later }
def FnExactTermsInCardSaid : Prop := Claim7.holds Tryd.pinned (.plain (OpenSpec.ofChange fnExactTermsInSpec)) fnExactTermsInCard

/-- THE TIED CARD OF 'laws.FnExactParseProg'. -/
def fnExactParseProgCard : Claim7 := { stood := { row := fnExactParseProgRow, standIns := [], harness := (true, "dd8978b833d589400c6d2aca568315bf7c2c56f1e9508c4c497c9aa2ac77a8ba"), looks := true }, kinds := [], alts := [], laidByText := true, laidKinds := [.data, .sentinel, .sentinel, .sentinel, .sentinel, .sentinel, .sentinel, .sentinel, .sentinel, .pinned], laidTests := true, laidLooks := .later }
def FnExactParseProgCardSaid : Prop := Claim7.holds Tryd.pinned (.plain (OpenSpec.ofChange fnExactParseProgSpec)) fnExactParseProgCard

/-- THE TIED CARD OF 'laws.FnExactFormatPlace'. -/
def fnExactFormatPlaceCard : Claim7 := { stood := { row := fnExactFormatPlaceRow, standIns := [], harness := (true, "dd8978b833d589400c6d2aca568315bf7c2c56f1e9508c4c497c9aa2ac77a8ba"), looks := true }, kinds := [], alts := [], laidByText := true, laidKinds := [.data, .data, .data, .sentinel, .sentinel, .sentinel, .sentinel, .sentinel, .sentinel, .sentinel, .sentinel], laidTests := true, laidLooks := .later }
def FnExactFormatPlaceCardSaid : Prop := Claim7.holds Tryd.pinned (.plain (OpenSpec.ofChange fnExactFormatPlaceSpec)) fnExactFormatPlaceCard

/-- THE TIED CARD OF 'laws.FnEdgeOf'. -/
def fnEdgeOfCard : Claim7 := { stood := { row := fnEdgeOfRow, standIns := [], harness := (true, "dd8978b833d589400c6d2aca568315bf7c2c56f1e9508c4c497c9aa2ac77a8ba"), looks := true }, kinds := [], alts := [], laidByText := true, laidKinds := [.sentinel, .sentinel, .sentinel, .sentinel, .sentinel, .sentinel, .sentinel], laidTests := true, laidLooks := .later }
def FnEdgeOfCardSaid : Prop := Claim7.holds Tryd.pinned (.plain (OpenSpec.ofChange fnEdgeOfSpec)) fnEdgeOfCard

/-- THE TIED CARD OF 'laws.FnEnds'. -/
def fnEndsCard : Claim7 := { stood := { row := fnEndsRow, standIns := [], harness := (true, "dd8978b833d589400c6d2aca568315bf7c2c56f1e9508c4c497c9aa2ac77a8ba"), looks := true }, kinds := [], alts := [], laidByText := true, laidKinds := [.sentinel, .sentinel, .sentinel, .sentinel, .sentinel, .sentinel, .sentinel], laidTests := true, laidLooks := .later }
def FnEndsCardSaid : Prop := Claim7.holds Tryd.pinned (.plain (OpenSpec.ofChange fnEndsSpec)) fnEndsCard

/-- THE TIED CARD OF 'laws.FnIsRun'. -/
def fnIsRunCard : Claim7 := { stood := { row := fnIsRunRow, standIns := [], harness := (true, "dd8978b833d589400c6d2aca568315bf7c2c56f1e9508c4c497c9aa2ac77a8ba"), looks := true }, kinds := [], alts := [], laidByText := true, laidKinds := [.sentinel, .sentinel, .sentinel, .sentinel, .sentinel, .sentinel, .sentinel], laidTests := true, laidLooks := .later }
def FnIsRunCardSaid : Prop := Claim7.holds Tryd.pinned (.plain (OpenSpec.ofChange fnIsRunSpec)) fnIsRunCard

/-- THE TIED CARD OF 'laws.FnFacts'. -/
def fnFactsCard : Claim7 := { stood := { row := fnFactsRow, standIns := [], harness := (true, "dd8978b833d589400c6d2aca568315bf7c2c56f1e9508c4c497c9aa2ac77a8ba"), looks := true }, kinds := [], alts := [], laidByText := true, laidKinds := [.sentinel, .sentinel, .sentinel, .sentinel, .sentinel, .sentinel, .sentinel], laidTests := true, laidLooks := .later }
def FnFactsCardSaid : Prop := Claim7.holds Tryd.pinned (.plain (OpenSpec.ofChange fnFactsSpec)) fnFactsCard

/-- THE TIED CARD OF 'laws.FnWalk'. -/
def fnWalkCard : Claim7 := { stood := { row := fnWalkRow, standIns := [], harness := (true, "dd8978b833d589400c6d2aca568315bf7c2c56f1e9508c4c497c9aa2ac77a8ba"), looks := true }, kinds := [], alts := [], laidByText := true, laidKinds := [.sentinel, .sentinel, .sentinel, .sentinel, .sentinel, .sentinel, .sentinel], laidTests := true, laidLooks := .later }
def FnWalkCardSaid : Prop := Claim7.holds Tryd.pinned (.plain (OpenSpec.ofChange fnWalkSpec)) fnWalkCard

/-- THE TIED CARD OF 'laws.FnTerms'. -/
def fnTermsCard : Claim7 := { stood := { row := fnTermsRow, standIns := [], harness := (true, "dd8978b833d589400c6d2aca568315bf7c2c56f1e9508c4c497c9aa2ac77a8ba"), looks := true }, kinds := [], alts := [], laidByText := true, laidKinds := [.sentinel, .sentinel, .sentinel, .sentinel, .sentinel, .sentinel, .sentinel], laidTests := true, laidLooks := .later }
def FnTermsCardSaid : Prop := Claim7.holds Tryd.pinned (.plain (OpenSpec.ofChange fnTermsSpec)) fnTermsCard

/-- THE TIED CARD OF 'laws.FnProgText'. -/
def fnProgTextCard : Claim7 := { stood := { row := fnProgTextRow, standIns := [], harness := (true, "dd8978b833d589400c6d2aca568315bf7c2c56f1e9508c4c497c9aa2ac77a8ba"), looks := true }, kinds := [], alts := [], laidByText := true, laidKinds := [.data, .sentinel, .sentinel, .sentinel, .sentinel, .sentinel, .sentinel, .sentinel, .sentinel, .pinned], laidTests := true, laidLooks := .later }
def FnProgTextCardSaid : Prop := Claim7.holds Tryd.pinned (.plain (OpenSpec.ofChange fnProgTextSpec)) fnProgTextCard

/-- THE TIED CARD OF 'laws.FnSwapTerms'. -/
def fnSwapTermsCard : Claim7 := { stood := { row := fnSwapTermsRow, standIns := [], harness := (true, "dd8978b833d589400c6d2aca568315bf7c2c56f1e9508c4c497c9aa2ac77a8ba"), looks := true }, kinds := [], alts := [], laidByText := true, laidKinds := [.sentinel, .sentinel, .sentinel, .sentinel, .sentinel, .sentinel, .sentinel], laidTests := true, laidLooks := .later }
def FnSwapTermsCardSaid : Prop := Claim7.holds Tryd.pinned (.plain (OpenSpec.ofChange fnSwapTermsSpec)) fnSwapTermsCard

/-- THE SECOND FORM's CARD OF 'laws.FnExactSwapTerms'. -/
def fnExactSwapTermsUptoCard : Claim7 := { stood := { row := fnExactSwapTermsUptoRow, standIns := [], harness := (true, "dd8978b833d589400c6d2aca568315bf7c2c56f1e9508c4c497c9aa2ac77a8ba"), looks := true }, kinds := [], alts := [], laidByText := true, laidKinds := [.sentinel, .sentinel, .sentinel, .sentinel, .sentinel, .sentinel, .sentinel], laidTests := true, laidLooks := .later }
def FnExactSwapTermsUptoCardSaid : Prop := Claim7.holds Tryd.pinned (.plain (OpenSpec.upto fnExactSwapTermsSpec)) fnExactSwapTermsUptoCard

/-- THE SECOND FORM's CARD OF 'laws.FnExactTermsIn'. -/
def fnExactTermsInUptoCard : Claim7 := { stood := { row := fnExactTermsInUptoRow, standIns := [], harness := (true, "dd8978b833d589400c6d2aca568315bf7c2c56f1e9508c4c497c9aa2ac77a8ba"), looks := true }, kinds := [], alts := [], laidByText := true, laidKinds := [.sentinel, .sentinel, .sentinel, .sentinel, .sentinel, .sentinel, .sentinel], laidTests := true, laidLooks := .later }
def FnExactTermsInUptoCardSaid : Prop := Claim7.holds Tryd.pinned (.plain (OpenSpec.upto fnExactTermsInSpec)) fnExactTermsInUptoCard

/-- THE SECOND FORM's CARD OF 'laws.FnExactParseProg'. -/
def fnExactParseProgUptoCard : Claim7 := { stood := { row := fnExactParseProgUptoRow, standIns := [], harness := (true, "dd8978b833d589400c6d2aca568315bf7c2c56f1e9508c4c497c9aa2ac77a8ba"), looks := true }, kinds := [], alts := [], laidByText := true, laidKinds := [.data, .sentinel, .sentinel, .sentinel, .sentinel, .sentinel, .sentinel, .sentinel, .sentinel, .pinned], laidTests := true, laidLooks := .later }
def FnExactParseProgUptoCardSaid : Prop := Claim7.holds Tryd.pinned (.plain (OpenSpec.upto fnExactParseProgSpec)) fnExactParseProgUptoCard

/-- THE SECOND FORM's CARD OF 'laws.FnExactFormatPlace'. -/
def fnExactFormatPlaceUptoCard : Claim7 := { stood := { row := fnExactFormatPlaceUptoRow, standIns := [], harness := (true, "dd8978b833d589400c6d2aca568315bf7c2c56f1e9508c4c497c9aa2ac77a8ba"), looks := true }, kinds := [], alts := [], laidByText := true, laidKinds := [.data, .data, .data, .sentinel, .sentinel, .sentinel, .sentinel, .sentinel, .sentinel, .sentinel, .sentinel], laidTests := true, laidLooks := .later }
def FnExactFormatPlaceUptoCardSaid : Prop := Claim7.holds Tryd.pinned (.plain (OpenSpec.upto fnExactFormatPlaceSpec)) fnExactFormatPlaceUptoCard

/-- THE SECOND FORM's CARD OF 'laws.FnEdgeOf'. -/
def fnEdgeOfUptoCard : Claim7 := { stood := { row := fnEdgeOfUptoRow, standIns := [], harness := (true, "dd8978b833d589400c6d2aca568315bf7c2c56f1e9508c4c497c9aa2ac77a8ba"), looks := true }, kinds := [], alts := [], laidByText := true, laidKinds := [.sentinel, .sentinel, .sentinel, .sentinel, .sentinel, .sentinel, .sentinel], laidTests := true, laidLooks := .later }
def FnEdgeOfUptoCardSaid : Prop := Claim7.holds Tryd.pinned (.plain (OpenSpec.upto fnEdgeOfSpec)) fnEdgeOfUptoCard

/-- THE SECOND FORM's CARD OF 'laws.FnEnds'. -/
def fnEndsUptoCard : Claim7 := { stood := { row := fnEndsUptoRow, standIns := [], harness := (true, "dd8978b833d589400c6d2aca568315bf7c2c56f1e9508c4c497c9aa2ac77a8ba"), looks := true }, kinds := [], alts := [], laidByText := true, laidKinds := [.sentinel, .sentinel, .sentinel, .sentinel, .sentinel, .sentinel, .sentinel], laidTests := true, laidLooks := .later }
def FnEndsUptoCardSaid : Prop := Claim7.holds Tryd.pinned (.plain (OpenSpec.upto fnEndsSpec)) fnEndsUptoCard

/-- THE SECOND FORM's CARD OF 'laws.FnIsRun'. -/
def fnIsRunUptoCard : Claim7 := { stood := { row := fnIsRunUptoRow, standIns := [], harness := (true, "dd8978b833d589400c6d2aca568315bf7c2c56f1e9508c4c497c9aa2ac77a8ba"), looks := true }, kinds := [], alts := [], laidByText := true, laidKinds := [.sentinel, .sentinel, .sentinel, .sentinel, .sentinel, .sentinel, .sentinel], laidTests := true, laidLooks := .later }
def FnIsRunUptoCardSaid : Prop := Claim7.holds Tryd.pinned (.plain (OpenSpec.upto fnIsRunSpec)) fnIsRunUptoCard

/-- THE SECOND FORM's CARD OF 'laws.FnFacts'. -/
def fnFactsUptoCard : Claim7 := { stood := { row := fnFactsUptoRow, standIns := [], harness := (true, "dd8978b833d589400c6d2aca568315bf7c2c56f1e9508c4c497c9aa2ac77a8ba"), looks := true }, kinds := [], alts := [], laidByText := true, laidKinds := [.sentinel, .sentinel, .sentinel, .sentinel, .sentinel, .sentinel, .sentinel], laidTests := true, laidLooks := .later }
def FnFactsUptoCardSaid : Prop := Claim7.holds Tryd.pinned (.plain (OpenSpec.upto fnFactsSpec)) fnFactsUptoCard

/-- THE SECOND FORM's CARD OF 'laws.FnWalk'. -/
def fnWalkUptoCard : Claim7 := { stood := { row := fnWalkUptoRow, standIns := [], harness := (true, "dd8978b833d589400c6d2aca568315bf7c2c56f1e9508c4c497c9aa2ac77a8ba"), looks := true }, kinds := [], alts := [], laidByText := true, laidKinds := [.sentinel, .sentinel, .sentinel, .sentinel, .sentinel, .sentinel, .sentinel], laidTests := true, laidLooks := .later }
def FnWalkUptoCardSaid : Prop := Claim7.holds Tryd.pinned (.plain (OpenSpec.upto fnWalkSpec)) fnWalkUptoCard

/-- THE SECOND FORM's CARD OF 'laws.FnTerms'. -/
def fnTermsUptoCard : Claim7 := { stood := { row := fnTermsUptoRow, standIns := [], harness := (true, "dd8978b833d589400c6d2aca568315bf7c2c56f1e9508c4c497c9aa2ac77a8ba"), looks := true }, kinds := [], alts := [], laidByText := true, laidKinds := [.sentinel, .sentinel, .sentinel, .sentinel, .sentinel, .sentinel, .sentinel], laidTests := true, laidLooks := .later }
def FnTermsUptoCardSaid : Prop := Claim7.holds Tryd.pinned (.plain (OpenSpec.upto fnTermsSpec)) fnTermsUptoCard

/-- THE SECOND FORM's CARD OF 'laws.FnProgText'. -/
def fnProgTextUptoCard : Claim7 := { stood := { row := fnProgTextUptoRow, standIns := [], harness := (true, "dd8978b833d589400c6d2aca568315bf7c2c56f1e9508c4c497c9aa2ac77a8ba"), looks := true }, kinds := [], alts := [], laidByText := true, laidKinds := [.data, .sentinel, .sentinel, .sentinel, .sentinel, .sentinel, .sentinel, .sentinel, .sentinel, .pinned], laidTests := true, laidLooks := .later }
def FnProgTextUptoCardSaid : Prop := Claim7.holds Tryd.pinned (.plain (OpenSpec.upto fnProgTextSpec)) fnProgTextUptoCard

/-- THE SECOND FORM's CARD OF 'laws.FnSwapTerms'. -/
def fnSwapTermsUptoCard : Claim7 := { stood := { row := fnSwapTermsUptoRow, standIns := [], harness := (true, "dd8978b833d589400c6d2aca568315bf7c2c56f1e9508c4c497c9aa2ac77a8ba"), looks := true }, kinds := [], alts := [], laidByText := true, laidKinds := [.sentinel, .sentinel, .sentinel, .sentinel, .sentinel, .sentinel, .sentinel], laidTests := true, laidLooks := .later }
def FnSwapTermsUptoCardSaid : Prop := Claim7.holds Tryd.pinned (.plain (OpenSpec.upto fnSwapTermsSpec)) fnSwapTermsUptoCard
end Rows
end Go.Proofs.YtdepangkeeehpaaDoor
