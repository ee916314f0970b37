/-
  DERIVED. GIVEN WITH THE SEED: THE CARDS: each row of YthkhccfemdjioaaDoorRows.lean that lists a variable, with what it lists TIED to the program's text (the seventh form; the later family's looks); each row that meets fmt, with fmt's text TOLD by the authors' own Lean function (tested against real Go, not proved from fmt's source: count such statements apart). THE CARD IS WHAT COUNTS. Prove the row's statement (the work); the ties are given (YthkhccfemdjioaaDoorTie.lean); close each card by the builder's one call (the guide's Derived/Test/ToyasCard.lean, 'card_holds'). Laid BY PROGRAM, IN A SANDBOX (cutbox-door.mjs). By AI agents, Wed Nov 11 2026. No macro, syntax, notation, axiom, sorry.
-/
import Derived.Test.YthkhccfemdjioaaDoorRows
import GoSem.ClaimSeven
namespace Go.Proofs.YthkhccfemdjioaaDoor
namespace Rows

/-- THE TIED CARD OF 'laws.FnExactTermsIn'. -/
def fnExactTermsInCard : Claim7 := { stood := { row := fnExactTermsInRow, standIns := [], harness := (true, "5bd5f63bd2e41e004a3a45e5ed30b2affa256719e46122cc2d0a546e24b013d5"), looks := true }, kinds := [], alts := [], laidByText := true, laidKinds := [.sentinel, .sentinel, .sentinel, .sentinel, .sentinel, .sentinel, .sentinel], laidTests := true, laidLooks := .later }
def FnExactTermsInCardSaid : Prop := Claim7.holds Tryd.pinned (.plain (OpenSpec.ofChange fnExactTermsInSpec)) fnExactTermsInCard

/-- THE TIED CARD OF 'laws.FnExactParseProg'. -/
def fnExactParseProgCard : Claim7 := { stood := { row := fnExactParseProgRow, standIns := [], harness := (true, "5bd5f63bd2e41e004a3a45e5ed30b2affa256719e46122cc2d0a546e24b013d5"), looks := true }, kinds := [], alts := [], laidByText := true, laidKinds := [.data, .sentinel, .sentinel, .sentinel, .sentinel, .sentinel, .sentinel, .sentinel, .sentinel, .pinned], laidTests := true, laidLooks := .later }
def FnExactParseProgCardSaid : Prop := Claim7.holds Tryd.pinned (.plain (OpenSpec.ofChange fnExactParseProgSpec)) fnExactParseProgCard

/-- THE TIED CARD OF 'laws.FnSwapThree'. -/
def fnSwapThreeCard : Claim7 := { stood := { row := fnSwapThreeRow, standIns := [], harness := (true, "5bd5f63bd2e41e004a3a45e5ed30b2affa256719e46122cc2d0a546e24b013d5"), looks := true }, kinds := [], alts := [], laidByText := true, laidKinds := [.sentinel, .sentinel, .sentinel, .sentinel, .sentinel, .sentinel, .sentinel], laidTests := true, laidLooks := .later }
def FnSwapThreeCardSaid : Prop := Claim7.holds Tryd.pinned (.plain (OpenSpec.ofChange fnSwapThreeSpec)) fnSwapThreeCard

/-- THE TIED CARD OF 'laws.FnProgText'. -/
def fnProgTextCard : Claim7 := { stood := { row := fnProgTextRow, standIns := [], harness := (true, "5bd5f63bd2e41e004a3a45e5ed30b2affa256719e46122cc2d0a546e24b013d5"), looks := true }, kinds := [], alts := [], laidByText := true, laidKinds := [.data, .sentinel, .sentinel, .sentinel, .sentinel, .sentinel, .sentinel, .sentinel, .sentinel, .pinned], laidTests := true, laidLooks := .later }
def FnProgTextCardSaid : Prop := Claim7.holds Tryd.pinned (.plain (OpenSpec.ofChange fnProgTextSpec)) fnProgTextCard

/-- THE TIED CARD OF 'laws.FnTerms'. -/
def fnTermsCard : Claim7 := { stood := { row := fnTermsRow, standIns := [], harness := (true, "5bd5f63bd2e41e004a3a45e5ed30b2affa256719e46122cc2d0a546e24b013d5"), looks := true }, kinds := [], alts := [], laidByText := true, laidKinds := [.sentinel, .sentinel, .sentinel, .sentinel, .sentinel, .sentinel, .sentinel], laidTests := true, laidLooks := .later }
def FnTermsCardSaid : Prop := Claim7.holds Tryd.pinned (.plain (OpenSpec.ofChange fnTermsSpec)) fnTermsCard

/-- THE TIED CARD OF 'laws.FnSwapTerms'. -/
def fnSwapTermsCard : Claim7 := { stood := { row := fnSwapTermsRow, standIns := [], harness := (true, "5bd5f63bd2e41e004a3a45e5ed30b2affa256719e46122cc2d0a546e24b013d5"), looks := true }, kinds := [], alts := [], laidByText := true, laidKinds := [.sentinel, .sentinel, .sentinel, .sentinel, .sentinel, .sentinel, .sentinel], laidTests := true, laidLooks := .later }
def FnSwapTermsCardSaid : Prop := Claim7.holds Tryd.pinned (.plain (OpenSpec.ofChange fnSwapTermsSpec)) fnSwapTermsCard

/-- THE TIED CARD OF 'laws.FnIsRun'. -/
def fnIsRunCard : Claim7 := { stood := { row := fnIsRunRow, standIns := [], harness := (true, "5bd5f63bd2e41e004a3a45e5ed30b2affa256719e46122cc2d0a546e24b013d5"), looks := true }, kinds := [], alts := [], laidByText := true, laidKinds := [.sentinel, .sentinel, .sentinel, .sentinel, .sentinel, .sentinel, .sentinel], laidTests := true, laidLooks := .later }
def FnIsRunCardSaid : Prop := Claim7.holds Tryd.pinned (.plain (OpenSpec.ofChange fnIsRunSpec)) fnIsRunCard

/-- THE TIED CARD OF 'laws.FnWalk'. -/
def fnWalkCard : Claim7 := { stood := { row := fnWalkRow, standIns := [], harness := (true, "5bd5f63bd2e41e004a3a45e5ed30b2affa256719e46122cc2d0a546e24b013d5"), looks := true }, kinds := [], alts := [], laidByText := true, laidKinds := [.sentinel, .sentinel, .sentinel, .sentinel, .sentinel, .sentinel, .sentinel], laidTests := true, laidLooks := .later }
def FnWalkCardSaid : Prop := Claim7.holds Tryd.pinned (.plain (OpenSpec.ofChange fnWalkSpec)) fnWalkCard

/-- THE TIED CARD OF 'laws.FnTidyFacts'. -/
def fnTidyFactsCard : Claim7 := { stood := { row := fnTidyFactsRow, standIns := [], harness := (true, "5bd5f63bd2e41e004a3a45e5ed30b2affa256719e46122cc2d0a546e24b013d5"), looks := true }, kinds := [], alts := [], laidByText := true, laidKinds := [.data, .data, .data, .sentinel, .sentinel, .sentinel, .sentinel, .sentinel, .sentinel, .sentinel], laidTests := true, laidLooks := .later }
def FnTidyFactsCardSaid : Prop := Claim7.holds Tryd.pinned (.plain (OpenSpec.ofChange fnTidyFactsSpec)) fnTidyFactsCard

/-- THE TIED CARD OF 'laws.FnFactsSwap'. -/
def fnFactsSwapCard : Claim7 := { stood := { row := fnFactsSwapRow, standIns := [], harness := (true, "5bd5f63bd2e41e004a3a45e5ed30b2affa256719e46122cc2d0a546e24b013d5"), looks := true }, kinds := [], alts := [], laidByText := true, laidKinds := [.data, .data, .data, .sentinel, .sentinel, .sentinel, .sentinel, .sentinel, .sentinel, .sentinel], laidTests := true, laidLooks := .later }
def FnFactsSwapCardSaid : Prop := Claim7.holds Tryd.pinned (.plain (OpenSpec.ofChange fnFactsSwapSpec)) fnFactsSwapCard

/-- THE SECOND FORM's CARD OF 'laws.FnExactTermsIn'. -/
def fnExactTermsInUptoCard : Claim7 := { stood := { row := fnExactTermsInUptoRow, standIns := [], harness := (true, "5bd5f63bd2e41e004a3a45e5ed30b2affa256719e46122cc2d0a546e24b013d5"), looks := true }, kinds := [], alts := [], laidByText := true, laidKinds := [.sentinel, .sentinel, .sentinel, .sentinel, .sentinel, .sentinel, .sentinel], laidTests := true, laidLooks := .later }
def FnExactTermsInUptoCardSaid : Prop := Claim7.holds Tryd.pinned (.plain (OpenSpec.upto fnExactTermsInSpec)) fnExactTermsInUptoCard

/-- THE SECOND FORM's CARD OF 'laws.FnExactParseProg'. -/
def fnExactParseProgUptoCard : Claim7 := { stood := { row := fnExactParseProgUptoRow, standIns := [], harness := (true, "5bd5f63bd2e41e004a3a45e5ed30b2affa256719e46122cc2d0a546e24b013d5"), looks := true }, kinds := [], alts := [], laidByText := true, laidKinds := [.data, .sentinel, .sentinel, .sentinel, .sentinel, .sentinel, .sentinel, .sentinel, .sentinel, .pinned], laidTests := true, laidLooks := .later }
def FnExactParseProgUptoCardSaid : Prop := Claim7.holds Tryd.pinned (.plain (OpenSpec.upto fnExactParseProgSpec)) fnExactParseProgUptoCard

/-- THE SECOND FORM's CARD OF 'laws.FnSwapThree'. -/
def fnSwapThreeUptoCard : Claim7 := { stood := { row := fnSwapThreeUptoRow, standIns := [], harness := (true, "5bd5f63bd2e41e004a3a45e5ed30b2affa256719e46122cc2d0a546e24b013d5"), looks := true }, kinds := [], alts := [], laidByText := true, laidKinds := [.sentinel, .sentinel, .sentinel, .sentinel, .sentinel, .sentinel, .sentinel], laidTests := true, laidLooks := .later }
def FnSwapThreeUptoCardSaid : Prop := Claim7.holds Tryd.pinned (.plain (OpenSpec.upto fnSwapThreeSpec)) fnSwapThreeUptoCard

/-- THE SECOND FORM's CARD OF 'laws.FnProgText'. -/
def fnProgTextUptoCard : Claim7 := { stood := { row := fnProgTextUptoRow, standIns := [], harness := (true, "5bd5f63bd2e41e004a3a45e5ed30b2affa256719e46122cc2d0a546e24b013d5"), looks := true }, kinds := [], alts := [], laidByText := true, laidKinds := [.data, .sentinel, .sentinel, .sentinel, .sentinel, .sentinel, .sentinel, .sentinel, .sentinel, .pinned], laidTests := true, laidLooks := .later }
def FnProgTextUptoCardSaid : Prop := Claim7.holds Tryd.pinned (.plain (OpenSpec.upto fnProgTextSpec)) fnProgTextUptoCard

/-- THE SECOND FORM's CARD OF 'laws.FnTerms'. -/
def fnTermsUptoCard : Claim7 := { stood := { row := fnTermsUptoRow, standIns := [], harness := (true, "5bd5f63bd2e41e004a3a45e5ed30b2affa256719e46122cc2d0a546e24b013d5"), looks := true }, kinds := [], alts := [], laidByText := true, laidKinds := [.sentinel, .sentinel, .sentinel, .sentinel, .sentinel, .sentinel, .sentinel], laidTests := true, laidLooks := .later }
def FnTermsUptoCardSaid : Prop := Claim7.holds Tryd.pinned (.plain (OpenSpec.upto fnTermsSpec)) fnTermsUptoCard

/-- THE SECOND FORM's CARD OF 'laws.FnSwapTerms'. -/
def fnSwapTermsUptoCard : Claim7 := { stood := { row := fnSwapTermsUptoRow, standIns := [], harness := (true, "5bd5f63bd2e41e004a3a45e5ed30b2affa256719e46122cc2d0a546e24b013d5"), looks := true }, kinds := [], alts := [], laidByText := true, laidKinds := [.sentinel, .sentinel, .sentinel, .sentinel, .sentinel, .sentinel, .sentinel], laidTests := true, laidLooks := .later }
def FnSwapTermsUptoCardSaid : Prop := Claim7.holds Tryd.pinned (.plain (OpenSpec.upto fnSwapTermsSpec)) fnSwapTermsUptoCard

/-- THE SECOND FORM's CARD OF 'laws.FnIsRun'. -/
def fnIsRunUptoCard : Claim7 := { stood := { row := fnIsRunUptoRow, standIns := [], harness := (true, "5bd5f63bd2e41e004a3a45e5ed30b2affa256719e46122cc2d0a546e24b013d5"), looks := true }, kinds := [], alts := [], laidByText := true, laidKinds := [.sentinel, .sentinel, .sentinel, .sentinel, .sentinel, .sentinel, .sentinel], laidTests := true, laidLooks := .later }
def FnIsRunUptoCardSaid : Prop := Claim7.holds Tryd.pinned (.plain (OpenSpec.upto fnIsRunSpec)) fnIsRunUptoCard

/-- THE SECOND FORM's CARD OF 'laws.FnWalk'. -/
def fnWalkUptoCard : Claim7 := { stood := { row := fnWalkUptoRow, standIns := [], harness := (true, "5bd5f63bd2e41e004a3a45e5ed30b2affa256719e46122cc2d0a546e24b013d5"), looks := true }, kinds := [], alts := [], laidByText := true, laidKinds := [.sentinel, .sentinel, .sentinel, .sentinel, .sentinel, .sentinel, .sentinel], laidTests := true, laidLooks := .later }
def FnWalkUptoCardSaid : Prop := Claim7.holds Tryd.pinned (.plain (OpenSpec.upto fnWalkSpec)) fnWalkUptoCard

/-- THE SECOND FORM's CARD OF 'laws.FnTidyFacts'. -/
def fnTidyFactsUptoCard : Claim7 := { stood := { row := fnTidyFactsUptoRow, standIns := [], harness := (true, "5bd5f63bd2e41e004a3a45e5ed30b2affa256719e46122cc2d0a546e24b013d5"), looks := true }, kinds := [], alts := [], laidByText := true, laidKinds := [.data, .data, .data, .sentinel, .sentinel, .sentinel, .sentinel, .sentinel, .sentinel, .sentinel], laidTests := true, laidLooks := .later }
def FnTidyFactsUptoCardSaid : Prop := Claim7.holds Tryd.pinned (.plain (OpenSpec.upto fnTidyFactsSpec)) fnTidyFactsUptoCard

/-- THE SECOND FORM's CARD OF 'laws.FnFactsSwap'. -/
def fnFactsSwapUptoCard : Claim7 := { stood := { row := fnFactsSwapUptoRow, standIns := [], harness := (true, "5bd5f63bd2e41e004a3a45e5ed30b2affa256719e46122cc2d0a546e24b013d5"), looks := true }, kinds := [], alts := [], laidByText := true, laidKinds := [.data, .data, .data, .sentinel, .sentinel, .sentinel, .sentinel, .sentinel, .sentinel, .sentinel], laidTests := true, laidLooks := .later }
def FnFactsSwapUptoCardSaid : Prop := Claim7.holds Tryd.pinned (.plain (OpenSpec.upto fnFactsSwapSpec)) fnFactsSwapUptoCard
end Rows
end Go.Proofs.YthkhccfemdjioaaDoor
