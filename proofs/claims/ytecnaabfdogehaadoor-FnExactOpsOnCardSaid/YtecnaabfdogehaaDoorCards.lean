/-
  DERIVED. GIVEN WITH THE SEED: THE CARDS: each row of YtecnaabfdogehaaDoorRows.lean that lists a variable, with what it lists TIED to the program's text (the seventh form; the later family's looks); each row that meets fmt, with fmt's text TOLD by the authors' own Lean function (tested against real Go, not proved from fmt's source: count such statements apart). THE CARD IS WHAT COUNTS. Prove the row's statement (the work); the ties are given (YtecnaabfdogehaaDoorTie.lean); close each card by the builder's one call (the guide's Derived/Test/ToyasCard.lean, 'card_holds'). Laid BY PROGRAM, IN A SANDBOX (cutbox-door.mjs). By AI agents, Wed Nov 11 2026. No macro, syntax, notation, axiom, sorry.
-/
import Derived.Test.YtecnaabfdogehaaDoorRows
import GoSem.ClaimSeven
namespace Go.Proofs.YtecnaabfdogehaaDoor
namespace Rows

/-- THE TIED CARD OF 'laws.FnExactIsRun'. -/
def fnExactIsRunCard : Claim7 := { stood := { row := fnExactIsRunRow, standIns := [], harness := (true, "16b491b13f7988984d5a8c861e91fb3c052d99f1fc95bdd08586a6ad1eb65d82"), looks := true }, kinds := [], alts := [], laidByText := true, laidKinds := [.sentinel, .sentinel, .sentinel, .sentinel, .sentinel, .sentinel, .sentinel], laidTests := true, laidLooks := .later }
def FnExactIsRunCardSaid : Prop := Claim7.holds Tryd.pinned (.plain (OpenSpec.ofChange fnExactIsRunSpec)) fnExactIsRunCard

/-- THE TIED CARD OF 'laws.FnExactWalkRun'. -/
def fnExactWalkRunCard : Claim7 := { stood := { row := fnExactWalkRunRow, standIns := [], harness := (true, "16b491b13f7988984d5a8c861e91fb3c052d99f1fc95bdd08586a6ad1eb65d82"), looks := true }, kinds := [], alts := [], goes := true, laidByText := true, laidKinds := [.sentinel, .sentinel, .sentinel, .sentinel, .sentinel, .sentinel, .sentinel], laidTests := true, laidLooks := .later }
def FnExactWalkRunCardSaid : Prop := Claim7.holds Tryd.pinned (.plain (OpenSpec.ofChange fnExactWalkRunSpec)) fnExactWalkRunCard

/-- THE TIED CARD OF 'laws.FnExactShortestRun'. -/
def fnExactShortestRunCard : Claim7 := { stood := { row := fnExactShortestRunRow, standIns := [], harness := (true, "16b491b13f7988984d5a8c861e91fb3c052d99f1fc95bdd08586a6ad1eb65d82"), looks := true }, kinds := [], alts := [], goes := true, laidByText := true, laidKinds := [.sentinel, .sentinel, .sentinel, .sentinel, .sentinel, .sentinel, .sentinel], laidTests := true, laidLooks := .later }
def FnExactShortestRunCardSaid : Prop := Claim7.holds Tryd.pinned (.plain (OpenSpec.ofChange fnExactShortestRunSpec)) fnExactShortestRunCard

/-- THE TIED CARD OF 'laws.FnExactRunsUpTo'. -/
def fnExactRunsUpToCard : Claim7 := { stood := { row := fnExactRunsUpToRow, standIns := [], harness := (true, "16b491b13f7988984d5a8c861e91fb3c052d99f1fc95bdd08586a6ad1eb65d82"), looks := true }, kinds := [], alts := [], goes := true, laidByText := true, laidKinds := [.sentinel, .sentinel, .sentinel, .sentinel, .sentinel, .sentinel, .sentinel], laidTests := true, laidLooks := .later }
def FnExactRunsUpToCardSaid : Prop := Claim7.holds Tryd.pinned (.plain (OpenSpec.ofChange fnExactRunsUpToSpec)) fnExactRunsUpToCard

/-- THE TIED CARD OF 'laws.FnExactOpsOn'. -/
def fnExactOpsOnCard : Claim7 := { stood := { row := fnExactOpsOnRow, standIns := [], harness := (true, "16b491b13f7988984d5a8c861e91fb3c052d99f1fc95bdd08586a6ad1eb65d82"), looks := true }, kinds := [], alts := [], goes := true, laidByText := true, laidKinds := [.sentinel, .sentinel, .sentinel, .sentinel, .sentinel, .sentinel, .sentinel], laidTests := true, laidLooks := .later }
def FnExactOpsOnCardSaid : Prop := Claim7.holds Tryd.pinned (.plain (OpenSpec.ofChange fnExactOpsOnSpec)) fnExactOpsOnCard

/-- THE TIED CARD OF 'laws.FnExactCountOn'. -/
def fnExactCountOnCard : Claim7 := { stood := { row := fnExactCountOnRow, standIns := [], harness := (true, "16b491b13f7988984d5a8c861e91fb3c052d99f1fc95bdd08586a6ad1eb65d82"), looks := true }, kinds := [], alts := [], goes := true, laidByText := true, laidKinds := [.sentinel, .sentinel, .sentinel, .sentinel, .sentinel, .sentinel, .sentinel], laidTests := true, laidLooks := .later }
def FnExactCountOnCardSaid : Prop := Claim7.holds Tryd.pinned (.plain (OpenSpec.ofChange fnExactCountOnSpec)) fnExactCountOnCard

/-- THE TIED CARD OF 'laws.FnExactNeededOn'. -/
def fnExactNeededOnCard : Claim7 := { stood := { row := fnExactNeededOnRow, standIns := [], harness := (true, "16b491b13f7988984d5a8c861e91fb3c052d99f1fc95bdd08586a6ad1eb65d82"), looks := true }, kinds := [], alts := [], goes := true, laidByText := true, laidKinds := [.sentinel, .sentinel, .sentinel, .sentinel, .sentinel, .sentinel, .sentinel], laidTests := true, laidLooks := .later }
def FnExactNeededOnCardSaid : Prop := Claim7.holds Tryd.pinned (.plain (OpenSpec.ofChange fnExactNeededOnSpec)) fnExactNeededOnCard

/-- THE TIED CARD OF 'laws.FnExactSpareOn'. -/
def fnExactSpareOnCard : Claim7 := { stood := { row := fnExactSpareOnRow, standIns := [], harness := (true, "16b491b13f7988984d5a8c861e91fb3c052d99f1fc95bdd08586a6ad1eb65d82"), looks := true }, kinds := [], alts := [], goes := true, laidByText := true, laidKinds := [.sentinel, .sentinel, .sentinel, .sentinel, .sentinel, .sentinel, .sentinel], laidTests := true, laidLooks := .later }
def FnExactSpareOnCardSaid : Prop := Claim7.holds Tryd.pinned (.plain (OpenSpec.ofChange fnExactSpareOnSpec)) fnExactSpareOnCard

/-- THE TIED CARD OF 'laws.FnExactSwapTerms'. -/
def fnExactSwapTermsCard : Claim7 := { stood := { row := fnExactSwapTermsRow, standIns := [], harness := (true, "16b491b13f7988984d5a8c861e91fb3c052d99f1fc95bdd08586a6ad1eb65d82"), looks := true }, kinds := [], alts := [], goes := true, laidByText := true, laidKinds := [.sentinel, .sentinel, .sentinel, .sentinel, .sentinel, .sentinel, .sentinel], laidTests := true, laidLooks := .later }
def FnExactSwapTermsCardSaid : Prop := Claim7.holds Tryd.pinned (.plain (OpenSpec.ofChange fnExactSwapTermsSpec)) fnExactSwapTermsCard

/-- THE TIED CARD OF 'laws.FnExactOutOf'. -/
def fnExactOutOfCard : Claim7 := { stood := { row := fnExactOutOfRow, standIns := [], harness := (true, "16b491b13f7988984d5a8c861e91fb3c052d99f1fc95bdd08586a6ad1eb65d82"), looks := true }, kinds := [], alts := [], goes := true, laidByText := true, laidKinds := [.sentinel, .sentinel, .sentinel, .sentinel, .sentinel, .sentinel, .sentinel], laidTests := true, laidLooks := .later }
def FnExactOutOfCardSaid : Prop := Claim7.holds Tryd.pinned (.plain (OpenSpec.ofChange fnExactOutOfSpec)) fnExactOutOfCard

/-- THE TIED CARD OF 'laws.FnExactInOf'. -/
def fnExactInOfCard : Claim7 := { stood := { row := fnExactInOfRow, standIns := [], harness := (true, "16b491b13f7988984d5a8c861e91fb3c052d99f1fc95bdd08586a6ad1eb65d82"), looks := true }, kinds := [], alts := [], goes := true, laidByText := true, laidKinds := [.sentinel, .sentinel, .sentinel, .sentinel, .sentinel, .sentinel, .sentinel], laidTests := true, laidLooks := .later }
def FnExactInOfCardSaid : Prop := Claim7.holds Tryd.pinned (.plain (OpenSpec.ofChange fnExactInOfSpec)) fnExactInOfCard

/-- THE TIED CARD OF 'laws.FnExactTermsIn'. -/
def fnExactTermsInCard : Claim7 := { stood := { row := fnExactTermsInRow, standIns := [], harness := (true, "16b491b13f7988984d5a8c861e91fb3c052d99f1fc95bdd08586a6ad1eb65d82"), looks := true }, kinds := [], alts := [], goes := true, laidByText := true, laidKinds := [.sentinel, .sentinel, .sentinel, .sentinel, .sentinel, .sentinel, .sentinel], laidTests := true, laidLooks := .later }
def FnExactTermsInCardSaid : Prop := Claim7.holds Tryd.pinned (.plain (OpenSpec.ofChange fnExactTermsInSpec)) fnExactTermsInCard

/-- THE TIED CARD OF 'laws.FnExactParseProg'. -/
def fnExactParseProgCard : Claim7 := { stood := { row := fnExactParseProgRow, standIns := [], harness := (true, "16b491b13f7988984d5a8c861e91fb3c052d99f1fc95bdd08586a6ad1eb65d82"), looks := true }, kinds := [], alts := [], laidByText := true, laidKinds := [.data, .sentinel, .sentinel, .sentinel, .sentinel, .sentinel, .sentinel, .sentinel, .sentinel, .pinned], laidTests := true, laidLooks := .later }
def FnExactParseProgCardSaid : Prop := Claim7.holds Tryd.pinned (.plain (OpenSpec.ofChange fnExactParseProgSpec)) fnExactParseProgCard

/-- THE SECOND FORM's CARD OF 'laws.FnExactIsRun'. -/
def fnExactIsRunUptoCard : Claim7 := { stood := { row := fnExactIsRunUptoRow, standIns := [], harness := (true, "16b491b13f7988984d5a8c861e91fb3c052d99f1fc95bdd08586a6ad1eb65d82"), looks := true }, kinds := [], alts := [], laidByText := true, laidKinds := [.sentinel, .sentinel, .sentinel, .sentinel, .sentinel, .sentinel, .sentinel], laidTests := true, laidLooks := .later }
def FnExactIsRunUptoCardSaid : Prop := Claim7.holds Tryd.pinned (.plain (OpenSpec.upto fnExactIsRunSpec)) fnExactIsRunUptoCard

/-- THE SECOND FORM's CARD OF 'laws.FnExactWalkRun'. -/
def fnExactWalkRunUptoCard : Claim7 := { stood := { row := fnExactWalkRunUptoRow, standIns := [], harness := (true, "16b491b13f7988984d5a8c861e91fb3c052d99f1fc95bdd08586a6ad1eb65d82"), looks := true }, kinds := [], alts := [], goes := true, laidByText := true, laidKinds := [.sentinel, .sentinel, .sentinel, .sentinel, .sentinel, .sentinel, .sentinel], laidTests := true, laidLooks := .later }
def FnExactWalkRunUptoCardSaid : Prop := Claim7.holds Tryd.pinned (.plain (OpenSpec.upto fnExactWalkRunSpec)) fnExactWalkRunUptoCard

/-- THE SECOND FORM's CARD OF 'laws.FnExactShortestRun'. -/
def fnExactShortestRunUptoCard : Claim7 := { stood := { row := fnExactShortestRunUptoRow, standIns := [], harness := (true, "16b491b13f7988984d5a8c861e91fb3c052d99f1fc95bdd08586a6ad1eb65d82"), looks := true }, kinds := [], alts := [], goes := true, laidByText := true, laidKinds := [.sentinel, .sentinel, .sentinel, .sentinel, .sentinel, .sentinel, .sentinel], laidTests := true, laidLooks := .later }
def FnExactShortestRunUptoCardSaid : Prop := Claim7.holds Tryd.pinned (.plain (OpenSpec.upto fnExactShortestRunSpec)) fnExactShortestRunUptoCard

/-- THE SECOND FORM's CARD OF 'laws.FnExactRunsUpTo'. -/
def fnExactRunsUpToUptoCard : Claim7 := { stood := { row := fnExactRunsUpToUptoRow, standIns := [], harness := (true, "16b491b13f7988984d5a8c861e91fb3c052d99f1fc95bdd08586a6ad1eb65d82"), looks := true }, kinds := [], alts := [], goes := true, laidByText := true, laidKinds := [.sentinel, .sentinel, .sentinel, .sentinel, .sentinel, .sentinel, .sentinel], laidTests := true, laidLooks := .later }
def FnExactRunsUpToUptoCardSaid : Prop := Claim7.holds Tryd.pinned (.plain (OpenSpec.upto fnExactRunsUpToSpec)) fnExactRunsUpToUptoCard

/-- THE SECOND FORM's CARD OF 'laws.FnExactOpsOn'. -/
def fnExactOpsOnUptoCard : Claim7 := { stood := { row := fnExactOpsOnUptoRow, standIns := [], harness := (true, "16b491b13f7988984d5a8c861e91fb3c052d99f1fc95bdd08586a6ad1eb65d82"), looks := true }, kinds := [], alts := [], goes := true, laidByText := true, laidKinds := [.sentinel, .sentinel, .sentinel, .sentinel, .sentinel, .sentinel, .sentinel], laidTests := true, laidLooks := .later }
def FnExactOpsOnUptoCardSaid : Prop := Claim7.holds Tryd.pinned (.plain (OpenSpec.upto fnExactOpsOnSpec)) fnExactOpsOnUptoCard

/-- THE SECOND FORM's CARD OF 'laws.FnExactCountOn'. -/
def fnExactCountOnUptoCard : Claim7 := { stood := { row := fnExactCountOnUptoRow, standIns := [], harness := (true, "16b491b13f7988984d5a8c861e91fb3c052d99f1fc95bdd08586a6ad1eb65d82"), looks := true }, kinds := [], alts := [], goes := true, laidByText := true, laidKinds := [.sentinel, .sentinel, .sentinel, .sentinel, .sentinel, .sentinel, .sentinel], laidTests := true, laidLooks := .later }
def FnExactCountOnUptoCardSaid : Prop := Claim7.holds Tryd.pinned (.plain (OpenSpec.upto fnExactCountOnSpec)) fnExactCountOnUptoCard

/-- THE SECOND FORM's CARD OF 'laws.FnExactNeededOn'. -/
def fnExactNeededOnUptoCard : Claim7 := { stood := { row := fnExactNeededOnUptoRow, standIns := [], harness := (true, "16b491b13f7988984d5a8c861e91fb3c052d99f1fc95bdd08586a6ad1eb65d82"), looks := true }, kinds := [], alts := [], goes := true, laidByText := true, laidKinds := [.sentinel, .sentinel, .sentinel, .sentinel, .sentinel, .sentinel, .sentinel], laidTests := true, laidLooks := .later }
def FnExactNeededOnUptoCardSaid : Prop := Claim7.holds Tryd.pinned (.plain (OpenSpec.upto fnExactNeededOnSpec)) fnExactNeededOnUptoCard

/-- THE SECOND FORM's CARD OF 'laws.FnExactSpareOn'. -/
def fnExactSpareOnUptoCard : Claim7 := { stood := { row := fnExactSpareOnUptoRow, standIns := [], harness := (true, "16b491b13f7988984d5a8c861e91fb3c052d99f1fc95bdd08586a6ad1eb65d82"), looks := true }, kinds := [], alts := [], goes := true, laidByText := true, laidKinds := [.sentinel, .sentinel, .sentinel, .sentinel, .sentinel, .sentinel, .sentinel], laidTests := true, laidLooks := .later }
def FnExactSpareOnUptoCardSaid : Prop := Claim7.holds Tryd.pinned (.plain (OpenSpec.upto fnExactSpareOnSpec)) fnExactSpareOnUptoCard

/-- THE SECOND FORM's CARD OF 'laws.FnExactSwapTerms'. -/
def fnExactSwapTermsUptoCard : Claim7 := { stood := { row := fnExactSwapTermsUptoRow, standIns := [], harness := (true, "16b491b13f7988984d5a8c861e91fb3c052d99f1fc95bdd08586a6ad1eb65d82"), looks := true }, kinds := [], alts := [], goes := true, laidByText := true, laidKinds := [.sentinel, .sentinel, .sentinel, .sentinel, .sentinel, .sentinel, .sentinel], laidTests := true, laidLooks := .later }
def FnExactSwapTermsUptoCardSaid : Prop := Claim7.holds Tryd.pinned (.plain (OpenSpec.upto fnExactSwapTermsSpec)) fnExactSwapTermsUptoCard

/-- THE SECOND FORM's CARD OF 'laws.FnExactOutOf'. -/
def fnExactOutOfUptoCard : Claim7 := { stood := { row := fnExactOutOfUptoRow, standIns := [], harness := (true, "16b491b13f7988984d5a8c861e91fb3c052d99f1fc95bdd08586a6ad1eb65d82"), looks := true }, kinds := [], alts := [], goes := true, laidByText := true, laidKinds := [.sentinel, .sentinel, .sentinel, .sentinel, .sentinel, .sentinel, .sentinel], laidTests := true, laidLooks := .later }
def FnExactOutOfUptoCardSaid : Prop := Claim7.holds Tryd.pinned (.plain (OpenSpec.upto fnExactOutOfSpec)) fnExactOutOfUptoCard

/-- THE SECOND FORM's CARD OF 'laws.FnExactInOf'. -/
def fnExactInOfUptoCard : Claim7 := { stood := { row := fnExactInOfUptoRow, standIns := [], harness := (true, "16b491b13f7988984d5a8c861e91fb3c052d99f1fc95bdd08586a6ad1eb65d82"), looks := true }, kinds := [], alts := [], goes := true, laidByText := true, laidKinds := [.sentinel, .sentinel, .sentinel, .sentinel, .sentinel, .sentinel, .sentinel], laidTests := true, laidLooks := .later }
def FnExactInOfUptoCardSaid : Prop := Claim7.holds Tryd.pinned (.plain (OpenSpec.upto fnExactInOfSpec)) fnExactInOfUptoCard

/-- THE SECOND FORM's CARD OF 'laws.FnExactTermsIn'. -/
def fnExactTermsInUptoCard : Claim7 := { stood := { row := fnExactTermsInUptoRow, standIns := [], harness := (true, "16b491b13f7988984d5a8c861e91fb3c052d99f1fc95bdd08586a6ad1eb65d82"), looks := true }, kinds := [], alts := [], goes := true, laidByText := true, laidKinds := [.sentinel, .sentinel, .sentinel, .sentinel, .sentinel, .sentinel, .sentinel], laidTests := true, laidLooks := .later }
def FnExactTermsInUptoCardSaid : Prop := Claim7.holds Tryd.pinned (.plain (OpenSpec.upto fnExactTermsInSpec)) fnExactTermsInUptoCard

/-- THE SECOND FORM's CARD OF 'laws.FnExactParseProg'. -/
def fnExactParseProgUptoCard : Claim7 := { stood := { row := fnExactParseProgUptoRow, standIns := [], harness := (true, "16b491b13f7988984d5a8c861e91fb3c052d99f1fc95bdd08586a6ad1eb65d82"), looks := true }, kinds := [], alts := [], laidByText := true, laidKinds := [.data, .sentinel, .sentinel, .sentinel, .sentinel, .sentinel, .sentinel, .sentinel, .sentinel, .pinned], laidTests := true, laidLooks := .later }
def FnExactParseProgUptoCardSaid : Prop := Claim7.holds Tryd.pinned (.plain (OpenSpec.upto fnExactParseProgSpec)) fnExactParseProgUptoCard
end Rows
end Go.Proofs.YtecnaabfdogehaaDoor
