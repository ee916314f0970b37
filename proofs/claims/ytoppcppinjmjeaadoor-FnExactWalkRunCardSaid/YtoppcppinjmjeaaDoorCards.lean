/-
  DERIVED. GIVEN WITH THE SEED: THE CARDS: each row of YtoppcppinjmjeaaDoorRows.lean that lists a variable, with what it lists TIED to the program's text (the seventh form; the later family's looks); each row that meets fmt, with fmt's text TOLD by the authors' own Lean function (tested against real Go, not proved from fmt's source: count such statements apart). THE CARD IS WHAT COUNTS. Prove the row's statement (the work); the ties are given (YtoppcppinjmjeaaDoorTie.lean); close each card by the builder's one call (the guide's Derived/Test/ToyasCard.lean, 'card_holds'). Laid BY PROGRAM, IN A SANDBOX (cutbox-door.mjs). By AI agents, Wed Nov 11 2026. No macro, syntax, notation, axiom, sorry.
-/
import Derived.Test.YtoppcppinjmjeaaDoorRows
import GoSem.ClaimSeven
namespace Go.Proofs.YtoppcppinjmjeaaDoor
namespace Rows

/-- THE TIED CARD OF 'laws.FnExactGroupsIn'. -/
def fnExactGroupsInCard : Claim7 := { stood := { row := fnExactGroupsInRow, standIns := [], harness := (true, "2cd5aafdebd87152cbdfe7fcba68c097504a867524bac5330af246a212f4a986"), looks := true }, kinds := [], alts := [], laidByText := true, laidKinds := [.sentinel, .sentinel, .sentinel, .sentinel, .sentinel, .sentinel, .sentinel], laidTests := true, laidLooks := .later }
def FnExactGroupsInCardSaid : Prop := Claim7.holds Tryd.pinned (.plain (OpenSpec.ofChange fnExactGroupsInSpec)) fnExactGroupsInCard

/-- THE TIED CARD OF 'laws.FnExactUpIn'. -/
def fnExactUpInCard : Claim7 := { stood := { row := fnExactUpInRow, standIns := [], harness := (true, "2cd5aafdebd87152cbdfe7fcba68c097504a867524bac5330af246a212f4a986"), looks := true }, kinds := [], alts := [], laidByText := true, laidKinds := [.sentinel, .sentinel, .sentinel, .sentinel, .sentinel, .sentinel, .sentinel], laidTests := true, laidLooks := .later }
def FnExactUpInCardSaid : Prop := Claim7.holds Tryd.pinned (.plain (OpenSpec.ofChange fnExactUpInSpec)) fnExactUpInCard

/-- THE TIED CARD OF 'laws.FnExactDownIn'. -/
def fnExactDownInCard : Claim7 := { stood := { row := fnExactDownInRow, standIns := [], harness := (true, "2cd5aafdebd87152cbdfe7fcba68c097504a867524bac5330af246a212f4a986"), looks := true }, kinds := [], alts := [], laidByText := true, laidKinds := [.sentinel, .sentinel, .sentinel, .sentinel, .sentinel, .sentinel, .sentinel], laidTests := true, laidLooks := .later }
def FnExactDownInCardSaid : Prop := Claim7.holds Tryd.pinned (.plain (OpenSpec.ofChange fnExactDownInSpec)) fnExactDownInCard

/-- THE TIED CARD OF 'laws.FnExactClearIn'. -/
def fnExactClearInCard : Claim7 := { stood := { row := fnExactClearInRow, standIns := [], harness := (true, "2cd5aafdebd87152cbdfe7fcba68c097504a867524bac5330af246a212f4a986"), looks := true }, kinds := [], alts := [], laidByText := true, laidKinds := [.sentinel, .sentinel, .sentinel, .sentinel, .sentinel, .sentinel, .sentinel], laidTests := true, laidLooks := .later }
def FnExactClearInCardSaid : Prop := Claim7.holds Tryd.pinned (.plain (OpenSpec.ofChange fnExactClearInSpec)) fnExactClearInCard

/-- THE TIED CARD OF 'laws.FnExactFactsOf'. -/
def fnExactFactsOfCard : Claim7 := { stood := { row := fnExactFactsOfRow, standIns := [], harness := (true, "2cd5aafdebd87152cbdfe7fcba68c097504a867524bac5330af246a212f4a986"), looks := true }, kinds := [], alts := [], laidByText := true, laidKinds := [.data, .data, .data, .sentinel, .sentinel, .sentinel, .sentinel, .sentinel, .sentinel, .sentinel], laidTests := true, laidLooks := .later }
def FnExactFactsOfCardSaid : Prop := Claim7.holds Tryd.pinned (.plain (OpenSpec.ofChange fnExactFactsOfSpec)) fnExactFactsOfCard

/-- THE TIED CARD OF 'laws.FnExactCountOnce'. -/
def fnExactCountOnceCard : Claim7 := { stood := { row := fnExactCountOnceRow, standIns := [], harness := (true, "2cd5aafdebd87152cbdfe7fcba68c097504a867524bac5330af246a212f4a986"), looks := true }, kinds := [], alts := [], laidByText := true, laidKinds := [.sentinel, .sentinel, .sentinel, .sentinel, .sentinel, .sentinel, .sentinel], laidTests := true, laidLooks := .later }
def FnExactCountOnceCardSaid : Prop := Claim7.holds Tryd.pinned (.plain (OpenSpec.ofChange fnExactCountOnceSpec)) fnExactCountOnceCard

/-- THE TIED CARD OF 'laws.FnExactIsTidy'. -/
def fnExactIsTidyCard : Claim7 := { stood := { row := fnExactIsTidyRow, standIns := [], harness := (true, "2cd5aafdebd87152cbdfe7fcba68c097504a867524bac5330af246a212f4a986"), looks := true }, kinds := [], alts := [], laidByText := true, laidKinds := [.sentinel, .sentinel, .sentinel, .sentinel, .sentinel, .sentinel, .sentinel], laidTests := true, laidLooks := .later }
def FnExactIsTidyCardSaid : Prop := Claim7.holds Tryd.pinned (.plain (OpenSpec.ofChange fnExactIsTidySpec)) fnExactIsTidyCard

/-- THE TIED CARD OF 'laws.FnExactTidy'. -/
def fnExactTidyCard : Claim7 := { stood := { row := fnExactTidyRow, standIns := [], harness := (true, "2cd5aafdebd87152cbdfe7fcba68c097504a867524bac5330af246a212f4a986"), looks := true }, kinds := [], alts := [], laidByText := true, laidKinds := [.sentinel, .sentinel, .sentinel, .sentinel, .sentinel, .sentinel, .sentinel], laidTests := true, laidLooks := .later }
def FnExactTidyCardSaid : Prop := Claim7.holds Tryd.pinned (.plain (OpenSpec.ofChange fnExactTidySpec)) fnExactTidyCard

/-- THE TIED CARD OF 'laws.FnExactShortestRun'. -/
def fnExactShortestRunCard : Claim7 := { stood := { row := fnExactShortestRunRow, standIns := [], harness := (true, "2cd5aafdebd87152cbdfe7fcba68c097504a867524bac5330af246a212f4a986"), looks := true }, kinds := [], alts := [], laidByText := true, laidKinds := [.sentinel, .sentinel, .sentinel, .sentinel, .sentinel, .sentinel, .sentinel], laidTests := true, laidLooks := .later }
def FnExactShortestRunCardSaid : Prop := Claim7.holds Tryd.pinned (.plain (OpenSpec.ofChange fnExactShortestRunSpec)) fnExactShortestRunCard

/-- THE TIED CARD OF 'laws.FnExactWalkRun'. -/
def fnExactWalkRunCard : Claim7 := { stood := { row := fnExactWalkRunRow, standIns := [], harness := (true, "2cd5aafdebd87152cbdfe7fcba68c097504a867524bac5330af246a212f4a986"), looks := true }, kinds := [], alts := [], laidByText := true, laidKinds := [.sentinel, .sentinel, .sentinel, .sentinel, .sentinel, .sentinel, .sentinel], laidTests := true, laidLooks := .later }
def FnExactWalkRunCardSaid : Prop := Claim7.holds Tryd.pinned (.plain (OpenSpec.ofChange fnExactWalkRunSpec)) fnExactWalkRunCard

/-- THE TIED CARD OF 'laws.FnExactSwapTerms'. -/
def fnExactSwapTermsCard : Claim7 := { stood := { row := fnExactSwapTermsRow, standIns := [], harness := (true, "2cd5aafdebd87152cbdfe7fcba68c097504a867524bac5330af246a212f4a986"), looks := true }, kinds := [], alts := [], laidByText := true, laidKinds := [.sentinel, .sentinel, .sentinel, .sentinel, .sentinel, .sentinel, .sentinel], laidTests := true, laidLooks := .later }
def FnExactSwapTermsCardSaid : Prop := Claim7.holds Tryd.pinned (.plain (OpenSpec.ofChange fnExactSwapTermsSpec)) fnExactSwapTermsCard

/-- THE SECOND FORM's CARD OF 'laws.FnExactGroupsIn'. -/
def fnExactGroupsInUptoCard : Claim7 := { stood := { row := fnExactGroupsInUptoRow, standIns := [], harness := (true, "2cd5aafdebd87152cbdfe7fcba68c097504a867524bac5330af246a212f4a986"), looks := true }, kinds := [], alts := [], laidByText := true, laidKinds := [.sentinel, .sentinel, .sentinel, .sentinel, .sentinel, .sentinel, .sentinel], laidTests := true, laidLooks := .later }
def FnExactGroupsInUptoCardSaid : Prop := Claim7.holds Tryd.pinned (.plain (OpenSpec.upto fnExactGroupsInSpec)) fnExactGroupsInUptoCard

/-- THE SECOND FORM's CARD OF 'laws.FnExactUpIn'. -/
def fnExactUpInUptoCard : Claim7 := { stood := { row := fnExactUpInUptoRow, standIns := [], harness := (true, "2cd5aafdebd87152cbdfe7fcba68c097504a867524bac5330af246a212f4a986"), looks := true }, kinds := [], alts := [], laidByText := true, laidKinds := [.sentinel, .sentinel, .sentinel, .sentinel, .sentinel, .sentinel, .sentinel], laidTests := true, laidLooks := .later }
def FnExactUpInUptoCardSaid : Prop := Claim7.holds Tryd.pinned (.plain (OpenSpec.upto fnExactUpInSpec)) fnExactUpInUptoCard

/-- THE SECOND FORM's CARD OF 'laws.FnExactDownIn'. -/
def fnExactDownInUptoCard : Claim7 := { stood := { row := fnExactDownInUptoRow, standIns := [], harness := (true, "2cd5aafdebd87152cbdfe7fcba68c097504a867524bac5330af246a212f4a986"), looks := true }, kinds := [], alts := [], laidByText := true, laidKinds := [.sentinel, .sentinel, .sentinel, .sentinel, .sentinel, .sentinel, .sentinel], laidTests := true, laidLooks := .later }
def FnExactDownInUptoCardSaid : Prop := Claim7.holds Tryd.pinned (.plain (OpenSpec.upto fnExactDownInSpec)) fnExactDownInUptoCard

/-- THE SECOND FORM's CARD OF 'laws.FnExactClearIn'. -/
def fnExactClearInUptoCard : Claim7 := { stood := { row := fnExactClearInUptoRow, standIns := [], harness := (true, "2cd5aafdebd87152cbdfe7fcba68c097504a867524bac5330af246a212f4a986"), looks := true }, kinds := [], alts := [], laidByText := true, laidKinds := [.sentinel, .sentinel, .sentinel, .sentinel, .sentinel, .sentinel, .sentinel], laidTests := true, laidLooks := .later }
def FnExactClearInUptoCardSaid : Prop := Claim7.holds Tryd.pinned (.plain (OpenSpec.upto fnExactClearInSpec)) fnExactClearInUptoCard

/-- THE SECOND FORM's CARD OF 'laws.FnExactFactsOf'. -/
def fnExactFactsOfUptoCard : Claim7 := { stood := { row := fnExactFactsOfUptoRow, standIns := [], harness := (true, "2cd5aafdebd87152cbdfe7fcba68c097504a867524bac5330af246a212f4a986"), looks := true }, kinds := [], alts := [], laidByText := true, laidKinds := [.data, .data, .data, .sentinel, .sentinel, .sentinel, .sentinel, .sentinel, .sentinel, .sentinel], laidTests := true, laidLooks := .later }
def FnExactFactsOfUptoCardSaid : Prop := Claim7.holds Tryd.pinned (.plain (OpenSpec.upto fnExactFactsOfSpec)) fnExactFactsOfUptoCard

/-- THE SECOND FORM's CARD OF 'laws.FnExactCountOnce'. -/
def fnExactCountOnceUptoCard : Claim7 := { stood := { row := fnExactCountOnceUptoRow, standIns := [], harness := (true, "2cd5aafdebd87152cbdfe7fcba68c097504a867524bac5330af246a212f4a986"), looks := true }, kinds := [], alts := [], laidByText := true, laidKinds := [.sentinel, .sentinel, .sentinel, .sentinel, .sentinel, .sentinel, .sentinel], laidTests := true, laidLooks := .later }
def FnExactCountOnceUptoCardSaid : Prop := Claim7.holds Tryd.pinned (.plain (OpenSpec.upto fnExactCountOnceSpec)) fnExactCountOnceUptoCard

/-- THE SECOND FORM's CARD OF 'laws.FnExactIsTidy'. -/
def fnExactIsTidyUptoCard : Claim7 := { stood := { row := fnExactIsTidyUptoRow, standIns := [], harness := (true, "2cd5aafdebd87152cbdfe7fcba68c097504a867524bac5330af246a212f4a986"), looks := true }, kinds := [], alts := [], laidByText := true, laidKinds := [.sentinel, .sentinel, .sentinel, .sentinel, .sentinel, .sentinel, .sentinel], laidTests := true, laidLooks := .later }
def FnExactIsTidyUptoCardSaid : Prop := Claim7.holds Tryd.pinned (.plain (OpenSpec.upto fnExactIsTidySpec)) fnExactIsTidyUptoCard

/-- THE SECOND FORM's CARD OF 'laws.FnExactTidy'. -/
def fnExactTidyUptoCard : Claim7 := { stood := { row := fnExactTidyUptoRow, standIns := [], harness := (true, "2cd5aafdebd87152cbdfe7fcba68c097504a867524bac5330af246a212f4a986"), looks := true }, kinds := [], alts := [], laidByText := true, laidKinds := [.sentinel, .sentinel, .sentinel, .sentinel, .sentinel, .sentinel, .sentinel], laidTests := true, laidLooks := .later }
def FnExactTidyUptoCardSaid : Prop := Claim7.holds Tryd.pinned (.plain (OpenSpec.upto fnExactTidySpec)) fnExactTidyUptoCard

/-- THE SECOND FORM's CARD OF 'laws.FnExactShortestRun'. -/
def fnExactShortestRunUptoCard : Claim7 := { stood := { row := fnExactShortestRunUptoRow, standIns := [], harness := (true, "2cd5aafdebd87152cbdfe7fcba68c097504a867524bac5330af246a212f4a986"), looks := true }, kinds := [], alts := [], laidByText := true, laidKinds := [.sentinel, .sentinel, .sentinel, .sentinel, .sentinel, .sentinel, .sentinel], laidTests := true, laidLooks := .later }
def FnExactShortestRunUptoCardSaid : Prop := Claim7.holds Tryd.pinned (.plain (OpenSpec.upto fnExactShortestRunSpec)) fnExactShortestRunUptoCard

/-- THE SECOND FORM's CARD OF 'laws.FnExactWalkRun'. -/
def fnExactWalkRunUptoCard : Claim7 := { stood := { row := fnExactWalkRunUptoRow, standIns := [], harness := (true, "2cd5aafdebd87152cbdfe7fcba68c097504a867524bac5330af246a212f4a986"), looks := true }, kinds := [], alts := [], laidByText := true, laidKinds := [.sentinel, .sentinel, .sentinel, .sentinel, .sentinel, .sentinel, .sentinel], laidTests := true, laidLooks := .later }
def FnExactWalkRunUptoCardSaid : Prop := Claim7.holds Tryd.pinned (.plain (OpenSpec.upto fnExactWalkRunSpec)) fnExactWalkRunUptoCard

/-- THE SECOND FORM's CARD OF 'laws.FnExactSwapTerms'. -/
def fnExactSwapTermsUptoCard : Claim7 := { stood := { row := fnExactSwapTermsUptoRow, standIns := [], harness := (true, "2cd5aafdebd87152cbdfe7fcba68c097504a867524bac5330af246a212f4a986"), looks := true }, kinds := [], alts := [], laidByText := true, laidKinds := [.sentinel, .sentinel, .sentinel, .sentinel, .sentinel, .sentinel, .sentinel], laidTests := true, laidLooks := .later }
def FnExactSwapTermsUptoCardSaid : Prop := Claim7.holds Tryd.pinned (.plain (OpenSpec.upto fnExactSwapTermsSpec)) fnExactSwapTermsUptoCard
end Rows
end Go.Proofs.YtoppcppinjmjeaaDoor
