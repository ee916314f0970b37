/-
  DERIVED. GIVEN WITH THE SEED: THE CARDS: each row of YtdimncfpmgnnfaaDoorRows.lean that lists a variable, with what it lists TIED to the program's text (the seventh form; the later family's looks); each row that meets fmt, with fmt's text TOLD by the authors' own Lean function (tested against real Go, not proved from fmt's source: count such statements apart). THE CARD IS WHAT COUNTS. Prove the row's statement (the work); the ties are given (YtdimncfpmgnnfaaDoorTie.lean); close each card by the builder's one call (the guide's Derived/Test/ToyasCard.lean, 'card_holds'). Laid BY PROGRAM, IN A SANDBOX (cutbox-door.mjs). By AI agents, Wed Nov 11 2026. No macro, syntax, notation, axiom, sorry.
-/
import Derived.Test.YtdimncfpmgnnfaaDoorRows
import GoSem.ClaimSeven
namespace Go.Proofs.YtdimncfpmgnnfaaDoor
namespace Rows

/-- THE TIED CARD OF 'laws.FnProgText'. -/
def fnProgTextCard : Claim7 := { stood := { row := fnProgTextRow, standIns := [], harness := (true, "ff58326570ec478f742f3824be1e9530702f448c5049ee81eee8b83dc88b0b90"), looks := true }, kinds := [], alts := [], laidByText := true, laidKinds := [.data, .sentinel, .sentinel, .sentinel, .sentinel, .sentinel, .sentinel, .sentinel, .sentinel, .pinned], laidTests := true, laidLooks := .later }
def FnProgTextCardSaid : Prop := Claim7.holds Tryd.pinned (.plain (OpenSpec.ofChange fnProgTextSpec)) fnProgTextCard

/-- THE TIED CARD OF 'laws.FnEnds'. -/
def fnEndsCard : Claim7 := { stood := { row := fnEndsRow, standIns := [], harness := (true, "ff58326570ec478f742f3824be1e9530702f448c5049ee81eee8b83dc88b0b90"), looks := true }, kinds := [], alts := [], laidByText := true, laidKinds := [.sentinel, .sentinel, .sentinel, .sentinel, .sentinel, .sentinel, .sentinel], laidTests := true, laidLooks := .later }
def FnEndsCardSaid : Prop := Claim7.holds Tryd.pinned (.plain (OpenSpec.ofChange fnEndsSpec)) fnEndsCard

/-- THE TIED CARD OF 'laws.FnEdgeOf'. -/
def fnEdgeOfCard : Claim7 := { stood := { row := fnEdgeOfRow, standIns := [], harness := (true, "ff58326570ec478f742f3824be1e9530702f448c5049ee81eee8b83dc88b0b90"), looks := true }, kinds := [], alts := [], laidByText := true, laidKinds := [.sentinel, .sentinel, .sentinel, .sentinel, .sentinel, .sentinel, .sentinel], laidTests := true, laidLooks := .later }
def FnEdgeOfCardSaid : Prop := Claim7.holds Tryd.pinned (.plain (OpenSpec.ofChange fnEdgeOfSpec)) fnEdgeOfCard

/-- THE TIED CARD OF 'laws.FnTerms'. -/
def fnTermsCard : Claim7 := { stood := { row := fnTermsRow, standIns := [], harness := (true, "ff58326570ec478f742f3824be1e9530702f448c5049ee81eee8b83dc88b0b90"), looks := true }, kinds := [], alts := [], laidByText := true, laidKinds := [.sentinel, .sentinel, .sentinel, .sentinel, .sentinel, .sentinel, .sentinel], laidTests := true, laidLooks := .later }
def FnTermsCardSaid : Prop := Claim7.holds Tryd.pinned (.plain (OpenSpec.ofChange fnTermsSpec)) fnTermsCard

/-- THE TIED CARD OF 'laws.FnSwapTerms'. -/
def fnSwapTermsCard : Claim7 := { stood := { row := fnSwapTermsRow, standIns := [], harness := (true, "ff58326570ec478f742f3824be1e9530702f448c5049ee81eee8b83dc88b0b90"), looks := true }, kinds := [], alts := [], laidByText := true, laidKinds := [.sentinel, .sentinel, .sentinel, .sentinel, .sentinel, .sentinel, .sentinel], laidTests := true, laidLooks := .later }
def FnSwapTermsCardSaid : Prop := Claim7.holds Tryd.pinned (.plain (OpenSpec.ofChange fnSwapTermsSpec)) fnSwapTermsCard

/-- THE TIED CARD OF 'laws.FnSwapThree'. -/
def fnSwapThreeCard : Claim7 := { stood := { row := fnSwapThreeRow, standIns := [], harness := (true, "ff58326570ec478f742f3824be1e9530702f448c5049ee81eee8b83dc88b0b90"), looks := true }, kinds := [], alts := [], laidByText := true, laidKinds := [.sentinel, .sentinel, .sentinel, .sentinel, .sentinel, .sentinel, .sentinel], laidTests := true, laidLooks := .later }
def FnSwapThreeCardSaid : Prop := Claim7.holds Tryd.pinned (.plain (OpenSpec.ofChange fnSwapThreeSpec)) fnSwapThreeCard

/-- THE TIED CARD OF 'laws.FnExactProgValid'. -/
def fnExactProgValidCard : Claim7 := { stood := { row := fnExactProgValidRow, standIns := [], harness := (true, "ff58326570ec478f742f3824be1e9530702f448c5049ee81eee8b83dc88b0b90"), looks := true }, kinds := [], alts := [], laidByText := true, laidKinds := [.sentinel, .sentinel, .sentinel, .sentinel, .sentinel, .sentinel, .sentinel], laidTests := true, laidLooks := .later }
def FnExactProgValidCardSaid : Prop := Claim7.holds Tryd.pinned (.plain (OpenSpec.ofChange fnExactProgValidSpec)) fnExactProgValidCard

/-- THE TIED CARD OF 'laws.FnExactFormatProg'. -/
def fnExactFormatProgCard : Claim7 := { stood := { row := fnExactFormatProgRow, standIns := [], harness := (true, "ff58326570ec478f742f3824be1e9530702f448c5049ee81eee8b83dc88b0b90"), looks := true }, kinds := [], alts := [], laidByText := true, laidKinds := [.sentinel, .sentinel, .sentinel, .sentinel, .sentinel, .sentinel, .sentinel], laidTests := true, laidLooks := .later }
def FnExactFormatProgCardSaid : Prop := Claim7.holds Tryd.pinned (.plain (OpenSpec.ofChange fnExactFormatProgSpec)) fnExactFormatProgCard

/-- THE TIED CARD OF 'laws.FnExactParseProg'. -/
def fnExactParseProgCard : Claim7 := { stood := { row := fnExactParseProgRow, standIns := [], harness := (true, "ff58326570ec478f742f3824be1e9530702f448c5049ee81eee8b83dc88b0b90"), looks := true }, kinds := [], alts := [], laidByText := true, laidKinds := [.data, .sentinel, .sentinel, .sentinel, .sentinel, .sentinel, .sentinel, .sentinel, .sentinel, .pinned], laidTests := true, laidLooks := .later }
def FnExactParseProgCardSaid : Prop := Claim7.holds Tryd.pinned (.plain (OpenSpec.ofChange fnExactParseProgSpec)) fnExactParseProgCard

/-- THE TIED CARD OF 'laws.FnExactOutOf'. -/
def fnExactOutOfCard : Claim7 := { stood := { row := fnExactOutOfRow, standIns := [], harness := (true, "ff58326570ec478f742f3824be1e9530702f448c5049ee81eee8b83dc88b0b90"), looks := true }, kinds := [], alts := [], laidByText := true, laidKinds := [.sentinel, .sentinel, .sentinel, .sentinel, .sentinel, .sentinel, .sentinel], laidTests := true, laidLooks := .later }
def FnExactOutOfCardSaid : Prop := Claim7.holds Tryd.pinned (.plain (OpenSpec.ofChange fnExactOutOfSpec)) fnExactOutOfCard

/-- THE TIED CARD OF 'laws.FnExactInOf'. -/
def fnExactInOfCard : Claim7 := { stood := { row := fnExactInOfRow, standIns := [], harness := (true, "ff58326570ec478f742f3824be1e9530702f448c5049ee81eee8b83dc88b0b90"), looks := true }, kinds := [], alts := [], laidByText := true, laidKinds := [.sentinel, .sentinel, .sentinel, .sentinel, .sentinel, .sentinel, .sentinel], laidTests := true, laidLooks := .later }
def FnExactInOfCardSaid : Prop := Claim7.holds Tryd.pinned (.plain (OpenSpec.ofChange fnExactInOfSpec)) fnExactInOfCard

/-- THE TIED CARD OF 'laws.FnExactOpsOf'. -/
def fnExactOpsOfCard : Claim7 := { stood := { row := fnExactOpsOfRow, standIns := [], harness := (true, "ff58326570ec478f742f3824be1e9530702f448c5049ee81eee8b83dc88b0b90"), looks := true }, kinds := [], alts := [], laidByText := true, laidKinds := [.sentinel, .sentinel, .sentinel, .sentinel, .sentinel, .sentinel, .sentinel], laidTests := true, laidLooks := .later }
def FnExactOpsOfCardSaid : Prop := Claim7.holds Tryd.pinned (.plain (OpenSpec.ofChange fnExactOpsOfSpec)) fnExactOpsOfCard

/-- THE TIED CARD OF 'laws.FnExactTermsIn'. -/
def fnExactTermsInCard : Claim7 := { stood := { row := fnExactTermsInRow, standIns := [], harness := (true, "ff58326570ec478f742f3824be1e9530702f448c5049ee81eee8b83dc88b0b90"), looks := true }, kinds := [], alts := [], laidByText := true, laidKinds := [.sentinel, .sentinel, .sentinel, .sentinel, .sentinel, .sentinel, .sentinel], laidTests := true, laidLooks := .later }
def FnExactTermsInCardSaid : Prop := Claim7.holds Tryd.pinned (.plain (OpenSpec.ofChange fnExactTermsInSpec)) fnExactTermsInCard

/-- THE TIED CARD OF 'laws.FnExactEdgeOf'. -/
def fnExactEdgeOfCard : Claim7 := { stood := { row := fnExactEdgeOfRow, standIns := [], harness := (true, "ff58326570ec478f742f3824be1e9530702f448c5049ee81eee8b83dc88b0b90"), looks := true }, kinds := [], alts := [], laidByText := true, laidKinds := [.sentinel, .sentinel, .sentinel, .sentinel, .sentinel, .sentinel, .sentinel], laidTests := true, laidLooks := .later }
def FnExactEdgeOfCardSaid : Prop := Claim7.holds Tryd.pinned (.plain (OpenSpec.ofChange fnExactEdgeOfSpec)) fnExactEdgeOfCard

/-- THE TIED CARD OF 'laws.FnExactSwapTerms'. -/
def fnExactSwapTermsCard : Claim7 := { stood := { row := fnExactSwapTermsRow, standIns := [], harness := (true, "ff58326570ec478f742f3824be1e9530702f448c5049ee81eee8b83dc88b0b90"), looks := true }, kinds := [], alts := [], laidByText := true, laidKinds := [.sentinel, .sentinel, .sentinel, .sentinel, .sentinel, .sentinel, .sentinel], laidTests := true, laidLooks := .later }
def FnExactSwapTermsCardSaid : Prop := Claim7.holds Tryd.pinned (.plain (OpenSpec.ofChange fnExactSwapTermsSpec)) fnExactSwapTermsCard

/-- THE SECOND FORM's CARD OF 'laws.FnProgText'. -/
def fnProgTextUptoCard : Claim7 := { stood := { row := fnProgTextUptoRow, standIns := [], harness := (true, "ff58326570ec478f742f3824be1e9530702f448c5049ee81eee8b83dc88b0b90"), looks := true }, kinds := [], alts := [], laidByText := true, laidKinds := [.data, .sentinel, .sentinel, .sentinel, .sentinel, .sentinel, .sentinel, .sentinel, .sentinel, .pinned], laidTests := true, laidLooks := .later }
def FnProgTextUptoCardSaid : Prop := Claim7.holds Tryd.pinned (.plain (OpenSpec.upto fnProgTextSpec)) fnProgTextUptoCard

/-- THE SECOND FORM's CARD OF 'laws.FnEnds'. -/
def fnEndsUptoCard : Claim7 := { stood := { row := fnEndsUptoRow, standIns := [], harness := (true, "ff58326570ec478f742f3824be1e9530702f448c5049ee81eee8b83dc88b0b90"), looks := true }, kinds := [], alts := [], laidByText := true, laidKinds := [.sentinel, .sentinel, .sentinel, .sentinel, .sentinel, .sentinel, .sentinel], laidTests := true, laidLooks := .later }
def FnEndsUptoCardSaid : Prop := Claim7.holds Tryd.pinned (.plain (OpenSpec.upto fnEndsSpec)) fnEndsUptoCard

/-- THE SECOND FORM's CARD OF 'laws.FnEdgeOf'. -/
def fnEdgeOfUptoCard : Claim7 := { stood := { row := fnEdgeOfUptoRow, standIns := [], harness := (true, "ff58326570ec478f742f3824be1e9530702f448c5049ee81eee8b83dc88b0b90"), looks := true }, kinds := [], alts := [], laidByText := true, laidKinds := [.sentinel, .sentinel, .sentinel, .sentinel, .sentinel, .sentinel, .sentinel], laidTests := true, laidLooks := .later }
def FnEdgeOfUptoCardSaid : Prop := Claim7.holds Tryd.pinned (.plain (OpenSpec.upto fnEdgeOfSpec)) fnEdgeOfUptoCard

/-- THE SECOND FORM's CARD OF 'laws.FnTerms'. -/
def fnTermsUptoCard : Claim7 := { stood := { row := fnTermsUptoRow, standIns := [], harness := (true, "ff58326570ec478f742f3824be1e9530702f448c5049ee81eee8b83dc88b0b90"), looks := true }, kinds := [], alts := [], laidByText := true, laidKinds := [.sentinel, .sentinel, .sentinel, .sentinel, .sentinel, .sentinel, .sentinel], laidTests := true, laidLooks := .later }
def FnTermsUptoCardSaid : Prop := Claim7.holds Tryd.pinned (.plain (OpenSpec.upto fnTermsSpec)) fnTermsUptoCard

/-- THE SECOND FORM's CARD OF 'laws.FnSwapTerms'. -/
def fnSwapTermsUptoCard : Claim7 := { stood := { row := fnSwapTermsUptoRow, standIns := [], harness := (true, "ff58326570ec478f742f3824be1e9530702f448c5049ee81eee8b83dc88b0b90"), looks := true }, kinds := [], alts := [], laidByText := true, laidKinds := [.sentinel, .sentinel, .sentinel, .sentinel, .sentinel, .sentinel, .sentinel], laidTests := true, laidLooks := .later }
def FnSwapTermsUptoCardSaid : Prop := Claim7.holds Tryd.pinned (.plain (OpenSpec.upto fnSwapTermsSpec)) fnSwapTermsUptoCard

/-- THE SECOND FORM's CARD OF 'laws.FnSwapThree'. -/
def fnSwapThreeUptoCard : Claim7 := { stood := { row := fnSwapThreeUptoRow, standIns := [], harness := (true, "ff58326570ec478f742f3824be1e9530702f448c5049ee81eee8b83dc88b0b90"), looks := true }, kinds := [], alts := [], laidByText := true, laidKinds := [.sentinel, .sentinel, .sentinel, .sentinel, .sentinel, .sentinel, .sentinel], laidTests := true, laidLooks := .later }
def FnSwapThreeUptoCardSaid : Prop := Claim7.holds Tryd.pinned (.plain (OpenSpec.upto fnSwapThreeSpec)) fnSwapThreeUptoCard

/-- THE SECOND FORM's CARD OF 'laws.FnExactProgValid'. -/
def fnExactProgValidUptoCard : Claim7 := { stood := { row := fnExactProgValidUptoRow, standIns := [], harness := (true, "ff58326570ec478f742f3824be1e9530702f448c5049ee81eee8b83dc88b0b90"), looks := true }, kinds := [], alts := [], laidByText := true, laidKinds := [.sentinel, .sentinel, .sentinel, .sentinel, .sentinel, .sentinel, .sentinel], laidTests := true, laidLooks := .later }
def FnExactProgValidUptoCardSaid : Prop := Claim7.holds Tryd.pinned (.plain (OpenSpec.upto fnExactProgValidSpec)) fnExactProgValidUptoCard

/-- THE SECOND FORM's CARD OF 'laws.FnExactFormatProg'. -/
def fnExactFormatProgUptoCard : Claim7 := { stood := { row := fnExactFormatProgUptoRow, standIns := [], harness := (true, "ff58326570ec478f742f3824be1e9530702f448c5049ee81eee8b83dc88b0b90"), looks := true }, kinds := [], alts := [], laidByText := true, laidKinds := [.sentinel, .sentinel, .sentinel, .sentinel, .sentinel, .sentinel, .sentinel], laidTests := true, laidLooks := .later }
def FnExactFormatProgUptoCardSaid : Prop := Claim7.holds Tryd.pinned (.plain (OpenSpec.upto fnExactFormatProgSpec)) fnExactFormatProgUptoCard

/-- THE SECOND FORM's CARD OF 'laws.FnExactParseProg'. -/
def fnExactParseProgUptoCard : Claim7 := { stood := { row := fnExactParseProgUptoRow, standIns := [], harness := (true, "ff58326570ec478f742f3824be1e9530702f448c5049ee81eee8b83dc88b0b90"), looks := true }, kinds := [], alts := [], laidByText := true, laidKinds := [.data, .sentinel, .sentinel, .sentinel, .sentinel, .sentinel, .sentinel, .sentinel, .sentinel, .pinned], laidTests := true, laidLooks := .later }
def FnExactParseProgUptoCardSaid : Prop := Claim7.holds Tryd.pinned (.plain (OpenSpec.upto fnExactParseProgSpec)) fnExactParseProgUptoCard

/-- THE SECOND FORM's CARD OF 'laws.FnExactOutOf'. -/
def fnExactOutOfUptoCard : Claim7 := { stood := { row := fnExactOutOfUptoRow, standIns := [], harness := (true, "ff58326570ec478f742f3824be1e9530702f448c5049ee81eee8b83dc88b0b90"), looks := true }, kinds := [], alts := [], laidByText := true, laidKinds := [.sentinel, .sentinel, .sentinel, .sentinel, .sentinel, .sentinel, .sentinel], laidTests := true, laidLooks := .later }
def FnExactOutOfUptoCardSaid : Prop := Claim7.holds Tryd.pinned (.plain (OpenSpec.upto fnExactOutOfSpec)) fnExactOutOfUptoCard

/-- THE SECOND FORM's CARD OF 'laws.FnExactInOf'. -/
def fnExactInOfUptoCard : Claim7 := { stood := { row := fnExactInOfUptoRow, standIns := [], harness := (true, "ff58326570ec478f742f3824be1e9530702f448c5049ee81eee8b83dc88b0b90"), looks := true }, kinds := [], alts := [], laidByText := true, laidKinds := [.sentinel, .sentinel, .sentinel, .sentinel, .sentinel, .sentinel, .sentinel], laidTests := true, laidLooks := .later }
def FnExactInOfUptoCardSaid : Prop := Claim7.holds Tryd.pinned (.plain (OpenSpec.upto fnExactInOfSpec)) fnExactInOfUptoCard

/-- THE SECOND FORM's CARD OF 'laws.FnExactOpsOf'. -/
def fnExactOpsOfUptoCard : Claim7 := { stood := { row := fnExactOpsOfUptoRow, standIns := [], harness := (true, "ff58326570ec478f742f3824be1e9530702f448c5049ee81eee8b83dc88b0b90"), looks := true }, kinds := [], alts := [], laidByText := true, laidKinds := [.sentinel, .sentinel, .sentinel, .sentinel, .sentinel, .sentinel, .sentinel], laidTests := true, laidLooks := .later }
def FnExactOpsOfUptoCardSaid : Prop := Claim7.holds Tryd.pinned (.plain (OpenSpec.upto fnExactOpsOfSpec)) fnExactOpsOfUptoCard

/-- THE SECOND FORM's CARD OF 'laws.FnExactTermsIn'. -/
def fnExactTermsInUptoCard : Claim7 := { stood := { row := fnExactTermsInUptoRow, standIns := [], harness := (true, "ff58326570ec478f742f3824be1e9530702f448c5049ee81eee8b83dc88b0b90"), looks := true }, kinds := [], alts := [], laidByText := true, laidKinds := [.sentinel, .sentinel, .sentinel, .sentinel, .sentinel, .sentinel, .sentinel], laidTests := true, laidLooks := .later }
def FnExactTermsInUptoCardSaid : Prop := Claim7.holds Tryd.pinned (.plain (OpenSpec.upto fnExactTermsInSpec)) fnExactTermsInUptoCard

/-- THE SECOND FORM's CARD OF 'laws.FnExactEdgeOf'. -/
def fnExactEdgeOfUptoCard : Claim7 := { stood := { row := fnExactEdgeOfUptoRow, standIns := [], harness := (true, "ff58326570ec478f742f3824be1e9530702f448c5049ee81eee8b83dc88b0b90"), looks := true }, kinds := [], alts := [], laidByText := true, laidKinds := [.sentinel, .sentinel, .sentinel, .sentinel, .sentinel, .sentinel, .sentinel], laidTests := true, laidLooks := .later }
def FnExactEdgeOfUptoCardSaid : Prop := Claim7.holds Tryd.pinned (.plain (OpenSpec.upto fnExactEdgeOfSpec)) fnExactEdgeOfUptoCard

/-- THE SECOND FORM's CARD OF 'laws.FnExactSwapTerms'. -/
def fnExactSwapTermsUptoCard : Claim7 := { stood := { row := fnExactSwapTermsUptoRow, standIns := [], harness := (true, "ff58326570ec478f742f3824be1e9530702f448c5049ee81eee8b83dc88b0b90"), looks := true }, kinds := [], alts := [], laidByText := true, laidKinds := [.sentinel, .sentinel, .sentinel, .sentinel, .sentinel, .sentinel, .sentinel], laidTests := true, laidLooks := .later }
def FnExactSwapTermsUptoCardSaid : Prop := Claim7.holds Tryd.pinned (.plain (OpenSpec.upto fnExactSwapTermsSpec)) fnExactSwapTermsUptoCard
end Rows
end Go.Proofs.YtdimncfpmgnnfaaDoor
