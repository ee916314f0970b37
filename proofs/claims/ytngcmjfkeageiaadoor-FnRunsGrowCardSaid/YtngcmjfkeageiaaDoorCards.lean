/-
  DERIVED. GIVEN WITH THE SEED: THE CARDS: each row of YtngcmjfkeageiaaDoorRows.lean that lists a variable, with what it lists TIED to the program's text (the seventh form; the later family's looks); each row that meets fmt, with fmt's text TOLD by the authors' own Lean function (tested against real Go, not proved from fmt's source: count such statements apart). THE CARD IS WHAT COUNTS. Prove the row's statement (the work); the ties are given (YtngcmjfkeageiaaDoorTie.lean); close each card by the builder's one call (the guide's Derived/Test/ToyasCard.lean, 'card_holds'). Laid BY PROGRAM, IN A SANDBOX (cutbox-door.mjs). By AI agents, Wed Nov 11 2026. No macro, syntax, notation, axiom, sorry.
-/
import Derived.Test.YtngcmjfkeageiaaDoorRows
import GoSem.ClaimSeven
namespace Go.Proofs.YtngcmjfkeageiaaDoor
namespace Rows

/-- THE TIED CARD OF 'laws.FnExactTermsIn'. -/
def fnExactTermsInCard : Claim7 := { stood := { row := fnExactTermsInRow, standIns := [], harness := (true, "1f8d8dfce409505668ed53fa3d4150abf0b6be011fe78f15f3fcfe692ad814c9"), looks := true }, kinds := [], alts := [], laidByText := true, laidKinds := [.sentinel, .sentinel, .sentinel, .sentinel, .sentinel, .sentinel, .sentinel], laidTests := true, laidLooks := .later }
def FnExactTermsInCardSaid : Prop := Claim7.holds Tryd.pinned (.plain (OpenSpec.ofChange fnExactTermsInSpec)) fnExactTermsInCard

/-- THE TIED CARD OF 'laws.FnTerms'. -/
def fnTermsCard : Claim7 := { stood := { row := fnTermsRow, standIns := [], harness := (true, "1f8d8dfce409505668ed53fa3d4150abf0b6be011fe78f15f3fcfe692ad814c9"), looks := true }, kinds := [], alts := [], laidByText := true, laidKinds := [.sentinel, .sentinel, .sentinel, .sentinel, .sentinel, .sentinel, .sentinel], laidTests := true, laidLooks := .later }
def FnTermsCardSaid : Prop := Claim7.holds Tryd.pinned (.plain (OpenSpec.ofChange fnTermsSpec)) fnTermsCard

/-- THE TIED CARD OF 'laws.FnSwapTerms'. -/
def fnSwapTermsCard : Claim7 := { stood := { row := fnSwapTermsRow, standIns := [], harness := (true, "1f8d8dfce409505668ed53fa3d4150abf0b6be011fe78f15f3fcfe692ad814c9"), looks := true }, kinds := [], alts := [], laidByText := true, laidKinds := [.sentinel, .sentinel, .sentinel, .sentinel, .sentinel, .sentinel, .sentinel], laidTests := true, laidLooks := .later }
def FnSwapTermsCardSaid : Prop := Claim7.holds Tryd.pinned (.plain (OpenSpec.ofChange fnSwapTermsSpec)) fnSwapTermsCard

/-- THE TIED CARD OF 'laws.FnProgText'. -/
def fnProgTextCard : Claim7 := { stood := { row := fnProgTextRow, standIns := [], harness := (true, "1f8d8dfce409505668ed53fa3d4150abf0b6be011fe78f15f3fcfe692ad814c9"), looks := true }, kinds := [], alts := [], laidByText := true, laidKinds := [.data, .sentinel, .sentinel, .sentinel, .sentinel, .sentinel, .sentinel, .sentinel, .sentinel, .pinned], laidTests := true, laidLooks := .later }
def FnProgTextCardSaid : Prop := Claim7.holds Tryd.pinned (.plain (OpenSpec.ofChange fnProgTextSpec)) fnProgTextCard

/-- THE TIED CARD OF 'laws.FnTidyFacts'. -/
def fnTidyFactsCard : Claim7 := { stood := { row := fnTidyFactsRow, standIns := [], harness := (true, "1f8d8dfce409505668ed53fa3d4150abf0b6be011fe78f15f3fcfe692ad814c9"), looks := true }, kinds := [], alts := [], laidByText := true, laidKinds := [.data, .data, .data, .sentinel, .sentinel, .sentinel, .sentinel, .sentinel, .sentinel, .sentinel], laidTests := true, laidLooks := .later }
def FnTidyFactsCardSaid : Prop := Claim7.holds Tryd.pinned (.plain (OpenSpec.ofChange fnTidyFactsSpec)) fnTidyFactsCard

/-- THE TIED CARD OF 'laws.FnExactRunsUpTo'. -/
def fnExactRunsUpToCard : Claim7 := { stood := { row := fnExactRunsUpToRow, standIns := [], harness := (true, "1f8d8dfce409505668ed53fa3d4150abf0b6be011fe78f15f3fcfe692ad814c9"), looks := true }, kinds := [], alts := [], laidByText := true, laidKinds := [.sentinel, .sentinel, .sentinel, .sentinel, .sentinel, .sentinel, .sentinel], laidTests := true, laidLooks := .later }
def FnExactRunsUpToCardSaid : Prop := Claim7.holds Tryd.pinned (.plain (OpenSpec.ofChange fnExactRunsUpToSpec)) fnExactRunsUpToCard

/-- THE TIED CARD OF 'laws.FnExactFormatPlace'. -/
def fnExactFormatPlaceCard : Claim7 := { stood := { row := fnExactFormatPlaceRow, standIns := [], harness := (true, "1f8d8dfce409505668ed53fa3d4150abf0b6be011fe78f15f3fcfe692ad814c9"), looks := true }, kinds := [], alts := [], laidByText := true, laidKinds := [.data, .data, .data, .sentinel, .sentinel, .sentinel, .sentinel, .sentinel, .sentinel, .sentinel, .sentinel], laidTests := true, laidLooks := .later }
def FnExactFormatPlaceCardSaid : Prop := Claim7.holds Tryd.pinned (.plain (OpenSpec.ofChange fnExactFormatPlaceSpec)) fnExactFormatPlaceCard

/-- THE TIED CARD OF 'laws.FnShortest'. -/
def fnShortestCard : Claim7 := { stood := { row := fnShortestRow, standIns := [], harness := (true, "1f8d8dfce409505668ed53fa3d4150abf0b6be011fe78f15f3fcfe692ad814c9"), looks := true }, kinds := [], alts := [], laidByText := true, laidKinds := [.sentinel, .sentinel, .sentinel, .sentinel, .sentinel, .sentinel, .sentinel], laidTests := true, laidLooks := .later }
def FnShortestCardSaid : Prop := Claim7.holds Tryd.pinned (.plain (OpenSpec.ofChange fnShortestSpec)) fnShortestCard

/-- THE TIED CARD OF 'laws.FnRunsGrow'. -/
def fnRunsGrowCard : Claim7 := { stood := { row := fnRunsGrowRow, standIns := [], harness := (true, "1f8d8dfce409505668ed53fa3d4150abf0b6be011fe78f15f3fcfe692ad814c9"), looks := true }, kinds := [], alts := [], laidByText := true, laidKinds := [.sentinel, .sentinel, .sentinel, .sentinel, .sentinel, .sentinel, .sentinel], laidTests := true, laidLooks := .later }
def FnRunsGrowCardSaid : Prop := Claim7.holds Tryd.pinned (.plain (OpenSpec.ofChange fnRunsGrowSpec)) fnRunsGrowCard

/-- THE SECOND FORM's CARD OF 'laws.FnExactTermsIn'. -/
def fnExactTermsInUptoCard : Claim7 := { stood := { row := fnExactTermsInUptoRow, standIns := [], harness := (true, "1f8d8dfce409505668ed53fa3d4150abf0b6be011fe78f15f3fcfe692ad814c9"), looks := true }, kinds := [], alts := [], laidByText := true, laidKinds := [.sentinel, .sentinel, .sentinel, .sentinel, .sentinel, .sentinel, .sentinel], laidTests := true, laidLooks := .later }
def FnExactTermsInUptoCardSaid : Prop := Claim7.holds Tryd.pinned (.plain (OpenSpec.upto fnExactTermsInSpec)) fnExactTermsInUptoCard

/-- THE SECOND FORM's CARD OF 'laws.FnTerms'. -/
def fnTermsUptoCard : Claim7 := { stood := { row := fnTermsUptoRow, standIns := [], harness := (true, "1f8d8dfce409505668ed53fa3d4150abf0b6be011fe78f15f3fcfe692ad814c9"), looks := true }, kinds := [], alts := [], laidByText := true, laidKinds := [.sentinel, .sentinel, .sentinel, .sentinel, .sentinel, .sentinel, .sentinel], laidTests := true, laidLooks := .later }
def FnTermsUptoCardSaid : Prop := Claim7.holds Tryd.pinned (.plain (OpenSpec.upto fnTermsSpec)) fnTermsUptoCard

/-- THE SECOND FORM's CARD OF 'laws.FnSwapTerms'. -/
def fnSwapTermsUptoCard : Claim7 := { stood := { row := fnSwapTermsUptoRow, standIns := [], harness := (true, "1f8d8dfce409505668ed53fa3d4150abf0b6be011fe78f15f3fcfe692ad814c9"), looks := true }, kinds := [], alts := [], laidByText := true, laidKinds := [.sentinel, .sentinel, .sentinel, .sentinel, .sentinel, .sentinel, .sentinel], laidTests := true, laidLooks := .later }
def FnSwapTermsUptoCardSaid : Prop := Claim7.holds Tryd.pinned (.plain (OpenSpec.upto fnSwapTermsSpec)) fnSwapTermsUptoCard

/-- THE SECOND FORM's CARD OF 'laws.FnProgText'. -/
def fnProgTextUptoCard : Claim7 := { stood := { row := fnProgTextUptoRow, standIns := [], harness := (true, "1f8d8dfce409505668ed53fa3d4150abf0b6be011fe78f15f3fcfe692ad814c9"), looks := true }, kinds := [], alts := [], laidByText := true, laidKinds := [.data, .sentinel, .sentinel, .sentinel, .sentinel, .sentinel, .sentinel, .sentinel, .sentinel, .pinned], laidTests := true, laidLooks := .later }
def FnProgTextUptoCardSaid : Prop := Claim7.holds Tryd.pinned (.plain (OpenSpec.upto fnProgTextSpec)) fnProgTextUptoCard

/-- THE SECOND FORM's CARD OF 'laws.FnTidyFacts'. -/
def fnTidyFactsUptoCard : Claim7 := { stood := { row := fnTidyFactsUptoRow, standIns := [], harness := (true, "1f8d8dfce409505668ed53fa3d4150abf0b6be011fe78f15f3fcfe692ad814c9"), looks := true }, kinds := [], alts := [], laidByText := true, laidKinds := [.data, .data, .data, .sentinel, .sentinel, .sentinel, .sentinel, .sentinel, .sentinel, .sentinel], laidTests := true, laidLooks := .later }
def FnTidyFactsUptoCardSaid : Prop := Claim7.holds Tryd.pinned (.plain (OpenSpec.upto fnTidyFactsSpec)) fnTidyFactsUptoCard

/-- THE SECOND FORM's CARD OF 'laws.FnExactRunsUpTo'. -/
def fnExactRunsUpToUptoCard : Claim7 := { stood := { row := fnExactRunsUpToUptoRow, standIns := [], harness := (true, "1f8d8dfce409505668ed53fa3d4150abf0b6be011fe78f15f3fcfe692ad814c9"), looks := true }, kinds := [], alts := [], laidByText := true, laidKinds := [.sentinel, .sentinel, .sentinel, .sentinel, .sentinel, .sentinel, .sentinel], laidTests := true, laidLooks := .later }
def FnExactRunsUpToUptoCardSaid : Prop := Claim7.holds Tryd.pinned (.plain (OpenSpec.upto fnExactRunsUpToSpec)) fnExactRunsUpToUptoCard

/-- THE SECOND FORM's CARD OF 'laws.FnExactFormatPlace'. -/
def fnExactFormatPlaceUptoCard : Claim7 := { stood := { row := fnExactFormatPlaceUptoRow, standIns := [], harness := (true, "1f8d8dfce409505668ed53fa3d4150abf0b6be011fe78f15f3fcfe692ad814c9"), looks := true }, kinds := [], alts := [], laidByText := true, laidKinds := [.data, .data, .data, .sentinel, .sentinel, .sentinel, .sentinel, .sentinel, .sentinel, .sentinel, .sentinel], laidTests := true, laidLooks := .later }
def FnExactFormatPlaceUptoCardSaid : Prop := Claim7.holds Tryd.pinned (.plain (OpenSpec.upto fnExactFormatPlaceSpec)) fnExactFormatPlaceUptoCard

/-- THE SECOND FORM's CARD OF 'laws.FnShortest'. -/
def fnShortestUptoCard : Claim7 := { stood := { row := fnShortestUptoRow, standIns := [], harness := (true, "1f8d8dfce409505668ed53fa3d4150abf0b6be011fe78f15f3fcfe692ad814c9"), looks := true }, kinds := [], alts := [], laidByText := true, laidKinds := [.sentinel, .sentinel, .sentinel, .sentinel, .sentinel, .sentinel, .sentinel], laidTests := true, laidLooks := .later }
def FnShortestUptoCardSaid : Prop := Claim7.holds Tryd.pinned (.plain (OpenSpec.upto fnShortestSpec)) fnShortestUptoCard

/-- THE SECOND FORM's CARD OF 'laws.FnRunsGrow'. -/
def fnRunsGrowUptoCard : Claim7 := { stood := { row := fnRunsGrowUptoRow, standIns := [], harness := (true, "1f8d8dfce409505668ed53fa3d4150abf0b6be011fe78f15f3fcfe692ad814c9"), looks := true }, kinds := [], alts := [], laidByText := true, laidKinds := [.sentinel, .sentinel, .sentinel, .sentinel, .sentinel, .sentinel, .sentinel], laidTests := true, laidLooks := .later }
def FnRunsGrowUptoCardSaid : Prop := Claim7.holds Tryd.pinned (.plain (OpenSpec.upto fnRunsGrowSpec)) fnRunsGrowUptoCard
end Rows
end Go.Proofs.YtngcmjfkeageiaaDoor
