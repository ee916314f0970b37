/-
  DERIVED. GIVEN WITH THE SEED: THE CARDS: each row of YtfmhcjhcmoniaaaDoorRows.lean that lists a variable, with what it lists TIED to the program's text (the seventh form; the later family's looks); each row that meets fmt, with fmt's text TOLD by the authors' own Lean function (tested against real Go, not proved from fmt's source: count such statements apart). THE CARD IS WHAT COUNTS. Prove the row's statement (the work); the ties are given (YtfmhcjhcmoniaaaDoorTie.lean); close each card by the builder's one call (the guide's Derived/Test/ToyasCard.lean, 'card_holds'). Laid BY PROGRAM, IN A SANDBOX (cutbox-door.mjs). By AI agents, Wed Nov 11 2026. No macro, syntax, notation, axiom, sorry.
-/
import Derived.Test.YtfmhcjhcmoniaaaDoorRows
import GoSem.ClaimSeven
namespace Go.Proofs.YtfmhcjhcmoniaaaDoor
namespace Rows

/-- THE TIED CARD OF 'laws.FnExactShortestRun'. -/
def fnExactShortestRunCard : Claim7 := { stood := { row := fnExactShortestRunRow, standIns := [], harness := (true, "8e7633cbbd1cd9912064b9e0987971ef822408fc03bf423206e0702da56ef6db"), looks := false }, kinds := [], alts := [], laidByText := true, laidKinds := [.sentinel, .sentinel, .sentinel, .sentinel, .sentinel, .sentinel, .sentinel], laidTests := true, laidLooks := .later }
def FnExactShortestRunCardSaid : Prop := Claim7.holds Tryd.pinned (.plain (OpenSpec.ofChange fnExactShortestRunSpec)) fnExactShortestRunCard

/-- THE TIED CARD OF 'laws.FnExactWalkRun'. -/
def fnExactWalkRunCard : Claim7 := { stood := { row := fnExactWalkRunRow, standIns := [], harness := (true, "8e7633cbbd1cd9912064b9e0987971ef822408fc03bf423206e0702da56ef6db"), looks := false }, kinds := [], alts := [], laidByText := true, laidKinds := [.sentinel, .sentinel, .sentinel, .sentinel, .sentinel, .sentinel, .sentinel], laidTests := true, laidLooks := .later }
def FnExactWalkRunCardSaid : Prop := Claim7.holds Tryd.pinned (.plain (OpenSpec.ofChange fnExactWalkRunSpec)) fnExactWalkRunCard

/-- THE TIED CARD OF 'laws.FnWalk'. -/
def fnWalkCard : Claim7 := { stood := { row := fnWalkRow, standIns := [], harness := (true, "8e7633cbbd1cd9912064b9e0987971ef822408fc03bf423206e0702da56ef6db"), looks := false }, kinds := [], alts := [], laidByText := true, laidKinds := [.sentinel, .sentinel, .sentinel, .sentinel, .sentinel, .sentinel, .sentinel], laidTests := true, laidLooks := .later }
def FnWalkCardSaid : Prop := Claim7.holds Tryd.pinned (.plain (OpenSpec.ofChange fnWalkSpec)) fnWalkCard

/-- THE SECOND FORM's CARD OF 'laws.FnExactShortestRun'. -/
def fnExactShortestRunUptoCard : Claim7 := { stood := { row := fnExactShortestRunUptoRow, standIns := [], harness := (true, "8e7633cbbd1cd9912064b9e0987971ef822408fc03bf423206e0702da56ef6db"), looks := false }, kinds := [], alts := [], laidByText := true, laidKinds := [.sentinel, .sentinel, .sentinel, .sentinel, .sentinel, .sentinel, .sentinel], laidTests := true, laidLooks := .later }
def FnExactShortestRunUptoCardSaid : Prop := Claim7.holds Tryd.pinned (.plain (OpenSpec.upto fnExactShortestRunSpec)) fnExactShortestRunUptoCard

/-- THE SECOND FORM's CARD OF 'laws.FnExactWalkRun'. -/
def fnExactWalkRunUptoCard : Claim7 := { stood := { row := fnExactWalkRunUptoRow, standIns := [], harness := (true, "8e7633cbbd1cd9912064b9e0987971ef822408fc03bf423206e0702da56ef6db"), looks := false }, kinds := [], alts := [], laidByText := true, laidKinds := [.sentinel, .sentinel, .sentinel, .sentinel, .sentinel, .sentinel, .sentinel], laidTests := true, laidLooks := .later }
def FnExactWalkRunUptoCardSaid : Prop := Claim7.holds Tryd.pinned (.plain (OpenSpec.upto fnExactWalkRunSpec)) fnExactWalkRunUptoCard

/-- THE SECOND FORM's CARD OF 'laws.FnWalk'. -/
def fnWalkUptoCard : Claim7 := { stood := { row := fnWalkUptoRow, standIns := [], harness := (true, "8e7633cbbd1cd9912064b9e0987971ef822408fc03bf423206e0702da56ef6db"), looks := false }, kinds := [], alts := [], laidByText := true, laidKinds := [.sentinel, .sentinel, .sentinel, .sentinel, .sentinel, .sentinel, .sentinel], laidTests := true, laidLooks := .later }
def FnWalkUptoCardSaid : Prop := Claim7.holds Tryd.pinned (.plain (OpenSpec.upto fnWalkSpec)) fnWalkUptoCard
end Rows
end Go.Proofs.YtfmhcjhcmoniaaaDoor
