/-
  NARROWER THAN 'FOR EVERY INPUT', by the rows' own cells (each row's printed sentence says how): FnExactShortestRun: ifaces, laid · FnExactWalkRun: ifaces, laid · FnWalk: ifaces, laid.
  DERIVED. THE GIVEN ROWS OF THIS SEAT. 3 by the template 'for every input the law returns true; each argument reads behind the call as it read before'; 0 by the template 'total and deterministic' (their statements: YtfmhcjhcmoniaaaDoorTotals.lean).
  GIVEN WITH THE SEED: the statements are not yours to turn. If you find one false, say at which input.
  Laid BY PROGRAM, IN A SANDBOX (cutbox-rows.mjs): the forced cells as the released guide's own fill.sh prints them over the translation 63f6cedc4658c48e… (all of the seat's roots in one cut). By AI agents, Wed Nov 11 2026. No macro, syntax, notation, axiom, sorry.
-/
import Derived.Test.YtfmhcjhcmoniaaaDoorChecked
import GoSem.Claim
import GoSem.ClaimJoined
import GoSem.ClaimMapViews
import Derived.JoinedTies
import Derived.KernelRfl
namespace Go.Proofs.YtfmhcjhcmoniaaaDoor
/- THE CELL 'sum', in the pinned program and in every row, IS THE sha256 OF THE DUMP (.gsa) THAT YtfmhcjhcmoniaaaDoorProg.lean LOADS. Nothing in Lean hashes anything: it is a label: what it is worth is what the hold of that sum in a sandbox is worth. -/
noncomputable def Tryd.pinned : Pinned := { name := "ytfmhcjhcmoniaaadoor", sum := "63f6cedc4658c48eb42b7b52a266bb0dfbbff7d3b45c6246d9c65242cbb15639", checked := Tryd.checked }
namespace Rows
def none {H : Type} : Left H := { results := [], args := [] }

/- WHAT THE LISTED PACKAGE-LEVEL VARIABLES READ AS WHEN THE CALL BEGINS. Each datum BY PROGRAM (the guide's laid-datum.mjs) off the statement by which the dump's own 'gosem.cut.vars' lays the variable. In a bare row this is a premise. The card (YtfmhcjhcmoniaaaDoorCards.lean) ties it to the program's text. -/
def laid_loop_example_onceways_impl_errCount {H : Type} : DataW H := .iface "*errors.errorString" (.ptr (.agg [.lit (.string [116, 111, 111, 32, 102, 101, 119, 32, 111, 114, 32, 116, 111, 111, 32, 109, 97, 110, 121, 32, 98, 108, 111, 99, 107, 115, 32, 111, 114, 32, 101, 100, 103, 101, 115])]))
def laid_loop_example_onceways_impl_errName {H : Type} : DataW H := .iface "*errors.errorString" (.ptr (.agg [.lit (.string [110, 111, 32, 110, 97, 109, 101, 32, 111, 102, 32, 97, 32, 98, 108, 111, 99, 107, 44, 32, 111, 114, 32, 111, 110, 101, 32, 116, 104, 97, 116, 32, 97, 110, 111, 116, 104, 101, 114, 32, 98, 108, 111, 99, 107, 32, 104, 97, 115])]))
def laid_loop_example_onceways_impl_errOps {H : Type} : DataW H := .iface "*errors.errorString" (.ptr (.agg [.lit (.string [116, 111, 111, 32, 109, 97, 110, 121, 32, 108, 101, 116, 116, 101, 114, 115, 44, 32, 111, 114, 32, 111, 110, 101, 32, 116, 104, 97, 116, 32, 116, 101, 108, 108, 115, 32, 110, 111, 116, 104, 105, 110, 103])]))
def laid_loop_example_onceways_impl_errEdge {H : Type} : DataW H := .iface "*errors.errorString" (.ptr (.agg [.lit (.string [110, 111, 32, 101, 100, 103, 101, 32, 98, 101, 116, 119, 101, 101, 110, 32, 116, 119, 111, 32, 98, 108, 111, 99, 107, 115, 44, 32, 111, 114, 32, 111, 110, 101, 32, 116, 104, 97, 116, 32, 105, 115, 32, 116, 104, 101, 114, 101, 32, 97, 108, 114, 101, 97, 100, 121])]))
def laid_loop_example_onceways_impl_errEntry {H : Type} : DataW H := .iface "*errors.errorString" (.ptr (.agg [.lit (.string [97, 110, 32, 101, 110, 116, 114, 121, 32, 116, 104, 97, 116, 32, 100, 111, 101, 115, 32, 115, 111, 109, 101, 116, 104, 105, 110, 103, 44, 32, 111, 114, 32, 116, 111, 32, 119, 104, 105, 99, 104, 32, 97, 110, 32, 101, 100, 103, 101, 32, 108, 101, 97, 100, 115])]))
def laid_loop_example_onceways_impl_errExit {H : Type} : DataW H := .iface "*errors.errorString" (.ptr (.agg [.lit (.string [97, 110, 32, 101, 120, 105, 116, 32, 102, 114, 111, 109, 32, 119, 104, 105, 99, 104, 32, 97, 110, 32, 101, 100, 103, 101, 32, 108, 101, 97, 100, 115])]))
def laid_loop_example_onceways_impl_errLost {H : Type} : DataW H := .iface "*errors.errorString" (.ptr (.agg [.lit (.string [97, 32, 98, 108, 111, 99, 107, 32, 119, 105, 116, 104, 111, 117, 116, 32, 97, 32, 119, 97, 121, 32, 102, 114, 111, 109, 32, 116, 104, 101, 32, 101, 110, 116, 114, 121, 32, 111, 114, 32, 116, 111, 32, 116, 104, 101, 32, 101, 120, 105, 116])]))

/-- 'laws.FnExactShortestRun': WHATEVER THE INPUT: true; the input reads as it did. -/
def fnExactShortestRunSpec : ChangeSpec := { name := "fnExactShortestRun", vars := ["loop.example/onceways/impl.errCount", "loop.example/onceways/impl.errEdge", "loop.example/onceways/impl.errName", "loop.example/onceways/impl.errOps", "loop.example/onceways/impl.errEntry", "loop.example/onceways/impl.errExit", "loop.example/onceways/impl.errLost"], fn := fun _ => fun
  | [d, g1, g2, g3, g4, g5, g6, g7] => { results := [.lit (.bool true)], args := [d], vars := [g1, g2, g3, g4, g5, g6, g7] }
  | _ => none }
def fnExactShortestRunRow : OpenClaim := { program := "ytfmhcjhcmoniaaadoor", sum := "63f6cedc4658c48eb42b7b52a266bb0dfbbff7d3b45c6246d9c65242cbb15639", func := "loop.example/onceways/laws.FnExactShortestRun", spec := "fnExactShortestRun", unfollowed := true, recurses := true, named := ["loop.example/onceways/impl.errCount", "loop.example/onceways/impl.errEdge", "loop.example/onceways/impl.errName", "loop.example/onceways/impl.errOps", "loop.example/onceways/impl.errEntry", "loop.example/onceways/impl.errExit", "loop.example/onceways/impl.errLost"], ifaces := true, apart := false, laid := [("loop.example/onceways/impl.errCount", laid_loop_example_onceways_impl_errCount), ("loop.example/onceways/impl.errName", laid_loop_example_onceways_impl_errName), ("loop.example/onceways/impl.errOps", laid_loop_example_onceways_impl_errOps), ("loop.example/onceways/impl.errEdge", laid_loop_example_onceways_impl_errEdge), ("loop.example/onceways/impl.errEntry", laid_loop_example_onceways_impl_errEntry), ("loop.example/onceways/impl.errExit", laid_loop_example_onceways_impl_errExit), ("loop.example/onceways/impl.errLost", laid_loop_example_onceways_impl_errLost)] }
def FnExactShortestRunSaid : Prop := fnExactShortestRunRow.holds Tryd.pinned (OpenSpec.ofChange fnExactShortestRunSpec)

/-- ITS FALSE NEIGHBOUR: 'it returns false'. Refute it at one input. -/
def fnExactShortestRunWrong : ChangeSpec := { name := "fnExactShortestRun", vars := ["loop.example/onceways/impl.errCount", "loop.example/onceways/impl.errEdge", "loop.example/onceways/impl.errName", "loop.example/onceways/impl.errOps", "loop.example/onceways/impl.errEntry", "loop.example/onceways/impl.errExit", "loop.example/onceways/impl.errLost"], fn := fun _ => fun
  | [d, g1, g2, g3, g4, g5, g6, g7] => { results := [.lit (.bool false)], args := [d], vars := [g1, g2, g3, g4, g5, g6, g7] }
  | _ => none }
def FnExactShortestRunWrongFalsely : Prop := fnExactShortestRunRow.holds Tryd.pinned (OpenSpec.ofChange fnExactShortestRunWrong)

/-- 'laws.FnExactWalkRun': WHATEVER THE INPUT: true; the input reads as it did. -/
def fnExactWalkRunSpec : ChangeSpec := { name := "fnExactWalkRun", vars := ["loop.example/onceways/impl.errCount", "loop.example/onceways/impl.errEdge", "loop.example/onceways/impl.errName", "loop.example/onceways/impl.errOps", "loop.example/onceways/impl.errEntry", "loop.example/onceways/impl.errExit", "loop.example/onceways/impl.errLost"], fn := fun _ => fun
  | [d1, d2, g1, g2, g3, g4, g5, g6, g7] => { results := [.lit (.bool true)], args := [d1, d2], vars := [g1, g2, g3, g4, g5, g6, g7] }
  | _ => none }
def fnExactWalkRunRow : OpenClaim := { program := "ytfmhcjhcmoniaaadoor", sum := "63f6cedc4658c48eb42b7b52a266bb0dfbbff7d3b45c6246d9c65242cbb15639", func := "loop.example/onceways/laws.FnExactWalkRun", spec := "fnExactWalkRun", inPlace := ["internal/abi.NoEscape", "internal/bytealg.MakeNoZero"], unfollowed := true, recurses := true, named := ["loop.example/onceways/impl.errCount", "loop.example/onceways/impl.errEdge", "loop.example/onceways/impl.errName", "loop.example/onceways/impl.errOps", "loop.example/onceways/impl.errEntry", "loop.example/onceways/impl.errExit", "loop.example/onceways/impl.errLost"], ifaces := true, apart := false, laid := [("loop.example/onceways/impl.errCount", laid_loop_example_onceways_impl_errCount), ("loop.example/onceways/impl.errName", laid_loop_example_onceways_impl_errName), ("loop.example/onceways/impl.errOps", laid_loop_example_onceways_impl_errOps), ("loop.example/onceways/impl.errEdge", laid_loop_example_onceways_impl_errEdge), ("loop.example/onceways/impl.errEntry", laid_loop_example_onceways_impl_errEntry), ("loop.example/onceways/impl.errExit", laid_loop_example_onceways_impl_errExit), ("loop.example/onceways/impl.errLost", laid_loop_example_onceways_impl_errLost)] }
def FnExactWalkRunSaid : Prop := fnExactWalkRunRow.holds Tryd.pinned (OpenSpec.ofChange fnExactWalkRunSpec)

/-- ITS FALSE NEIGHBOUR: 'it returns false'. Refute it at one input. -/
def fnExactWalkRunWrong : ChangeSpec := { name := "fnExactWalkRun", vars := ["loop.example/onceways/impl.errCount", "loop.example/onceways/impl.errEdge", "loop.example/onceways/impl.errName", "loop.example/onceways/impl.errOps", "loop.example/onceways/impl.errEntry", "loop.example/onceways/impl.errExit", "loop.example/onceways/impl.errLost"], fn := fun _ => fun
  | [d1, d2, g1, g2, g3, g4, g5, g6, g7] => { results := [.lit (.bool false)], args := [d1, d2], vars := [g1, g2, g3, g4, g5, g6, g7] }
  | _ => none }
def FnExactWalkRunWrongFalsely : Prop := fnExactWalkRunRow.holds Tryd.pinned (OpenSpec.ofChange fnExactWalkRunWrong)

/-- 'laws.FnWalk': WHATEVER THE INPUT: true; the input reads as it did. -/
def fnWalkSpec : ChangeSpec := { name := "fnWalk", vars := ["loop.example/onceways/impl.errCount", "loop.example/onceways/impl.errEdge", "loop.example/onceways/impl.errName", "loop.example/onceways/impl.errOps", "loop.example/onceways/impl.errEntry", "loop.example/onceways/impl.errExit", "loop.example/onceways/impl.errLost"], fn := fun _ => fun
  | [d, g1, g2, g3, g4, g5, g6, g7] => { results := [.lit (.bool true)], args := [d], vars := [g1, g2, g3, g4, g5, g6, g7] }
  | _ => none }
def fnWalkRow : OpenClaim := { program := "ytfmhcjhcmoniaaadoor", sum := "63f6cedc4658c48eb42b7b52a266bb0dfbbff7d3b45c6246d9c65242cbb15639", func := "loop.example/onceways/laws.FnWalk", spec := "fnWalk", inPlace := ["internal/abi.NoEscape", "internal/bytealg.MakeNoZero"], unfollowed := true, recurses := true, named := ["loop.example/onceways/impl.errCount", "loop.example/onceways/impl.errEdge", "loop.example/onceways/impl.errName", "loop.example/onceways/impl.errOps", "loop.example/onceways/impl.errEntry", "loop.example/onceways/impl.errExit", "loop.example/onceways/impl.errLost"], ifaces := true, apart := false, laid := [("loop.example/onceways/impl.errCount", laid_loop_example_onceways_impl_errCount), ("loop.example/onceways/impl.errName", laid_loop_example_onceways_impl_errName), ("loop.example/onceways/impl.errOps", laid_loop_example_onceways_impl_errOps), ("loop.example/onceways/impl.errEdge", laid_loop_example_onceways_impl_errEdge), ("loop.example/onceways/impl.errEntry", laid_loop_example_onceways_impl_errEntry), ("loop.example/onceways/impl.errExit", laid_loop_example_onceways_impl_errExit), ("loop.example/onceways/impl.errLost", laid_loop_example_onceways_impl_errLost)] }
def FnWalkSaid : Prop := fnWalkRow.holds Tryd.pinned (OpenSpec.ofChange fnWalkSpec)

/-- ITS FALSE NEIGHBOUR: 'it returns false'. Refute it at one input. -/
def fnWalkWrong : ChangeSpec := { name := "fnWalk", vars := ["loop.example/onceways/impl.errCount", "loop.example/onceways/impl.errEdge", "loop.example/onceways/impl.errName", "loop.example/onceways/impl.errOps", "loop.example/onceways/impl.errEntry", "loop.example/onceways/impl.errExit", "loop.example/onceways/impl.errLost"], fn := fun _ => fun
  | [d, g1, g2, g3, g4, g5, g6, g7] => { results := [.lit (.bool false)], args := [d], vars := [g1, g2, g3, g4, g5, g6, g7] }
  | _ => none }
def FnWalkWrongFalsely : Prop := fnWalkRow.holds Tryd.pinned (OpenSpec.ofChange fnWalkWrong)

/- THE SECOND FORM. 'bulk': how many values and letters a reading holds, each counted each time it is reached (what is shared counts as often as it is met; a slice's spare places count too). A statement '..UptoSaid' is the law's where the arguments, and the package variables that the reading takes, are together of bulk at most 1048576: NARROWER than '..Said'. Prove '..Said' where nothing that the law and all that it calls make is longer than what came in: it says more and counts as full. Else prove '..UptoSaid'. A law counts once. -/
mutual
def uptoBulk {H : Type} : DataW H → Nat
  | .lit (.string bytes) => bytes.length + 1
  | .lit _ => 1
  | .nil => 1
  | .ptr d => uptoBulk d + 1
  | .slice elems spare => uptoBulkAll elems + uptoBulkAll spare + 1
  | .agg parts => uptoBulkAll parts + 1
  | .iface _ d => uptoBulk d + 1
  | .map entries => uptoBulkEntries entries + 1
  | .held _ => 1
def uptoBulkAll {H : Type} : List (DataW H) → Nat
  | [] => 0
  | d :: r => uptoBulk d + uptoBulkAll r
def uptoBulkEntries {H : Type} : List (Lit × DataW H) → Nat
  | [] => 0
  | x :: r => uptoBulkEntry x + uptoBulkEntries r
def uptoBulkEntry {H : Type} : Lit × DataW H → Nat
  | (.string bytes, d) => bytes.length + uptoBulk d + 1
  | (_, d) => uptoBulk d + 1
 end
def uptoSmall : (H : Type) → List (DataW H) → Bool := fun _ ds => decide (uptoBulkAll ds ≤ 1048576)
def OpenSpec.upto (s : _root_.Go.ChangeSpec) : _root_.Go.OpenSpec := { _root_.Go.OpenSpec.ofChange s with cond := some uptoSmall }

/-- 'laws.FnExactShortestRun', WHERE WHAT IT READS IS OF BULK AT MOST 1048576: true; the input reads as it did. -/
def fnExactShortestRunUptoRow : OpenClaim := { program := "ytfmhcjhcmoniaaadoor", sum := "63f6cedc4658c48eb42b7b52a266bb0dfbbff7d3b45c6246d9c65242cbb15639", func := "loop.example/onceways/laws.FnExactShortestRun", spec := "fnExactShortestRun", unfollowed := true, recurses := true, named := ["loop.example/onceways/impl.errCount", "loop.example/onceways/impl.errEdge", "loop.example/onceways/impl.errName", "loop.example/onceways/impl.errOps", "loop.example/onceways/impl.errEntry", "loop.example/onceways/impl.errExit", "loop.example/onceways/impl.errLost"], ifaces := true, apart := false, laid := [("loop.example/onceways/impl.errCount", laid_loop_example_onceways_impl_errCount), ("loop.example/onceways/impl.errName", laid_loop_example_onceways_impl_errName), ("loop.example/onceways/impl.errOps", laid_loop_example_onceways_impl_errOps), ("loop.example/onceways/impl.errEdge", laid_loop_example_onceways_impl_errEdge), ("loop.example/onceways/impl.errEntry", laid_loop_example_onceways_impl_errEntry), ("loop.example/onceways/impl.errExit", laid_loop_example_onceways_impl_errExit), ("loop.example/onceways/impl.errLost", laid_loop_example_onceways_impl_errLost)], narrowed := true }
def FnExactShortestRunUptoSaid : Prop := fnExactShortestRunUptoRow.holds Tryd.pinned (OpenSpec.upto fnExactShortestRunSpec)

/-- 'laws.FnExactWalkRun', WHERE WHAT IT READS IS OF BULK AT MOST 1048576: true; the input reads as it did. -/
def fnExactWalkRunUptoRow : OpenClaim := { program := "ytfmhcjhcmoniaaadoor", sum := "63f6cedc4658c48eb42b7b52a266bb0dfbbff7d3b45c6246d9c65242cbb15639", func := "loop.example/onceways/laws.FnExactWalkRun", spec := "fnExactWalkRun", inPlace := ["internal/abi.NoEscape", "internal/bytealg.MakeNoZero"], unfollowed := true, recurses := true, named := ["loop.example/onceways/impl.errCount", "loop.example/onceways/impl.errEdge", "loop.example/onceways/impl.errName", "loop.example/onceways/impl.errOps", "loop.example/onceways/impl.errEntry", "loop.example/onceways/impl.errExit", "loop.example/onceways/impl.errLost"], ifaces := true, apart := false, laid := [("loop.example/onceways/impl.errCount", laid_loop_example_onceways_impl_errCount), ("loop.example/onceways/impl.errName", laid_loop_example_onceways_impl_errName), ("loop.example/onceways/impl.errOps", laid_loop_example_onceways_impl_errOps), ("loop.example/onceways/impl.errEdge", laid_loop_example_onceways_impl_errEdge), ("loop.example/onceways/impl.errEntry", laid_loop_example_onceways_impl_errEntry), ("loop.example/onceways/impl.errExit", laid_loop_example_onceways_impl_errExit), ("loop.example/onceways/impl.errLost", laid_loop_example_onceways_impl_errLost)], narrowed := true }
def FnExactWalkRunUptoSaid : Prop := fnExactWalkRunUptoRow.holds Tryd.pinned (OpenSpec.upto fnExactWalkRunSpec)

/-- 'laws.FnWalk', WHERE WHAT IT READS IS OF BULK AT MOST 1048576: true; the input reads as it did. -/
def fnWalkUptoRow : OpenClaim := { program := "ytfmhcjhcmoniaaadoor", sum := "63f6cedc4658c48eb42b7b52a266bb0dfbbff7d3b45c6246d9c65242cbb15639", func := "loop.example/onceways/laws.FnWalk", spec := "fnWalk", inPlace := ["internal/abi.NoEscape", "internal/bytealg.MakeNoZero"], unfollowed := true, recurses := true, named := ["loop.example/onceways/impl.errCount", "loop.example/onceways/impl.errEdge", "loop.example/onceways/impl.errName", "loop.example/onceways/impl.errOps", "loop.example/onceways/impl.errEntry", "loop.example/onceways/impl.errExit", "loop.example/onceways/impl.errLost"], ifaces := true, apart := false, laid := [("loop.example/onceways/impl.errCount", laid_loop_example_onceways_impl_errCount), ("loop.example/onceways/impl.errName", laid_loop_example_onceways_impl_errName), ("loop.example/onceways/impl.errOps", laid_loop_example_onceways_impl_errOps), ("loop.example/onceways/impl.errEdge", laid_loop_example_onceways_impl_errEdge), ("loop.example/onceways/impl.errEntry", laid_loop_example_onceways_impl_errEntry), ("loop.example/onceways/impl.errExit", laid_loop_example_onceways_impl_errExit), ("loop.example/onceways/impl.errLost", laid_loop_example_onceways_impl_errLost)], narrowed := true }
def FnWalkUptoSaid : Prop := fnWalkUptoRow.holds Tryd.pinned (OpenSpec.upto fnWalkSpec)

end Rows
end Go.Proofs.YtfmhcjhcmoniaaaDoor
