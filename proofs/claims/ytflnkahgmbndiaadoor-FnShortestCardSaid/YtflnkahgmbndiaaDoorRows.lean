/-
  NARROWER THAN 'FOR EVERY INPUT', by the rows' own cells (each row's printed sentence says how): FnExactRunsUpTo: ifaces, laid · FnShortest: ifaces, laid · FnExactFormatPlace: ifaces, laid.
  DERIVED. THE GIVEN ROWS OF THIS SEAT. 3 by the template 'for every input the law returns true; each argument reads behind the call as it read before'; 0 by the template 'total and deterministic' (their statements: YtflnkahgmbndiaaDoorTotals.lean).
  GIVEN WITH THE SEED: the statements are not yours to turn. If you find one false, say at which input.
  Laid BY PROGRAM, IN A SANDBOX (cutbox-rows.mjs): the forced cells as the released guide's own fill.sh prints them over the translation 63293477c7864440… (all of the seat's roots in one cut). By AI agents, Wed Nov 11 2026. No macro, syntax, notation, axiom, sorry.
-/
import Derived.Test.YtflnkahgmbndiaaDoorChecked
import GoSem.Claim
import GoSem.ClaimJoined
import GoSem.ClaimMapViews
import Derived.JoinedTies
import Derived.KernelRfl
namespace Go.Proofs.YtflnkahgmbndiaaDoor
/- THE CELL 'sum', in the pinned program and in every row, IS THE sha256 OF THE DUMP (.gsa) THAT YtflnkahgmbndiaaDoorProg.lean LOADS. Nothing in Lean hashes anything: it is a label: what it is worth is what the hold of that sum in a sandbox is worth. -/
noncomputable def Tryd.pinned : Pinned := { name := "ytflnkahgmbndiaadoor", sum := "63293477c78644409e4cf4ccea3f31b5b3feb8f415db47e058ea1db755438483", checked := Tryd.checked }
namespace Rows
def none {H : Type} : Left H := { results := [], args := [] }

/- WHAT THE LISTED PACKAGE-LEVEL VARIABLES READ AS WHEN THE CALL BEGINS. Each datum BY PROGRAM (the guide's laid-datum.mjs) off the statement by which the dump's own 'gosem.cut.vars' lays the variable. In a bare row this is a premise. The card (YtflnkahgmbndiaaDoorCards.lean) ties it to the program's text. -/
def laid_loop_example_onceways_impl_errCount {H : Type} : DataW H := .iface "*errors.errorString" (.ptr (.agg [.lit (.string [116, 111, 111, 32, 102, 101, 119, 32, 111, 114, 32, 116, 111, 111, 32, 109, 97, 110, 121, 32, 98, 108, 111, 99, 107, 115, 32, 111, 114, 32, 101, 100, 103, 101, 115])]))
def laid_loop_example_onceways_impl_errName {H : Type} : DataW H := .iface "*errors.errorString" (.ptr (.agg [.lit (.string [110, 111, 32, 110, 97, 109, 101, 32, 111, 102, 32, 97, 32, 98, 108, 111, 99, 107, 44, 32, 111, 114, 32, 111, 110, 101, 32, 116, 104, 97, 116, 32, 97, 110, 111, 116, 104, 101, 114, 32, 98, 108, 111, 99, 107, 32, 104, 97, 115])]))
def laid_loop_example_onceways_impl_errOps {H : Type} : DataW H := .iface "*errors.errorString" (.ptr (.agg [.lit (.string [116, 111, 111, 32, 109, 97, 110, 121, 32, 108, 101, 116, 116, 101, 114, 115, 44, 32, 111, 114, 32, 111, 110, 101, 32, 116, 104, 97, 116, 32, 116, 101, 108, 108, 115, 32, 110, 111, 116, 104, 105, 110, 103])]))
def laid_loop_example_onceways_impl_errEdge {H : Type} : DataW H := .iface "*errors.errorString" (.ptr (.agg [.lit (.string [110, 111, 32, 101, 100, 103, 101, 32, 98, 101, 116, 119, 101, 101, 110, 32, 116, 119, 111, 32, 98, 108, 111, 99, 107, 115, 44, 32, 111, 114, 32, 111, 110, 101, 32, 116, 104, 97, 116, 32, 105, 115, 32, 116, 104, 101, 114, 101, 32, 97, 108, 114, 101, 97, 100, 121])]))
def laid_loop_example_onceways_impl_errEntry {H : Type} : DataW H := .iface "*errors.errorString" (.ptr (.agg [.lit (.string [97, 110, 32, 101, 110, 116, 114, 121, 32, 116, 104, 97, 116, 32, 100, 111, 101, 115, 32, 115, 111, 109, 101, 116, 104, 105, 110, 103, 44, 32, 111, 114, 32, 116, 111, 32, 119, 104, 105, 99, 104, 32, 97, 110, 32, 101, 100, 103, 101, 32, 108, 101, 97, 100, 115])]))
def laid_loop_example_onceways_impl_errExit {H : Type} : DataW H := .iface "*errors.errorString" (.ptr (.agg [.lit (.string [97, 110, 32, 101, 120, 105, 116, 32, 102, 114, 111, 109, 32, 119, 104, 105, 99, 104, 32, 97, 110, 32, 101, 100, 103, 101, 32, 108, 101, 97, 100, 115])]))
def laid_loop_example_onceways_impl_errLost {H : Type} : DataW H := .iface "*errors.errorString" (.ptr (.agg [.lit (.string [97, 32, 98, 108, 111, 99, 107, 32, 119, 105, 116, 104, 111, 117, 116, 32, 97, 32, 119, 97, 121, 32, 102, 114, 111, 109, 32, 116, 104, 101, 32, 101, 110, 116, 114, 121, 32, 111, 114, 32, 116, 111, 32, 116, 104, 101, 32, 101, 120, 105, 116])]))
def laid_math_bits_deBruijn32tab {H : Type} : DataW H := .agg [.lit (.int .u8 0), .lit (.int .u8 1), .lit (.int .u8 28), .lit (.int .u8 2), .lit (.int .u8 29), .lit (.int .u8 14), .lit (.int .u8 24), .lit (.int .u8 3), .lit (.int .u8 30), .lit (.int .u8 22), .lit (.int .u8 20), .lit (.int .u8 15), .lit (.int .u8 25), .lit (.int .u8 17), .lit (.int .u8 4), .lit (.int .u8 8), .lit (.int .u8 31), .lit (.int .u8 27), .lit (.int .u8 13), .lit (.int .u8 23), .lit (.int .u8 21), .lit (.int .u8 19), .lit (.int .u8 16), .lit (.int .u8 7), .lit (.int .u8 26), .lit (.int .u8 12), .lit (.int .u8 18), .lit (.int .u8 6), .lit (.int .u8 11), .lit (.int .u8 5), .lit (.int .u8 10), .lit (.int .u8 9)]
def laid_math_bits_deBruijn64tab {H : Type} : DataW H := .agg [.lit (.int .u8 0), .lit (.int .u8 1), .lit (.int .u8 56), .lit (.int .u8 2), .lit (.int .u8 57), .lit (.int .u8 49), .lit (.int .u8 28), .lit (.int .u8 3), .lit (.int .u8 61), .lit (.int .u8 58), .lit (.int .u8 42), .lit (.int .u8 50), .lit (.int .u8 38), .lit (.int .u8 29), .lit (.int .u8 17), .lit (.int .u8 4), .lit (.int .u8 62), .lit (.int .u8 47), .lit (.int .u8 59), .lit (.int .u8 36), .lit (.int .u8 45), .lit (.int .u8 43), .lit (.int .u8 51), .lit (.int .u8 22), .lit (.int .u8 53), .lit (.int .u8 39), .lit (.int .u8 33), .lit (.int .u8 30), .lit (.int .u8 24), .lit (.int .u8 18), .lit (.int .u8 12), .lit (.int .u8 5), .lit (.int .u8 63), .lit (.int .u8 55), .lit (.int .u8 48), .lit (.int .u8 27), .lit (.int .u8 60), .lit (.int .u8 41), .lit (.int .u8 37), .lit (.int .u8 16), .lit (.int .u8 46), .lit (.int .u8 35), .lit (.int .u8 44), .lit (.int .u8 21), .lit (.int .u8 52), .lit (.int .u8 32), .lit (.int .u8 23), .lit (.int .u8 11), .lit (.int .u8 54), .lit (.int .u8 26), .lit (.int .u8 40), .lit (.int .u8 15), .lit (.int .u8 34), .lit (.int .u8 20), .lit (.int .u8 31), .lit (.int .u8 10), .lit (.int .u8 25), .lit (.int .u8 14), .lit (.int .u8 19), .lit (.int .u8 9), .lit (.int .u8 13), .lit (.int .u8 8), .lit (.int .u8 7), .lit (.int .u8 6)]
def laid_internal_strconv_uint64pow10 {H : Type} : DataW H := .agg [.lit (.int .u64 1), .lit (.int .u64 10), .lit (.int .u64 100), .lit (.int .u64 1000), .lit (.int .u64 10000), .lit (.int .u64 100000), .lit (.int .u64 1000000), .lit (.int .u64 10000000), .lit (.int .u64 100000000), .lit (.int .u64 1000000000), .lit (.int .u64 10000000000), .lit (.int .u64 100000000000), .lit (.int .u64 1000000000000), .lit (.int .u64 10000000000000), .lit (.int .u64 100000000000000), .lit (.int .u64 1000000000000000), .lit (.int .u64 10000000000000000), .lit (.int .u64 100000000000000000), .lit (.int .u64 1000000000000000000), .lit (.int .u64 10000000000000000000)]
def laid_loop_example_onceways_impl_errPut {H : Type} : DataW H := .iface "*errors.errorString" (.ptr (.agg [.lit (.string [110, 111, 32, 101, 100, 103, 101, 44, 32, 111, 114, 32, 111, 110, 101, 32, 111, 117, 116, 32, 111, 102, 32, 111, 114, 100, 101, 114])]))

/-- 'laws.FnExactRunsUpTo': WHATEVER THE INPUT: true; the input reads as it did. -/
def fnExactRunsUpToSpec : ChangeSpec := { name := "fnExactRunsUpTo", vars := ["loop.example/onceways/impl.errCount", "loop.example/onceways/impl.errEdge", "loop.example/onceways/impl.errName", "loop.example/onceways/impl.errOps", "loop.example/onceways/impl.errEntry", "loop.example/onceways/impl.errExit", "loop.example/onceways/impl.errLost"], fn := fun _ => fun
  | [d1, d2, g1, g2, g3, g4, g5, g6, g7] => { results := [.lit (.bool true)], args := [d1, d2], vars := [g1, g2, g3, g4, g5, g6, g7] }
  | _ => none }
def fnExactRunsUpToRow : OpenClaim := { program := "ytflnkahgmbndiaadoor", sum := "63293477c78644409e4cf4ccea3f31b5b3feb8f415db47e058ea1db755438483", func := "loop.example/onceways/laws.FnExactRunsUpTo", spec := "fnExactRunsUpTo", unfollowed := true, recurses := true, named := ["loop.example/onceways/impl.errCount", "loop.example/onceways/impl.errEdge", "loop.example/onceways/impl.errName", "loop.example/onceways/impl.errOps", "loop.example/onceways/impl.errEntry", "loop.example/onceways/impl.errExit", "loop.example/onceways/impl.errLost"], ifaces := true, apart := false, laid := [("loop.example/onceways/impl.errCount", laid_loop_example_onceways_impl_errCount), ("loop.example/onceways/impl.errName", laid_loop_example_onceways_impl_errName), ("loop.example/onceways/impl.errOps", laid_loop_example_onceways_impl_errOps), ("loop.example/onceways/impl.errEdge", laid_loop_example_onceways_impl_errEdge), ("loop.example/onceways/impl.errEntry", laid_loop_example_onceways_impl_errEntry), ("loop.example/onceways/impl.errExit", laid_loop_example_onceways_impl_errExit), ("loop.example/onceways/impl.errLost", laid_loop_example_onceways_impl_errLost)] }
def FnExactRunsUpToSaid : Prop := fnExactRunsUpToRow.holds Tryd.pinned (OpenSpec.ofChange fnExactRunsUpToSpec)

/-- ITS FALSE NEIGHBOUR: 'it returns false'. Refute it at one input. -/
def fnExactRunsUpToWrong : ChangeSpec := { name := "fnExactRunsUpTo", vars := ["loop.example/onceways/impl.errCount", "loop.example/onceways/impl.errEdge", "loop.example/onceways/impl.errName", "loop.example/onceways/impl.errOps", "loop.example/onceways/impl.errEntry", "loop.example/onceways/impl.errExit", "loop.example/onceways/impl.errLost"], fn := fun _ => fun
  | [d1, d2, g1, g2, g3, g4, g5, g6, g7] => { results := [.lit (.bool false)], args := [d1, d2], vars := [g1, g2, g3, g4, g5, g6, g7] }
  | _ => none }
def FnExactRunsUpToWrongFalsely : Prop := fnExactRunsUpToRow.holds Tryd.pinned (OpenSpec.ofChange fnExactRunsUpToWrong)

/-- 'laws.FnShortest': WHATEVER THE INPUT: true; the input reads as it did. -/
def fnShortestSpec : ChangeSpec := { name := "fnShortest", vars := ["loop.example/onceways/impl.errCount", "loop.example/onceways/impl.errEdge", "loop.example/onceways/impl.errName", "loop.example/onceways/impl.errOps", "loop.example/onceways/impl.errEntry", "loop.example/onceways/impl.errExit", "loop.example/onceways/impl.errLost"], fn := fun _ => fun
  | [d, g1, g2, g3, g4, g5, g6, g7] => { results := [.lit (.bool true)], args := [d], vars := [g1, g2, g3, g4, g5, g6, g7] }
  | _ => none }
def fnShortestRow : OpenClaim := { program := "ytflnkahgmbndiaadoor", sum := "63293477c78644409e4cf4ccea3f31b5b3feb8f415db47e058ea1db755438483", func := "loop.example/onceways/laws.FnShortest", spec := "fnShortest", unfollowed := true, recurses := true, named := ["loop.example/onceways/impl.errCount", "loop.example/onceways/impl.errEdge", "loop.example/onceways/impl.errName", "loop.example/onceways/impl.errOps", "loop.example/onceways/impl.errEntry", "loop.example/onceways/impl.errExit", "loop.example/onceways/impl.errLost"], ifaces := true, apart := false, laid := [("loop.example/onceways/impl.errCount", laid_loop_example_onceways_impl_errCount), ("loop.example/onceways/impl.errName", laid_loop_example_onceways_impl_errName), ("loop.example/onceways/impl.errOps", laid_loop_example_onceways_impl_errOps), ("loop.example/onceways/impl.errEdge", laid_loop_example_onceways_impl_errEdge), ("loop.example/onceways/impl.errEntry", laid_loop_example_onceways_impl_errEntry), ("loop.example/onceways/impl.errExit", laid_loop_example_onceways_impl_errExit), ("loop.example/onceways/impl.errLost", laid_loop_example_onceways_impl_errLost)] }
def FnShortestSaid : Prop := fnShortestRow.holds Tryd.pinned (OpenSpec.ofChange fnShortestSpec)

/-- ITS FALSE NEIGHBOUR: 'it returns false'. Refute it at one input. -/
def fnShortestWrong : ChangeSpec := { name := "fnShortest", vars := ["loop.example/onceways/impl.errCount", "loop.example/onceways/impl.errEdge", "loop.example/onceways/impl.errName", "loop.example/onceways/impl.errOps", "loop.example/onceways/impl.errEntry", "loop.example/onceways/impl.errExit", "loop.example/onceways/impl.errLost"], fn := fun _ => fun
  | [d, g1, g2, g3, g4, g5, g6, g7] => { results := [.lit (.bool false)], args := [d], vars := [g1, g2, g3, g4, g5, g6, g7] }
  | _ => none }
def FnShortestWrongFalsely : Prop := fnShortestRow.holds Tryd.pinned (OpenSpec.ofChange fnShortestWrong)

/-- 'laws.FnExactFormatPlace': WHATEVER THE INPUT: true; the input reads as it did. -/
def fnExactFormatPlaceSpec : ChangeSpec := { name := "fnExactFormatPlace", vars := ["loop.example/onceways/impl.errCount", "loop.example/onceways/impl.errEdge", "loop.example/onceways/impl.errName", "loop.example/onceways/impl.errOps", "loop.example/onceways/impl.errEntry", "loop.example/onceways/impl.errExit", "loop.example/onceways/impl.errLost", "loop.example/onceways/impl.errPut"], fn := fun _ => fun
  | [d1, d2, g1, g2, g3, g4, g5, g6, g7, g8] => { results := [.lit (.bool true)], args := [d1, d2], vars := [g1, g2, g3, g4, g5, g6, g7, g8] }
  | _ => none }
def fnExactFormatPlaceRow : OpenClaim := { program := "ytflnkahgmbndiaadoor", sum := "63293477c78644409e4cf4ccea3f31b5b3feb8f415db47e058ea1db755438483", func := "loop.example/onceways/laws.FnExactFormatPlace", spec := "fnExactFormatPlace", inPlace := ["internal/abi.NoEscape"], unfollowed := true, recurses := true, named := ["loop.example/onceways/impl.errCount", "loop.example/onceways/impl.errEdge", "loop.example/onceways/impl.errName", "loop.example/onceways/impl.errOps", "loop.example/onceways/impl.errEntry", "loop.example/onceways/impl.errExit", "loop.example/onceways/impl.errLost", "loop.example/onceways/impl.errPut", "internal/strconv.uint64pow10", "math/bits.deBruijn32tab", "math/bits.deBruijn64tab"], ifaces := true, apart := false, laid := [("math/bits.deBruijn32tab", laid_math_bits_deBruijn32tab), ("math/bits.deBruijn64tab", laid_math_bits_deBruijn64tab), ("internal/strconv.uint64pow10", laid_internal_strconv_uint64pow10), ("loop.example/onceways/impl.errCount", laid_loop_example_onceways_impl_errCount), ("loop.example/onceways/impl.errName", laid_loop_example_onceways_impl_errName), ("loop.example/onceways/impl.errOps", laid_loop_example_onceways_impl_errOps), ("loop.example/onceways/impl.errEdge", laid_loop_example_onceways_impl_errEdge), ("loop.example/onceways/impl.errEntry", laid_loop_example_onceways_impl_errEntry), ("loop.example/onceways/impl.errExit", laid_loop_example_onceways_impl_errExit), ("loop.example/onceways/impl.errLost", laid_loop_example_onceways_impl_errLost), ("loop.example/onceways/impl.errPut", laid_loop_example_onceways_impl_errPut)] }
def FnExactFormatPlaceSaid : Prop := fnExactFormatPlaceRow.holds Tryd.pinned (OpenSpec.ofChange fnExactFormatPlaceSpec)

/-- ITS FALSE NEIGHBOUR: 'it returns false'. Refute it at one input. -/
def fnExactFormatPlaceWrong : ChangeSpec := { name := "fnExactFormatPlace", vars := ["loop.example/onceways/impl.errCount", "loop.example/onceways/impl.errEdge", "loop.example/onceways/impl.errName", "loop.example/onceways/impl.errOps", "loop.example/onceways/impl.errEntry", "loop.example/onceways/impl.errExit", "loop.example/onceways/impl.errLost", "loop.example/onceways/impl.errPut"], fn := fun _ => fun
  | [d1, d2, g1, g2, g3, g4, g5, g6, g7, g8] => { results := [.lit (.bool false)], args := [d1, d2], vars := [g1, g2, g3, g4, g5, g6, g7, g8] }
  | _ => none }
def FnExactFormatPlaceWrongFalsely : Prop := fnExactFormatPlaceRow.holds Tryd.pinned (OpenSpec.ofChange fnExactFormatPlaceWrong)

/- THE SECOND FORM. 'bulk': how many values and letters a reading holds, each counted each time it is reached (what is shared counts as often as it is met; a slice's spare places count too). A statement '..UptoSaid' is the law's where the arguments, and the package variables that the reading takes, are together of bulk at most 1048576: NARROWER than '..Said'. Prove '..Said' where nothing that the law and all that it calls make is longer than what came in: it says more and counts as full. Else prove '..UptoSaid'. A law counts once. -/
mutual
def uptoBulk {H : Type} : DataW H → Nat
  | .lit (.string bytes) => bytes.length + 1
  | .lit _ => 1
  | .nil => 1
  | .ptr d => uptoBulk d + 1
  | .slice elems spare => uptoBulkAll elems + uptoBulkAll spare + 1
  | .agg parts => uptoBulkAll parts + 1
  | .iface _ d => uptoBulk d + 1
  | .map entries => uptoBulkEntries entries + 1
  | .held _ => 1
def uptoBulkAll {H : Type} : List (DataW H) → Nat
  | [] => 0
  | d :: r => uptoBulk d + uptoBulkAll r
def uptoBulkEntries {H : Type} : List (Lit × DataW H) → Nat
  | [] => 0
  | x :: r => uptoBulkEntry x + uptoBulkEntries r
def uptoBulkEntry {H : Type} : Lit × DataW H → Nat
  | (.string bytes, d) => bytes.length + uptoBulk d + 1
  | (_, d) => uptoBulk d + 1
 end
def uptoSmall : (H : Type) → List (DataW H) → Bool := fun _ ds => decide (uptoBulkAll ds ≤ 1048576)
def OpenSpec.upto (s : _root_.Go.ChangeSpec) : _root_.Go.OpenSpec := { _root_.Go.OpenSpec.ofChange s with cond := some uptoSmall }

/-- 'laws.FnExactRunsUpTo', WHERE WHAT IT READS IS OF BULK AT MOST 1048576: true; the input reads as it did. -/
def fnExactRunsUpToUptoRow : OpenClaim := { program := "ytflnkahgmbndiaadoor", sum := "63293477c78644409e4cf4ccea3f31b5b3feb8f415db47e058ea1db755438483", func := "loop.example/onceways/laws.FnExactRunsUpTo", spec := "fnExactRunsUpTo", unfollowed := true, recurses := true, named := ["loop.example/onceways/impl.errCount", "loop.example/onceways/impl.errEdge", "loop.example/onceways/impl.errName", "loop.example/onceways/impl.errOps", "loop.example/onceways/impl.errEntry", "loop.example/onceways/impl.errExit", "loop.example/onceways/impl.errLost"], ifaces := true, apart := false, laid := [("loop.example/onceways/impl.errCount", laid_loop_example_onceways_impl_errCount), ("loop.example/onceways/impl.errName", laid_loop_example_onceways_impl_errName), ("loop.example/onceways/impl.errOps", laid_loop_example_onceways_impl_errOps), ("loop.example/onceways/impl.errEdge", laid_loop_example_onceways_impl_errEdge), ("loop.example/onceways/impl.errEntry", laid_loop_example_onceways_impl_errEntry), ("loop.example/onceways/impl.errExit", laid_loop_example_onceways_impl_errExit), ("loop.example/onceways/impl.errLost", laid_loop_example_onceways_impl_errLost)], narrowed := true }
def FnExactRunsUpToUptoSaid : Prop := fnExactRunsUpToUptoRow.holds Tryd.pinned (OpenSpec.upto fnExactRunsUpToSpec)

/-- 'laws.FnShortest', WHERE WHAT IT READS IS OF BULK AT MOST 1048576: true; the input reads as it did. -/
def fnShortestUptoRow : OpenClaim := { program := "ytflnkahgmbndiaadoor", sum := "63293477c78644409e4cf4ccea3f31b5b3feb8f415db47e058ea1db755438483", func := "loop.example/onceways/laws.FnShortest", spec := "fnShortest", unfollowed := true, recurses := true, named := ["loop.example/onceways/impl.errCount", "loop.example/onceways/impl.errEdge", "loop.example/onceways/impl.errName", "loop.example/onceways/impl.errOps", "loop.example/onceways/impl.errEntry", "loop.example/onceways/impl.errExit", "loop.example/onceways/impl.errLost"], ifaces := true, apart := false, laid := [("loop.example/onceways/impl.errCount", laid_loop_example_onceways_impl_errCount), ("loop.example/onceways/impl.errName", laid_loop_example_onceways_impl_errName), ("loop.example/onceways/impl.errOps", laid_loop_example_onceways_impl_errOps), ("loop.example/onceways/impl.errEdge", laid_loop_example_onceways_impl_errEdge), ("loop.example/onceways/impl.errEntry", laid_loop_example_onceways_impl_errEntry), ("loop.example/onceways/impl.errExit", laid_loop_example_onceways_impl_errExit), ("loop.example/onceways/impl.errLost", laid_loop_example_onceways_impl_errLost)], narrowed := true }
def FnShortestUptoSaid : Prop := fnShortestUptoRow.holds Tryd.pinned (OpenSpec.upto fnShortestSpec)

/-- 'laws.FnExactFormatPlace', WHERE WHAT IT READS IS OF BULK AT MOST 1048576: true; the input reads as it did. -/
def fnExactFormatPlaceUptoRow : OpenClaim := { program := "ytflnkahgmbndiaadoor", sum := "63293477c78644409e4cf4ccea3f31b5b3feb8f415db47e058ea1db755438483", func := "loop.example/onceways/laws.FnExactFormatPlace", spec := "fnExactFormatPlace", inPlace := ["internal/abi.NoEscape"], unfollowed := true, recurses := true, named := ["loop.example/onceways/impl.errCount", "loop.example/onceways/impl.errEdge", "loop.example/onceways/impl.errName", "loop.example/onceways/impl.errOps", "loop.example/onceways/impl.errEntry", "loop.example/onceways/impl.errExit", "loop.example/onceways/impl.errLost", "loop.example/onceways/impl.errPut", "internal/strconv.uint64pow10", "math/bits.deBruijn32tab", "math/bits.deBruijn64tab"], ifaces := true, apart := false, laid := [("math/bits.deBruijn32tab", laid_math_bits_deBruijn32tab), ("math/bits.deBruijn64tab", laid_math_bits_deBruijn64tab), ("internal/strconv.uint64pow10", laid_internal_strconv_uint64pow10), ("loop.example/onceways/impl.errCount", laid_loop_example_onceways_impl_errCount), ("loop.example/onceways/impl.errName", laid_loop_example_onceways_impl_errName), ("loop.example/onceways/impl.errOps", laid_loop_example_onceways_impl_errOps), ("loop.example/onceways/impl.errEdge", laid_loop_example_onceways_impl_errEdge), ("loop.example/onceways/impl.errEntry", laid_loop_example_onceways_impl_errEntry), ("loop.example/onceways/impl.errExit", laid_loop_example_onceways_impl_errExit), ("loop.example/onceways/impl.errLost", laid_loop_example_onceways_impl_errLost), ("loop.example/onceways/impl.errPut", laid_loop_example_onceways_impl_errPut)], narrowed := true }
def FnExactFormatPlaceUptoSaid : Prop := fnExactFormatPlaceUptoRow.holds Tryd.pinned (OpenSpec.upto fnExactFormatPlaceSpec)

end Rows
end Go.Proofs.YtflnkahgmbndiaaDoor
