/-
  DERIVED. GIVEN WITH THE SEED: THE PROGRAM's TIES (one call each: nine closed facts by the kernel) AND EACH ROW's TIE, after the 31st guide's Derived/Test/Toyas{Tie, Card}.lean. No idea stands in it: it is a product of the set-up. Laid BY PROGRAM, IN A SANDBOX (cutbox-door.mjs). By AI agents, Wed Nov 11 2026. No macro, syntax, notation, axiom, sorry.
-/
import Derived.Test.YtfmhcjhcmoniaaaDoorRows
import Derived.LaidByTextLater
import Derived.SevenTiedAt
import Derived.LaidSub
import Derived.LaidOnce
namespace Go.Proofs.YtfmhcjhcmoniaaaDoor
open Go
set_option maxRecDepth 100000
theorem seatTie1 : Tryd.prog.laidByTextLater [("loop.example/onceways/impl.errCount", Rows.laid_loop_example_onceways_impl_errCount), ("loop.example/onceways/impl.errName", Rows.laid_loop_example_onceways_impl_errName), ("loop.example/onceways/impl.errOps", Rows.laid_loop_example_onceways_impl_errOps), ("loop.example/onceways/impl.errEdge", Rows.laid_loop_example_onceways_impl_errEdge), ("loop.example/onceways/impl.errEntry", Rows.laid_loop_example_onceways_impl_errEntry), ("loop.example/onceways/impl.errExit", Rows.laid_loop_example_onceways_impl_errExit), ("loop.example/onceways/impl.errLost", Rows.laid_loop_example_onceways_impl_errLost)] [.sentinel, .sentinel, .sentinel, .sentinel, .sentinel, .sentinel, .sentinel] true :=
  Program.laidByTextLater_by_one 142 8 2 (by kernel_rfl) (by kernel_rfl) (by kernel_rfl) (by kernel_rfl) (by kernel_rfl) (by kernel_rfl) (fun _ _ => by kernel_rfl)
theorem noOwnUnsafe : Tryd.pinned.checked.prog.headLifts.contains "ownunsafe" = false := by kernel_rfl
theorem tie : Tryd.prog.laidByTextLater [("loop.example/onceways/impl.errCount", Rows.laid_loop_example_onceways_impl_errCount), ("loop.example/onceways/impl.errName", Rows.laid_loop_example_onceways_impl_errName), ("loop.example/onceways/impl.errOps", Rows.laid_loop_example_onceways_impl_errOps), ("loop.example/onceways/impl.errEdge", Rows.laid_loop_example_onceways_impl_errEdge), ("loop.example/onceways/impl.errEntry", Rows.laid_loop_example_onceways_impl_errEntry), ("loop.example/onceways/impl.errExit", Rows.laid_loop_example_onceways_impl_errExit), ("loop.example/onceways/impl.errLost", Rows.laid_loop_example_onceways_impl_errLost)] [.sentinel, .sentinel, .sentinel, .sentinel, .sentinel, .sentinel, .sentinel] true :=
  Program.laidByTextLater.sub seatTie1 ["loop.example/onceways/impl.errCount", "loop.example/onceways/impl.errName", "loop.example/onceways/impl.errOps", "loop.example/onceways/impl.errEdge", "loop.example/onceways/impl.errEntry", "loop.example/onceways/impl.errExit", "loop.example/onceways/impl.errLost"] (by kernel_rfl) (by kernel_rfl)
theorem fnExactShortestRun_row_tie : Rows.fnExactShortestRunRow.laidByTextAt .later Tryd.pinned [.sentinel, .sentinel, .sentinel, .sentinel, .sentinel, .sentinel, .sentinel] true :=
  OpenClaim.laidByTextAt_later rfl rfl tie noOwnUnsafe
theorem fnExactWalkRun_row_tie : Rows.fnExactWalkRunRow.laidByTextAt .later Tryd.pinned [.sentinel, .sentinel, .sentinel, .sentinel, .sentinel, .sentinel, .sentinel] true :=
  OpenClaim.laidByTextAt_later rfl rfl tie noOwnUnsafe
theorem fnWalk_row_tie : Rows.fnWalkRow.laidByTextAt .later Tryd.pinned [.sentinel, .sentinel, .sentinel, .sentinel, .sentinel, .sentinel, .sentinel] true :=
  OpenClaim.laidByTextAt_later rfl rfl tie noOwnUnsafe
theorem fnExactShortestRunUpto_row_tie : Rows.fnExactShortestRunUptoRow.laidByTextAt .later Tryd.pinned [.sentinel, .sentinel, .sentinel, .sentinel, .sentinel, .sentinel, .sentinel] true :=
  OpenClaim.laidByTextAt_later rfl rfl tie noOwnUnsafe
theorem fnExactWalkRunUpto_row_tie : Rows.fnExactWalkRunUptoRow.laidByTextAt .later Tryd.pinned [.sentinel, .sentinel, .sentinel, .sentinel, .sentinel, .sentinel, .sentinel] true :=
  OpenClaim.laidByTextAt_later rfl rfl tie noOwnUnsafe
theorem fnWalkUpto_row_tie : Rows.fnWalkUptoRow.laidByTextAt .later Tryd.pinned [.sentinel, .sentinel, .sentinel, .sentinel, .sentinel, .sentinel, .sentinel] true :=
  OpenClaim.laidByTextAt_later rfl rfl tie noOwnUnsafe
end Go.Proofs.YtfmhcjhcmoniaaaDoor
