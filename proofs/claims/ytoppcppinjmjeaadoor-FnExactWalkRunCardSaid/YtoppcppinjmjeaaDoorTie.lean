/-
  DERIVED. GIVEN WITH THE SEED: THE PROGRAM's TIES (one call each: nine closed facts by the kernel) AND EACH ROW's TIE, after the 31st guide's Derived/Test/Toyas{Tie, Card}.lean. No idea stands in it: it is a product of the set-up. Laid BY PROGRAM, IN A SANDBOX (cutbox-door.mjs). By AI agents, Wed Nov 11 2026. No macro, syntax, notation, axiom, sorry.
-/
import Derived.Test.YtoppcppinjmjeaaDoorRows
import Derived.LaidByTextLater
import Derived.SevenTiedAt
import Derived.LaidSub
import Derived.LaidOnce
namespace Go.Proofs.YtoppcppinjmjeaaDoor
open Go
set_option maxRecDepth 100000
theorem seatTie1 : Tryd.prog.laidByTextLater [("math/bits.deBruijn32tab", Rows.laid_math_bits_deBruijn32tab), ("math/bits.deBruijn64tab", Rows.laid_math_bits_deBruijn64tab), ("internal/strconv.uint64pow10", Rows.laid_internal_strconv_uint64pow10), ("loop.example/onceways/impl.errCount", Rows.laid_loop_example_onceways_impl_errCount), ("loop.example/onceways/impl.errName", Rows.laid_loop_example_onceways_impl_errName), ("loop.example/onceways/impl.errOps", Rows.laid_loop_example_onceways_impl_errOps), ("loop.example/onceways/impl.errEdge", Rows.laid_loop_example_onceways_impl_errEdge), ("loop.example/onceways/impl.errEntry", Rows.laid_loop_example_onceways_impl_errEntry), ("loop.example/onceways/impl.errExit", Rows.laid_loop_example_onceways_impl_errExit), ("loop.example/onceways/impl.errLost", Rows.laid_loop_example_onceways_impl_errLost)] [.data, .data, .data, .sentinel, .sentinel, .sentinel, .sentinel, .sentinel, .sentinel, .sentinel] true :=
  Program.laidByTextLater_by_one 157 8 65 (by kernel_rfl) (by kernel_rfl) (by kernel_rfl) (by kernel_rfl) (by kernel_rfl) (by kernel_rfl) (fun _ _ => by kernel_rfl)
theorem noOwnUnsafe : Tryd.pinned.checked.prog.headLifts.contains "ownunsafe" = false := by kernel_rfl
theorem tie : Tryd.prog.laidByTextLater [("loop.example/onceways/impl.errCount", Rows.laid_loop_example_onceways_impl_errCount), ("loop.example/onceways/impl.errName", Rows.laid_loop_example_onceways_impl_errName), ("loop.example/onceways/impl.errOps", Rows.laid_loop_example_onceways_impl_errOps), ("loop.example/onceways/impl.errEdge", Rows.laid_loop_example_onceways_impl_errEdge), ("loop.example/onceways/impl.errEntry", Rows.laid_loop_example_onceways_impl_errEntry), ("loop.example/onceways/impl.errExit", Rows.laid_loop_example_onceways_impl_errExit), ("loop.example/onceways/impl.errLost", Rows.laid_loop_example_onceways_impl_errLost)] [.sentinel, .sentinel, .sentinel, .sentinel, .sentinel, .sentinel, .sentinel] true :=
  Program.laidByTextLater.sub seatTie1 ["loop.example/onceways/impl.errCount", "loop.example/onceways/impl.errName", "loop.example/onceways/impl.errOps", "loop.example/onceways/impl.errEdge", "loop.example/onceways/impl.errEntry", "loop.example/onceways/impl.errExit", "loop.example/onceways/impl.errLost"] (by kernel_rfl) (by kernel_rfl)
theorem fnExactGroupsIn_row_tie : Rows.fnExactGroupsInRow.laidByTextAt .later Tryd.pinned [.sentinel, .sentinel, .sentinel, .sentinel, .sentinel, .sentinel, .sentinel] true :=
  OpenClaim.laidByTextAt_later rfl rfl tie noOwnUnsafe
theorem fnExactUpIn_row_tie : Rows.fnExactUpInRow.laidByTextAt .later Tryd.pinned [.sentinel, .sentinel, .sentinel, .sentinel, .sentinel, .sentinel, .sentinel] true :=
  OpenClaim.laidByTextAt_later rfl rfl tie noOwnUnsafe
theorem fnExactDownIn_row_tie : Rows.fnExactDownInRow.laidByTextAt .later Tryd.pinned [.sentinel, .sentinel, .sentinel, .sentinel, .sentinel, .sentinel, .sentinel] true :=
  OpenClaim.laidByTextAt_later rfl rfl tie noOwnUnsafe
theorem fnExactClearIn_row_tie : Rows.fnExactClearInRow.laidByTextAt .later Tryd.pinned [.sentinel, .sentinel, .sentinel, .sentinel, .sentinel, .sentinel, .sentinel] true :=
  OpenClaim.laidByTextAt_later rfl rfl tie noOwnUnsafe
theorem fnExactCountOnce_row_tie : Rows.fnExactCountOnceRow.laidByTextAt .later Tryd.pinned [.sentinel, .sentinel, .sentinel, .sentinel, .sentinel, .sentinel, .sentinel] true :=
  OpenClaim.laidByTextAt_later rfl rfl tie noOwnUnsafe
theorem fnExactIsTidy_row_tie : Rows.fnExactIsTidyRow.laidByTextAt .later Tryd.pinned [.sentinel, .sentinel, .sentinel, .sentinel, .sentinel, .sentinel, .sentinel] true :=
  OpenClaim.laidByTextAt_later rfl rfl tie noOwnUnsafe
theorem fnExactTidy_row_tie : Rows.fnExactTidyRow.laidByTextAt .later Tryd.pinned [.sentinel, .sentinel, .sentinel, .sentinel, .sentinel, .sentinel, .sentinel] true :=
  OpenClaim.laidByTextAt_later rfl rfl tie noOwnUnsafe
theorem fnExactShortestRun_row_tie : Rows.fnExactShortestRunRow.laidByTextAt .later Tryd.pinned [.sentinel, .sentinel, .sentinel, .sentinel, .sentinel, .sentinel, .sentinel] true :=
  OpenClaim.laidByTextAt_later rfl rfl tie noOwnUnsafe
theorem fnExactWalkRun_row_tie : Rows.fnExactWalkRunRow.laidByTextAt .later Tryd.pinned [.sentinel, .sentinel, .sentinel, .sentinel, .sentinel, .sentinel, .sentinel] true :=
  OpenClaim.laidByTextAt_later rfl rfl tie noOwnUnsafe
theorem fnExactSwapTerms_row_tie : Rows.fnExactSwapTermsRow.laidByTextAt .later Tryd.pinned [.sentinel, .sentinel, .sentinel, .sentinel, .sentinel, .sentinel, .sentinel] true :=
  OpenClaim.laidByTextAt_later rfl rfl tie noOwnUnsafe
theorem tie2 : Tryd.prog.laidByTextLater [("math/bits.deBruijn32tab", Rows.laid_math_bits_deBruijn32tab), ("math/bits.deBruijn64tab", Rows.laid_math_bits_deBruijn64tab), ("internal/strconv.uint64pow10", Rows.laid_internal_strconv_uint64pow10), ("loop.example/onceways/impl.errCount", Rows.laid_loop_example_onceways_impl_errCount), ("loop.example/onceways/impl.errName", Rows.laid_loop_example_onceways_impl_errName), ("loop.example/onceways/impl.errOps", Rows.laid_loop_example_onceways_impl_errOps), ("loop.example/onceways/impl.errEdge", Rows.laid_loop_example_onceways_impl_errEdge), ("loop.example/onceways/impl.errEntry", Rows.laid_loop_example_onceways_impl_errEntry), ("loop.example/onceways/impl.errExit", Rows.laid_loop_example_onceways_impl_errExit), ("loop.example/onceways/impl.errLost", Rows.laid_loop_example_onceways_impl_errLost)] [.data, .data, .data, .sentinel, .sentinel, .sentinel, .sentinel, .sentinel, .sentinel, .sentinel] true :=
  Program.laidByTextLater.sub seatTie1 ["math/bits.deBruijn32tab", "math/bits.deBruijn64tab", "internal/strconv.uint64pow10", "loop.example/onceways/impl.errCount", "loop.example/onceways/impl.errName", "loop.example/onceways/impl.errOps", "loop.example/onceways/impl.errEdge", "loop.example/onceways/impl.errEntry", "loop.example/onceways/impl.errExit", "loop.example/onceways/impl.errLost"] (by kernel_rfl) (by kernel_rfl)
theorem fnExactFactsOf_row_tie : Rows.fnExactFactsOfRow.laidByTextAt .later Tryd.pinned [.data, .data, .data, .sentinel, .sentinel, .sentinel, .sentinel, .sentinel, .sentinel, .sentinel] true :=
  OpenClaim.laidByTextAt_later rfl rfl tie2 noOwnUnsafe
theorem fnExactGroupsInUpto_row_tie : Rows.fnExactGroupsInUptoRow.laidByTextAt .later Tryd.pinned [.sentinel, .sentinel, .sentinel, .sentinel, .sentinel, .sentinel, .sentinel] true :=
  OpenClaim.laidByTextAt_later rfl rfl tie noOwnUnsafe
theorem fnExactUpInUpto_row_tie : Rows.fnExactUpInUptoRow.laidByTextAt .later Tryd.pinned [.sentinel, .sentinel, .sentinel, .sentinel, .sentinel, .sentinel, .sentinel] true :=
  OpenClaim.laidByTextAt_later rfl rfl tie noOwnUnsafe
theorem fnExactDownInUpto_row_tie : Rows.fnExactDownInUptoRow.laidByTextAt .later Tryd.pinned [.sentinel, .sentinel, .sentinel, .sentinel, .sentinel, .sentinel, .sentinel] true :=
  OpenClaim.laidByTextAt_later rfl rfl tie noOwnUnsafe
theorem fnExactClearInUpto_row_tie : Rows.fnExactClearInUptoRow.laidByTextAt .later Tryd.pinned [.sentinel, .sentinel, .sentinel, .sentinel, .sentinel, .sentinel, .sentinel] true :=
  OpenClaim.laidByTextAt_later rfl rfl tie noOwnUnsafe
theorem fnExactFactsOfUpto_row_tie : Rows.fnExactFactsOfUptoRow.laidByTextAt .later Tryd.pinned [.data, .data, .data, .sentinel, .sentinel, .sentinel, .sentinel, .sentinel, .sentinel, .sentinel] true :=
  OpenClaim.laidByTextAt_later rfl rfl tie2 noOwnUnsafe
theorem fnExactCountOnceUpto_row_tie : Rows.fnExactCountOnceUptoRow.laidByTextAt .later Tryd.pinned [.sentinel, .sentinel, .sentinel, .sentinel, .sentinel, .sentinel, .sentinel] true :=
  OpenClaim.laidByTextAt_later rfl rfl tie noOwnUnsafe
theorem fnExactIsTidyUpto_row_tie : Rows.fnExactIsTidyUptoRow.laidByTextAt .later Tryd.pinned [.sentinel, .sentinel, .sentinel, .sentinel, .sentinel, .sentinel, .sentinel] true :=
  OpenClaim.laidByTextAt_later rfl rfl tie noOwnUnsafe
theorem fnExactTidyUpto_row_tie : Rows.fnExactTidyUptoRow.laidByTextAt .later Tryd.pinned [.sentinel, .sentinel, .sentinel, .sentinel, .sentinel, .sentinel, .sentinel] true :=
  OpenClaim.laidByTextAt_later rfl rfl tie noOwnUnsafe
theorem fnExactShortestRunUpto_row_tie : Rows.fnExactShortestRunUptoRow.laidByTextAt .later Tryd.pinned [.sentinel, .sentinel, .sentinel, .sentinel, .sentinel, .sentinel, .sentinel] true :=
  OpenClaim.laidByTextAt_later rfl rfl tie noOwnUnsafe
theorem fnExactWalkRunUpto_row_tie : Rows.fnExactWalkRunUptoRow.laidByTextAt .later Tryd.pinned [.sentinel, .sentinel, .sentinel, .sentinel, .sentinel, .sentinel, .sentinel] true :=
  OpenClaim.laidByTextAt_later rfl rfl tie noOwnUnsafe
theorem fnExactSwapTermsUpto_row_tie : Rows.fnExactSwapTermsUptoRow.laidByTextAt .later Tryd.pinned [.sentinel, .sentinel, .sentinel, .sentinel, .sentinel, .sentinel, .sentinel] true :=
  OpenClaim.laidByTextAt_later rfl rfl tie noOwnUnsafe
end Go.Proofs.YtoppcppinjmjeaaDoor
