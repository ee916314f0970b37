/-
  DERIVED. GIVEN WITH THE SEED: THE PROGRAM's TIES (one call each: nine closed facts by the kernel) AND EACH ROW's TIE, after the 31st guide's Derived/Test/Toyas{Tie, Card}.lean. No idea stands in it: it is a product of the set-up. Laid BY PROGRAM, IN A SANDBOX (cutbox-door.mjs). By AI agents, Wed Nov 11 2026. No macro, syntax, notation, axiom, sorry.
-/
import Derived.Test.YtngcmjfkeageiaaDoorRows
import Derived.LaidByTextLater
import Derived.SevenTiedAt
import Derived.LaidSub
import Derived.LaidOnce
namespace Go.Proofs.YtngcmjfkeageiaaDoor
open Go
set_option maxRecDepth 100000
theorem seatTie1 : Tryd.prog.laidByTextLater [("math/bits.deBruijn32tab", Rows.laid_math_bits_deBruijn32tab), ("math/bits.deBruijn64tab", Rows.laid_math_bits_deBruijn64tab), ("internal/strconv.uint64pow10", Rows.laid_internal_strconv_uint64pow10), ("unicode/utf8.acceptRanges", Rows.laid_unicode_utf8_acceptRanges), ("loop.example/onceways/impl.errColon", Rows.laid_loop_example_onceways_impl_errColon), ("loop.example/onceways/impl.errCount", Rows.laid_loop_example_onceways_impl_errCount), ("loop.example/onceways/impl.errName", Rows.laid_loop_example_onceways_impl_errName), ("loop.example/onceways/impl.errOps", Rows.laid_loop_example_onceways_impl_errOps), ("loop.example/onceways/impl.errEdge", Rows.laid_loop_example_onceways_impl_errEdge), ("loop.example/onceways/impl.errEntry", Rows.laid_loop_example_onceways_impl_errEntry), ("loop.example/onceways/impl.errExit", Rows.laid_loop_example_onceways_impl_errExit), ("loop.example/onceways/impl.errLost", Rows.laid_loop_example_onceways_impl_errLost), ("loop.example/onceways/impl.errPut", Rows.laid_loop_example_onceways_impl_errPut)] [.data, .data, .data, .data, .sentinel, .sentinel, .sentinel, .sentinel, .sentinel, .sentinel, .sentinel, .sentinel, .sentinel] true :=
  Program.laidByTextLater_by_one 205 8 65 (by kernel_rfl) (by kernel_rfl) (by kernel_rfl) (by kernel_rfl) (by kernel_rfl) (by kernel_rfl) (fun _ _ => by kernel_rfl)
theorem pin_laid_unicode_utf8_first : Tryd.pinned.checked.prog.pinnedFits "unicode/utf8.first" = true := by kernel_rfl
theorem noOwnUnsafe : Tryd.pinned.checked.prog.headLifts.contains "ownunsafe" = false := by kernel_rfl
theorem tie : Tryd.prog.laidByTextLater [("loop.example/onceways/impl.errCount", Rows.laid_loop_example_onceways_impl_errCount), ("loop.example/onceways/impl.errName", Rows.laid_loop_example_onceways_impl_errName), ("loop.example/onceways/impl.errOps", Rows.laid_loop_example_onceways_impl_errOps), ("loop.example/onceways/impl.errEdge", Rows.laid_loop_example_onceways_impl_errEdge), ("loop.example/onceways/impl.errEntry", Rows.laid_loop_example_onceways_impl_errEntry), ("loop.example/onceways/impl.errExit", Rows.laid_loop_example_onceways_impl_errExit), ("loop.example/onceways/impl.errLost", Rows.laid_loop_example_onceways_impl_errLost)] [.sentinel, .sentinel, .sentinel, .sentinel, .sentinel, .sentinel, .sentinel] true :=
  Program.laidByTextLater.sub seatTie1 ["loop.example/onceways/impl.errCount", "loop.example/onceways/impl.errName", "loop.example/onceways/impl.errOps", "loop.example/onceways/impl.errEdge", "loop.example/onceways/impl.errEntry", "loop.example/onceways/impl.errExit", "loop.example/onceways/impl.errLost"] (by kernel_rfl) (by kernel_rfl)
theorem fnExactTermsIn_row_tie : Rows.fnExactTermsInRow.laidByTextAt .later Tryd.pinned [.sentinel, .sentinel, .sentinel, .sentinel, .sentinel, .sentinel, .sentinel] true :=
  OpenClaim.laidByTextAt_later rfl rfl tie noOwnUnsafe
theorem fnTerms_row_tie : Rows.fnTermsRow.laidByTextAt .later Tryd.pinned [.sentinel, .sentinel, .sentinel, .sentinel, .sentinel, .sentinel, .sentinel] true :=
  OpenClaim.laidByTextAt_later rfl rfl tie noOwnUnsafe
theorem fnSwapTerms_row_tie : Rows.fnSwapTermsRow.laidByTextAt .later Tryd.pinned [.sentinel, .sentinel, .sentinel, .sentinel, .sentinel, .sentinel, .sentinel] true :=
  OpenClaim.laidByTextAt_later rfl rfl tie noOwnUnsafe
theorem fnExactRunsUpTo_row_tie : Rows.fnExactRunsUpToRow.laidByTextAt .later Tryd.pinned [.sentinel, .sentinel, .sentinel, .sentinel, .sentinel, .sentinel, .sentinel] true :=
  OpenClaim.laidByTextAt_later rfl rfl tie noOwnUnsafe
theorem fnShortest_row_tie : Rows.fnShortestRow.laidByTextAt .later Tryd.pinned [.sentinel, .sentinel, .sentinel, .sentinel, .sentinel, .sentinel, .sentinel] true :=
  OpenClaim.laidByTextAt_later rfl rfl tie noOwnUnsafe
theorem fnRunsGrow_row_tie : Rows.fnRunsGrowRow.laidByTextAt .later Tryd.pinned [.sentinel, .sentinel, .sentinel, .sentinel, .sentinel, .sentinel, .sentinel] true :=
  OpenClaim.laidByTextAt_later rfl rfl tie noOwnUnsafe
theorem fits2 : Tryd.pinned.checked.prog.listedFits [("unicode/utf8.acceptRanges", Rows.laid_unicode_utf8_acceptRanges), ("loop.example/onceways/impl.errColon", Rows.laid_loop_example_onceways_impl_errColon), ("loop.example/onceways/impl.errCount", Rows.laid_loop_example_onceways_impl_errCount), ("loop.example/onceways/impl.errName", Rows.laid_loop_example_onceways_impl_errName), ("loop.example/onceways/impl.errOps", Rows.laid_loop_example_onceways_impl_errOps), ("loop.example/onceways/impl.errEdge", Rows.laid_loop_example_onceways_impl_errEdge), ("loop.example/onceways/impl.errEntry", Rows.laid_loop_example_onceways_impl_errEntry), ("loop.example/onceways/impl.errExit", Rows.laid_loop_example_onceways_impl_errExit), ("loop.example/onceways/impl.errLost", Rows.laid_loop_example_onceways_impl_errLost), ("unicode/utf8.first", Rows.laid_unicode_utf8_first)] = true := by
  unfold Program.listedFits
  rw [noOwnUnsafe]
  kernel_rfl
theorem tie2 : Tryd.prog.laidByTextLater [("unicode/utf8.acceptRanges", Rows.laid_unicode_utf8_acceptRanges), ("loop.example/onceways/impl.errColon", Rows.laid_loop_example_onceways_impl_errColon), ("loop.example/onceways/impl.errCount", Rows.laid_loop_example_onceways_impl_errCount), ("loop.example/onceways/impl.errName", Rows.laid_loop_example_onceways_impl_errName), ("loop.example/onceways/impl.errOps", Rows.laid_loop_example_onceways_impl_errOps), ("loop.example/onceways/impl.errEdge", Rows.laid_loop_example_onceways_impl_errEdge), ("loop.example/onceways/impl.errEntry", Rows.laid_loop_example_onceways_impl_errEntry), ("loop.example/onceways/impl.errExit", Rows.laid_loop_example_onceways_impl_errExit), ("loop.example/onceways/impl.errLost", Rows.laid_loop_example_onceways_impl_errLost)] [.data, .sentinel, .sentinel, .sentinel, .sentinel, .sentinel, .sentinel, .sentinel, .sentinel] true :=
  Program.laidByTextLater.sub seatTie1 ["unicode/utf8.acceptRanges", "loop.example/onceways/impl.errColon", "loop.example/onceways/impl.errCount", "loop.example/onceways/impl.errName", "loop.example/onceways/impl.errOps", "loop.example/onceways/impl.errEdge", "loop.example/onceways/impl.errEntry", "loop.example/onceways/impl.errExit", "loop.example/onceways/impl.errLost"] (by kernel_rfl) (by kernel_rfl)
theorem fnProgText_row_tie : Rows.fnProgTextRow.laidByTextAt .later Tryd.pinned [.data, .sentinel, .sentinel, .sentinel, .sentinel, .sentinel, .sentinel, .sentinel, .sentinel, .pinned] true :=
  OpenClaim.laidByTextAt_pinned rfl rfl tie2 rfl rfl rfl rfl (fun y hy _e => by
    simp only [Rows.fnProgTextRow, List.zip_cons_cons, List.zip_nil_right, List.mem_cons, List.mem_nil_iff, or_false] at hy
    rcases hy with rfl | rfl | rfl | rfl | rfl | rfl | rfl | rfl | rfl | rfl
    · cases _e
    · cases _e
    · cases _e
    · cases _e
    · cases _e
    · cases _e
    · cases _e
    · cases _e
    · cases _e
    · exact ⟨pin_laid_unicode_utf8_first, by kernel_rfl⟩) fits2
theorem tie3 : Tryd.prog.laidByTextLater [("math/bits.deBruijn32tab", Rows.laid_math_bits_deBruijn32tab), ("math/bits.deBruijn64tab", Rows.laid_math_bits_deBruijn64tab), ("internal/strconv.uint64pow10", Rows.laid_internal_strconv_uint64pow10), ("loop.example/onceways/impl.errCount", Rows.laid_loop_example_onceways_impl_errCount), ("loop.example/onceways/impl.errName", Rows.laid_loop_example_onceways_impl_errName), ("loop.example/onceways/impl.errOps", Rows.laid_loop_example_onceways_impl_errOps), ("loop.example/onceways/impl.errEdge", Rows.laid_loop_example_onceways_impl_errEdge), ("loop.example/onceways/impl.errEntry", Rows.laid_loop_example_onceways_impl_errEntry), ("loop.example/onceways/impl.errExit", Rows.laid_loop_example_onceways_impl_errExit), ("loop.example/onceways/impl.errLost", Rows.laid_loop_example_onceways_impl_errLost)] [.data, .data, .data, .sentinel, .sentinel, .sentinel, .sentinel, .sentinel, .sentinel, .sentinel] true :=
  Program.laidByTextLater.sub seatTie1 ["math/bits.deBruijn32tab", "math/bits.deBruijn64tab", "internal/strconv.uint64pow10", "loop.example/onceways/impl.errCount", "loop.example/onceways/impl.errName", "loop.example/onceways/impl.errOps", "loop.example/onceways/impl.errEdge", "loop.example/onceways/impl.errEntry", "loop.example/onceways/impl.errExit", "loop.example/onceways/impl.errLost"] (by kernel_rfl) (by kernel_rfl)
theorem fnTidyFacts_row_tie : Rows.fnTidyFactsRow.laidByTextAt .later Tryd.pinned [.data, .data, .data, .sentinel, .sentinel, .sentinel, .sentinel, .sentinel, .sentinel, .sentinel] true :=
  OpenClaim.laidByTextAt_later rfl rfl tie3 noOwnUnsafe
theorem tie4 : Tryd.prog.laidByTextLater [("math/bits.deBruijn32tab", Rows.laid_math_bits_deBruijn32tab), ("math/bits.deBruijn64tab", Rows.laid_math_bits_deBruijn64tab), ("internal/strconv.uint64pow10", Rows.laid_internal_strconv_uint64pow10), ("loop.example/onceways/impl.errCount", Rows.laid_loop_example_onceways_impl_errCount), ("loop.example/onceways/impl.errName", Rows.laid_loop_example_onceways_impl_errName), ("loop.example/onceways/impl.errOps", Rows.laid_loop_example_onceways_impl_errOps), ("loop.example/onceways/impl.errEdge", Rows.laid_loop_example_onceways_impl_errEdge), ("loop.example/onceways/impl.errEntry", Rows.laid_loop_example_onceways_impl_errEntry), ("loop.example/onceways/impl.errExit", Rows.laid_loop_example_onceways_impl_errExit), ("loop.example/onceways/impl.errLost", Rows.laid_loop_example_onceways_impl_errLost), ("loop.example/onceways/impl.errPut", Rows.laid_loop_example_onceways_impl_errPut)] [.data, .data, .data, .sentinel, .sentinel, .sentinel, .sentinel, .sentinel, .sentinel, .sentinel, .sentinel] true :=
  Program.laidByTextLater.sub seatTie1 ["math/bits.deBruijn32tab", "math/bits.deBruijn64tab", "internal/strconv.uint64pow10", "loop.example/onceways/impl.errCount", "loop.example/onceways/impl.errName", "loop.example/onceways/impl.errOps", "loop.example/onceways/impl.errEdge", "loop.example/onceways/impl.errEntry", "loop.example/onceways/impl.errExit", "loop.example/onceways/impl.errLost", "loop.example/onceways/impl.errPut"] (by kernel_rfl) (by kernel_rfl)
theorem fnExactFormatPlace_row_tie : Rows.fnExactFormatPlaceRow.laidByTextAt .later Tryd.pinned [.data, .data, .data, .sentinel, .sentinel, .sentinel, .sentinel, .sentinel, .sentinel, .sentinel, .sentinel] true :=
  OpenClaim.laidByTextAt_later rfl rfl tie4 noOwnUnsafe
theorem fnExactTermsInUpto_row_tie : Rows.fnExactTermsInUptoRow.laidByTextAt .later Tryd.pinned [.sentinel, .sentinel, .sentinel, .sentinel, .sentinel, .sentinel, .sentinel] true :=
  OpenClaim.laidByTextAt_later rfl rfl tie noOwnUnsafe
theorem fnTermsUpto_row_tie : Rows.fnTermsUptoRow.laidByTextAt .later Tryd.pinned [.sentinel, .sentinel, .sentinel, .sentinel, .sentinel, .sentinel, .sentinel] true :=
  OpenClaim.laidByTextAt_later rfl rfl tie noOwnUnsafe
theorem fnSwapTermsUpto_row_tie : Rows.fnSwapTermsUptoRow.laidByTextAt .later Tryd.pinned [.sentinel, .sentinel, .sentinel, .sentinel, .sentinel, .sentinel, .sentinel] true :=
  OpenClaim.laidByTextAt_later rfl rfl tie noOwnUnsafe
theorem fnProgTextUpto_row_tie : Rows.fnProgTextUptoRow.laidByTextAt .later Tryd.pinned [.data, .sentinel, .sentinel, .sentinel, .sentinel, .sentinel, .sentinel, .sentinel, .sentinel, .pinned] true :=
  OpenClaim.laidByTextAt_pinned rfl rfl tie2 rfl rfl rfl rfl (fun y hy _e => by
    simp only [Rows.fnProgTextUptoRow, List.zip_cons_cons, List.zip_nil_right, List.mem_cons, List.mem_nil_iff, or_false] at hy
    rcases hy with rfl | rfl | rfl | rfl | rfl | rfl | rfl | rfl | rfl | rfl
    · cases _e
    · cases _e
    · cases _e
    · cases _e
    · cases _e
    · cases _e
    · cases _e
    · cases _e
    · cases _e
    · exact ⟨pin_laid_unicode_utf8_first, by kernel_rfl⟩) fits2
theorem fnTidyFactsUpto_row_tie : Rows.fnTidyFactsUptoRow.laidByTextAt .later Tryd.pinned [.data, .data, .data, .sentinel, .sentinel, .sentinel, .sentinel, .sentinel, .sentinel, .sentinel] true :=
  OpenClaim.laidByTextAt_later rfl rfl tie3 noOwnUnsafe
theorem fnExactRunsUpToUpto_row_tie : Rows.fnExactRunsUpToUptoRow.laidByTextAt .later Tryd.pinned [.sentinel, .sentinel, .sentinel, .sentinel, .sentinel, .sentinel, .sentinel] true :=
  OpenClaim.laidByTextAt_later rfl rfl tie noOwnUnsafe
theorem fnExactFormatPlaceUpto_row_tie : Rows.fnExactFormatPlaceUptoRow.laidByTextAt .later Tryd.pinned [.data, .data, .data, .sentinel, .sentinel, .sentinel, .sentinel, .sentinel, .sentinel, .sentinel, .sentinel] true :=
  OpenClaim.laidByTextAt_later rfl rfl tie4 noOwnUnsafe
theorem fnShortestUpto_row_tie : Rows.fnShortestUptoRow.laidByTextAt .later Tryd.pinned [.sentinel, .sentinel, .sentinel, .sentinel, .sentinel, .sentinel, .sentinel] true :=
  OpenClaim.laidByTextAt_later rfl rfl tie noOwnUnsafe
theorem fnRunsGrowUpto_row_tie : Rows.fnRunsGrowUptoRow.laidByTextAt .later Tryd.pinned [.sentinel, .sentinel, .sentinel, .sentinel, .sentinel, .sentinel, .sentinel] true :=
  OpenClaim.laidByTextAt_later rfl rfl tie noOwnUnsafe
end Go.Proofs.YtngcmjfkeageiaaDoor
