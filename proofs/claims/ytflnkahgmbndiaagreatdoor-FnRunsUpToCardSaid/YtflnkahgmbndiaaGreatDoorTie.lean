/-
  DERIVED. GIVEN WITH THE SEED: THE PROGRAM's TIES (one call each: nine closed facts by the kernel) AND EACH ROW's TIE, after the 31st guide's Derived/Test/Toyas{Tie, Card}.lean. No idea stands in it: it is a product of the set-up. Laid BY PROGRAM, IN A SANDBOX (cutbox-door.mjs). By AI agents, Wed Nov 11 2026. No macro, syntax, notation, axiom, sorry.
-/
import Derived.Test.YtflnkahgmbndiaaGreatDoorRows
import Derived.LaidByTextLater
import Derived.SevenTiedAt
import Derived.LaidSub
import Derived.LaidOnce
namespace Go.Proofs.YtflnkahgmbndiaaGreatDoor
open Go
set_option maxRecDepth 100000
theorem seatTie1 : Tryz.prog.laidByTextLater [("math/bits.deBruijn32tab", Rows.laid_math_bits_deBruijn32tab), ("math/bits.deBruijn64tab", Rows.laid_math_bits_deBruijn64tab), ("internal/strconv.uint64pow10", Rows.laid_internal_strconv_uint64pow10), ("unicode/utf8.acceptRanges", Rows.laid_unicode_utf8_acceptRanges), ("loop.example/onceways/impl.errCount", Rows.laid_loop_example_onceways_impl_errCount), ("loop.example/onceways/impl.errName", Rows.laid_loop_example_onceways_impl_errName), ("loop.example/onceways/impl.errOps", Rows.laid_loop_example_onceways_impl_errOps), ("loop.example/onceways/impl.errEdge", Rows.laid_loop_example_onceways_impl_errEdge), ("loop.example/onceways/impl.errEntry", Rows.laid_loop_example_onceways_impl_errEntry), ("loop.example/onceways/impl.errExit", Rows.laid_loop_example_onceways_impl_errExit), ("loop.example/onceways/impl.errLost", Rows.laid_loop_example_onceways_impl_errLost), ("loop.example/onceways/impl.errSlash", Rows.laid_loop_example_onceways_impl_errSlash), ("loop.example/onceways/impl.errPut", Rows.laid_loop_example_onceways_impl_errPut), ("loop.example/onceways/impl.errDrop", Rows.laid_loop_example_onceways_impl_errDrop)] [.data, .data, .data, .data, .sentinel, .sentinel, .sentinel, .sentinel, .sentinel, .sentinel, .sentinel, .sentinel, .sentinel, .sentinel] true :=
  Program.laidByTextLater_by_one 224 8 65 (by kernel_rfl) (by kernel_rfl) (by kernel_rfl) (by kernel_rfl) (by kernel_rfl) (by kernel_rfl) (fun _ _ => by kernel_rfl)
theorem pin_laid_unicode_utf8_first : Tryz.pinned.checked.prog.pinnedFits "unicode/utf8.first" = true := by kernel_rfl
theorem noOwnUnsafe : Tryz.pinned.checked.prog.headLifts.contains "ownunsafe" = false := by kernel_rfl
theorem tie : Tryz.prog.laidByTextLater [("loop.example/onceways/impl.errCount", Rows.laid_loop_example_onceways_impl_errCount), ("loop.example/onceways/impl.errName", Rows.laid_loop_example_onceways_impl_errName), ("loop.example/onceways/impl.errOps", Rows.laid_loop_example_onceways_impl_errOps), ("loop.example/onceways/impl.errEdge", Rows.laid_loop_example_onceways_impl_errEdge), ("loop.example/onceways/impl.errEntry", Rows.laid_loop_example_onceways_impl_errEntry), ("loop.example/onceways/impl.errExit", Rows.laid_loop_example_onceways_impl_errExit), ("loop.example/onceways/impl.errLost", Rows.laid_loop_example_onceways_impl_errLost)] [.sentinel, .sentinel, .sentinel, .sentinel, .sentinel, .sentinel, .sentinel] true :=
  Program.laidByTextLater.sub seatTie1 ["loop.example/onceways/impl.errCount", "loop.example/onceways/impl.errName", "loop.example/onceways/impl.errOps", "loop.example/onceways/impl.errEdge", "loop.example/onceways/impl.errEntry", "loop.example/onceways/impl.errExit", "loop.example/onceways/impl.errLost"] (by kernel_rfl) (by kernel_rfl)
theorem fnRunsUpTo_row_tie : Rows.fnRunsUpToRow.laidByTextAt .later Tryz.pinned [.sentinel, .sentinel, .sentinel, .sentinel, .sentinel, .sentinel, .sentinel] true :=
  OpenClaim.laidByTextAt_later rfl rfl tie noOwnUnsafe
theorem fits2 : Tryz.pinned.checked.prog.listedFits [("math/bits.deBruijn32tab", Rows.laid_math_bits_deBruijn32tab), ("math/bits.deBruijn64tab", Rows.laid_math_bits_deBruijn64tab), ("internal/strconv.uint64pow10", Rows.laid_internal_strconv_uint64pow10), ("unicode/utf8.acceptRanges", Rows.laid_unicode_utf8_acceptRanges), ("loop.example/onceways/impl.errCount", Rows.laid_loop_example_onceways_impl_errCount), ("loop.example/onceways/impl.errName", Rows.laid_loop_example_onceways_impl_errName), ("loop.example/onceways/impl.errOps", Rows.laid_loop_example_onceways_impl_errOps), ("loop.example/onceways/impl.errEdge", Rows.laid_loop_example_onceways_impl_errEdge), ("loop.example/onceways/impl.errEntry", Rows.laid_loop_example_onceways_impl_errEntry), ("loop.example/onceways/impl.errExit", Rows.laid_loop_example_onceways_impl_errExit), ("loop.example/onceways/impl.errLost", Rows.laid_loop_example_onceways_impl_errLost), ("loop.example/onceways/impl.errSlash", Rows.laid_loop_example_onceways_impl_errSlash), ("loop.example/onceways/impl.errPut", Rows.laid_loop_example_onceways_impl_errPut), ("loop.example/onceways/impl.errDrop", Rows.laid_loop_example_onceways_impl_errDrop), ("unicode/utf8.first", Rows.laid_unicode_utf8_first)] = true := by
  unfold Program.listedFits
  rw [noOwnUnsafe]
  kernel_rfl
theorem tie2 : Tryz.prog.laidByTextLater [("math/bits.deBruijn32tab", Rows.laid_math_bits_deBruijn32tab), ("math/bits.deBruijn64tab", Rows.laid_math_bits_deBruijn64tab), ("internal/strconv.uint64pow10", Rows.laid_internal_strconv_uint64pow10), ("unicode/utf8.acceptRanges", Rows.laid_unicode_utf8_acceptRanges), ("loop.example/onceways/impl.errCount", Rows.laid_loop_example_onceways_impl_errCount), ("loop.example/onceways/impl.errName", Rows.laid_loop_example_onceways_impl_errName), ("loop.example/onceways/impl.errOps", Rows.laid_loop_example_onceways_impl_errOps), ("loop.example/onceways/impl.errEdge", Rows.laid_loop_example_onceways_impl_errEdge), ("loop.example/onceways/impl.errEntry", Rows.laid_loop_example_onceways_impl_errEntry), ("loop.example/onceways/impl.errExit", Rows.laid_loop_example_onceways_impl_errExit), ("loop.example/onceways/impl.errLost", Rows.laid_loop_example_onceways_impl_errLost), ("loop.example/onceways/impl.errSlash", Rows.laid_loop_example_onceways_impl_errSlash), ("loop.example/onceways/impl.errPut", Rows.laid_loop_example_onceways_impl_errPut), ("loop.example/onceways/impl.errDrop", Rows.laid_loop_example_onceways_impl_errDrop)] [.data, .data, .data, .data, .sentinel, .sentinel, .sentinel, .sentinel, .sentinel, .sentinel, .sentinel, .sentinel, .sentinel, .sentinel] true :=
  Program.laidByTextLater.sub seatTie1 ["math/bits.deBruijn32tab", "math/bits.deBruijn64tab", "internal/strconv.uint64pow10", "unicode/utf8.acceptRanges", "loop.example/onceways/impl.errCount", "loop.example/onceways/impl.errName", "loop.example/onceways/impl.errOps", "loop.example/onceways/impl.errEdge", "loop.example/onceways/impl.errEntry", "loop.example/onceways/impl.errExit", "loop.example/onceways/impl.errLost", "loop.example/onceways/impl.errSlash", "loop.example/onceways/impl.errPut", "loop.example/onceways/impl.errDrop"] (by kernel_rfl) (by kernel_rfl)
theorem fnExactParsePlace_row_tie : Rows.fnExactParsePlaceRow.laidByTextAt .later Tryz.pinned [.data, .data, .data, .data, .sentinel, .sentinel, .sentinel, .sentinel, .sentinel, .sentinel, .sentinel, .sentinel, .sentinel, .sentinel, .pinned] true :=
  OpenClaim.laidByTextAt_pinned rfl rfl tie2 rfl rfl rfl rfl (fun y hy _e => by
    simp only [Rows.fnExactParsePlaceRow, List.zip_cons_cons, List.zip_nil_right, List.mem_cons, List.mem_nil_iff, or_false] at hy
    rcases hy with rfl | rfl | rfl | rfl | rfl | rfl | rfl | rfl | rfl | rfl | rfl | rfl | rfl | rfl | rfl
    · cases _e
    · cases _e
    · cases _e
    · cases _e
    · cases _e
    · cases _e
    · cases _e
    · cases _e
    · cases _e
    · cases _e
    · cases _e
    · cases _e
    · cases _e
    · cases _e
    · exact ⟨pin_laid_unicode_utf8_first, by kernel_rfl⟩) fits2
theorem fnPlaceText_row_tie : Rows.fnPlaceTextRow.laidByTextAt .later Tryz.pinned [.data, .data, .data, .data, .sentinel, .sentinel, .sentinel, .sentinel, .sentinel, .sentinel, .sentinel, .sentinel, .sentinel, .sentinel, .pinned] true :=
  OpenClaim.laidByTextAt_pinned rfl rfl tie2 rfl rfl rfl rfl (fun y hy _e => by
    simp only [Rows.fnPlaceTextRow, List.zip_cons_cons, List.zip_nil_right, List.mem_cons, List.mem_nil_iff, or_false] at hy
    rcases hy with rfl | rfl | rfl | rfl | rfl | rfl | rfl | rfl | rfl | rfl | rfl | rfl | rfl | rfl | rfl
    · cases _e
    · cases _e
    · cases _e
    · cases _e
    · cases _e
    · cases _e
    · cases _e
    · cases _e
    · cases _e
    · cases _e
    · cases _e
    · cases _e
    · cases _e
    · cases _e
    · exact ⟨pin_laid_unicode_utf8_first, by kernel_rfl⟩) fits2
theorem fnRunsUpToUpto_row_tie : Rows.fnRunsUpToUptoRow.laidByTextAt .later Tryz.pinned [.sentinel, .sentinel, .sentinel, .sentinel, .sentinel, .sentinel, .sentinel] true :=
  OpenClaim.laidByTextAt_later rfl rfl tie noOwnUnsafe
theorem fnExactParsePlaceUpto_row_tie : Rows.fnExactParsePlaceUptoRow.laidByTextAt .later Tryz.pinned [.data, .data, .data, .data, .sentinel, .sentinel, .sentinel, .sentinel, .sentinel, .sentinel, .sentinel, .sentinel, .sentinel, .sentinel, .pinned] true :=
  OpenClaim.laidByTextAt_pinned rfl rfl tie2 rfl rfl rfl rfl (fun y hy _e => by
    simp only [Rows.fnExactParsePlaceUptoRow, List.zip_cons_cons, List.zip_nil_right, List.mem_cons, List.mem_nil_iff, or_false] at hy
    rcases hy with rfl | rfl | rfl | rfl | rfl | rfl | rfl | rfl | rfl | rfl | rfl | rfl | rfl | rfl | rfl
    · cases _e
    · cases _e
    · cases _e
    · cases _e
    · cases _e
    · cases _e
    · cases _e
    · cases _e
    · cases _e
    · cases _e
    · cases _e
    · cases _e
    · cases _e
    · cases _e
    · exact ⟨pin_laid_unicode_utf8_first, by kernel_rfl⟩) fits2
theorem fnPlaceTextUpto_row_tie : Rows.fnPlaceTextUptoRow.laidByTextAt .later Tryz.pinned [.data, .data, .data, .data, .sentinel, .sentinel, .sentinel, .sentinel, .sentinel, .sentinel, .sentinel, .sentinel, .sentinel, .sentinel, .pinned] true :=
  OpenClaim.laidByTextAt_pinned rfl rfl tie2 rfl rfl rfl rfl (fun y hy _e => by
    simp only [Rows.fnPlaceTextUptoRow, List.zip_cons_cons, List.zip_nil_right, List.mem_cons, List.mem_nil_iff, or_false] at hy
    rcases hy with rfl | rfl | rfl | rfl | rfl | rfl | rfl | rfl | rfl | rfl | rfl | rfl | rfl | rfl | rfl
    · cases _e
    · cases _e
    · cases _e
    · cases _e
    · cases _e
    · cases _e
    · cases _e
    · cases _e
    · cases _e
    · cases _e
    · cases _e
    · cases _e
    · cases _e
    · cases _e
    · exact ⟨pin_laid_unicode_utf8_first, by kernel_rfl⟩) fits2
end Go.Proofs.YtflnkahgmbndiaaGreatDoor
