/-
  CountOnce of the program. Conditions: at most 1048576 blocks and edges, each text at most as many bytes; the errors' variables hold errors.
-/
import Derived.Test.YtoppcppinjmjeaaDoorOnceS
import Derived.Test.YtoppcppinjmjeaaDoorAlong
import Derived.Test.YtoppcppinjmjeaaDoorBlkJ
import Derived.StillTailTactics
namespace Go.Proofs.YtoppcppinjmjeaaDoor
open Go.RowKit Go.Maps

theorem Tryd.fieldN (a b c d : Value) (w : World) : (Instr.field 59 (.agg #[a, b, c, d]) 3).run Tryd.prog w = .ok d w := by kernel_rfl
set_option maxRecDepth 100000 in
set_option maxHeartbeats 1600000 in
theorem CountOnce_impl (w : World) (bs es : List Pr) (ab ae : Option Addr) (cb ce : Nat) (run t : ByteArray) (hr : run.size ≤ 1048576) (_ht : t.size ≤ 1048576) (hpb : PairsAt w ab bs) (hpe : PairsAt w ae es) (hg : Errs w) :
    Calls Tryd.prog 28 #[.agg #[.slice ab bs.length cb, .slice ae es.length ce], .string run, .string t] w fun e w' => e = .returned (.int .i64 (onceV bs es run t)) ∧ Below w.heap.size w w' := by
  have h1 : Below w.heap.size w (w.alloc (.cells #[.slice ab bs.length cb, .slice ae es.length ce] 31)) := (Below.refl _ _).alloc (Nat.le_refl _) _
  have hpb1 := hpb.below h1
  have hpe1 := hpe.below h1
  have hg1 := hg.keep h1
  have H1 := Lib.hid h1; clear h1
  go_enter Tryd.func28, Tryd.ntmps28
  go_wp2_with fail
  refine (opsAlong_any _ bs es _ _ _ _ run hr hpb1 hpe1 hg1).mono ?_
  rintro e w1 ⟨hb1, hcase⟩
  have hall : Below w.heap.size w w1 := H1.out.trans (hb1.mono (by simp))
  have hz := hall.size
  rcases hcase with ⟨hv, b, cap, V, rfl, hbw, hcell, hrow⟩ | ⟨hv, rfl⟩
  · cases ht : isTm t
    · have HN := Lib.hid (onceV_no2 (bs := bs) (es := es) (run := run) ht)
      have HT := Lib.hid ht
      clear hv ht hcell hrow
      go_wp2_with (go_at_call 65; refine (isTerm_lit _ _ HT.out _).mono ?_; rintro e w' ⟨rfl, rfl⟩)
      go_ret
      exact ⟨by rw [HN.out]; rfl, hall⟩
    · have HN := Lib.hid (onceV_yes hv ht)
      have h0 : 0 < t.size := by rw [isTm_size ht]; decide
      have hB : (t[0].toNat : Int) ≤ 255 := by have := t[0].toNat_lt; omega
      have HT := Lib.hid (And.intro ht (And.intro (isTm_bd ht) (byteAt_get h0)))
      have HR := Lib.hid (isRunB_iff.1 hv)
      have hr40 := HR.out.2.hi
      have HC := Lib.hid (And.intro hcell hrow)
      clear hv ht hcell hrow
      go_wp2_with (go_at_call 65; refine (isTerm_lit _ _ HT.out.1 _).mono ?_; rintro e w' ⟨rfl, rfl⟩)
      go_loopw [27, 9] (fun i v wr => ∃ k : Nat, k ≤ run.size ∧ i = .int .i64 k ∧ v = .int .i64 (onceTo bs run t k : Int) ∧ Below w1.heap.size w1 wr) (fun i _ _ => run.size - (intOf i).toNat)
      case atStart => exact ⟨0, Nat.zero_le _, rfl, rfl, Below.refl _ _⟩
      case round =>
        obtain ⟨k, hk, rfl, rfl, hbl⟩ := hrel
        have hs2 := hbl.size
        by_cases hlt : k < run.size
        · have x0 := (hbl.cell (p := ⟨b, k, none⟩) hbw).trans (HC.out.1 k hlt)
          have hr6 : RowAt wr (V k) (opVals (blkOps bs (ch run k)) (blkOps bs (ch run k)).size) := (HC.out.2 k hlt).keepB hbl
          obtain ⟨va, vc, hva⟩ := row_len3 hr6
          rw [hva] at x0 hr6
          have hmem := HR.out.2.mem HR.out.1 hlt
          have hok : opsOk (blkOps bs (ch run k)) := opsAt_ok HR.out.1 hmem
          have hsz := onceTo_le (t := t) HR.out.1 HR.out.2 k hk
          have hfs := fsOf_n (blkOps bs (ch run k)) t
          have s3 := run_slice_str run ((k : Int)) ((k : Int) + 1) k (k + 1) rfl (by omega) (by omega) (by omega)
          have w2 : IntKind.i64.wrap ((k : Int) + 1) = (k : Int) + 1 := IntWalk.i64_in _ (by omega)
          have w3 : IntKind.i64.wrap ((onceTo bs run t k : Int) + ((fsOf (blkOps bs (ch run k)) t).n : Int)) = (onceTo bs run t (k + 1) : Int) := by
            rw [onceTo_succ]
            have h6 := hok.1
            have := IntWalk.i64_in ((onceTo bs run t k : Int) + ((fsOf (blkOps bs (ch run k)) t).n : Int)) (by omega)
            rw [this]; omega
          have HP := Lib.hid (And.intro hr6 (And.intro hok hbl))
          have hlt0 : (0 : Int) < (t.size : Int) := by omega
          have W3 := Lib.hid w3
          clear hmem hr6 hok hbl hsz hfs hva w3
          go_wp2
          have hbk := HT.out.2.2
          rw [hbk] at hB
          have w3 : IntKind.i64.wrap ((onceTo bs run t k : Int) + ((fsA (blkOps bs (ch run k)) (byteAt t 0) (blkOps bs (ch run k)).size).n : Int)) = (onceTo bs run t (k + 1) : Int) := W3.out
          have fl := Tryd.fieldN
          have hkb : b < wr.heap.size := by omega
          go_region_held3 (fun w' => w'.cell? ⟨b, k, none⟩ = some (.slice va (opVals (blkOps bs (ch run k)) (blkOps bs (ch run k)).size).length vc) ∧ Below wr.heap.size wr w')
            (first
              | exact ⟨x0, (Below.refl _ _).drew⟩
              | (have hq := below_new (‹_ ∧ Below wr.heap.size wr _›).2 hbN; exact ⟨(hq.cell (p := ⟨b, k, none⟩) hkb).trans x0, hq⟩))
            (first
              | (go_at_call 66; refine (seenBlock_any _ _ (blkOps bs (ch run k)) (ch run k) (byteAt t 0) HT.out.2.1 (by have := HP.out.2.1.1; omega) HP.out.2.1.2 (RowAt.keepB HP.out.1 (Below.refl _ _).drew)).mono ?_; rintro e wN ⟨rfl, hbN⟩))
          have hbN2 : Below w1.heap.size w1 wN := HP.out.2.2.trans ((‹_ ∧ Below wr.heap.size wr wN›).2.mono hs2)
          go_wp2
          go_roundw
          case rel => exact ⟨k + 1, by omega, by go_num, rfl, hbN2⟩
          case measure => simp [intOf]; omega
        · obtain rfl : k = run.size := by omega
          have hfin := hall.trans (hbl.mono hz)
          go_wp2
          go_ret
          exact ⟨by rw [HN.out]; rfl, hfin⟩
  · have HN := Lib.hid (onceV_no1 (t := t) hv)
    clear hv
    go_wp2
    go_ret
    exact ⟨by rw [HN.out]; rfl, hall⟩
end Go.Proofs.YtoppcppinjmjeaaDoor
