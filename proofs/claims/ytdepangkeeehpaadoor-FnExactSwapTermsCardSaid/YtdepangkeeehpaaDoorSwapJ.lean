/-
  SwapTerms of the program. Conditions: at most 1048576 blocks and edges, each text at most as many bytes; the errors' variables hold errors.
-/
import Derived.Test.YtdepangkeeehpaaDoorSwapS
import Derived.Test.YtdepangkeeehpaaDoorSwapI
import Derived.Test.YtdepangkeeehpaaDoorWriteOps
import Derived.Test.YtdepangkeeehpaaDoorBlkJ
namespace Go.Proofs.YtdepangkeeehpaaDoor
open Go.RowKit Go.Maps

theorem RowAt.ofOwn {w : World} {B n : Nat} {v : Value} {xs : List Value} (hn : n = xs.length) (h : w.ownsRow B 100 1 v n xs) : RowAt w v xs := by
  subst hn; exact own_base h (Nat.zero_le _)
theorem swT_okW {s : ByteArray} {t u : Nat} (ht : lowB t = true) (hu : lowB u = true) (h6 : s.size ≤ 6) (hop : ∀ i, i < s.size → opB (byteAt s i) = true) : (swT s t u s.size).size ≤ 1000 ∧ ∀ i, i < (swT s t u s.size).size → opB (byteAt (swT s t u s.size) i) = true := by
  rw [swT_size]
  refine ⟨by omega, fun i hi => ?_⟩
  rw [swT_at s t u s.size i hi, swC_nat ht hu (hop i hi)]
  exact (swB_le ht hu (hop i hi)).2.1
theorem below_zero {w w1 : World} (h : Below w.heap.size w w1) (o : Obj) : Below w.heap.size w (((w1.setCell ⟨w.heap.size + 1, 0, none⟩ (.slice none 0 0)).setCell ⟨w.heap.size + 1, 1, none⟩ (.slice none 0 0)).alloc o) :=
  ((h.setCell (p := ⟨w.heap.size + 1, 0, none⟩) (Nat.le_succ _) _).setCell (p := ⟨w.heap.size + 1, 1, none⟩) (Nat.le_succ _) _).alloc (by have := h.size; simp [World.setCell]; omega) o
theorem below_resS {w w1 : World} (h : Below w.heap.size w w1) (u v : Value) : Below w.heap.size w ((w1.setCell ⟨w.heap.size + 1, 0, none⟩ u).setCell ⟨w.heap.size + 1, 1, none⟩ v) :=
  (h.setCell (p := ⟨w.heap.size + 1, 0, none⟩) (Nat.le_succ _) _).setCell (p := ⟨w.heap.size + 1, 1, none⟩) (Nat.le_succ _) _
theorem isTm_low {t : ByteArray} (h : isTm t = true) : lowB (byteAt t 0) = true := by
  unfold isTm at h
  simp only [Bool.and_eq_true] at h
  exact h.2

set_option maxRecDepth 100000 in
set_option maxHeartbeats 6400000 in
theorem SwapTerms_impl (w : World) (bs es : List Pr) (ab ae : Option Addr) (cb ce : Nat) (x y : ByteArray) (_hxs : x.size ≤ 1048576) (_hys : y.size ≤ 1048576) (hpb : PairsAt w ab bs) (hpe : PairsAt w ae es) (hg : Errs w) :
    Calls Tryd.prog 18 #[.agg #[.slice ab bs.length cb, .slice ae es.length ce], .string x, .string y] w (ProgRes w (swOk bs es x y) (swRL bs es x y) (swRE bs es x y)) := by
  have h1 : Below w.heap.size w ((w.alloc (.cells #[.slice ab bs.length cb, .slice ae es.length ce] 30)).alloc (.cells #[.slice none 0 0, .slice none 0 0] 30)) := ((Below.refl _ _).alloc (Nat.le_refl _) _).alloc (by simp) _
  have hpb1 := hpb.below h1
  have hpe1 := hpe.below h1
  have hg1 := hg.keep h1
  have hRA : Two ((w.alloc (.cells #[.slice ab bs.length cb, .slice ae es.length ce] 30)).alloc (.cells #[.slice none 0 0, .slice none 0 0] 30)) (w.heap.size + 1) (.slice none 0 0) (.slice none 0 0) := by
    rw [show w.heap.size + 1 = (w.alloc (.cells #[.slice ab bs.length cb, .slice ae es.length ce] 30)).heap.size by simp]; exact heap_alloc_new _ _
  have hPA : Two ((w.alloc (.cells #[.slice ab bs.length cb, .slice ae es.length ce] 30)).alloc (.cells #[.slice none 0 0, .slice none 0 0] 30)) w.heap.size (.slice ab bs.length cb) (.slice ae es.length ce) := (Below.heap_alloc _ _ _ (by simp)).trans (heap_alloc_new _ _)
  have hl9 := hpb.len
  obtain ⟨i0, hi, hz0, hz1, hz2⟩ := info_parts Tryd.infoBlock
  have H1 := Lib.hid (And.intro h1 (And.intro hRA hPA)); clear h1 hRA hPA
  go_enter Tryd.func18, Tryd.ntmps18
  go_wp2_with fail
  refine (planOf_any _ bs es _ _ _ _ hpb1 hpe1 hg1).mono ?_
  rintro e w1 ⟨hb1, hcase⟩
  have hall : Below w.heap.size w w1 := H1.out.1.trans (hb1.mono (by simp; omega))
  have hz := hall.size
  have hR1 : Two w1 (w.heap.size + 1) _ _ := H1.out.2.1.of_cells (hb1.block _ (by simp))
  have hP1 : Two w1 w.heap.size _ _ := H1.out.2.2.of_cells (hb1.block _ (by simp; omega))
  obtain ⟨c0, c1, _, _, hzA⟩ := hP1.cells
  obtain ⟨r0, r1, t0, t1, hzB⟩ := hR1.cells
  rcases hcase with ⟨hv, o, lo, li, rfl, hp⟩ | ⟨hv, ty, z, rfl⟩
  · have hvb : validB bs es = true := by simpa [validB] using hv
    have G := fun a b q => hR1.reads a b q
    have HNo := Lib.hid (And.intro hall G)
    cases hx : isTm x
    · have HN := Lib.hid (show swOk bs es x y = false by unfold swOk; rw [hx]; simp)
      have HX := Lib.hid hx
      clear hx hvb hv hp hb1 hpb1 hpe1 hg1 hR1 hP1 G
      go_wp2_with (go_at_call 78; refine (isTerm_lit x _ HX.out _).mono ?_; rintro e w' ⟨rfl, rfl⟩)
      refine bodyPost_ret (v := .tuple #[.agg #[.slice none 0 0, .slice none 0 0], .bool false]) (by simp [results, Tryd.results18, go_sem, (HNo.out.2 _ _ _).1, (HNo.out.2 _ _ _).2]) rfl ?_
      exact ProgRes.swNo HN.out (below_zero HNo.out.1 _)
    cases hy : isTm y
    · have HN := Lib.hid (show swOk bs es x y = false by unfold swOk; rw [hy]; simp)
      have HX := Lib.hid (And.intro hx hy)
      clear hx hy hvb hv hp hb1 hpb1 hpe1 hg1 hR1 hP1 G
      go_wp2_with (first
        | (go_at_call 78; (with_reducible show Calls _ _ #[Value.string x] _ _); refine (isTerm_lit x _ HX.out.1 _).mono ?_; rintro e w' ⟨rfl, rfl⟩)
        | (go_at_call 78; (with_reducible show Calls _ _ #[Value.string y] _ _); refine (isTerm_lit y _ HX.out.2 _).mono ?_; rintro e w' ⟨rfl, rfl⟩))
      refine bodyPost_ret (v := .tuple #[.agg #[.slice none 0 0, .slice none 0 0], .bool false]) (by simp [results, Tryd.results18, go_sem, (HNo.out.2 _ _ _).1, (HNo.out.2 _ _ _).2]) rfl ?_
      exact ProgRes.swNo HN.out (below_zero HNo.out.1 _)
    have HV := Lib.hid (And.intro hv (show swOk bs es x y = true by unfold swOk; rw [hvb, hx, hy]; rfl))
    have HX := Lib.hid (And.intro hx hy)
    have hx0 : 0 < x.size := by rw [isTm_size hx]; decide
    have hy0 : 0 < y.size := by rw [isTm_size hy]; decide
    have HB0 := Lib.hid (And.intro (byteAt_get hx0) (byteAt_get hy0))
    have hxi : (0 : Int) < (x.size : Int) := by omega
    have hyi : (0 : Int) < (y.size : Int) := by omega
    have hwa : Below w1.heap.size w1 (w1.alloc (.cells #[.map (some o), .map (some lo), .map (some li)] 84)) := (Below.refl _ _).alloc (Nat.le_refl _) _
    obtain ⟨F, hO0⟩ := hp.ops
    have hO := hO0.below hwa
    have hpb2 := (hpb1.below hb1).below hwa
    have hpe2 := (hpe1.below hb1).below hwa
    have y0 : (w1.alloc (.cells #[.map (some o), .map (some lo), .map (some li)] 84)).cell? ⟨w1.heap.size, 0, none⟩ = some (.map (some o)) := by go_simp
    have hzW : w1.heap.size < (w1.alloc (.cells #[.map (some o), .map (some lo), .map (some li)] 84)).heap.size := by simp
    have HA := Lib.hid (And.intro hO (And.intro hpb2 (And.intro (hall.alloc hz (.cells #[.map (some o), .map (some lo), .map (some li)] 84)) (And.intro (hR1.of_cells (hwa.block _ hzB)) (hP1.of_cells (hwa.block _ hzA))))))
    clear hx hy hvb hv hO0 hO hpb2 hwa hp hpb1 hpe1 hg1 hb1 hall hR1 hP1 r0 r1 t0 t1 G HNo
    go_wp2_with (first
      | (go_at_call 78; (with_reducible show Calls _ _ #[Value.string x] _ _); refine (isTerm_lit x _ HX.out.1 _).mono ?_; rintro e w' ⟨rfl, rfl⟩)
      | (go_at_call 78; (with_reducible show Calls _ _ #[Value.string y] _ _); refine (isTerm_lit y _ HX.out.2 _).mono ?_; rintro e w' ⟨rfl, rfl⟩))
    refine (cloneE_any _ es _ _ hpe2).mono ?_
    rintro e w2 ⟨ve, rfl, hve, hb2⟩
    obtain ⟨xa, xc, rfl⟩ := own_form hve
    generalize w1.alloc (.cells #[.map (some o), .map (some lo), .map (some li)] 84) = w4 at *
    obtain ⟨hO, hpb4, hall4, hR4, hP4⟩ := HA.out
    have hs2 := hb2.size
    have hP2 : Two w2 w.heap.size _ _ := hP4.of_cells (hb2.block _ (by omega))
    have hR2 : Two w2 (w.heap.size + 1) _ _ := hR4.of_cells (hb2.block _ (by omega))
    have kA : ∀ q, (w2.alloc q).cell? ⟨w.heap.size, 0, none⟩ = some (.slice ab bs.length cb) := fun q => (World.cell?_alloc_lt _ _ _ (show w.heap.size < w2.heap.size by omega)).trans hP2.cells.1
    have y2 := (hb2.cell (p := ⟨w1.heap.size, 0, none⟩) hzW).trans y0
    have hbY : Below w2.heap.size w2 (w2.alloc (.cells #[.slice none 0 0, .slice xa es.length xc] 30)) := (Below.refl _ _).alloc (Nat.le_refl _) _
    have hTL : TLoop w (w2.alloc (.cells #[.slice none 0 0, .slice xa es.length xc] 30)) (w.heap.size + 1) w2.heap.size w4.heap.size (.slice none 0 0) (.slice xa es.length xc) 0 es.length (swL bs (byteAt x 0) (byteAt y 0) 0) es :=
      ⟨heap_alloc_new _ _, hR2.of_cells (hbY.block _ (by omega)), World.ownsRow_nil _ _ _ _, ownsRow_below hve hbY, (hall4.trans (hb2.mono (by omega))).trans (hbY.mono (by omega))⟩
    have HB := Lib.hid (And.intro hO (And.intro hpb4 hTL))
    have HYb := Lib.hid (hb2.trans (hbY.mono hb2.size))
    have hQl : w4.heap.size ≤ w2.heap.size := hb2.size
    clear HA hO hpb4 hall4 hR4 hP4 hP2 hR2 hve hb2 hpe2 hTL hbY c0 c1 y2
    go_wp2
    go_loopw [39] (fun i wr => ∃ (k : Nat) (v : Value), k ≤ bs.length ∧ i = .int .i64 k ∧ TLoop w wr (w.heap.size + 1) w2.heap.size w4.heap.size v (.slice xa es.length xc) k es.length (swL bs (byteAt x 0) (byteAt y 0) k) es ∧ Below w4.heap.size w4 wr) (fun i _ => bs.length - (intOf i).toNat)
    case atStart => exact ⟨0, _, Nat.zero_le _, rfl, HB.out.2.2, HYb.out⟩
    case round =>
      obtain ⟨k, v, hk, rfl, hT, hbl⟩ := hrel
      have hs3 := hbl.size
      obtain ⟨wa, wc, rfl⟩ := own_form hT.ob
      by_cases hlt : k < bs.length
      · obtain ⟨b, off, rfl, hb, g1, g2⟩ := HB.out.2.1.cell k hlt
        have d1 := (hbl.cell (p := ⟨b, off + k * 2, none⟩) hb).trans g1
        have d2 := (hbl.cell (p := ⟨b, off + k * 2 + 1, none⟩) hb).trans g2
        have d3 := (hbl.cell (p := ⟨w1.heap.size, 0, none⟩) hzW).trans y0
        have hsx : (nameAt bs k).size ≤ 1048576 := (HB.out.2.1.size k hlt).1
        have hwB : Below wr.heap.size wr (wr.alloc (.cells #[.string (nameAt bs k), .string (restAt bs k)] 62)) := (Below.refl _ _).alloc (Nat.le_refl _) _
        have hOr := (HB.out.1.below hbl).below hwB
        obtain ⟨v, hFv, hrow⟩ := hOr.row _ (pair_mem hlt)
        have lk := (hOr.map.drew).look Tryd.underlying80 (zeroOps _) (mx hsx)
        rw [show F (nameAt bs k) = some v from hFv, Option.getD_some] at lk
        have hok : opsOk (restAt bs k) := HV.out.1.b.op _ (pair_mem hlt)
        have n0 : (wr.alloc (.cells #[.string (nameAt bs k), .string (restAt bs k)] 62)).cell? ⟨wr.heap.size, 0, none⟩ = some (.string (nameAt bs k)) := by go_simp
        have m0 := (hwB.cell (p := ⟨w1.heap.size, 0, none⟩) (show w1.heap.size < wr.heap.size by omega)).trans d3
        have hzb : (wr.alloc (.cells #[.string (nameAt bs k), .string (restAt bs k)] 62)).heap.size = wr.heap.size + 1 := by simp
        have HK := Lib.hid (And.intro hrow (And.intro hok (And.intro (hT.below hwB) (And.intro (hbl.trans (hwB.mono hs3)) hzb))))
        have HE := Lib.hid (swL_succ bs (byteAt x 0) (byteAt y 0) k)
        clear hrow hok hT hbl hFv hOr g1 g2 hwB hzb
        go_wp2
        generalize wr.alloc (.cells #[.string (nameAt bs k), .string (restAt bs k)] 62) = wB at *
        have hlB : wr.heap.size < wB.heap.size := by have := HK.out.2.2.2.2; omega
        refine wp_region_still_tail 9 (by kernel_rfl) (by kernel_rfl) ?_
        simp only [List.take_succ_cons, List.take_zero, List.drop_succ_cons, List.drop_zero]
        change wpStill _ _ wB.drew _ _ _
        repeat still_step
        refine wpStill_nil ?_
        change wpList _ _ _ _ _ wB.drew
        rw [HB0.out.1, HB0.out.2]
        go_wp2_with fail
        refine (swapIn_any _ v (restAt bs k) (byteAt x 0) (byteAt y 0) (isTm_low HX.out.1) (isTm_low HX.out.2) (by have := HK.out.2.1.1; omega) HK.out.2.1.2 (RowAt.keepB HK.out.1 (Below.refl _ _).drew)).mono ?_
        rintro e w5 ⟨⟨v5, rfl, ho5⟩, hb5⟩
        have hbB5 : Below wB.heap.size wB w5 := (Below.refl _ _).drew.trans hb5
        have hT5 := HK.out.2.2.1.below hbB5
        have hR5 : RowAt w5 v5 (opVals (swT (restAt bs k) (byteAt x 0) (byteAt y 0) (restAt bs k).size) (swT (restAt bs k) (byteAt x 0) (byteAt y 0) (restAt bs k).size).size) := by
          rw [swT_size]; exact RowAt.ofOwn (by rw [opVals_length]) ho5
        have hok5 := swT_okW (s := restAt bs k) (isTm_low HX.out.1) (isTm_low HX.out.2) HK.out.2.1.1 HK.out.2.1.2
        have n5 := (hbB5.cell (p := ⟨wr.heap.size, 0, none⟩) hlB).trans n0
        have hB4 := HK.out.2.2.2.1.trans (hbB5.mono HK.out.2.2.2.1.size)
        generalize swT (restAt bs k) (byteAt x 0) (byteAt y 0) (restAt bs k).size = A at *
        obtain ⟨q0, q1, _, _, hlt2⟩ := hT5.two.cells
        have hl5 : wr.heap.size < w5.heap.size := Nat.lt_of_lt_of_le hlB hbB5.size
        have hlo5 : w4.heap.size ≤ w5.heap.size := hB4.size
        have HK5 := Lib.hid (And.intro hT5 (And.intro hR5 (And.intro hok5 hB4)))
        clear ho5 hb5 hbB5 hT5 hR5 hok5 hB4 m0 n0 lk
        go_wp2
        go_region_law (first
          | (go_simp; go_at_call 81; refine (writeOps_any _ v5 A HK5.out.2.2.1 (RowAt.keepB HK5.out.2.1 (Below.refl _ _).drew)).mono ?_; rintro e wN ⟨rfl, hbN⟩; have eN : wN.cell? ⟨w2.heap.size, 0, none⟩ = some (.slice wa k wc) := (hbN.cell (p := ⟨w2.heap.size, 0, none⟩) hlt2).trans q0; have hRN : w2.heap.size < wN.heap.size := Nat.lt_of_lt_of_le hlt2 hbN.size; have eNA : ∀ o, (wN.alloc o).cell? ⟨w2.heap.size, 0, none⟩ = some (.slice wa k wc) := fun o => (World.cell?_alloc_lt _ _ _ hRN).trans eN; have nN : wN.cell? ⟨wr.heap.size, 0, none⟩ = some (.string (nameAt bs k)) := (hbN.cell (p := ⟨wr.heap.size, 0, none⟩) hl5).trans n5)
          | (refine step_append_lies _ rfl (.tmp 54) (.tmp 60) 27 rfl w4.heap.size 62 i0 (.agg #[.string ⟨#[]⟩, .string ⟨#[]⟩]) 2 32 Tryd.underlying27 hi hz0 hz1 hz2 rfl (by decide) _ k (cellsOf (swL bs (byteAt x 0) (byteAt y 0) k)) rfl ((ownsRow_below HK5.out.1.ob ((Below.refl _ _).drew.trans hbN)).alloc _) ⟨wN.heap.size, 0, none⟩ 1 1 [.string (nameAt bs k), .string A] rfl rfl (cell_two_new _ _ _ _) (two_one _ _ rfl rfl) (by decide) (by unfold maxLen; omega) (by omega) (by have h9 := hbN.size; simp at h9 ⊢; omega) _ rfl ?_
             intro g' cap' w7 hown7 hgrow7 hlies7 _
             have hT7 : Two w7 w2.heap.size _ _ := HK5.out.1.two.of_cells ((hgrow7.block _ (by have h9 := hbN.size; simp at h9 ⊢; omega) (fun e => own_neK HK5.out.1.ob HK5.out.1.two (by decide) e.symm)).trans ((Lib.alloc_old wN _ _ (Nat.lt_of_lt_of_le hlt2 hbN.size)).trans (hbN.block _ hlt2)))
             have e7 := hT7.cells.1
             have f7 := hT7.cells.2.2.1))
        all_goals
          have hbN' : Below w5.heap.size w5 wN := (Below.refl _ _).drew.trans hbN
          have hTN := HK5.out.1.step (L' := swL bs (byteAt x 0) (byteAt y 0) (k + 1)) (v' := .slice (some ⟨g', 0, none⟩) (k + 1) cap') (hbN'.alloc hbN'.size _) hgrow7 (by rw [HE.out]; exact hown7) (by omega) (by omega) (by omega)
          have hb7 : Below w4.heap.size w4 w7 := ((HK5.out.2.2.2.trans (hbN'.mono hlo5)).alloc (by have := hbN'.size; omega) _).grown hgrow7 (by have h9 := hbN'.size; simp; omega) (fun j hj => (HK5.out.1.ob.lt j hj).1)
          have HX7 := Lib.hid (And.intro hTN (hb7.setCell (p := ⟨w2.heap.size, 0, none⟩) hQl (.slice (some ⟨g', 0, none⟩) (k + 1) cap')))
          clear hTN hb7 hbN' hown7 hgrow7 hT7 e7 f7 hbN eN eNA hRN nN hlies7
          go_wp2
          go_roundw
          case rel => exact ⟨k + 1, _, by omega, by go_num, HX7.out.1, HX7.out.2⟩
          case measure => simp [intOf]; omega
      · obtain rfl : k = bs.length := by omega
        obtain ⟨r0, r1, t0, t1, _⟩ := hT.res.cells
        obtain ⟨q0, q1, _, _, _⟩ := hT.two.cells
        have HXX := Lib.hid hT
        clear hT hbl
        go_wp2
        refine bodyPost_ret (v := .tuple #[.agg #[.slice wa bs.length wc, .slice xa es.length xc], .bool true]) (by simp [results, Tryd.results18, go_sem, r0, r1]) rfl ?_
        refine ProgRes.swYes HV.out.2 (below_resS HXX.out.bw _ _) ?_ ?_
        · exact own_base (own_farT (own_farT HXX.out.ob (own_neK HXX.out.ob HXX.out.res (by decide)) _) (own_neK HXX.out.ob HXX.out.res (by decide)) _) (by omega)
        · exact own_base (own_farT (own_farT HXX.out.oe (own_neK HXX.out.oe HXX.out.res (by decide)) _) (own_neK HXX.out.oe HXX.out.res (by decide)) _) (by omega)
  · have HN := Lib.hid (show swOk bs es x y = false by unfold swOk; rw [show validB bs es = false by simpa [validB] using hv]; rfl)
    have HX := Lib.hid hall
    have G := fun a b q => hR1.reads a b q
    have HG := Lib.hid G; clear G
    clear hv hall hR1 hP1 hb1
    go_wp2
    refine bodyPost_ret (v := .tuple #[.agg #[.slice none 0 0, .slice none 0 0], .bool false]) (by simp [results, Tryd.results18, go_sem, (HG.out _ _ _).1, (HG.out _ _ _).2]) rfl ?_
    exact ProgRes.swNo HN.out (below_zero HX.out _)
end Go.Proofs.YtdepangkeeehpaaDoor
