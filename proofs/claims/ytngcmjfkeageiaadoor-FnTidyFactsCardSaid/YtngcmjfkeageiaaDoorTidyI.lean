/-
  Tidy of the program. Conditions: at most 1048576 blocks and edges, each text at most as many bytes; the errors' variables hold errors.
-/
import Derived.Test.YtngcmjfkeageiaaDoorTidyP
import Derived.Test.YtngcmjfkeageiaaDoorTwo
import Derived.Test.YtngcmjfkeageiaaDoorBlkJ
namespace Go.Proofs.YtngcmjfkeageiaaDoor
open Go.RowKit Go.Maps

set_option maxRecDepth 100000 in
set_option maxHeartbeats 6400000 in
theorem Tidy_impl (w : World) (bs es : List Pr) (ab ae : Option Addr) (cb ce : Nat) (hpb : PairsAt w ab bs) (hpe : PairsAt w ae es) (hg : Errs w) :
    Calls Tryd.prog 41 #[.agg #[.slice ab bs.length cb, .slice ae es.length ce]] w (TidyPost w bs es) := by
  have h1 : Below w.heap.size w ((w.alloc (.cells #[.slice ab bs.length cb, .slice ae es.length ce] 32)).alloc (.cells #[.slice none 0 0, .slice none 0 0] 32)) := ((Below.refl _ _).alloc (Nat.le_refl _) _).alloc (by simp) _
  have hpb1 := hpb.below h1
  have hpe1 := hpe.below h1
  have hg1 := hg.keep h1
  have hRA : Two ((w.alloc (.cells #[.slice ab bs.length cb, .slice ae es.length ce] 32)).alloc (.cells #[.slice none 0 0, .slice none 0 0] 32)) (w.heap.size + 1) (.slice none 0 0) (.slice none 0 0) := by
    rw [show w.heap.size + 1 = (w.alloc (.cells #[.slice ab bs.length cb, .slice ae es.length ce] 32)).heap.size by simp]; exact heap_alloc_new _ _
  have hPA : Two ((w.alloc (.cells #[.slice ab bs.length cb, .slice ae es.length ce] 32)).alloc (.cells #[.slice none 0 0, .slice none 0 0] 32)) w.heap.size (.slice ab bs.length cb) (.slice ae es.length ce) := (Below.heap_alloc _ _ _ (by simp)).trans (heap_alloc_new _ _)
  have hl9 := hpb.len
  obtain ⟨i0, hi, hz0, hz1, hz2⟩ := info_parts Tryd.infoBlock
  have H1 := Lib.hid (And.intro h1 (And.intro hRA hPA)); clear h1 hRA hPA
  go_enter Tryd.func41, Tryd.ntmps41
  go_wp2_with fail
  refine (planOf_any _ bs es _ _ _ _ hpb1 hpe1 hg1).mono ?_
  rintro e w1 ⟨hb1, hcase⟩
  have hall : Below w.heap.size w w1 := H1.out.1.trans (hb1.mono (by simp; omega))
  have hz := hall.size
  have hR1 : Two w1 (w.heap.size + 1) _ _ := H1.out.2.1.of_cells (hb1.block _ (by simp))
  have hP1 : Two w1 w.heap.size _ _ := H1.out.2.2.of_cells (hb1.block _ (by simp; omega))
  obtain ⟨c0, c1, _, _, hzA⟩ := hP1.cells
  obtain ⟨r0, r1, t0, t1, hzB⟩ := hR1.cells
  rcases hcase with ⟨hv, o, lo, li, rfl, hp⟩ | ⟨hv, ty, z, rfl⟩
  · have HV := Lib.hid (And.intro hv (show validB bs es = true by simpa [validB] using hv))
    have hwa : Below w1.heap.size w1 (w1.alloc (.cells #[.map (some o), .map (some lo), .map (some li)] 83)) := (Below.refl _ _).alloc (Nat.le_refl _) _
    obtain ⟨F, hO0⟩ := hp.ops
    have hO := hO0.below hwa
    have hpb2 := (hpb1.below hb1).below hwa
    have hpe2 := (hpe1.below hb1).below hwa
    have y0 : (w1.alloc (.cells #[.map (some o), .map (some lo), .map (some li)] 83)).cell? ⟨w1.heap.size, 0, none⟩ = some (.map (some o)) := by go_simp
    have hzW : w1.heap.size < (w1.alloc (.cells #[.map (some o), .map (some lo), .map (some li)] 83)).heap.size := by simp
    have HA := Lib.hid (And.intro hO (And.intro hpb2 (And.intro (hall.alloc hz (.cells #[.map (some o), .map (some lo), .map (some li)] 83)) (And.intro (hR1.of_cells (hwa.block _ hzB)) (hP1.of_cells (hwa.block _ hzA))))))
    clear hv hO0 hO hpb2 hwa hp hpb1 hpe1 hg1 hb1 hall hR1 hP1 r0 r1 t0 t1
    go_wp2_with fail
    refine (cloneE_any _ es _ _ hpe2).mono ?_
    rintro e w2 ⟨ve, rfl, hve, hb2⟩
    obtain ⟨xa, xc, rfl⟩ := own_form hve
    generalize w1.alloc (.cells #[.map (some o), .map (some lo), .map (some li)] 83) = w4 at *
    obtain ⟨hO, hpb4, hall4, hR4, hP4⟩ := HA.out
    have hs2 := hb2.size
    have hP2 : Two w2 w.heap.size _ _ := hP4.of_cells (hb2.block _ (by omega))
    have hR2 : Two w2 (w.heap.size + 1) _ _ := hR4.of_cells (hb2.block _ (by omega))
    have kA : ∀ q, (w2.alloc q).cell? ⟨w.heap.size, 0, none⟩ = some (.slice ab bs.length cb) := fun q => (World.cell?_alloc_lt _ _ _ (show w.heap.size < w2.heap.size by omega)).trans hP2.cells.1
    have y2 := (hb2.cell (p := ⟨w1.heap.size, 0, none⟩) hzW).trans y0
    have HB := Lib.hid (And.intro (hO.below hb2) (And.intro (hpb4.below hb2) (And.intro (hall4.trans (hb2.mono (by omega))) (And.intro hR2 (ownsRow_below hve (Below.refl _ _))))))
    have hY : Two (w2.alloc (.cells #[.slice none 0 0, .slice xa es.length xc] 32)) w2.heap.size (.slice none 0 0) (.slice xa es.length xc) := heap_alloc_new _ _
    have HY := Lib.hid (And.intro hY (show Below w2.heap.size w2 (w2.alloc (.cells #[.slice none 0 0, .slice xa es.length xc] 32)) from (Below.refl _ _).alloc (Nat.le_refl _) _))
    clear HA hO hpb4 hall4 hR4 hP4 hP2 hR2 hve hb2 hpe2 hY c0 c1 y0
    go_wp2
    go_loopw [24] (fun i wr => ∃ (k : Nat) (v : Value), k ≤ bs.length ∧ i = .int .i64 k ∧ Two wr w2.heap.size v (.slice xa es.length xc) ∧ wr.ownsRow (w2.heap.size + 1) 40 2 v k (cellsOf (tidL bs k)) ∧ Below w2.heap.size w2 wr) (fun i _ => bs.length - (intOf i).toNat)
    case atStart => exact ⟨0, _, Nat.zero_le _, rfl, HY.out.1, World.ownsRow_nil _ _ _ _, HY.out.2⟩
    case round =>
      obtain ⟨k, v, hk, rfl, hTw, hown, hbl⟩ := hrel
      have hs3 := hbl.size
      obtain ⟨wa, wc, rfl⟩ := own_form hown
      obtain ⟨q0, q1, f0, f1, hRl⟩ := hTw.cells
      by_cases hlt : k < bs.length
      · obtain ⟨b, off, rfl, hb, g1, g2⟩ := HB.out.2.1.cell k hlt
        have d1 := (hbl.cell (p := ⟨b, off + k * 2, none⟩) hb).trans g1
        have d2 := (hbl.cell (p := ⟨b, off + k * 2 + 1, none⟩) hb).trans g2
        have hzP : w1.heap.size < w2.heap.size := by omega
        have d3 := (hbl.cell (p := ⟨w1.heap.size, 0, none⟩) hzP).trans y2
        have hsx : (nameAt bs k).size ≤ 1048576 := (HB.out.2.1.size k hlt).1
        have hwB : Below wr.heap.size wr (wr.alloc (.cells #[.string (nameAt bs k), .string (restAt bs k)] 40)) := (Below.refl _ _).alloc (Nat.le_refl _) _
        have hOr := (HB.out.1.below hbl).below hwB
        obtain ⟨v, hFv, hrow⟩ := hOr.row _ (pair_mem hlt)
        have lk := (hOr.map.drew).look Tryd.underlying79 (zeroOps _) (mx hsx)
        rw [show F (nameAt bs k) = some v from hFv, Option.getD_some] at lk
        have hok : opsOk (restAt bs k) := HV.out.1.b.op _ (pair_mem hlt)
        have hTB : Two (wr.alloc (.cells #[.string (nameAt bs k), .string (restAt bs k)] 40)) w2.heap.size (.slice wa k wc) (.slice xa es.length xc) := hTw.of_cells (hwB.block _ hRl)
        have hown2 := ownsRow_below hown hwB
        have hlB := hbl.trans (hwB.mono hs3)
        have n0 : (wr.alloc (.cells #[.string (nameAt bs k), .string (restAt bs k)] 40)).cell? ⟨wr.heap.size, 0, none⟩ = some (.string (nameAt bs k)) := by go_simp
        have m0 := (hwB.cell (p := ⟨w1.heap.size, 0, none⟩) (show w1.heap.size < wr.heap.size by omega)).trans d3
        have hzb : (wr.alloc (.cells #[.string (nameAt bs k), .string (restAt bs k)] 40)).heap.size = wr.heap.size + 1 := by simp
        have HK := Lib.hid (And.intro hrow (And.intro hok (And.intro hown2 (And.intro hlB (And.intro hTB hzb)))))
        have HE := Lib.hid (tidL_succ bs k)
        clear hrow hok hown hown2 hbl hFv hOr g1 g2 hTw hwB hTB hlB hzb q0 q1 f0 f1
        go_wp2
        generalize wr.alloc (.cells #[.string (nameAt bs k), .string (restAt bs k)] 40) = wB at *
        have e0' := HK.out.2.2.2.2.1.cells.1
        have hb1 : some w2.heap.size ≠ (Value.slice wa k wc).ownBlock := fun e => own_neK HK.out.2.2.1 HK.out.2.2.2.2.1 (by decide) e.symm
        have hszB : wB.heap.size = wr.heap.size + 1 := HK.out.2.2.2.2.2
        have hlt2 : w2.heap.size < wB.heap.size := by omega
        have HSB := Lib.hid hszB; clear hszB
        go_region_law (first
          | (go_simp; go_at_call 99; refine (tidyLetters_any _ _ (restAt bs k) (by have := HK.out.2.1.1; omega) HK.out.2.1.2 (RowAt.keepB HK.out.1 (Below.refl _ _).drew)).mono ?_; rintro e wN ⟨rfl, hbN⟩; have eN : wN.cell? ⟨w2.heap.size, 0, none⟩ = some (.slice wa k wc) := ((HK.out.2.2.2.2.1.of_cells (hbN.block _ hlt2))).cells.1; have hRN : w2.heap.size < wN.heap.size := Nat.lt_of_lt_of_le hlt2 hbN.size; have eNA : ∀ o, (wN.alloc o).cell? ⟨w2.heap.size, 0, none⟩ = some (.slice wa k wc) := fun o => (World.cell?_alloc_lt _ _ _ hRN).trans eN; have nN : wN.cell? ⟨wr.heap.size, 0, none⟩ = some (.string (nameAt bs k)) := (hbN.cell (p := ⟨wr.heap.size, 0, none⟩) (show wr.heap.size < wB.heap.size by rw [HSB.out]; omega)).trans n0)
          | (refine step_append_lies _ rfl (.tmp 29) (.tmp 39) 29 rfl (w2.heap.size + 1) 40 i0 (.agg #[.string ⟨#[]⟩, .string ⟨#[]⟩]) 2 32 Tryd.underlying29 hi hz0 hz1 hz2 rfl (by decide) _ k (cellsOf (tidL bs k)) rfl ((ownsRow_below HK.out.2.2.1 ((Below.refl _ _).drew.trans hbN)).alloc _) ⟨wN.heap.size, 0, none⟩ 1 1 [.string (nameAt bs k), .string (tidyA (restAt bs k) (restAt bs k).size)] rfl rfl (cell_two_new _ _ _ _) (two_one _ _ rfl rfl) (by decide) (by unfold maxLen; omega) (by omega) (by have h9 := hbN.size; simp at h9 ⊢; omega) _ rfl ?_
             intro g' cap' w5 hown5 hgrow5 hlies5 _
             have hT5 : Two w5 w2.heap.size (.slice wa k wc) (.slice xa es.length xc) := HK.out.2.2.2.2.1.of_cells ((hgrow5.block _ (by have h9 := hbN.size; simp at h9 ⊢; omega) hb1).trans ((Lib.alloc_old wN _ _ (Nat.lt_of_lt_of_le hlt2 hbN.size)).trans (hbN.block _ hlt2)))
             have e5 := hT5.cells.1
             have f5 := hT5.cells.2.2.1))
        all_goals
          have hbBN : Below wB.heap.size wB wN := (Below.refl _ _).drew.trans hbN
          have hb5 : Below w2.heap.size w2 w5 := ((HK.out.2.2.2.1.trans (hbBN.mono (by omega))).alloc (by have := hbBN.size; omega) _).grown hgrow5 (by have h9 := hbBN.size; simp; omega) (fun j hj => Nat.le_of_succ_le (HK.out.2.2.1.lt j hj).1)
          have hos := hown5.kept (w' := w5.setCell ⟨w2.heap.size, 0, none⟩ (.slice (some ⟨g', 0, none⟩) (k + 1) cap')) (row := some w2.heap.size) ⟨rfl, rfl, rfl, by simp [World.setCell], fun j _ hj => Below.heap_setCell _ _ _ _ (fun e => hj (by simp [e]))⟩ (Or.inr (own_neK hown5 hT5 (by decide)))
          have HX := Lib.hid (And.intro (hT5.set0 (.slice (some ⟨g', 0, none⟩) (k + 1) cap')) (And.intro hos (hb5.setCell (p := ⟨w2.heap.size, 0, none⟩) (Nat.le_refl _) (.slice (some ⟨g', 0, none⟩) (k + 1) cap'))))
          clear hos hb5 hown5 hgrow5 hT5 e5 f5 hbN hbBN eN eNA hRN nN hlies5
          go_wp2
          go_roundw
          case rel => exact ⟨k + 1, _, by omega, by go_num, HX.out.1, by rw [HE.out]; exact HX.out.2.1, HX.out.2.2⟩
          case measure => simp [intOf]; omega
      · obtain rfl : k = bs.length := by omega
        have hR3 : Two wr (w.heap.size + 1) _ _ := HB.out.2.2.2.1.of_cells (hbl.block _ (by omega))
        obtain ⟨r0, r1, t0, t1, _⟩ := hR3.cells
        have hzR : w.heap.size + 1 < w2.heap.size := by omega
        have HX := Lib.hid (And.intro (HB.out.2.2.1.trans (hbl.mono HB.out.2.2.1.size)) (And.intro hown (ownsRow_below HB.out.2.2.2.2 hbl)))
        clear hR3 hown hbl hTw
        go_wp2
        refine bodyPost_ret (v := .tuple #[.agg #[.slice wa bs.length wc, .slice xa es.length xc], .bool true]) (by simp [results, Tryd.results41, go_sem, r0, r1]) rfl ?_
        refine ⟨by repeat (first | exact HX.out.1 | refine Below.setCell ?_ (by simp <;> omega) _ | refine Below.alloc ?_ (by first | omega | (simp; omega)) _), .inl ⟨HV.out.2, _, _, rfl, ?_, ?_⟩⟩
        · exact own_base (own_setCell (own_setCell HX.out.2.1 (by simp; omega)) (by simp; omega)) (by omega)
        · exact own_base (own_setCell (own_setCell HX.out.2.2 (by simp; omega)) (by simp; omega)) (by omega)
  · have HV := Lib.hid (show validB bs es = false by simpa [validB] using hv)
    have HX := Lib.hid hall
    have G := fun a b q => hR1.reads a b q
    have HG := Lib.hid G; clear G
    clear hv hall hR1 hP1 hb1
    go_wp2
    refine bodyPost_ret (v := .tuple #[.agg #[.slice none 0 0, .slice none 0 0], .bool false]) (by simp [results, Tryd.results41, go_sem, (HG.out _ _ _).1, (HG.out _ _ _).2]) rfl ?_
    exact ⟨by repeat (first | exact HX.out | refine Below.setCell ?_ (by simp <;> omega) _ | refine Below.alloc ?_ (by first | omega | (simp; omega)) _), .inr ⟨HV.out, rfl⟩⟩
end Go.Proofs.YtngcmjfkeageiaaDoor
