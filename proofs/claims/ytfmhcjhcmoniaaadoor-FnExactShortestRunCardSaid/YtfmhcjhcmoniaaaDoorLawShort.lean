/-
  FnExactShortestRun's whole walk: true for every program. Conditions: the errors' variables hold errors.
-/
import Derived.Test.YtfmhcjhcmoniaaaDoorValid
import Derived.Test.YtfmhcjhcmoniaaaDoorShortL
namespace Go.Proofs.YtfmhcjhcmoniaaaDoor
open Go.RowKit Go.Maps

set_option maxRecDepth 100000 in
set_option maxHeartbeats 3200000 in
theorem LawShortestRun_any (w : World) (bs es : List Pr) (ab ae : Option Addr) (cb ce : Nat) (hpb : PairsRaw w ab bs) (hpe : PairsRaw w ae es) (hg : Errs w) :
    Calls Tryd.prog 3 #[.agg #[.slice ab bs.length cb, .slice ae es.length ce]] w fun e w' => e = .returned (.bool true) ∧ Below w.heap.size w w' := by
  have h1 : Below w.heap.size w (w.alloc (.cells #[.slice ab bs.length cb, .slice ae es.length ce] 25)) := (Below.refl _ _).alloc (Nat.le_refl _) _
  have hpb1 := hpb.below h1
  have hpe1 := hpe.below h1
  have HG := Lib.hid hg; clear hg
  have H1 := Lib.hid h1; clear h1
  go_enter Tryd.func3, Tryd.ntmps3
  obtain ⟨r, ok, hval⟩ : ∃ (r : ByteArray) (ok : Bool), shortV bs es = .tuple #[.string r, .bool ok] := shortV_form bs es
  have HV := Lib.hid hval
  clear hval
  go_wp2_with fail
  refine (szProg_any _ bs es _ _ _ _ 1048576 (by decide) (by decide) hpb1 hpe1).mono ?_
  rintro e w1 ⟨r, rfl, hm1, hr, hb1, hne⟩
  have hx1 : Bx w w1 (.slice ab bs.length cb) (.slice ae es.length ce) := Bx.of hb1
  by_cases hneg : r < 0
  · clear hne
    go_wp2
    go_ret
    exact ⟨rfl, hx1.below⟩
  · have hsm := hne (by omega)
    have pb := (hpb.below hx1.below).small hsm.1
    have pe := (hpe.below hx1.below).small hsm.2
    have HS := Lib.hid hsm
    clear hne hb1 hsm hpb1 hpe1
    have x0 := hx1.c0
    have x1 := hx1.c1
    have hsz := hx1.size
    go_wp2_with fail
    refine (toProg_any _ bs es _ _ _ _ pb pe).mono ?_
    rintro e w2 ⟨gb, ge, rfl, hgb, hge, PBb, PBe, hb2⟩
    have hx2 := hx1.next (hb2.mono hsz)
    have ppb := PBb.pairs pb.len pb.size
    have ppe := PBe.pairs pe.len pe.size
    clear hgb hge
    go_wp2_with fail
    refine (ShortestRun_spec _ bs es _ _ _ _ ppb ppe).mono ?_
    rintro e w3 ⟨he, hb3⟩
    rw [HV.out] at he
    subst he
    have hx3 := hx2.next (hb3.mono hx2.size)
    have y0 := hx3.c0
    have y1 := hx3.c1
    have pb3 := pb.below (hb2.trans (hb3.mono hb2.size))
    have pe3 := pe.below (hb2.trans (hb3.mono hb2.size))
    clear PBb PBe ppb ppe hb2 x0 x1
    go_wp2_with fail
    refine (toProg_any _ bs es _ _ _ _ pb3 pe3).mono ?_
    rintro e w4 ⟨gb, ge, rfl, hgb, hge, PBb, PBe, hb4⟩
    have hx4 := hx3.next (hb4.mono hx3.size)
    have pb4 := pb3.below hb4
    have pe4 := pe3.below hb4
    have hbA : Below w4.heap.size w4 (w4.alloc (.cells #[.slice (some ⟨gb, 0, none⟩) bs.length bs.length, .slice (some ⟨ge, 0, none⟩) es.length es.length] 32)) := (Below.refl _ _).alloc (Nat.le_refl _) _
    have ppb := (PBb.pairs pb.len pb.size).below hbA
    have ppe := (PBe.pairs pe.len pe.size).below hbA
    have hx5 := hx4.next (hbA.mono hx4.size)
    have hg5 := HG.out.keep hx5.below
    clear hgb hge PBb PBe hb4 y0 y1
    go_wp2_with fail
    refine (ShortestRun_impl2 _ bs es _ _ _ _ ppb ppe hg5).mono ?_
    rintro e w6 ⟨he, hb6⟩
    rw [HV.out] at he
    subst he
    have hx6 := hx5.next (hb6.mono hx5.size)
    have z0 := hx6.c0
    have z1 := hx6.c1
    have v0 := (hb6.cell (p := ⟨w4.heap.size, 0, none⟩) (by simp)).trans (show _ = some (.slice (some ⟨gb, 0, none⟩) bs.length bs.length) by go_simp)
    have v1 := (hb6.cell (p := ⟨w4.heap.size, 1, none⟩) (by simp)).trans (show _ = some (.slice (some ⟨ge, 0, none⟩) es.length es.length) by go_simp)
    have qb := ppb.below hb6
    have qe := ppe.below hb6
    have pb6 := (pb4.below hbA).below hb6
    have pe6 := (pe4.below hbA).below hb6
    have hs6 : w4.heap.size < w6.heap.size := by have := hb6.size; simp at this; omega
    have hsw := hx6.size
    clear ppb ppe hg5 hbA hb6
    cases ok
    all_goals
      go_wp2
      go_region_held3 (fun w' => w'.cell? ⟨w.heap.size, 0, none⟩ = some (.slice ab bs.length cb) ∧ w'.cell? ⟨w.heap.size, 1, none⟩ = some (.slice ae es.length ce) ∧ w'.cell? ⟨w4.heap.size, 0, none⟩ = some (.slice (some ⟨gb, 0, none⟩) bs.length bs.length) ∧ w'.cell? ⟨w4.heap.size, 1, none⟩ = some (.slice (some ⟨ge, 0, none⟩) es.length es.length) ∧ Below w6.heap.size w6 w')
        (first
          | exact ⟨z0, z1, v0, v1, (Below.refl _ _).drew⟩
          | (have hq := below_new (‹_ ∧ _ ∧ _ ∧ _ ∧ Below w6.heap.size w6 _›).2.2.2.2 hbM; exact ⟨(hq.cell (p := ⟨w.heap.size, 0, none⟩) hsw).trans z0, (hq.cell (p := ⟨w.heap.size, 1, none⟩) hsw).trans z1, (hq.cell (p := ⟨w4.heap.size, 0, none⟩) hs6).trans v0, (hq.cell (p := ⟨w4.heap.size, 1, none⟩) hs6).trans v1, hq⟩)
          | (have hq := below_new (‹_ ∧ _ ∧ _ ∧ _ ∧ Below w6.heap.size w6 _›).2.2.2.2 hbN; exact ⟨(hq.cell (p := ⟨w.heap.size, 0, none⟩) hsw).trans z0, (hq.cell (p := ⟨w.heap.size, 1, none⟩) hsw).trans z1, (hq.cell (p := ⟨w4.heap.size, 0, none⟩) hs6).trans v0, (hq.cell (p := ⟨w4.heap.size, 1, none⟩) hs6).trans v1, hq⟩))
        (first
          | (go_at_call 8; refine (toProg_any _ bs es _ _ _ _ ?_ ?_).mono ?_; (exact pb6.drew); (exact pe6.drew); rintro e wN ⟨gb2, ge2, rfl, hgb, hge, PBb, PBe, hbN⟩)
          | (go_at_call 10; refine (eqProg_same _ bs es _ _ _ _ _ _ _ _ ?_ ?_ ?_ ?_).mono ?_; (exact qb.below (‹_ ∧ _ ∧ _ ∧ _ ∧ Below w6.heap.size w6 _›).2.2.2.2); (exact qe.below (‹_ ∧ _ ∧ _ ∧ _ ∧ Below w6.heap.size w6 _›).2.2.2.2); (exact PBb.pairs pb.len pb.size); (exact PBe.pairs pe.len pe.size); rintro e wM ⟨rfl, hbM⟩))
      have hfin : Below w.heap.size w wM := (hx6.next ((‹_ ∧ _ ∧ _ ∧ _ ∧ Below w6.heap.size w6 wM›).2.2.2.2.mono hsw)).below
      go_wp2
      go_ret
      exact ⟨rfl, hfin⟩
end Go.Proofs.YtfmhcjhcmoniaaaDoor
