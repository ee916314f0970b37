/-
  The walk of the law FnExactRunsUpTo. Conditions: what came in has lengths that Go bears; the errors' variables hold errors.
-/
import Derived.Test.YtflnkahgmbndiaaDoorValid
import Derived.Test.YtflnkahgmbndiaaDoorMarkT
import Derived.Test.YtflnkahgmbndiaaDoorPgLib
import Derived.Test.YtflnkahgmbndiaaDoorRunL
namespace Go.Proofs.YtflnkahgmbndiaaDoor
open Go.RowKit Go.Maps

/-- a row of texts in blocks from lo on, below hi -/
structure Rt (W : World) (lo hi : Nat) (a : Option Addr) (n c : Nat) (L : List ByteArray) : Prop where
  row : RowT W lo a n c L
  hi : ∀ g, (Value.slice a n c).ownBlock = some g → g < hi
section
variable {W W' : World} {lo hi n c : Nat} {a : Option Addr} {L : List ByteArray}
theorem Rt.below (h : Rt W lo hi a n c L) (hb : Below W.heap.size W W') : Rt W' lo hi a n c L := ⟨h.row.below hb, h.hi⟩
theorem Rt.turns {S : Nat → Prop} (h : Rt W lo hi a n c L) (ht : Turns S W W') (hS : ∀ k, lo ≤ k → k < hi → ¬ S k) : Rt W' lo hi a n c L := ⟨⟨h.row.1, ht.row h.row.2 fun g hg => hS g (h.row.lt g hg).1 (h.hi g hg)⟩, h.hi⟩
end
theorem RunsPostL.rt {w w' : World} {L : List ByteArray} {b : Bool} {e : Ending} (h : RunsPostL w L b e w') : ∃ a c, e = .returned (.tuple #[.slice a L.length c, .bool b]) ∧ Rt w' w.heap.size w'.heap.size a L.length c L ∧ Below w.heap.size w w' := by
  obtain ⟨a, c, rfl, ho, hb⟩ := h
  exact ⟨a, c, rfl, ⟨⟨rfl, ho⟩, fun g hg => (ho.lt g hg).2⟩, hb⟩
theorem runsR_few {bs es : List Pr} {k : Int} {L : List ByteArray} {b : Bool} (h : runsR bs es k = (L, b)) : L.length ≤ 300 := by
  unfold runsR at h
  split at h
  · rename_i c
    cases h
    exact c.2.2
  · cases h
    exact Nat.zero_le _

set_option maxRecDepth 100000 in
set_option maxHeartbeats 6400000 in
theorem LawRunsUpTo_any (w : World) (bs es : List Pr) (ab ae : Option Addr) (cb ce : Nat) (k : Int) (hpb : PairsRaw w ab bs) (hpe : PairsRaw w ae es) (hg : Errs w) :
    Calls Tryd.prog 3 #[.agg #[.slice ab bs.length cb, .slice ae es.length ce], .int .i64 k] w fun e w' => e = .returned (.bool true) ∧ Below w.heap.size w w' := by
  have h1 : Below w.heap.size w (w.alloc (.cells #[.slice ab bs.length cb, .slice ae es.length ce] 25)) := (Below.refl _ _).alloc (Nat.le_refl _) _
  have hpb1 := hpb.below h1
  have hpe1 := hpe.below h1
  have HG := Lib.hid hg; clear hg
  have H1 := Lib.hid h1; clear h1
  go_enter Tryd.func3, Tryd.ntmps3
  go_wp2_with fail
  refine (szProg_any _ bs es _ _ _ _ 1048576 (by decide) (by decide) hpb1 hpe1).mono ?_
  rintro e w1 ⟨r, rfl, hm1, hr, hb1, hne⟩
  have hx1 : Bx w w1 (.slice ab bs.length cb) (.slice ae es.length ce) := Bx.of hb1
  by_cases hneg : r < 0
  · clear hne
    go_wp2
    go_ret
    exact ⟨rfl, hx1.below⟩
  · have hsm := hne (by omega)
    have HS := Lib.hid hsm
    have pb := (hpb.below hx1.below).small hsm.1
    have pe := (hpe.below hx1.below).small hsm.2
    have hlb := pb.len
    have hle := pe.len
    have HSm := Lib.hid (And.intro pb.size pe.size)
    clear hne hb1 hsm hpb1 hpe1
    obtain ⟨L, ok, hR⟩ : ∃ L ok, runsR bs es k = (L, ok) := ⟨_, _, rfl⟩
    have hLl := runsR_few hR
    have HR := Lib.hid hR
    clear hR
    have x0 := hx1.c0
    have x1 := hx1.c1
    have hsz := hx1.size
    go_wp2_with fail
    refine (toProg_any _ bs es _ _ _ _ pb pe).mono ?_
    rintro e w2 ⟨gb, ge, rfl, hgb, hge, PBb, PBe, hb2⟩
    have hx2 := hx1.next (hb2.mono hsz)
    have ppb := PBb.pairs pb.len pb.size
    have ppe := PBe.pairs pe.len pe.size
    clear hgb hge PBb PBe hb2 x0 x1 pb pe
    go_wp2_with fail
    refine (RunsUpTo_specL L ok bs es _ _ _ _ _ k HR.out ppb ppe).mono ?_
    intro e w3 hpost
    obtain ⟨aW, cW, rfl, hRW, hb3⟩ := hpost.rt
    clear hpost
    have hx3 := hx2.next (hb3.mono hx2.size)
    have hs2 := hx2.size
    have hs23 := hb3.size
    obtain ⟨y0, y1⟩ := And.intro hx3.c0 hx3.c1
    have pb3 := (hpb.below hx3.below).small HS.out.1
    have pe3 := (hpe.below hx3.below).small HS.out.2
    have HA := Lib.hid (And.intro hRW hx3)
    clear hb3 hRW hx3 hx2 hx1 ppb ppe
    go_wp2_with fail
    refine (toProg_any _ bs es _ _ _ _ pb3 pe3).mono ?_
    rintro e w4 ⟨gb, ge, rfl, hgb, hge, PBb, PBe, hb4⟩
    have hKW := HA.out.1.below hb4
    have hx4 := HA.out.2.next (hb4.mono HA.out.2.size)
    have hs4 := hb4.size
    have hlt1 := PBb.lt
    have hlt2 := PBe.lt
    have hRX : Rws w4 w3.heap.size w4.heap.size (some ⟨gb, 0, none⟩) bs.length bs.length bs (some ⟨ge, 0, none⟩) es.length es.length es := PB.rws PBb PBe hgb hge hlt1 hlt2 hlb hle
    have hA4 : Below w4.heap.size w4 (w4.alloc (.cells #[.slice (some ⟨gb, 0, none⟩) bs.length bs.length, .slice (some ⟨ge, 0, none⟩) es.length es.length] 33)) := (Below.refl _ _).alloc (Nat.le_refl _) _
    have hKX : Kp (w4.alloc (.cells #[.slice (some ⟨gb, 0, none⟩) bs.length bs.length, .slice (some ⟨ge, 0, none⟩) es.length es.length] 33)) w4.heap.size w3.heap.size w4.heap.size (some ⟨gb, 0, none⟩) bs.length bs.length bs (some ⟨ge, 0, none⟩) es.length es.length es := ⟨heap_alloc_new _ _, hRX.below hA4⟩
    have hKW4 := hKW.below hA4
    have hx4' := hx4.next (hA4.mono hx4.size)
    have hs4' : (w4.alloc (.cells #[.slice (some ⟨gb, 0, none⟩) bs.length bs.length, .slice (some ⟨ge, 0, none⟩) es.length es.length] 33)).heap.size = w4.heap.size + 1 := by simp
    obtain ⟨ppb, ppe⟩ := hKX.rows.pairs hlb HSm.out.1 hle HSm.out.2
    have hg4 := HG.out.keep hx4'.below
    have HB := Lib.hid (And.intro hKW4 (And.intro hKX (And.intro hx4' hs4')))
    clear hKW hKW4 hKX hRX hA4 hb4 PBb PBe hgb hge hlt1 hlt2 hx4 hx4' hs4' HA y0 y1 pb3 pe3
    go_wp2_with fail
    refine (RunsUpTo_implL L ok bs es _ _ _ _ _ k HR.out ppb ppe hg4).mono ?_
    intro e w5 hpost
    obtain ⟨aG, cG, rfl, hKG, hb5⟩ := hpost.rt
    clear hpost
    generalize w4.alloc (.cells #[.slice (some ⟨gb, 0, none⟩) bs.length bs.length, .slice (some ⟨ge, 0, none⟩) es.length es.length] 33) = wX at *
    obtain ⟨hKW, hKX, hx, hsX⟩ := HB.out
    have hs5 := hb5.size
    have hKW5 := hKW.below hb5
    have hKX5 := hKX.below hb5
    have hx5 := hx.next (hb5.mono hx.size)
    obtain ⟨n0, n1, _, _, _⟩ := hKX5.two.cells
    obtain ⟨z0, z1⟩ := And.intro hx5.c0 hx5.c1
    have HC := Lib.hid (And.intro hKW5 (And.intro hKX5 (And.intro hKG hx5)))
    clear hKW hKX hx hKW5 hKX5 hKG hx5 hb5 HB ppb ppe hg4
    cases ok
    all_goals
      go_wp2_with fail
      refine (eqStringS_same _ L _ _ _ _ _ _ _ HC.out.2.2.1.row HC.out.1.row (by omega)).mono ?_
      rintro e w6 ⟨rfl, hb6⟩
      obtain ⟨hKW, hKX, hKG, hx⟩ := HC.out
      have hKW6 := hKW.below hb6
      have hKX6 := hKX.below hb6
      have hKG6 := hKG.below hb6
      have hx6 := hx.next (hb6.mono hx.size)
      have hsz6 := hb6.size
      have hsw := hx6.size
      obtain ⟨v0, v1, _, _, hXl⟩ := hKX6.two.cells
      obtain ⟨z0', z1'⟩ := And.intro hx6.c0 hx6.c1
      have pb6 := (hpb.below hx6.below).small HS.out.1
      have pe6 := (hpe.below hx6.below).small HS.out.2
      obtain ⟨qb, qe⟩ := hKX6.rows.pairs hlb HSm.out.1 hle HSm.out.2
      have HD := Lib.hid (And.intro hKW6 (And.intro hKX6 (And.intro hKG6 hx6)))
      clear hKW hKX hKG hx hKW6 hKX6 hKG6 hx6 hb6 n0 n1 z0 z1 HC
      go_wp2
      go_region_held3 (fun w' => w'.cell? ⟨w.heap.size, 0, none⟩ = some (.slice ab bs.length cb) ∧ w'.cell? ⟨w.heap.size, 1, none⟩ = some (.slice ae es.length ce) ∧ w'.cell? ⟨w4.heap.size, 0, none⟩ = some (.slice (some ⟨gb, 0, none⟩) bs.length bs.length) ∧ w'.cell? ⟨w4.heap.size, 1, none⟩ = some (.slice (some ⟨ge, 0, none⟩) es.length es.length) ∧ Below w6.heap.size w6 w')
        (first
          | exact ⟨z0', z1', v0, v1, (Below.refl _ _).drew⟩
          | (have hq := below_new (‹_ ∧ _ ∧ _ ∧ _ ∧ Below w6.heap.size w6 _›).2.2.2.2 hbM; exact ⟨(hq.cell (p := ⟨w.heap.size, 0, none⟩) hsw).trans z0', (hq.cell (p := ⟨w.heap.size, 1, none⟩) hsw).trans z1', (hq.cell (p := ⟨w4.heap.size, 0, none⟩) hXl).trans v0, (hq.cell (p := ⟨w4.heap.size, 1, none⟩) hXl).trans v1, hq⟩)
          | (have hq := below_new (‹_ ∧ _ ∧ _ ∧ _ ∧ Below w6.heap.size w6 _›).2.2.2.2 hbN; exact ⟨(hq.cell (p := ⟨w.heap.size, 0, none⟩) hsw).trans z0', (hq.cell (p := ⟨w.heap.size, 1, none⟩) hsw).trans z1', (hq.cell (p := ⟨w4.heap.size, 0, none⟩) hXl).trans v0, (hq.cell (p := ⟨w4.heap.size, 1, none⟩) hXl).trans v1, hq⟩))
        (first
          | (go_at_call 8; refine (toProg_any _ bs es _ _ _ _ ?_ ?_).mono ?_; (exact pb6.drew); (exact pe6.drew); rintro e wN ⟨gb2, ge2, rfl, hgb, hge, PBb, PBe, hbN⟩)
          | (go_at_call 11; refine (eqProg_same _ bs es _ _ _ _ _ _ _ _ ?_ ?_ ?_ ?_).mono ?_; (exact qb.below (‹_ ∧ _ ∧ _ ∧ _ ∧ Below w6.heap.size w6 _›).2.2.2.2); (exact qe.below (‹_ ∧ _ ∧ _ ∧ _ ∧ Below w6.heap.size w6 _›).2.2.2.2); (exact PBb.pairs hlb HSm.out.1); (exact PBe.pairs hle HSm.out.2); rintro e wM ⟨rfl, hbM⟩))
      have hbM2 := (‹_ ∧ _ ∧ _ ∧ _ ∧ Below w6.heap.size w6 wM›).2.2.2.2
      have hKW7 := HD.out.1.below hbM2
      have hKX7 := HD.out.2.1.below hbM2
      have hKG7 := HD.out.2.2.1.below hbM2
      have hx7 := HD.out.2.2.2.next (hbM2.mono hsw)
      have hsz7 := hbM2.size
      obtain ⟨v0, v1, _, _, hXl7⟩ := hKX7.two.cells
      have HE := Lib.hid (And.intro hKW7 (And.intro hKX7 (And.intro hKG7 hx7)))
      clear hKW7 hKX7 hKG7 hx7 hbM2 hbM hbN PBb PBe hgb hge pb6 pe6 qb qe HD z0' z1'
      go_wp2_with fail
      refine (markProg_any _ _ _ _ _ _ _ _ _ _ _ 1 HE.out.2.1.rows hlb hle (by decide)).mono ?_
      intro e w8 hmk
      obtain ⟨he, _, htu8⟩ := hmk
      obtain ⟨K, hK⟩ : ∃ K : Nat, 1 + 2 * bs.length + 2 * es.length = K := ⟨_, rfl⟩
      rw [hK] at he
      subst he
      have hK0 : ¬ ((K : Int) < 0) := by omega
      obtain ⟨hKW, hKX, hKG, hx⟩ := HE.out
      have hKW8 := hKW.turns htu8 (fun k h1 h2 h3 => by omega)
      have hKG8 := hKG.turns htu8 (fun k h1 h2 h3 => by omega)
      have hx8 := hx.next (htu8.below (B := w.heap.size + 1) (by omega) (fun k h => by omega))
      have hsz8 := htu8.size
      have HF := Lib.hid (And.intro hKW8 (And.intro hKG8 hx8))
      clear hKW hKX hKG hx hKW8 hKG8 hx8 htu8 HE hK v0 v1
      go_wp2_with fail
      refine (eqStringS_same _ L _ _ _ _ _ _ _ HF.out.2.1.row HF.out.1.row (by omega)).mono ?_
      rintro e w9 ⟨rfl, hb9⟩
      have hKW9 := HF.out.1.below hb9
      have hKG9 := HF.out.2.1.below hb9
      have hx9 := HF.out.2.2.next (hb9.mono HF.out.2.2.size)
      have hsz9 := hb9.size
      have HH := Lib.hid (And.intro hKW9 (And.intro hKG9 hx9))
      clear hKW9 hKG9 hx9 hb9 HF
      go_wp2_with fail
      refine (markStringS_any _ L _ _ _ _ 1 HH.out.2.1.row (by omega) (by omega)).mono ?_
      intro e w10 hmk
      obtain ⟨he, hRG10, htu10⟩ := hmk
      obtain ⟨M, hM⟩ : ∃ M : Nat, 1 + L.length = M := ⟨_, rfl⟩
      rw [hM] at he
      subst he
      have HM := Lib.hid hM
      have hM0 : ¬ ((M : Int) < 0) := by omega
      obtain ⟨hKW, hKG, hx⟩ := HH.out
      have hKW10 := hKW.turns htu10 (fun k h1 h2 h3 => by have := (hKG.row.lt k h3.symm).1; omega)
      have hKG10 : Rt w10 wX.heap.size w5.heap.size aG L.length cG (mkTs 1 L.length) := ⟨hRG10, hKG.hi⟩
      have hx10 := hx.next (htu10.below (B := w.heap.size + 1) (by omega) (fun k h => by have := (hKG.row.lt k h.symm).1; omega))
      have hsz10 := htu10.size
      have HI := Lib.hid (And.intro hKW10 (And.intro hKG10 hx10))
      clear hKW hKG hx hKW10 hKG10 hx10 htu10 hRG10 HH hM
      go_wp2_with fail
      refine (heldStringS_any _ _ _ _ _ 1 HI.out.2.1.row (by omega) (by omega)).mono ?_
      intro e w11 hhd
      obtain ⟨he, hb11⟩ := hhd
      rw [HM.out] at he
      subst he
      have hKW11 := HI.out.1.below hb11
      have hKG11 := HI.out.2.1.below hb11
      have hx11 := HI.out.2.2.next (hb11.mono HI.out.2.2.size)
      have hsz11 := hb11.size
      obtain ⟨z0', z1'⟩ := And.intro hx11.c0 hx11.c1
      have pb11 := (hpb.below hx11.below).small HS.out.1
      have pe11 := (hpe.below hx11.below).small HS.out.2
      have HJ := Lib.hid (And.intro hKW11 (And.intro hKG11 hx11))
      clear hKW11 hKG11 hx11 hb11 HI
      go_wp2_with fail
      refine (toProg_any _ bs es _ _ _ _ pb11 pe11).mono ?_
      rintro e w12 ⟨gb', ge', rfl, hgb, hge, PBb, PBe, hb12⟩
      have hx12 := HJ.out.2.2.next (hb12.mono HJ.out.2.2.size)
      have hKW12 := HJ.out.1.below hb12
      have hKG12 := HJ.out.2.1.below hb12
      have ppb := PBb.pairs hlb HSm.out.1
      have ppe := PBe.pairs hle HSm.out.2
      have hg12 := HG.out.keep hx12.below
      have hsz12 := hb12.size
      have HK := Lib.hid (And.intro hKW12 (And.intro hKG12 hx12))
      clear hKW12 hKG12 hx12 hb12 HJ PBb PBe hgb hge pb11 pe11 z0' z1'
      go_wp2_with fail
      refine (RunsUpTo_implL L _ bs es _ _ _ _ _ k HR.out ppb ppe hg12).mono ?_
      intro e w13 hpost
      obtain ⟨aH, cH, rfl, hKH, hb13⟩ := hpost.rt
      clear hpost
      have hKW13 := HK.out.1.below hb13
      have hKG13 := HK.out.2.1.below hb13
      have hx13 := HK.out.2.2.next (hb13.mono HK.out.2.2.size)
      have HN := Lib.hid (And.intro hKG13 (And.intro hx13 (And.intro hKH hKW13)))
      clear hKW13 hKG13 hKH hx13 hb13 HK ppb ppe hg12
      go_wp2_with fail
      refine (eqStringS_same _ L _ _ _ _ _ _ _ HN.out.2.2.1.row HN.out.2.2.2.row (by omega)).mono ?_
      rintro e w14 ⟨rfl, hb14⟩
      have hKG14 := HN.out.1.below hb14
      have hx14 := HN.out.2.1.next (hb14.mono HN.out.2.1.size)
      have HO := Lib.hid (And.intro hKG14 hx14)
      clear hKG14 hx14 hb14 HN
      go_wp2_with fail
      refine (heldStringS_any _ _ _ _ _ 1 HO.out.1.row (by omega) (by omega)).mono ?_
      intro e w15 hhd
      obtain ⟨he, hb15⟩ := hhd
      rw [HM.out] at he
      subst he
      have hfin := (HO.out.2.next (hb15.mono HO.out.2.size)).below
      clear hb15 HO
      go_wp2
      go_ret
      exact ⟨rfl, hfin⟩
end Go.Proofs.YtflnkahgmbndiaaDoor
