/-
  The walk of the law FnExactParseProg. Conditions: the errors' variables hold errors; bytealg's MaxLen holds a number.
-/
import Derived.Test.YthkhccfemdjioaaDoorValid
import Derived.Test.YthkhccfemdjioaaDoorParseI
namespace Go.Proofs.YthkhccfemdjioaaDoor
open Go.RowKit Go.Maps

set_option maxRecDepth 100000 in
set_option maxHeartbeats 6400000 in
theorem LawParseProg_any (w : World) (text : ByteArray) (hg : Errs w) (hc : ErrAt w 2) (hm : MaxAt w) :
    Calls Tryd.prog 4 #[.string text] w fun e w' => e = .returned (.bool true) ∧ Below w.heap.size w w' := by
  go_enter Tryd.func4, Tryd.ntmps4
  by_cases hxs : 1048576 < text.size
  · go_wp2
    go_ret
    exact ⟨rfl, Below.refl _ _⟩
  have hs : text.size ≤ 1048576 := by omega
  have HS := Lib.hid (And.intro hs (par_small hs))
  have HG := Lib.hid (show ∀ W', Below w.heap.size w W' → (Errs W' ∧ ErrAt W' 2 ∧ MaxAt W') from fun W' hB => ⟨hg.keep hB, hc.keep hB, hm.keep hB⟩)
  clear hg hc hm hs
  go_wp2_with fail
  refine (ParseProg_spec w text HS.out.1).mono ?_
  intro e w1 hpost
  have hres := hpost.res
  clear hpost
  obtain ⟨ok, hok⟩ : ∃ ok, parOk text = ok := ⟨_, rfl⟩
  obtain ⟨L, hL⟩ : ∃ L, parL text = L := ⟨_, rfl⟩
  obtain ⟨E, hE⟩ : ∃ E, parE text = E := ⟨_, rfl⟩
  rw [hok, hL, hE] at hres
  have HQ := Lib.hid (And.intro hok (And.intro hL hE))
  have HLs := Lib.hid (show (L.length ≤ 1048576 ∧ ∀ i, i < L.length → (nameAt L i).size ≤ 1048576 ∧ (restAt L i).size ≤ 1048576) ∧ (E.length ≤ 1048576 ∧ ∀ i, i < E.length → (nameAt E i).size ≤ 1048576 ∧ (restAt E i).size ≤ 1048576) by rw [← hL, ← hE]; exact HS.out.2)
  clear hok hL hE
  have hLl := HLs.out.1.1
  have hEl := HLs.out.2.1
  obtain ⟨hb1, aW, cW, aW', cW', rfl, hRW⟩ := hres
  have hA1 : Below w1.heap.size w1 (w1.alloc (.cells #[.slice aW L.length cW, .slice aW' E.length cW'] 32)) := (Below.refl _ _).alloc (Nat.le_refl _) _
  have hKW : Kp (w1.alloc (.cells #[.slice aW L.length cW, .slice aW' E.length cW'] 32)) w1.heap.size w.heap.size w1.heap.size aW L.length cW L aW' E.length cW' E := ⟨heap_alloc_new _ _, hRW.below hA1⟩
  have hbw : Below w.heap.size w (w1.alloc (.cells #[.slice aW L.length cW, .slice aW' E.length cW'] 32)) := hb1.trans (hA1.mono hb1.size)
  have hz1 : (w1.alloc (.cells #[.slice aW L.length cW, .slice aW' E.length cW'] 32)).heap.size = w1.heap.size + 1 := by simp
  have hlw := hb1.size
  have HA := Lib.hid (And.intro hKW (And.intro hbw hz1))
  clear hA1 hKW hbw hz1 hb1 hRW
  go_wp2_with fail
  generalize w1.alloc (.cells #[.slice aW L.length cW, .slice aW' E.length cW'] 32) = wX at *
  obtain ⟨g1, g2, g3⟩ := HG.out _ HA.out.2.1
  refine (ParseProg_impl wX text HS.out.1 g1 g2 g3).mono ?_
  intro e w2 hpost
  have hres := hpost.res
  clear hpost g1 g2 g3
  rw [HQ.out.1, HQ.out.2.1, HQ.out.2.2] at hres
  obtain ⟨hb2, aG, cG, aG', cG', rfl, hRG⟩ := hres
  have hs2 := hb2.size
  have hsX := HA.out.2.2
  have hA2 : Below w2.heap.size w2 (w2.alloc (.cells #[.slice aG L.length cG, .slice aG' E.length cG'] 32)) := (Below.refl _ _).alloc (Nat.le_refl _) _
  have hKG : Kp (w2.alloc (.cells #[.slice aG L.length cG, .slice aG' E.length cG'] 32)) w2.heap.size wX.heap.size w2.heap.size aG L.length cG L aG' E.length cG' E := ⟨heap_alloc_new _ _, hRG.below hA2⟩
  have hKW2 := (HA.out.1.below hb2).below hA2
  have hbw2 : Below w.heap.size w (w2.alloc (.cells #[.slice aG L.length cG, .slice aG' E.length cG'] 32)) := (HA.out.2.1.trans (hb2.mono HA.out.2.1.size)).trans (hA2.mono (HA.out.2.1.trans (hb2.mono HA.out.2.1.size)).size)
  have hz2 : (w2.alloc (.cells #[.slice aG L.length cG, .slice aG' E.length cG'] 32)).heap.size = w2.heap.size + 1 := by simp
  obtain ⟨k0, k1, _, _, _⟩ := hKW2.two.cells
  obtain ⟨m0, m1, _, _, _⟩ := hKG.two.cells
  obtain ⟨pW, pW'⟩ := hKW2.rows.pairs hLl HLs.out.1.2 hEl HLs.out.2.2
  obtain ⟨pG, pG'⟩ := hKG.rows.pairs hLl HLs.out.1.2 hEl HLs.out.2.2
  have HB := Lib.hid (And.intro hKW2 (And.intro hKG (And.intro hbw2 hz2)))
  have hXw : wX.heap.size ≤ w2.heap.size := hs2
  have hw1X : w1.heap.size < wX.heap.size := by omega
  clear hA2 hKG hKW2 hbw2 hz2 hb2 hRG HA hsX hs2
  cases ok
  all_goals
    go_wp2_with fail
    refine (eqProg_same _ L E _ _ _ _ _ _ _ _ pG pG' pW pW').mono ?_
    rintro e w6 ⟨rfl, hb6⟩
    generalize w2.alloc (.cells #[.slice aG L.length cG, .slice aG' E.length cG'] 32) = wG at *
    have hKW6 := HB.out.1.below hb6
    have hKG6 := HB.out.2.1.below hb6
    have hbw6 := HB.out.2.2.1.trans (hb6.mono HB.out.2.2.1.size)
    have hs6 : w2.heap.size + 1 ≤ w6.heap.size := by have h1 := hb6.size; have h2 := HB.out.2.2.2; omega
    obtain ⟨m0, m1, _, _, _⟩ := hKG6.two.cells
    have HH := Lib.hid (And.intro hKW6 (And.intro hKG6 hbw6))
    clear hKW6 hKG6 hbw6 hb6 HB pW pW' pG pG' k0 k1
    go_wp2_with fail
    refine (markProg_any _ _ _ _ _ _ _ _ _ _ _ 1 HH.out.2.1.rows hLl hEl (by decide)).mono ?_
    intro e w10 hmk
    obtain ⟨he, hRG10, htu10⟩ := hmk
    obtain ⟨M, hM⟩ : ∃ M : Nat, 1 + 2 * L.length + 2 * E.length = M := ⟨_, rfl⟩
    rw [hM] at he
    subst he
    have HM := Lib.hid hM
    have hM0 : ¬ ((M : Int) < 0) := by omega
    obtain ⟨hKW, hKG, hx⟩ := HH.out
    have hKW10 := hKW.turns htu10 (by omega) (fun k h1 h2 h3 => by omega)
    have hKG10 : Kp w10 w2.heap.size wX.heap.size w2.heap.size aG L.length cG (mkPs 1 L.length) aG' E.length cG' (mkPs (1 + 2 * L.length) E.length) := ⟨htu10.two hKG.two (by omega), hRG10⟩
    have hx10 := hx.trans (htu10.below (B := w.heap.size) (by omega) (fun k h => by omega))
    have hsz10 := htu10.size
    obtain ⟨g0, g1, _, _, _⟩ := hKG10.two.cells
    have HI := Lib.hid (And.intro hKW10 (And.intro hKG10 hx10))
    clear hKW hKG hx hKW10 hKG10 hx10 htu10 hRG10 HH hM m0 m1
    go_wp2_with fail
    refine (heldProg_any _ _ _ _ _ _ _ _ _ 1 HI.out.2.1.rows hLl hEl (by decide)).mono ?_
    intro e w11 hhd
    obtain ⟨he, hb11⟩ := hhd
    rw [HM.out] at he
    subst he
    have hKW11 := HI.out.1.below hb11
    have hKG11 := HI.out.2.1.below hb11
    have hx11 := HI.out.2.2.trans (hb11.mono HI.out.2.2.size)
    have hsz11 := hb11.size
    obtain ⟨q1, q2, q3⟩ := HG.out _ hx11
    have HJ := Lib.hid (And.intro hKW11 (And.intro hKG11 hx11))
    clear hKW11 hKG11 hx11 hb11 HI g0 g1
    go_wp2_with fail
    refine (ParseProg_impl w11 text HS.out.1 q1 q2 q3).mono ?_
    intro e w13 hpost
    have hres := hpost.res
    clear hpost q1 q2 q3
    rw [HQ.out.1, HQ.out.2.1, HQ.out.2.2] at hres
    obtain ⟨hb13, aH, cH, aH', cH', rfl, hRH⟩ := hres
    have hA13 : Below w13.heap.size w13 (w13.alloc (.cells #[.slice aH L.length cH, .slice aH' E.length cH'] 32)) := (Below.refl _ _).alloc (Nat.le_refl _) _
    have hKH : Kp (w13.alloc (.cells #[.slice aH L.length cH, .slice aH' E.length cH'] 32)) w13.heap.size w11.heap.size w13.heap.size aH L.length cH L aH' E.length cH' E := ⟨heap_alloc_new _ _, hRH.below hA13⟩
    have hKW13 := (HJ.out.1.below hb13).below hA13
    have hKG13 := (HJ.out.2.1.below hb13).below hA13
    have hx13' := HJ.out.2.2.trans (hb13.mono HJ.out.2.2.size)
    have hx13 := hx13'.trans (hA13.mono hx13'.size)
    obtain ⟨k0, k1, _, _, _⟩ := hKW13.two.cells
    obtain ⟨n0, n1, _, _, _⟩ := hKH.two.cells
    obtain ⟨pW, pW'⟩ := hKW13.rows.pairs hLl HLs.out.1.2 hEl HLs.out.2.2
    obtain ⟨pH, pH'⟩ := hKH.rows.pairs hLl HLs.out.1.2 hEl HLs.out.2.2
    have HN := Lib.hid (And.intro hKG13 hx13)
    clear hKW13 hKG13 hKH hx13 hx13' hb13 hA13 hRH HJ
    go_wp2_with fail
    refine (eqProg_same _ L E _ _ _ _ _ _ _ _ pH pH' pW pW').mono ?_
    rintro e w14 ⟨rfl, hb14⟩
    have hKG14 := HN.out.1.below hb14
    have hx14 := HN.out.2.trans (hb14.mono HN.out.2.size)
    obtain ⟨g0, g1, _, _, _⟩ := hKG14.two.cells
    have HO := Lib.hid (And.intro hKG14 hx14)
    clear hKG14 hx14 hb14 HN pW pW' pH pH' k0 k1 n0 n1
    go_wp2_with fail
    refine (heldProg_any _ _ _ _ _ _ _ _ _ 1 HO.out.1.rows hLl hEl (by decide)).mono ?_
    intro e w15 hhd
    obtain ⟨he, hb15⟩ := hhd
    rw [HM.out] at he
    subst he
    have hfin := HO.out.2.trans (hb15.mono HO.out.2.size)
    clear hb15 HO g0 g1
    go_wp2
    go_ret
    exact ⟨rfl, hfin⟩
end Go.Proofs.YthkhccfemdjioaaDoor
