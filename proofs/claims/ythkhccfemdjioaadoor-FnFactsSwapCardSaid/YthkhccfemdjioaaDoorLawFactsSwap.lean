/-
  The walk of the law FnFactsSwap. Conditions: what came in are bytes; the errors' variables hold errors.
-/
import Derived.Test.YthkhccfemdjioaaDoorTidB
import Derived.Test.YthkhccfemdjioaaDoorFsU
import Derived.Test.YthkhccfemdjioaaDoorFsS
namespace Go.Proofs.YthkhccfemdjioaaDoor
open Go.RowKit Go.Maps

set_option maxRecDepth 100000 in
set_option maxHeartbeats 12800000 in
theorem LawFnFactsSwap_any (w : World) (a : Option Addr) (n cap : Nat) (hby : BytesRaw w a n cap) (hg : Errs w) :
    Calls Tryd.prog 12 #[.slice a n cap] w fun e w' => e = .returned (.bool true) ∧ Below w.heap.size w w' := by
  go_enter Tryd.func12, Tryd.ntmps12
  by_cases hL : (1048576 : Int) < (n : Int)
  · go_wp2
    go_ret
    exact ⟨rfl, Below.refl _ _⟩
  have HG := Lib.hid hg
  clear hg
  go_wp2_with fail
  refine (DrawFactsOf_any w a n cap hby).mono ?_
  rintro e w1 ⟨bs, es, ab, ae, cb, ce, x, rfl, hSb, hSe, hxs, hPb, hPe, hb1⟩
  have hP := PAt.new ab ae cb ce hPb hPe
  have hall : Below w.heap.size w (w1.alloc (.cells #[.slice ab bs.length cb, .slice ae es.length ce] 32)) := hb1.alloc hb1.size _
  obtain ⟨c0, c1⟩ := And.intro hP.c0 hP.c1
  have H1 := Lib.hid (And.intro hP hall)
  clear hPb hPe hb1 hSb hSe hxs hby hP hall
  go_wp2_with fail
  generalize w1.alloc (.cells #[.slice ab bs.length cb, .slice ae es.length ce] 32) = wP at *
  generalize w1.heap.size = q at *
  by_cases hV : Valid bs es
  · have HV := Lib.hid hV
    clear hV
    refine (Swap_implY wP bs es _ _ _ _ _ _ 120 121 HV.out rfl rfl rfl rfl H1.out.1.b H1.out.1.e (HG.out.keep H1.out.2)).mono ?_
    rintro e w2 ⟨a2, d2, a2', d2', rfl, p2, p2', hb2⟩
    have hA := PAt.new a2 a2' d2 d2' p2 p2'
    have hP := H1.out.1.step hb2 (.cells #[.slice a2 (swA bs 120 121).length d2, .slice a2' es.length d2'] 32)
    have hB := below_step H1.out.2 hb2 (.cells #[.slice a2 (swA bs 120 121).length d2, .slice a2' es.length d2'] 32)
    obtain ⟨c0, c1⟩ := And.intro hP.c0 hP.c1
    have H2 := Lib.hid (And.intro hP (And.intro hA hB))
    clear p2 p2' hb2 hA hP hB H1
    go_wp2_with fail
    generalize w2.alloc (.cells #[.slice a2 (swA bs 120 121).length d2, .slice a2' es.length d2'] 32) = wA' at *
    generalize w2.heap.size = qa at *
    refine (Swap_specY wA' bs es _ _ _ _ _ _ 120 121 HV.out rfl rfl rfl rfl H2.out.1.b H2.out.1.e).mono ?_
    rintro e w3 ⟨a3, d3, a3', d3', rfl, _, _, hb3⟩
    have hP := H2.out.1.step hb3 (.cells #[.slice a3 (swA bs 120 121).length d3, .slice a3' es.length d3'] 32)
    have hA := H2.out.2.1.step hb3 (.cells #[.slice a3 (swA bs 120 121).length d3, .slice a3' es.length d3'] 32)
    have hB := below_step H2.out.2.2 hb3 (.cells #[.slice a3 (swA bs 120 121).length d3, .slice a3' es.length d3'] 32)
    obtain ⟨c0, c1⟩ := And.intro hP.c0 hP.c1
    have H3 := Lib.hid (And.intro hP (And.intro hA hB))
    clear hb3 hA hP hB H2
    have hv : validB bs es = true := by simpa [validB] using HV.out
    obtain ⟨X, hX⟩ : ∃ X, accF bs xT bs.length = X := ⟨_, rfl⟩
    obtain ⟨Z, hZ⟩ : ∃ Z, accF bs zT bs.length = Z := ⟨_, rfl⟩
    have fx : factsV bs es xT = .tuple #[.string X, .bool true] := by rw [factsV_yes hv rfl, hX]
    have fz : factsV bs es zT = .tuple #[.string Z, .bool true] := by rw [factsV_yes hv rfl, hZ]
    have gx : factsV (swA bs 120 121) es yT = .tuple #[.string X, .bool true] := by
      rw [swA_facts (v := 120) (x := xT) HV.out (by decide) (by decide) rfl rfl rfl (by decide) rfl, fx]
    have gz : factsV (swA bs 120 121) es zT = .tuple #[.string Z, .bool true] := by
      rw [swA_facts (v := 122) (x := zT) HV.out (by decide) (by decide) rfl rfl rfl (by decide) rfl, fz]
    have HF := Lib.hid (And.intro fx (And.intro gx (And.intro fz gz)))
    obtain ⟨b, hb⟩ : ∃ b, isTidyV bs es = b := ⟨_, rfl⟩
    have HB := Lib.hid (And.intro hb (show isTidyV (swA bs 120 121) es = b by rw [swA_tidy HV.out (by decide) (by decide), hb]))
    have tX : (X.toList == X.toList) = true := by rw [toList_eq_iff]; exact decide_eq_true rfl
    have tZ : (Z.toList == Z.toList) = true := by rw [toList_eq_iff]; exact decide_eq_true rfl
    clear hv hX hZ fx fz gx gz hb
    go_wp2_with fail
    generalize w3.alloc (.cells #[.slice a3 (swA bs 120 121).length d3, .slice a3' es.length d3'] 32) = wB' at *
    refine (FactsOf_implB wB' bs es _ _ _ _ xT _ _ HF.out.1 H3.out.1.b H3.out.1.e (HG.out.keep H3.out.2.2)).mono ?_
    rintro e w4 ⟨rfl, hb4⟩
    have H4 := Lib.hid (And.intro (H3.out.1.below hb4) (And.intro (H3.out.2.1.below hb4) (H3.out.2.2.trans (hb4.mono H3.out.2.2.size))))
    obtain ⟨c0, c1⟩ := And.intro H4.out.2.1.c0 H4.out.2.1.c1
    clear hb4 H3
    go_wp2_with fail
    refine (FactsOf_implB w4 (swA bs 120 121) es _ _ _ _ yT _ _ HF.out.2.1 H4.out.2.1.b H4.out.2.1.e (HG.out.keep H4.out.2.2)).mono ?_
    rintro e w5 ⟨rfl, hb5⟩
    have H5 := Lib.hid (And.intro (H4.out.1.below hb5) (And.intro (H4.out.2.1.below hb5) (H4.out.2.2.trans (hb5.mono H4.out.2.2.size))))
    obtain ⟨c0, c1⟩ := And.intro H5.out.1.c0 H5.out.1.c1
    clear hb5 H4
    go_wp2_with fail
    refine (FactsOf_implB w5 bs es _ _ _ _ zT _ _ HF.out.2.2.1 H5.out.1.b H5.out.1.e (HG.out.keep H5.out.2.2)).mono ?_
    rintro e w6 ⟨rfl, hb6⟩
    have H6 := Lib.hid (And.intro (H5.out.1.below hb6) (And.intro (H5.out.2.1.below hb6) (H5.out.2.2.trans (hb6.mono H5.out.2.2.size))))
    obtain ⟨c0, c1⟩ := And.intro H6.out.2.1.c0 H6.out.2.1.c1
    clear hb6 H5
    go_wp2_with fail
    refine (FactsOf_implB w6 (swA bs 120 121) es _ _ _ _ zT _ _ HF.out.2.2.2 H6.out.2.1.b H6.out.2.1.e (HG.out.keep H6.out.2.2)).mono ?_
    rintro e w7 ⟨rfl, hb7⟩
    have H7 := Lib.hid (And.intro (H6.out.1.below hb7) (And.intro (H6.out.2.1.below hb7) (H6.out.2.2.trans (hb7.mono H6.out.2.2.size))))
    have HQQ := Lib.hid (show ∀ W', Below w7.heap.size w7 W' → (PAt W' q ab ae cb ce bs es ∧ PAt W' qa a2 a2' d2 d2' (swA bs 120 121) es ∧ Errs W') from fun W' hB => ⟨H7.out.1.below hB, H7.out.2.1.below hB, HG.out.keep (H7.out.2.2.trans (hB.mono H7.out.2.2.size))⟩)
    obtain ⟨c0, c1⟩ := And.intro H7.out.1.c0 H7.out.1.c1
    obtain ⟨k0, k1⟩ := And.intro H7.out.2.1.c0 H7.out.2.1.c1
    clear hb7 H6
    go_wp2
    go_region_law (first
        | (go_simp; go_at_call 52; (with_reducible show Calls _ _ #[Value.agg #[Value.slice ab _ _, _]] (World.drew w7) _); refine (IsTidy_implB (World.drew w7) bs es _ _ _ _ _ HB.out.1 (HQQ.out _ (show Below w7.heap.size w7 (w7.drew) from (Below.refl w7.heap.size w7).drew)).1.b (HQQ.out _ (show Below w7.heap.size w7 (w7.drew) from (Below.refl w7.heap.size w7).drew)).1.e (HQQ.out _ (show Below w7.heap.size w7 (w7.drew) from (Below.refl w7.heap.size w7).drew)).2.2).mono ?_; rintro e wA ⟨rfl, hbwA⟩; have HwA := Lib.hid (below_new (show Below w7.heap.size w7 (w7.drew) from (Below.refl w7.heap.size w7).drew) hbwA); obtain ⟨c0, c1⟩ := And.intro (HQQ.out _ HwA.out).1.c0 (HQQ.out _ HwA.out).1.c1; obtain ⟨k0, k1⟩ := And.intro (HQQ.out _ HwA.out).2.1.c0 (HQQ.out _ HwA.out).2.1.c1)
        | (go_simp; go_at_call 52; (with_reducible show Calls _ _ #[Value.agg #[Value.slice a2 _ _, _]] (World.drew w7) _); refine (IsTidy_implB (World.drew w7) (swA bs 120 121) es _ _ _ _ _ HB.out.2 (HQQ.out _ (show Below w7.heap.size w7 (w7.drew) from (Below.refl w7.heap.size w7).drew)).2.1.b (HQQ.out _ (show Below w7.heap.size w7 (w7.drew) from (Below.refl w7.heap.size w7).drew)).2.1.e (HQQ.out _ (show Below w7.heap.size w7 (w7.drew) from (Below.refl w7.heap.size w7).drew)).2.2).mono ?_; rintro e wB ⟨rfl, hbwB⟩; have HwB := Lib.hid (below_new (show Below w7.heap.size w7 (w7.drew) from (Below.refl w7.heap.size w7).drew) hbwB); obtain ⟨c0, c1⟩ := And.intro (HQQ.out _ HwB.out).1.c0 (HQQ.out _ HwB.out).1.c1; obtain ⟨k0, k1⟩ := And.intro (HQQ.out _ HwB.out).2.1.c0 (HQQ.out _ HwB.out).2.1.c1)
        | (go_simp; go_at_call 52; (with_reducible show Calls _ _ #[Value.agg #[Value.slice ab _ _, _]] wB _); refine (IsTidy_implB wB bs es _ _ _ _ _ HB.out.1 (HQQ.out _ HwB.out).1.b (HQQ.out _ HwB.out).1.e (HQQ.out _ HwB.out).2.2).mono ?_; rintro e wC ⟨rfl, hbwC⟩; have HwC := Lib.hid (below_new HwB.out hbwC); obtain ⟨c0, c1⟩ := And.intro (HQQ.out _ HwC.out).1.c0 (HQQ.out _ HwC.out).1.c1; obtain ⟨k0, k1⟩ := And.intro (HQQ.out _ HwC.out).2.1.c0 (HQQ.out _ HwC.out).2.1.c1)
        | (go_simp; go_at_call 52; (with_reducible show Calls _ _ #[Value.agg #[Value.slice a2 _ _, _]] wA _); refine (IsTidy_implB wA (swA bs 120 121) es _ _ _ _ _ HB.out.2 (HQQ.out _ HwA.out).2.1.b (HQQ.out _ HwA.out).2.1.e (HQQ.out _ HwA.out).2.2).mono ?_; rintro e wC ⟨rfl, hbwC⟩; have HwC := Lib.hid (below_new HwA.out hbwC); obtain ⟨c0, c1⟩ := And.intro (HQQ.out _ HwC.out).1.c0 (HQQ.out _ HwC.out).1.c1; obtain ⟨k0, k1⟩ := And.intro (HQQ.out _ HwC.out).2.1.c0 (HQQ.out _ HwC.out).2.1.c1)
      )
    all_goals
      have HZ := Lib.hid (H7.out.2.2.trans (HwC.out.mono H7.out.2.2.size))
      go_wp2
      go_ret
      exact ⟨rfl, HZ.out⟩
  · have HN := Lib.hid (swOk_no hV xT yT)
    clear hV
    refine (Swap_implN wP bs es _ _ _ _ xT yT HN.out (by decide) (by decide) H1.out.1.b H1.out.1.e (HG.out.keep H1.out.2)).mono ?_
    rintro e w2 ⟨a2, d2, a2', d2', rfl, hb2⟩
    have hP := H1.out.1.step hb2 (.cells #[.slice a2 0 d2, .slice a2' 0 d2'] 32)
    have hB := below_step H1.out.2 hb2 (.cells #[.slice a2 0 d2, .slice a2' 0 d2'] 32)
    obtain ⟨c0, c1⟩ := And.intro hP.c0 hP.c1
    have H2 := Lib.hid (And.intro hP hB)
    clear hb2 hP hB H1
    go_wp2_with fail
    generalize w2.alloc (.cells #[.slice a2 0 d2, .slice a2' 0 d2'] 32) = wA' at *
    refine (Swap_specN wA' bs es _ _ _ _ xT yT HN.out (by decide) (by decide) H2.out.1.b H2.out.1.e).mono ?_
    rintro e w3 ⟨a3, d3, a3', d3', rfl, hb3⟩
    have HZ := Lib.hid (below_step H2.out.2 hb3 (.cells #[.slice a3 0 d3, .slice a3' 0 d3'] 32))
    clear hb3 H2
    go_wp2
    go_ret
    exact ⟨rfl, HZ.out⟩
end Go.Proofs.YthkhccfemdjioaaDoor
