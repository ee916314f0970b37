/-
  The walk of the law FnTidyFacts. Conditions: what came in are bytes; the errors' variables hold errors.
-/
import Derived.Test.YtngcmjfkeageiaaDoorTidB
namespace Go.Proofs.YtngcmjfkeageiaaDoor
open Go.RowKit Go.Maps

theorem owProg_tidyB (w : World) (bs es : List Pr) (ab ae ab' ae' : Option Addr) (cb ce cb' ce' : Nat) (hV : Valid bs es) (bt : Bool) (h : isTidyV bs es = bt) (hb : PairsAt w ab bs) (he : PairsAt w ae es) (hb' : PairsAt w ab' (tidW bs)) (he' : PairsAt w ae' es) :
    Calls Tryd.prog 23 #[.agg #[.slice ab bs.length cb, .slice ae es.length ce], .agg #[.slice ab' (tidW bs).length cb', .slice ae' es.length ce']] w fun e w' => e = .returned (.bool bt) ∧ Below w.heap.size w w' :=
  (owProg_any w bs es (tidW bs) es ab ae ab' ae' cb ce cb' ce' hb he hb' he').mono fun e w' h' => ⟨by rw [h'.1, tidy_same hV, h], h'.2⟩
set_option maxRecDepth 100000 in
set_option maxHeartbeats 12800000 in
theorem LawFnTidyFacts_any (w : World) (a : Option Addr) (n cap : Nat) (a2 : Option Addr) (n2 cap2 : Nat) (hby : BytesRaw w a n cap) (hby2 : BytesRaw w a2 n2 cap2) (hg : Errs w) :
    Calls Tryd.prog 7 #[.slice a n cap, .slice a2 n2 cap2] w fun e w' => e = .returned (.bool true) ∧ Below w.heap.size w w' := by
  go_enter Tryd.func7, Tryd.ntmps7
  by_cases hL : (1048576 : Int) < (n : Int)
  · go_wp2
    go_ret
    exact ⟨rfl, Below.refl _ _⟩
  by_cases hL2 : (1048576 : Int) < (n2 : Int)
  · go_wp2
    go_ret
    exact ⟨rfl, Below.refl _ _⟩
  have HG := Lib.hid (And.intro hg hby2)
  clear hg hby2
  go_wp2_with fail
  refine (DrawFactsOf_any w a n cap hby).mono ?_
  rintro e w1 ⟨bs, es, ab, ae, cb, ce, t, rfl, hSb, hSe, hts, hPb, hPe, hb1⟩
  have hP := PAt.new ab ae cb ce hPb hPe
  have hall : Below w.heap.size w (w1.alloc (.cells #[.slice ab bs.length cb, .slice ae es.length ce] 32)) := hb1.alloc hb1.size _
  go_upto_region 4 with fail
  generalize w1.alloc (.cells #[.slice ab bs.length cb, .slice ae es.length ce] 32) = wP at *
  generalize w1.heap.size = q at *
  have HP := Lib.hid (show ∀ W', Below wP.heap.size wP W' → (PAt W' q ab ae cb ce bs es ∧ Errs W' ∧ Below w.heap.size w W') from fun W' hB => ⟨hP.below hB, HG.out.1.keep (hall.trans (hB.mono hall.size)), hall.trans (hB.mono hall.size)⟩)
  obtain ⟨c0, c1⟩ := And.intro hP.c0 hP.c1
  have H0 := Lib.hid (HP.out _ (Below.refl _ _))
  clear hPb hPe hb1 hSb hSe hts hby hP hall
  cases hh : (validB bs es && isTm t)
  · obtain ⟨T, hT⟩ : ∃ T : ByteArray, e0 = T := ⟨_, rfl⟩
    have HE := Lib.hid (show factsV bs es t = .tuple #[.string T, .bool false] by unfold factsV; rw [hh, ← hT]; rfl)
    have z0 : (⟨#[]⟩ : ByteArray).toList = [] := by rw [ByteArray.toList_eq]
    have z1 : T.toList = [] := by rw [← hT]; exact z0
    clear hh hT
    go_wp2_with fail
    refine (FactsOf_implB _ bs es _ _ _ _ t _ _ HE.out H0.out.1.b H0.out.1.e H0.out.2.1).mono ?_
    rintro e w2 ⟨rfl, hb2⟩
    have HQ2 := Lib.hid hb2
    have H2 := Lib.hid (HP.out _ hb2)
    obtain ⟨c0, c1⟩ := And.intro H2.out.1.c0 H2.out.1.c1
    clear hb2
    go_wp2_with fail
    refine (FactsOf_specB _ bs es _ _ _ _ t _ _ HE.out H2.out.1.b H2.out.1.e).mono ?_
    rintro e w3 ⟨rfl, hb3⟩
    have HQ3 := Lib.hid (below_new HQ2.out hb3)
    have H3 := Lib.hid (HP.out _ HQ3.out)
    clear hb3 HQ2 H2 c0 c1
    go_wp2_with fail
    refine (DrawIsTidy_any w3 a2 n2 cap2 (HG.out.2.below H3.out.2.2)).mono ?_
    rintro e w4 ⟨bx, ex, abx, aex, cbx, cex, rfl, hSb, hSe, hPb, hPe, hb4⟩
    have hX := PAt.new abx aex cbx cex hPb hPe
    have hall : Below w.heap.size w (w4.alloc (.cells #[.slice abx bx.length cbx, .slice aex ex.length cex] 32)) := below_stepT H3.out.2.2 hb4 _
    obtain ⟨b, hbx⟩ : ∃ b, isTidyV bx ex = b := ⟨_, rfl⟩
    have HBx := Lib.hid hbx
    obtain ⟨x0, x1⟩ := And.intro hX.c0 hX.c1
    clear hSb hSe hPb hPe hb4 hbx
    go_wp2
    generalize w4.alloc (.cells #[.slice abx bx.length cbx, .slice aex ex.length cex] 32) = wX at *
    generalize w4.heap.size = qx at *
    have HXX := Lib.hid (show ∀ W', Below wX.heap.size wX W' → (PairsAt W' abx bx ∧ PairsAt W' aex ex ∧ Errs W') from fun W' hB => ⟨(hX.below hB).b, (hX.below hB).e, HG.out.1.keep (hall.trans (hB.mono hall.size))⟩)
    have HXC := Lib.hid (show ∀ W', Below wX.heap.size wX W' → (W'.cell? ⟨qx, 0, none⟩ = some (.slice abx bx.length cbx) ∧ W'.cell? ⟨qx, 1, none⟩ = some (.slice aex ex.length cex)) from fun W' hB => ⟨(hX.below hB).c0, (hX.below hB).c1⟩)
    have HF := Lib.hid hall
    have HR := Lib.hid (show ∀ W', Below wX.heap.size wX W' → Below wX.heap.size wX W' from fun _ h => h)
    clear hX hall HE HQ3 H3 HP H0
    go_region_held_law (fun w' => w'.cell? ⟨qx, 0, none⟩ = some (.slice abx bx.length cbx) ∧ w'.cell? ⟨qx, 1, none⟩ = some (.slice aex ex.length cex))
      (first
        | with_reducible exact HXC.out _ (HR.out _ (show Below wX.heap.size wX wX.drew from (Below.refl wX.heap.size wX).drew))
        | with_reducible exact ⟨x0, x1⟩)
      (first
        | (go_at_call 39; refine (IsTidy_implB wX.drew bx ex _ _ _ _ _ HBx.out (HXX.out _ (HR.out _ (show Below wX.heap.size wX wX.drew from (Below.refl wX.heap.size wX).drew))).1 (HXX.out _ (HR.out _ (show Below wX.heap.size wX wX.drew from (Below.refl wX.heap.size wX).drew))).2.1 (HXX.out _ (HR.out _ (show Below wX.heap.size wX wX.drew from (Below.refl wX.heap.size wX).drew))).2.2).mono ?_; rintro e wA ⟨rfl, hbwA⟩; have HwA := Lib.hid (below_new (show Below wX.heap.size wX wX.drew from (Below.refl wX.heap.size wX).drew) hbwA); obtain ⟨x0, x1⟩ := HXC.out _ (HR.out _ HwA.out))
        | (go_at_call 40; refine (IsTidy_specB wA bx ex _ _ _ _ _ HBx.out (HXX.out _ (HR.out _ HwA.out)).1 (HXX.out _ (HR.out _ HwA.out)).2.1).mono ?_; rintro e wB ⟨rfl, hbwB⟩; have HwB := Lib.hid (below_new HwA.out hbwB); obtain ⟨x0, x1⟩ := HXC.out _ (HR.out _ HwB.out)))
    have HY := Lib.hid (HR.out _ HwB.out)
    have HR := Lib.hid (show ∀ W', Below wB.heap.size wB W' → Below wX.heap.size wX W' from fun _ h => below_new HY.out h)
    clear hbwA hbwB
    go_wp2
    go_region_held_law (fun w' => w'.cell? ⟨qx, 0, none⟩ = some (.slice abx bx.length cbx) ∧ w'.cell? ⟨qx, 1, none⟩ = some (.slice aex ex.length cex))
      (first
        | with_reducible exact HXC.out _ (HR.out _ (show Below wB.heap.size wB wB.drew from (Below.refl wB.heap.size wB).drew))
        | with_reducible exact ⟨x0, x1⟩)
      (first
        | (go_at_call 39; refine (IsTidy_implB wB.drew bx ex _ _ _ _ _ HBx.out (HXX.out _ (HR.out _ (show Below wB.heap.size wB wB.drew from (Below.refl wB.heap.size wB).drew))).1 (HXX.out _ (HR.out _ (show Below wB.heap.size wB wB.drew from (Below.refl wB.heap.size wB).drew))).2.1 (HXX.out _ (HR.out _ (show Below wB.heap.size wB wB.drew from (Below.refl wB.heap.size wB).drew))).2.2).mono ?_; rintro e wA2 ⟨rfl, hbwA2⟩; have HwA2 := Lib.hid (below_new (show Below wB.heap.size wB wB.drew from (Below.refl wB.heap.size wB).drew) hbwA2); obtain ⟨x0, x1⟩ := HXC.out _ (HR.out _ HwA2.out))
        | (go_at_call 40; refine (IsTidy_specB wA2 bx ex _ _ _ _ _ HBx.out (HXX.out _ (HR.out _ HwA2.out)).1 (HXX.out _ (HR.out _ HwA2.out)).2.1).mono ?_; rintro e wC ⟨rfl, hbwC⟩; have HwC := Lib.hid (below_new HwA2.out hbwC); obtain ⟨x0, x1⟩ := HXC.out _ (HR.out _ HwC.out)))
    all_goals
      have HZ := Lib.hid (HF.out.trans ((HR.out _ HwC.out).mono HF.out.size))
      go_wp2
      go_ret
      exact ⟨rfl, HZ.out⟩
  · obtain ⟨hv, ht⟩ : validB bs es = true ∧ isTm t = true := by simpa using hh
    have hV : Valid bs es := by simpa [validB] using hv
    obtain ⟨T, hT⟩ : ∃ T, accF bs t bs.length = T := ⟨_, rfl⟩
    have hE : factsV bs es t = .tuple #[.string T, .bool true] := by rw [factsV_yes hv ht, hT]
    have HE := Lib.hid (And.intro hE (And.intro (show factsV (tidW bs) es t = .tuple #[.string T, .bool true] by rw [tidW_facts hV ht, hE]) hV))
    have tT : (T.toList == T.toList) = true := by rw [toList_eq_iff]; exact decide_eq_true rfl
    clear hh hv ht hV hT hE
    go_wp2_with fail
    refine (FactsOf_implB _ bs es _ _ _ _ t _ _ HE.out.1 H0.out.1.b H0.out.1.e H0.out.2.1).mono ?_
    rintro e w2 ⟨rfl, hb2⟩
    have HQ2 := Lib.hid hb2
    have H2 := Lib.hid (HP.out _ hb2)
    obtain ⟨c0, c1⟩ := And.intro H2.out.1.c0 H2.out.1.c1
    clear hb2
    go_wp2_with fail
    refine (FactsOf_specB _ bs es _ _ _ _ t _ _ HE.out.1 H2.out.1.b H2.out.1.e).mono ?_
    rintro e w3 ⟨rfl, hb3⟩
    have HQ3 := Lib.hid (below_new HQ2.out hb3)
    have H3 := Lib.hid (HP.out _ HQ3.out)
    clear hb3 HQ2 H2 c0 c1
    go_wp2_with fail
    refine (DrawIsTidy_any w3 a2 n2 cap2 (HG.out.2.below H3.out.2.2)).mono ?_
    rintro e w4 ⟨bx, ex, abx, aex, cbx, cex, rfl, hSb, hSe, hPb, hPe, hb4⟩
    have hX := PAt.new abx aex cbx cex hPb hPe
    have hall : Below w.heap.size w (w4.alloc (.cells #[.slice abx bx.length cbx, .slice aex ex.length cex] 32)) := below_stepT H3.out.2.2 hb4 _
    have hQX : Below wP.heap.size wP (w4.alloc (.cells #[.slice abx bx.length cbx, .slice aex ex.length cex] 32)) := below_stepT HQ3.out hb4 _
    obtain ⟨b, hbx⟩ : ∃ b, isTidyV bx ex = b := ⟨_, rfl⟩
    have HBx := Lib.hid hbx
    obtain ⟨x0, x1⟩ := And.intro hX.c0 hX.c1
    clear hSb hSe hPb hPe hb4 hbx
    go_wp2
    generalize w4.alloc (.cells #[.slice abx bx.length cbx, .slice aex ex.length cex] 32) = wX at *
    generalize w4.heap.size = qx at *
    have HXX := Lib.hid (show ∀ W', Below wX.heap.size wX W' → (PairsAt W' abx bx ∧ PairsAt W' aex ex ∧ Errs W') from fun W' hB => ⟨(hX.below hB).b, (hX.below hB).e, HG.out.1.keep (hall.trans (hB.mono hall.size))⟩)
    have HXC := Lib.hid (show ∀ W', Below wX.heap.size wX W' → (W'.cell? ⟨qx, 0, none⟩ = some (.slice abx bx.length cbx) ∧ W'.cell? ⟨qx, 1, none⟩ = some (.slice aex ex.length cex)) from fun W' hB => ⟨(hX.below hB).c0, (hX.below hB).c1⟩)
    have HF := Lib.hid (And.intro hall hQX)
    have HR := Lib.hid (show ∀ W', Below wX.heap.size wX W' → Below wX.heap.size wX W' from fun _ h => h)
    clear hX hall hQX HQ3 H3 H0
    go_region_held_law (fun w' => w'.cell? ⟨qx, 0, none⟩ = some (.slice abx bx.length cbx) ∧ w'.cell? ⟨qx, 1, none⟩ = some (.slice aex ex.length cex))
      (first
        | with_reducible exact HXC.out _ (HR.out _ (show Below wX.heap.size wX wX.drew from (Below.refl wX.heap.size wX).drew))
        | with_reducible exact ⟨x0, x1⟩)
      (first
        | (go_at_call 39; refine (IsTidy_implB wX.drew bx ex _ _ _ _ _ HBx.out (HXX.out _ (HR.out _ (show Below wX.heap.size wX wX.drew from (Below.refl wX.heap.size wX).drew))).1 (HXX.out _ (HR.out _ (show Below wX.heap.size wX wX.drew from (Below.refl wX.heap.size wX).drew))).2.1 (HXX.out _ (HR.out _ (show Below wX.heap.size wX wX.drew from (Below.refl wX.heap.size wX).drew))).2.2).mono ?_; rintro e wA ⟨rfl, hbwA⟩; have HwA := Lib.hid (below_new (show Below wX.heap.size wX wX.drew from (Below.refl wX.heap.size wX).drew) hbwA); obtain ⟨x0, x1⟩ := HXC.out _ (HR.out _ HwA.out))
        | (go_at_call 40; refine (IsTidy_specB wA bx ex _ _ _ _ _ HBx.out (HXX.out _ (HR.out _ HwA.out)).1 (HXX.out _ (HR.out _ HwA.out)).2.1).mono ?_; rintro e wC ⟨rfl, hbwC⟩; have HwC := Lib.hid (below_new HwA.out hbwC); obtain ⟨x0, x1⟩ := HXC.out _ (HR.out _ HwC.out)))
    have HY := Lib.hid (below_new HF.out.2 (HR.out _ HwC.out))
    clear hbwA hbwC HwA HwC
    have H5 := Lib.hid (HP.out _ HY.out)
    obtain ⟨c0, c1⟩ := And.intro H5.out.1.c0 H5.out.1.c1
    clear x0 x1
    go_wp2_with fail
    refine (Tidy_implY wC bs es _ _ _ _ HE.out.2.2 H5.out.1.b H5.out.1.e H5.out.2.1).mono ?_
    rintro e w6 ⟨a6, d6, a6', d6', rfl, p6, p6', hb6⟩
    have hQ := PAt.new a6 a6' d6 d6' p6 p6'
    have hY6 : Below wP.heap.size wP (w6.alloc (.cells #[.slice a6 (tidW bs).length d6, .slice a6' es.length d6'] 32)) := below_stepT HY.out hb6 _
    obtain ⟨k0, k1⟩ := And.intro hQ.c0 hQ.c1
    have H6 := Lib.hid (And.intro hQ hY6)
    clear p6 p6' hb6 hQ hY6 c0 c1
    go_wp2_with fail
    generalize w6.alloc (.cells #[.slice a6 (tidW bs).length d6, .slice a6' es.length d6'] 32) = wQ at *
    generalize w6.heap.size = qq at *
    refine (FactsOf_implB wQ (tidW bs) es _ _ _ _ t _ _ HE.out.2.1 H6.out.1.b H6.out.1.e (HP.out _ H6.out.2).2.1).mono ?_
    rintro e w7 ⟨rfl, hb7⟩
    have HB7 := Lib.hid (below_new H6.out.2 hb7)
    have HQ7 := Lib.hid (H6.out.1.below hb7)
    have HQQ := Lib.hid (show ∀ W', Below w7.heap.size w7 W' → (PAt W' q ab ae cb ce bs es ∧ PAt W' qq a6 a6' d6 d6' (tidW bs) es ∧ Errs W') from fun W' hB => ⟨(HP.out _ (below_new HB7.out hB)).1, HQ7.out.below hB, (HP.out _ (below_new HB7.out hB)).2.1⟩)
    have HV := Lib.hid HE.out.2.2
    obtain ⟨c0, c1⟩ := And.intro (HQQ.out _ (Below.refl _ _)).1.c0 (HQQ.out _ (Below.refl _ _)).1.c1
    obtain ⟨k0, k1⟩ := And.intro HQ7.out.c0 HQ7.out.c1
    clear hb7
    have HQC := Lib.hid (show ∀ W', Below w7.heap.size w7 W' → (W'.cell? ⟨q, 0, none⟩ = some (.slice ab bs.length cb) ∧ W'.cell? ⟨q, 1, none⟩ = some (.slice ae es.length ce) ∧ W'.cell? ⟨qq, 0, none⟩ = some (.slice a6 (tidW bs).length d6) ∧ W'.cell? ⟨qq, 1, none⟩ = some (.slice a6' es.length d6')) from fun W' hB => ⟨(HQQ.out _ hB).1.c0, (HQQ.out _ hB).1.c1, (HQQ.out _ hB).2.1.c0, (HQQ.out _ hB).2.1.c1⟩)
    obtain ⟨bt, hbt⟩ : ∃ bt, isTidyV bs es = bt := ⟨_, rfl⟩
    have HTy := Lib.hid hbt
    clear hbt
    go_wp2
    go_region_held_law (fun w' => w'.cell? ⟨q, 0, none⟩ = some (.slice ab bs.length cb) ∧ w'.cell? ⟨q, 1, none⟩ = some (.slice ae es.length ce) ∧ w'.cell? ⟨qq, 0, none⟩ = some (.slice a6 (tidW bs).length d6) ∧ w'.cell? ⟨qq, 1, none⟩ = some (.slice a6' es.length d6'))
      (first
        | with_reducible exact HQC.out _ (show Below w7.heap.size w7 w7.drew from (Below.refl w7.heap.size w7).drew)
        | with_reducible exact ⟨c0, c1, k0, k1⟩)
      (first
        | (go_at_call 39; refine (IsTidy_implB w7.drew bs es _ _ _ _ _ HTy.out (HQQ.out _ (show Below w7.heap.size w7 w7.drew from (Below.refl w7.heap.size w7).drew)).1.b (HQQ.out _ (show Below w7.heap.size w7 w7.drew from (Below.refl w7.heap.size w7).drew)).1.e (HQQ.out _ (show Below w7.heap.size w7 w7.drew from (Below.refl w7.heap.size w7).drew)).2.2).mono ?_; rintro e wA ⟨rfl, hbwA⟩; have HwA := Lib.hid (below_new (show Below w7.heap.size w7 w7.drew from (Below.refl w7.heap.size w7).drew) hbwA); obtain ⟨c0, c1, k0, k1⟩ := HQC.out _ HwA.out)
        | (go_at_call 23; refine (owProg_tidyB wA bs es _ _ _ _ _ _ _ _ HV.out bt HTy.out (HQQ.out _ HwA.out).1.b (HQQ.out _ HwA.out).1.e (HQQ.out _ HwA.out).2.1.b (HQQ.out _ HwA.out).2.1.e).mono ?_; rintro e wC ⟨rfl, hbwC⟩; have HwC := Lib.hid (below_new HwA.out hbwC); obtain ⟨c0, c1, k0, k1⟩ := HQC.out _ HwC.out))
    all_goals
      have HZ := Lib.hid (HP.out _ (below_new HB7.out HwC.out)).2.2
      go_wp2
      go_ret
      exact ⟨rfl, HZ.out⟩
end Go.Proofs.YtngcmjfkeageiaaDoor
