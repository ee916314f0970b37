/-
  The walk of the law FnProgText. Conditions: what came in are bytes; the errors' variables hold errors; bytealg's MaxLen holds a number.
-/
import Derived.Test.YtngcmjfkeageiaaDoorRoundM
import Derived.Test.YtngcmjfkeageiaaDoorDrawP
import Derived.Test.YtngcmjfkeageiaaDoorDrawG
import Derived.Test.YtngcmjfkeageiaaDoorParseI
import Derived.Test.YtngcmjfkeageiaaDoorOwP
import Derived.Test.YtngcmjfkeageiaaDoorPValidI
import Derived.Deep.RegionHeldLaw
import Derived.Deep.CutRange
namespace Go.Proofs.YtngcmjfkeageiaaDoor
open Go.RowKit Go.Maps

theorem par_fmt {bs es : List Pr} : parOk (fmtV bs es) = validB bs es ∧ (validB bs es = true → parL (fmtV bs es) = bs ∧ parE (fmtV bs es) = es) := by
  cases hv : validB bs es
  · have hT : fmtV bs es = e0 := by unfold fmtV; rw [if_neg (by rw [hv]; simp)]
    refine ⟨?_, fun h => by cases h⟩
    rw [hT]
    unfold parOk
    have : partsB e0 = false := by decide
    rw [this]; rfl
  · obtain ⟨h1, h2, h3⟩ := fmt_read (show Valid bs es by simpa [validB] using hv)
    have hk : parOk (fmtV bs es) = true := by unfold parOk; rw [h1, h2, h3, hv]; rfl
    refine ⟨hk, fun _ => ?_⟩
    unfold parL parE
    rw [if_pos hk, if_pos hk]
    exact ⟨h2, h3⟩
theorem fmt_par {text : ByteArray} (h : parOk text = true) : fmtV (parL text) (parE text) = text := by
  obtain ⟨h1, h2⟩ := (parOk_iff text).1 h
  unfold parL parE
  rw [if_pos h, if_pos h]
  exact read_fmt h1 h2
/-- ParseProg's answer in memory -/
def ParsR (w : World) (ok : Bool) (L E : List Pr) (e : Ending) (w' : World) : Prop := ∃ a c a' c', e = .returned (.tuple #[.agg #[.slice a L.length c, .slice a' E.length c'], .bool ok]) ∧ PairsAt w' a L ∧ PairsAt w' a' E ∧ Below w.heap.size w w'
theorem ParsR.of {w w' : World} {text : ByteArray} {e : Ending} {ok : Bool} {L E : List Pr} (h1 : parOk text = ok) (h2 : parL text = L) (h3 : parE text = E) (hs : text.size ≤ 1048576) (h : ParsePost w text e w') : ParsR w ok L E e w' := by
  subst h1 h2 h3
  obtain ⟨hb, a, c, a', c', rfl, hR⟩ := h.res
  have hz := par_small hs
  obtain ⟨p1, p2⟩ := hR.pairs hz.1.1 hz.1.2 hz.2.1 hz.2.2
  exact ⟨a, c, a', c', rfl, p1, p2, hb⟩
section
variable (w : World) (bs es : List Pr) (ab ae : Option Addr) (cb ce : Nat)
theorem FormatProg_implB (T : ByteArray) (h : fmtV bs es = T) (hpb : PairsAt w ab bs) (hpe : PairsAt w ae es) (hg : Errs w) :
    Calls Tryd.prog 28 #[.agg #[.slice ab bs.length cb, .slice ae es.length ce]] w fun e w' => e = .returned (.string T) ∧ Below w.heap.size w w' := by
  subst h; exact FormatProg_impl w bs es ab ae cb ce hpb hpe hg
theorem FormatProg_specB (T : ByteArray) (h : fmtV bs es = T) (hpb : PairsAt w ab bs) (hpe : PairsAt w ae es) :
    Calls Tryd.prog 31 #[.agg #[.slice ab bs.length cb, .slice ae es.length ce]] w fun e w' => e = .returned (.string T) ∧ Below w.heap.size w w' := by
  subst h; exact FormatProg_spec w bs es ab ae cb ce hpb hpe
theorem ProgValid_implP (b : Bool) (h : validB bs es = b) (hpb : PairsAt w ab bs) (hpe : PairsAt w ae es) (hg : Errs w) :
    Calls Tryd.prog 26 #[.agg #[.slice ab bs.length cb, .slice ae es.length ce]] w fun e w' => e = .returned (.bool b) ∧ Below w.heap.size w w' := by
  subst h; exact ProgValid_impl w bs es ab ae cb ce hpb hpe hg
theorem ProgValid_specP (b : Bool) (h : validB bs es = b) (hpb : PairsAt w ab bs) (hpe : PairsAt w ae es) :
    Calls Tryd.prog 32 #[.agg #[.slice ab bs.length cb, .slice ae es.length ce]] w fun e w' => e = .returned (.bool b) ∧ Below w.heap.size w w' := by
  subst h; exact ProgValid_spec w bs es ab ae cb ce hpb hpe
theorem owProg_sameP (bs' es' : List Pr) (ab' ae' : Option Addr) (cb' ce' : Nat) (h1 : bs = bs') (h2 : es = es') (hb : PairsAt w ab bs) (he : PairsAt w ae es) (hb' : PairsAt w ab' bs') (he' : PairsAt w ae' es') :
    Calls Tryd.prog 23 #[.agg #[.slice ab bs.length cb, .slice ae es.length ce], .agg #[.slice ab' bs'.length cb', .slice ae' es'.length ce']] w fun e w' => e = .returned (.bool true) ∧ Below w.heap.size w w' :=
  (owProg_any w bs es bs' es' ab ae ab' ae' cb ce cb' ce' hb he hb' he').mono fun e w' h => ⟨by rw [h.1, sameL_yes h1, sameL_yes h2]; rfl, h.2⟩
end
theorem below_stepP {w w1 w2 : World} (h : Below w.heap.size w w1) (hb : Below w1.heap.size w1 w2) (o : Obj) : Below w.heap.size w (w2.alloc o) := by
  have h1 := h.trans (hb.mono h.size)
  exact h1.alloc h1.size o

set_option maxRecDepth 100000 in
set_option maxHeartbeats 12800000 in
theorem LawFnProgText_any (w : World) (a : Option Addr) (n cap : Nat) (a2 : Option Addr) (n2 cap2 : Nat) (hby : BytesRaw w a n cap) (hby2 : BytesRaw w a2 n2 cap2) (hg : Errs w) (hc : ErrAt w 2) (hm : MaxAt w) :
    Calls Tryd.prog 6 #[.slice a n cap, .slice a2 n2 cap2] w fun e w' => e = .returned (.bool true) ∧ Below w.heap.size w w' := by
  go_enter Tryd.func6, Tryd.ntmps6
  by_cases hL : (1048576 : Int) < (n : Int)
  · go_wp2
    go_ret
    exact ⟨rfl, Below.refl _ _⟩
  by_cases hL2 : (1048576 : Int) < (n2 : Int)
  · go_wp2
    go_ret
    exact ⟨rfl, Below.refl _ _⟩
  have HG := Lib.hid (show ∀ W', Below w.heap.size w W' → (Errs W' ∧ ErrAt W' 2 ∧ MaxAt W' ∧ BytesRaw W' a2 n2 cap2) from fun W' hB => ⟨hg.keep hB, hc.keep hB, hm.keep hB, hby2.below hB⟩)
  clear hg hc hm hby2
  go_wp2_with fail
  refine (DrawFormatProg_any w a n cap hby).mono ?_
  rintro e w1 ⟨bs, es, ab, ae, cb, ce, rfl, hSb, hSe, hPb, hPe, hb1⟩
  have hP := PAt.new ab ae cb ce hPb hPe
  have hall : Below w.heap.size w (w1.alloc (.cells #[.slice ab bs.length cb, .slice ae es.length ce] 32)) := hb1.alloc hb1.size _
  obtain ⟨c0, c1⟩ := And.intro hP.c0 hP.c1
  have H1 := Lib.hid (And.intro hP hall)
  clear hPb hPe hb1 hSb hSe hby hP hall
  go_wp2_with fail
  generalize w1.alloc (.cells #[.slice ab bs.length cb, .slice ae es.length ce] 32) = wP at *
  generalize w1.heap.size = q at *
  obtain ⟨v, hv⟩ : ∃ v, validB bs es = v := ⟨_, rfl⟩
  obtain ⟨T, hT⟩ : ∃ T, fmtV bs es = T := ⟨_, rfl⟩
  obtain ⟨L, hL'⟩ : ∃ L, parL T = L := ⟨_, rfl⟩
  obtain ⟨E, hE'⟩ : ∃ E, parE T = E := ⟨_, rfl⟩
  have hTz : T.size ≤ 300 := by
    cases v
    · rw [← hT]; unfold fmtV; rw [if_neg (by rw [hv]; simp)]; decide
    · rw [← hT]; exact (fmtV_size (show Valid bs es by simpa [validB] using hv)).2
  have HV := Lib.hid (show validB bs es = v ∧ fmtV bs es = T ∧ parOk T = v ∧ parL T = L ∧ parE T = E ∧ (v = true → L = bs ∧ E = es) ∧ T.size ≤ 1048576 from ⟨hv, hT, by rw [← hT, par_fmt.1, hv], hL', hE', fun h => by rw [← hL', ← hE', ← hT]; exact par_fmt.2 (by rw [hv, h]), by omega⟩)
  clear hv hT hL' hE'
  refine (FormatProg_implB wP bs es _ _ _ _ T HV.out.2.1 H1.out.1.b H1.out.1.e (HG.out _ H1.out.2).1).mono ?_
  rintro e w2 ⟨rfl, hb2⟩
  have H2 := Lib.hid (And.intro (H1.out.1.below hb2) (H1.out.2.trans (hb2.mono H1.out.2.size)))
  clear hb2 H1 c0 c1
  go_wp2_with fail
  refine (((ParseProg_impl w2 T HV.out.2.2.2.2.2.2 (HG.out _ H2.out.2).1 (HG.out _ H2.out.2).2.1 (HG.out _ H2.out.2).2.2.1)).mono fun e w' h => ParsR.of HV.out.2.2.1 HV.out.2.2.2.1 HV.out.2.2.2.2.1 HV.out.2.2.2.2.2.2 h).mono ?_
  rintro e w3 ⟨a3, d3, a3', d3', rfl, p3, p3', hb3⟩
  have hQ := PAt.new a3 a3' d3 d3' p3 p3'
  have hW : Below w2.heap.size w2 (w3.alloc (.cells #[.slice a3 L.length d3, .slice a3' E.length d3'] 32)) := below_stepP (Below.refl _ _) hb3 _
  have H3 := Lib.hid (And.intro hQ (And.intro (H2.out.1.below hW) (H2.out.2.trans (hW.mono H2.out.2.size))))
  clear p3 p3' hb3 hQ hW H2
  go_wp2_with fail
  generalize w3.alloc (.cells #[.slice a3 L.length d3, .slice a3' E.length d3'] 32) = wA at *
  generalize w3.heap.size = qa at *
  refine (DrawProgValid_any wA a2 n2 cap2 (HG.out _ H3.out.2.2).2.2.2).mono ?_
  rintro e w4 ⟨bx, ex, abx, aex, cbx, cex, rfl, hSb, hSe, hPb, hPe, hb4⟩
  have hX := PAt.new abx aex cbx cex hPb hPe
  have hW : Below wA.heap.size wA (w4.alloc (.cells #[.slice abx bx.length cbx, .slice aex ex.length cex] 32)) := below_stepP (Below.refl _ _) hb4 _
  have H4 := Lib.hid (And.intro hX (And.intro (H3.out.1.below hW) (And.intro (H3.out.2.1.below hW) (H3.out.2.2.trans (hW.mono H3.out.2.2.size)))))
  obtain ⟨vx, hvx⟩ : ∃ vx, validB bx ex = vx := ⟨_, rfl⟩
  have HX := Lib.hid hvx
  clear hSb hSe hPb hPe hb4 hX hW H3 hvx
  go_upto_region 7 with fail
  generalize w4.alloc (.cells #[.slice abx bx.length cbx, .slice aex ex.length cex] 32) = wX at *
  generalize w4.heap.size = qx at *
  have HC := Lib.hid (show ∀ W', Below wX.heap.size wX W' → (PAt W' q ab ae cb ce bs es ∧ PAt W' qa a3 a3' d3 d3' L E ∧ PAt W' qx abx aex cbx cex bx ex ∧ Errs W' ∧ Below w.heap.size w W') from fun W' hB => ⟨H4.out.2.2.1.below hB, H4.out.2.1.below hB, H4.out.1.below hB, (HG.out _ (H4.out.2.2.2.trans (hB.mono H4.out.2.2.2.size))).1, H4.out.2.2.2.trans (hB.mono H4.out.2.2.2.size)⟩)
  have HS := Lib.hid (show ∀ W', Below wX.heap.size wX W' → (W'.cell? ⟨q, 0, none⟩ = some (.slice ab bs.length cb) ∧ W'.cell? ⟨q, 1, none⟩ = some (.slice ae es.length ce) ∧ W'.cell? ⟨qa, 0, none⟩ = some (.slice a3 L.length d3) ∧ W'.cell? ⟨qa, 1, none⟩ = some (.slice a3' E.length d3') ∧ W'.cell? ⟨qx, 0, none⟩ = some (.slice abx bx.length cbx) ∧ W'.cell? ⟨qx, 1, none⟩ = some (.slice aex ex.length cex)) from fun W' hB => ⟨(HC.out _ hB).1.c0, (HC.out _ hB).1.c1, (HC.out _ hB).2.1.c0, (HC.out _ hB).2.1.c1, (HC.out _ hB).2.2.1.c0, (HC.out _ hB).2.2.1.c1⟩)
  have tt : (T.toList == T.toList) = true := by rw [toList_eq_iff]; exact decide_eq_true rfl
  obtain ⟨m0, m1, m2, m3, m4, m5⟩ := HS.out _ (Below.refl _ _)
  clear H4
  cases v
  · go_wp2
    go_region_law (go_simp; first
        | (go_at_call 31; refine (FormatProg_specB wX.drew bs es _ _ _ _ T HV.out.2.1 (HC.out _ (show Below wX.heap.size wX wX.drew from (Below.refl wX.heap.size wX).drew)).1.b (HC.out _ (show Below wX.heap.size wX wX.drew from (Below.refl wX.heap.size wX).drew)).1.e).mono ?_; rintro e wa ⟨rfl, hba⟩; have Ha := Lib.hid (below_new (show Below wX.heap.size wX wX.drew from (Below.refl wX.heap.size wX).drew) hba); obtain ⟨m0, m1, m2, m3, m4, m5⟩ := HS.out _ Ha.out)
        | (go_at_call 26; (with_reducible show Calls _ _ #[Value.agg #[Value.slice abx _ _, _]] _ _); refine (ProgValid_implP wa bx ex _ _ _ _ vx HX.out (HC.out _ Ha.out).2.2.1.b (HC.out _ Ha.out).2.2.1.e (HC.out _ Ha.out).2.2.2.1).mono ?_; rintro e wb ⟨rfl, hbb⟩; have Hb := Lib.hid (below_new Ha.out hbb); obtain ⟨m0, m1, m2, m3, m4, m5⟩ := HS.out _ Hb.out)
        | (go_at_call 32; refine (ProgValid_specP wb bx ex _ _ _ _ vx HX.out (HC.out _ Hb.out).2.2.1.b (HC.out _ Hb.out).2.2.1.e).mono ?_; rintro e wc ⟨rfl, hbc⟩; have Hc := Lib.hid (below_new Hb.out hbc); obtain ⟨m0, m1, m2, m3, m4, m5⟩ := HS.out _ Hc.out)
        | (go_at_call 26; (with_reducible show Calls _ _ #[Value.agg #[Value.slice ab _ _, _]] _ _); refine (ProgValid_implP wc bs es _ _ _ _ _ HV.out.1 (HC.out _ Hc.out).1.b (HC.out _ Hc.out).1.e (HC.out _ Hc.out).2.2.2.1).mono ?_; rintro e wd ⟨rfl, hbd⟩; have Hd := Lib.hid (below_new Hc.out hbd); obtain ⟨m0, m1, m2, m3, m4, m5⟩ := HS.out _ Hd.out))
    all_goals
      have hbW := (HC.out _ Hd.out).2.2.2.2
      have HW := Lib.hid hbW
      clear m0 m1 m2 m3 m4 m5 hbW
      go_wp2_with fail
      refine (DrawParseProg_any wd a2 n2 cap2 (HG.out _ HW.out).2.2.2).mono ?_
      rintro e w5 ⟨X, rfl, hXs, hb5⟩
      have H5 := Lib.hid (HW.out.trans (hb5.mono HW.out.size))
      obtain ⟨k, hk⟩ : ∃ k, parOk X = k := ⟨_, rfl⟩
      obtain ⟨L2, hL2'⟩ : ∃ L2, parL X = L2 := ⟨_, rfl⟩
      obtain ⟨E2, hE2'⟩ : ∃ E2, parE X = E2 := ⟨_, rfl⟩
      have HX2 := Lib.hid (show parOk X = k ∧ parL X = L2 ∧ parE X = E2 ∧ X.size ≤ 1048576 ∧ (k = true → fmtV L2 E2 = X) from ⟨hk, hL2', hE2', by omega, fun h => by rw [← hL2', ← hE2']; exact fmt_par (by rw [hk, h])⟩)
      clear hk hL2' hE2' hb5 HW
      go_wp2_with fail
      refine (((ParseProg_impl w5 X HX2.out.2.2.2.1 (HG.out _ H5.out).1 (HG.out _ H5.out).2.1 (HG.out _ H5.out).2.2.1)).mono fun e w' h => ParsR.of HX2.out.1 HX2.out.2.1 HX2.out.2.2.1 HX2.out.2.2.2.1 h).mono ?_
      rintro e w6 ⟨a6, d6, a6', d6', rfl, p6, p6', hb6⟩
      have hQ := PAt.new a6 a6' d6 d6' p6 p6'
      have hW : Below w.heap.size w (w6.alloc (.cells #[.slice a6 L2.length d6, .slice a6' E2.length d6'] 32)) := below_stepP H5.out hb6 _
      have H6 := Lib.hid (And.intro hQ hW)
      clear p6 p6' hb6 hQ hW H5
      go_wp2_with fail
      generalize w6.alloc (.cells #[.slice a6 L2.length d6, .slice a6' E2.length d6'] 32) = wB at *
      generalize w6.heap.size = qb at *
      refine ((ParseProg_spec wB X HX2.out.2.2.2.1).mono fun e w' h => ParsR.of HX2.out.1 HX2.out.2.1 HX2.out.2.2.1 HX2.out.2.2.2.1 h).mono ?_
      rintro e w7 ⟨a7, d7, a7', d7', rfl, p7, p7', hb7⟩
      have hR := PAt.new a7 a7' d7 d7' p7 p7'
      have hW : Below wB.heap.size wB (w7.alloc (.cells #[.slice a7 L2.length d7, .slice a7' E2.length d7'] 32)) := below_stepP (Below.refl _ _) hb7 _
      have hQ := H6.out.1.below hW
      obtain ⟨n0, n1⟩ := And.intro hQ.c0 hQ.c1
      obtain ⟨o0, o1⟩ := And.intro hR.c0 hR.c1
      have H7 := Lib.hid (And.intro hR (And.intro hQ (H6.out.2.trans (hW.mono H6.out.2.size))))
      clear p7 p7' hb7 hR hQ hW H6
      go_wp2_with fail
      generalize w7.alloc (.cells #[.slice a7 L2.length d7, .slice a7' E2.length d7'] 32) = wC at *
      generalize w7.heap.size = qc at *
      refine (owProg_sameP wC L2 E2 _ _ _ _ L2 E2 _ _ _ _ rfl rfl H7.out.2.1.b H7.out.2.1.e H7.out.1.b H7.out.1.e).mono ?_
      rintro e w8 ⟨rfl, hb8⟩
      have hQ := H7.out.2.1.below hb8
      obtain ⟨n0, n1⟩ := And.intro hQ.c0 hQ.c1
      have H8 := Lib.hid (And.intro hQ (H7.out.2.2.trans (hb8.mono H7.out.2.2.size)))
      clear hb8 hQ H7 o0 o1
      cases k
      · go_wp2
        go_ret
        exact ⟨rfl, H8.out.2⟩
      · go_wp2_with fail
        refine (FormatProg_implB w8 L2 E2 _ _ _ _ X (HX2.out.2.2.2.2 (by simp)) H8.out.1.b H8.out.1.e (HG.out _ H8.out.2).1).mono ?_
        rintro e w9 ⟨rfl, hb9⟩
        have HZ := Lib.hid (H8.out.2.trans (hb9.mono H8.out.2.size))
        have t2 : (X.toList == X.toList) = true := by rw [toList_eq_iff]; exact decide_eq_true rfl
        clear hb9 H8
        go_wp2
        go_ret
        exact ⟨rfl, HZ.out⟩
  · have HLE := Lib.hid (HV.out.2.2.2.2.2.1 rfl)
    go_wp2
    go_region_held_law (fun w' => w'.cell? ⟨q, 0, none⟩ = some (.slice ab bs.length cb) ∧ w'.cell? ⟨q, 1, none⟩ = some (.slice ae es.length ce) ∧ w'.cell? ⟨qa, 0, none⟩ = some (.slice a3 L.length d3) ∧ w'.cell? ⟨qa, 1, none⟩ = some (.slice a3' E.length d3') ∧ w'.cell? ⟨qx, 0, none⟩ = some (.slice abx bx.length cbx) ∧ w'.cell? ⟨qx, 1, none⟩ = some (.slice aex ex.length cex))
      (first
        | with_reducible exact HS.out _ (show Below wX.heap.size wX wX.drew from (Below.refl wX.heap.size wX).drew)
        | with_reducible exact ⟨m0, m1, m2, m3, m4, m5⟩)
      (first
        | (go_at_call 31; refine (FormatProg_specB wX.drew bs es _ _ _ _ T HV.out.2.1 (HC.out _ (show Below wX.heap.size wX wX.drew from (Below.refl wX.heap.size wX).drew)).1.b (HC.out _ (show Below wX.heap.size wX wX.drew from (Below.refl wX.heap.size wX).drew)).1.e).mono ?_; rintro e wa ⟨rfl, hba⟩; have Ha := Lib.hid (below_new (show Below wX.heap.size wX wX.drew from (Below.refl wX.heap.size wX).drew) hba); obtain ⟨m0, m1, m2, m3, m4, m5⟩ := HS.out _ Ha.out)
        | (go_at_call 26; (with_reducible show Calls _ _ #[Value.agg #[Value.slice abx _ _, _]] _ _); refine (ProgValid_implP wa bx ex _ _ _ _ vx HX.out (HC.out _ Ha.out).2.2.1.b (HC.out _ Ha.out).2.2.1.e (HC.out _ Ha.out).2.2.2.1).mono ?_; rintro e wb ⟨rfl, hbb⟩; have Hb := Lib.hid (below_new Ha.out hbb); obtain ⟨m0, m1, m2, m3, m4, m5⟩ := HS.out _ Hb.out)
        | (go_at_call 32; refine (ProgValid_specP wb bx ex _ _ _ _ vx HX.out (HC.out _ Hb.out).2.2.1.b (HC.out _ Hb.out).2.2.1.e).mono ?_; rintro e wc ⟨rfl, hbc⟩; have Hc := Lib.hid (below_new Hb.out hbc); obtain ⟨m0, m1, m2, m3, m4, m5⟩ := HS.out _ Hc.out)
        | (go_at_call 26; (with_reducible show Calls _ _ #[Value.agg #[Value.slice ab _ _, _]] _ _); refine (ProgValid_implP wc bs es _ _ _ _ _ HV.out.1 (HC.out _ Hc.out).1.b (HC.out _ Hc.out).1.e (HC.out _ Hc.out).2.2.2.1).mono ?_; rintro e wd ⟨rfl, hbd⟩; have Hd := Lib.hid (below_new Hc.out hbd); obtain ⟨m0, m1, m2, m3, m4, m5⟩ := HS.out _ Hd.out)
        | (go_at_call 23; refine (owProg_sameP wd L E _ _ _ _ bs es _ _ _ _ HLE.out.1 HLE.out.2 (HC.out _ Hd.out).2.1.b (HC.out _ Hd.out).2.1.e (HC.out _ Hd.out).1.b (HC.out _ Hd.out).1.e).mono ?_; rintro e we ⟨rfl, hbe⟩; have He := Lib.hid (below_new Hd.out hbe); obtain ⟨m0, m1, m2, m3, m4, m5⟩ := HS.out _ He.out))
    all_goals
      have hbW := (HC.out _ He.out).2.2.2.2
      have HW := Lib.hid hbW
      clear m0 m1 m2 m3 m4 m5 hbW
      go_wp2_with fail
      refine (DrawParseProg_any we a2 n2 cap2 (HG.out _ HW.out).2.2.2).mono ?_
      rintro e w5 ⟨X, rfl, hXs, hb5⟩
      have H5 := Lib.hid (HW.out.trans (hb5.mono HW.out.size))
      obtain ⟨k, hk⟩ : ∃ k, parOk X = k := ⟨_, rfl⟩
      obtain ⟨L2, hL2'⟩ : ∃ L2, parL X = L2 := ⟨_, rfl⟩
      obtain ⟨E2, hE2'⟩ : ∃ E2, parE X = E2 := ⟨_, rfl⟩
      have HX2 := Lib.hid (show parOk X = k ∧ parL X = L2 ∧ parE X = E2 ∧ X.size ≤ 1048576 ∧ (k = true → fmtV L2 E2 = X) from ⟨hk, hL2', hE2', by omega, fun h => by rw [← hL2', ← hE2']; exact fmt_par (by rw [hk, h])⟩)
      clear hk hL2' hE2' hb5 HW
      go_wp2_with fail
      refine (((ParseProg_impl w5 X HX2.out.2.2.2.1 (HG.out _ H5.out).1 (HG.out _ H5.out).2.1 (HG.out _ H5.out).2.2.1)).mono fun e w' h => ParsR.of HX2.out.1 HX2.out.2.1 HX2.out.2.2.1 HX2.out.2.2.2.1 h).mono ?_
      rintro e w6 ⟨a6, d6, a6', d6', rfl, p6, p6', hb6⟩
      have hQ := PAt.new a6 a6' d6 d6' p6 p6'
      have hW : Below w.heap.size w (w6.alloc (.cells #[.slice a6 L2.length d6, .slice a6' E2.length d6'] 32)) := below_stepP H5.out hb6 _
      have H6 := Lib.hid (And.intro hQ hW)
      clear p6 p6' hb6 hQ hW H5
      go_wp2_with fail
      generalize w6.alloc (.cells #[.slice a6 L2.length d6, .slice a6' E2.length d6'] 32) = wB at *
      generalize w6.heap.size = qb at *
      refine ((ParseProg_spec wB X HX2.out.2.2.2.1).mono fun e w' h => ParsR.of HX2.out.1 HX2.out.2.1 HX2.out.2.2.1 HX2.out.2.2.2.1 h).mono ?_
      rintro e w7 ⟨a7, d7, a7', d7', rfl, p7, p7', hb7⟩
      have hR := PAt.new a7 a7' d7 d7' p7 p7'
      have hW : Below wB.heap.size wB (w7.alloc (.cells #[.slice a7 L2.length d7, .slice a7' E2.length d7'] 32)) := below_stepP (Below.refl _ _) hb7 _
      have hQ := H6.out.1.below hW
      obtain ⟨n0, n1⟩ := And.intro hQ.c0 hQ.c1
      obtain ⟨o0, o1⟩ := And.intro hR.c0 hR.c1
      have H7 := Lib.hid (And.intro hR (And.intro hQ (H6.out.2.trans (hW.mono H6.out.2.size))))
      clear p7 p7' hb7 hR hQ hW H6
      go_wp2_with fail
      generalize w7.alloc (.cells #[.slice a7 L2.length d7, .slice a7' E2.length d7'] 32) = wC at *
      generalize w7.heap.size = qc at *
      refine (owProg_sameP wC L2 E2 _ _ _ _ L2 E2 _ _ _ _ rfl rfl H7.out.2.1.b H7.out.2.1.e H7.out.1.b H7.out.1.e).mono ?_
      rintro e w8 ⟨rfl, hb8⟩
      have hQ := H7.out.2.1.below hb8
      obtain ⟨n0, n1⟩ := And.intro hQ.c0 hQ.c1
      have H8 := Lib.hid (And.intro hQ (H7.out.2.2.trans (hb8.mono H7.out.2.2.size)))
      clear hb8 hQ H7 o0 o1
      cases k
      · go_wp2
        go_ret
        exact ⟨rfl, H8.out.2⟩
      · go_wp2_with fail
        refine (FormatProg_implB w8 L2 E2 _ _ _ _ X (HX2.out.2.2.2.2 (by simp)) H8.out.1.b H8.out.1.e (HG.out _ H8.out.2).1).mono ?_
        rintro e w9 ⟨rfl, hb9⟩
        have HZ := Lib.hid (H8.out.2.trans (hb9.mono H8.out.2.size))
        have t2 : (X.toList == X.toList) = true := by rw [toList_eq_iff]; exact decide_eq_true rfl
        clear hb9 H8
        go_wp2
        go_ret
        exact ⟨rfl, HZ.out⟩
end Go.Proofs.YtngcmjfkeageiaaDoor
