import Derived.Test.YtngcmjfkeageiaaDoorSwV
import Derived.Test.YtngcmjfkeageiaaDoorSwX
import Derived.Test.YtngcmjfkeageiaaDoorSwG
import Derived.Test.YtngcmjfkeageiaaDoorTmH
import Derived.Deep.CutRange
section
/-
  SwapTerms at values known; which terms a swapped program computes. Conditions: pairs that stand; the errors' variables hold errors.
-/
namespace Go.Proofs.YtngcmjfkeageiaaDoor
open Go.RowKit Go.Maps

/-- SwapTerms of a valid program and two terms -/
def SwYes (w : World) (bs es : List Pr) (t u : Nat) (e : Ending) (w' : World) : Prop := ∃ a c a' c', e = .returned (.tuple #[.agg #[.slice a (swA bs t u).length c, .slice a' es.length c'], .bool true]) ∧ PairsAt w' a (swA bs t u) ∧ PairsAt w' a' es ∧ Below w.heap.size w w'
theorem Valid.smallW {bs es : List Pr} (hV : Valid bs es) : bs.length ≤ 1048576 ∧ ∀ i, i < bs.length → (nameAt bs i).size ≤ 1048576 ∧ (restAt bs i).size ≤ 1048576 := by
  refine ⟨by have := hV.b.hi; omega, fun i hi => ?_⟩
  have h1 := hV.b.nm _ (pair_mem hi)
  have h2 : (restAt bs i).size ≤ 6 := (hV.b.op _ (pair_mem hi)).1
  unfold isNm at h1
  simp only [Bool.and_eq_true, beq_iff_eq] at h1
  exact ⟨by have := h1.1; omega, by omega⟩
theorem swRes_yes {w : World} {bs es : List Pr} {x y : ByteArray} {e : Ending} {w' : World} (hV : Valid bs es) (hx : isTm x = true) (hy : isTm y = true) (he : es.length ≤ 1048576 ∧ ∀ i, i < es.length → (nameAt es i).size ≤ 1048576 ∧ (restAt es i).size ≤ 1048576) (h : ProgRes w (swOk bs es x y) (swRL bs es x y) (swRE bs es x y) e w') : SwYes w bs es (byteAt x 0) (byteAt y 0) e w' := by
  rw [swOk_yes hV hx hy, swRL_yes hV hx hy, swRE_yes hV hx hy] at h
  obtain ⟨hb, a, c, a', c', rfl, hR⟩ := h
  have hs := (hV.swap (isTm_low hx) (isTm_low hy)).smallW
  obtain ⟨p1, p2⟩ := hR.pairs hs.1 hs.2 he.1 he.2
  exact ⟨a, c, a', c', rfl, p1, p2, hb⟩
section
variable (w : World) (bs es : List Pr) (ab ae : Option Addr) (cb ce : Nat)
theorem Swap_implY (x y : ByteArray) (t u : Nat) (hV : Valid bs es) (hx : isTm x = true) (hy : isTm y = true) (ht : byteAt x 0 = t) (hu : byteAt y 0 = u) (hpb : PairsAt w ab bs) (hpe : PairsAt w ae es) (hg : Errs w) :
    Calls Tryd.prog 21 #[.agg #[.slice ab bs.length cb, .slice ae es.length ce], .string x, .string y] w (SwYes w bs es t u) := by
  subst ht hu
  exact (SwapTerms_impl w bs es ab ae cb ce x y (by rw [isTm_size hx]; decide) (by rw [isTm_size hy]; decide) hpb hpe hg).mono fun _ _ h => swRes_yes hV hx hy ⟨hpe.len, hpe.size⟩ h
theorem Swap_specY (x y : ByteArray) (t u : Nat) (hV : Valid bs es) (hx : isTm x = true) (hy : isTm y = true) (ht : byteAt x 0 = t) (hu : byteAt y 0 = u) (hpb : PairsAt w ab bs) (hpe : PairsAt w ae es) :
    Calls Tryd.prog 22 #[.agg #[.slice ab bs.length cb, .slice ae es.length ce], .string x, .string y] w (SwYes w bs es t u) := by
  subst ht hu
  exact (SwapTerms_spec w bs es ab ae cb ce x y (by rw [isTm_size hx]; decide) (by rw [isTm_size hy]; decide) hpb hpe).mono fun _ _ h => swRes_yes hV hx hy ⟨hpe.len, hpe.size⟩ h
/-- SwapTerms of what is no program -/
def SwNo (w : World) (e : Ending) (w' : World) : Prop := ∃ a c a' c', e = .returned (.tuple #[.agg #[.slice a 0 c, .slice a' 0 c'], .bool false]) ∧ Below w.heap.size w w'
theorem swRes_no {w : World} {bs es : List Pr} {x y : ByteArray} {e : Ending} {w' : World} (hn : swOk bs es x y = false) (h : ProgRes w (swOk bs es x y) (swRL bs es x y) (swRE bs es x y) e w') : SwNo w e w' := by
  rw [(swNo hn).1, (swNo hn).2, hn] at h
  obtain ⟨hb, a, c, a', c', rfl, _⟩ := h
  exact ⟨a, c, a', c', rfl, hb⟩
theorem Swap_implN (x y : ByteArray) (hn : swOk bs es x y = false) (hx : x.size ≤ 1048576) (hy : y.size ≤ 1048576) (hpb : PairsAt w ab bs) (hpe : PairsAt w ae es) (hg : Errs w) :
    Calls Tryd.prog 21 #[.agg #[.slice ab bs.length cb, .slice ae es.length ce], .string x, .string y] w (SwNo w) :=
  (SwapTerms_impl w bs es ab ae cb ce x y hx hy hpb hpe hg).mono fun _ _ h => swRes_no hn h
theorem Swap_specN (x y : ByteArray) (hn : swOk bs es x y = false) (hx : x.size ≤ 1048576) (hy : y.size ≤ 1048576) (hpb : PairsAt w ab bs) (hpe : PairsAt w ae es) :
    Calls Tryd.prog 22 #[.agg #[.slice ab bs.length cb, .slice ae es.length ce], .string x, .string y] w (SwNo w) :=
  (SwapTerms_spec w bs es ab ae cb ce x y hx hy hpb hpe).mono fun _ _ h => swRes_no hn h
theorem owProg_same (bs' es' : List Pr) (ab' ae' : Option Addr) (cb' ce' : Nat) (h1 : bs = bs') (h2 : es = es') (hb : PairsAt w ab bs) (he : PairsAt w ae es) (hb' : PairsAt w ab' bs') (he' : PairsAt w ae' es') :
    Calls Tryd.prog 23 #[.agg #[.slice ab bs.length cb, .slice ae es.length ce], .agg #[.slice ab' bs'.length cb', .slice ae' es'.length ce']] w fun e w' => e = .returned (.bool true) ∧ Below w.heap.size w w' :=
  (owProg_any w bs es bs' es' ab ae ab' ae' cb ce cb' ce' hb he hb' he').mono fun e w' h => ⟨by rw [h.1, sameL_yes h1, sameL_yes h2]; rfl, h.2⟩
theorem ProgValid_implB (b : Bool) (h : validB bs es = b) (hpb : PairsAt w ab bs) (hpe : PairsAt w ae es) (hg : Errs w) :
    Calls Tryd.prog 26 #[.agg #[.slice ab bs.length cb, .slice ae es.length ce]] w fun e w' => e = .returned (.bool b) ∧ Below w.heap.size w w' := by
  subst h; exact ProgValid_impl w bs es ab ae cb ce hpb hpe hg
end
/-- a program that a law holds, in a later world -/
theorem PAt.step {w w' : World} {q : Nat} {ab ae : Option Addr} {cb ce : Nat} {bs es : List Pr} (h : PAt w q ab ae cb ce bs es) (hb : Below w.heap.size w w') (o : Obj) : PAt (w'.alloc o) q ab ae cb ce bs es := (h.below hb).below ((Below.refl _ _).alloc (Nat.le_refl _) _)
theorem below_step {w w1 w2 : World} (h : Below w.heap.size w w1) (hb : Below w1.heap.size w1 w2) (o : Obj) : Below w.heap.size w (w2.alloc o) := by
  have h1 := h.trans (hb.mono h.size)
  exact h1.alloc h1.size o

theorem swB_hitT {v t u c : Nat} (hv : lowB v = true) (ht : lowB t = true) (hu : lowB u = true) (hc : opB c = true) : (swB t u c = othN v t u ↔ c = v) ∧ (swB t u c + 32 = othN v t u ↔ c + 32 = v) := by
  rcases low_three hv with rfl | rfl | rfl <;> rcases low_three ht with rfl | rfl | rfl <;> rcases low_three hu with rfl | rfl | rfl <;> rcases op_six hc with rfl | rfl | rfl | rfl | rfl | rfl <;> decide
theorem swA_hasT {bs es : List Pr} (hV : Valid bs es) {v t u : Nat} (hv : lowB v = true) (ht : lowB t = true) (hu : lowB u = true) : hasT (swA bs t u) (othN v t u) (swA bs t u).length = hasT bs v bs.length := by
  rw [Bool.eq_iff_iff, hasT_iff, hasT_iff, swA_length]
  constructor
  · rintro ⟨k, hk, i, hi, e⟩
    rw [swA_rest hk] at hi e
    have hi' : i < (restAt bs k).size := by rw [swT_size] at hi; exact hi
    rw [sw_at ht hu (valid_op hV hk) hi'] at e
    exact ⟨k, hk, i, hi', ((swB_hitT hv ht hu (valid_op hV hk i hi')).1).1 e⟩
  · rintro ⟨k, hk, i, hi, e⟩
    refine ⟨k, hk, i, by rw [swA_rest hk, swT_size]; exact hi, ?_⟩
    rw [swA_rest hk, sw_at ht hu (valid_op hV hk) hi]
    exact ((swB_hitT hv ht hu (valid_op hV hk i hi)).1).2 e
theorem othN_l (t u : Nat) : othN t t u = u := by unfold othN; rw [if_pos rfl]
theorem othN_r (t u : Nat) : othN u t u = t := by
  unfold othN
  by_cases h : u = t
  · rw [if_pos h, h]
  · rw [if_neg h, if_pos rfl]
theorem tm_cases {x : ByteArray} (h : isTm x = true) : ∃ i, i < 3 ∧ x = tmN i ∧ byteAt x 0 = 120 + i := by
  rcases isTm_iff.1 h with rfl | rfl | rfl
  · exact ⟨0, by decide, rfl, rfl⟩
  · exact ⟨1, by decide, rfl, rfl⟩
  · exact ⟨2, by decide, rfl, rfl⟩
end Go.Proofs.YtngcmjfkeageiaaDoor
end

section
/-
  The walk of the law FnSwapTerms. Conditions: what came in are bytes; the errors' variables hold errors.
-/
namespace Go.Proofs.YtngcmjfkeageiaaDoor
open Go.RowKit Go.Maps

theorem OpsOf_specT (w : World) (bs es : List Pr) (ab ae : Option Addr) (cb ce : Nat) (x : ByteArray) (r : ByteArray) (b : Bool) (h : opsV bs es x = .tuple #[.string r, .bool b]) (hpb : PairsAt w ab bs) (hpe : PairsAt w ae es) :
    Calls Tryd.prog 25 #[.agg #[.slice ab bs.length cb, .slice ae es.length ce], .string x] w fun e w' => e = .returned (.tuple #[.string r, .bool b]) ∧ Below w.heap.size w w' :=
  (OpsOf_spec w bs es ab ae cb ce x hpb hpe).mono fun e w' k => ⟨by rw [k.1, h], k.2⟩
theorem PairsAt.zero (w : World) (a : Option Addr) : PairsAt w a [] := ⟨Nat.zero_le _, fun _ hi => absurd hi (Nat.not_lt_zero _), fun _ hi => absurd hi (Nat.not_lt_zero _)⟩
theorem below_stepV {w w1 w2 : World} (h : Below w.heap.size w w1) (hb : Below w1.heap.size w1 w2) (o : Obj) : Below w.heap.size w (w2.alloc o) := by
  have h1 := h.trans (hb.mono h.size)
  exact h1.alloc h1.size o

set_option maxRecDepth 100000 in
set_option maxHeartbeats 12800000 in
theorem LawFnSwapTerms_any (w : World) (a : Option Addr) (n cap : Nat) (a2 : Option Addr) (n2 cap2 : Nat) (hby : BytesRaw w a n cap) (hby2 : BytesRaw w a2 n2 cap2) (hg : Errs w) :
    Calls Tryd.prog 5 #[.slice a n cap, .slice a2 n2 cap2] w fun e w' => e = .returned (.bool true) ∧ Below w.heap.size w w' := by
  go_enter Tryd.func5, Tryd.ntmps5
  by_cases hL : (1048576 : Int) < (n : Int)
  · go_wp2
    go_ret
    exact ⟨rfl, Below.refl _ _⟩
  by_cases hL2 : (1048576 : Int) < (n2 : Int)
  · go_wp2
    go_ret
    exact ⟨rfl, Below.refl _ _⟩
  have HG := Lib.hid (And.intro hg hby2)
  clear hg hby2
  go_wp2_with fail
  refine (DrawSwapTerms_any w a n cap hby).mono ?_
  rintro e w1 ⟨bs, es, ab, ae, cb, ce, x, y, rfl, hSb, hSe, hxs, hys, hPb, hPe, hb1⟩
  have hP := PAt.new ab ae cb ce hPb hPe
  have hall : Below w.heap.size w (w1.alloc (.cells #[.slice ab bs.length cb, .slice ae es.length ce] 32)) := hb1.alloc hb1.size _
  obtain ⟨c0, c1⟩ := And.intro hP.c0 hP.c1
  have H1 := Lib.hid (And.intro hP hall)
  have hxz : x.size ≤ 1048576 := by omega
  have hyz : y.size ≤ 1048576 := by omega
  clear hPb hPe hb1 hSb hSe hxs hys hby hP hall
  go_wp2_with fail
  generalize w1.alloc (.cells #[.slice ab bs.length cb, .slice ae es.length ce] 32) = wP at *
  generalize w1.heap.size = q at *
  have HP := Lib.hid (show ∀ W', Below wP.heap.size wP W' → (PAt W' q ab ae cb ce bs es ∧ Errs W' ∧ Below w.heap.size w W') from fun W' hB => ⟨H1.out.1.below hB, HG.out.1.keep (H1.out.2.trans (hB.mono H1.out.2.size)), H1.out.2.trans (hB.mono H1.out.2.size)⟩)
  have HP0 := Lib.hid (HP.out _ (Below.refl _ _))
  clear H1
  by_cases hok : Valid bs es ∧ isTm x = true ∧ isTm y = true
  · obtain ⟨i, hi, hxi, hxb⟩ := tm_cases hok.2.1
    obtain ⟨j, hj, hyj, hyb⟩ := tm_cases hok.2.2
    obtain ⟨t, ht⟩ : ∃ t, 120 + i = t := ⟨_, rfl⟩
    obtain ⟨u, hu⟩ : ∃ u, 120 + j = u := ⟨_, rfl⟩
    have lt : lowB t = true := by rw [← ht, ← hxb]; exact isTm_low hok.2.1
    have lu : lowB u = true := by rw [← hu, ← hyb]; exact isTm_low hok.2.2
    have HV := Lib.hid (And.intro hok.1 (And.intro (And.intro hok.2.1 (hxb.trans ht)) (And.intro hok.2.2 (hyb.trans hu))))
    have hVA := hok.1.swap (t := t) (u := u) lt lu
    have HVA := Lib.hid (And.intro hVA (swA_back hok.1 lt lu))
    obtain ⟨A, hA⟩ : ∃ A, tmA bs 3 = A := ⟨_, rfl⟩
    obtain ⟨B, hB⟩ : ∃ B, tmA (swA bs t u) 3 = B := ⟨_, rfl⟩
    have HA := Lib.hid (And.intro (show termV bs es = .tuple #[.string A, .bool true] by rw [termV_yes (by simpa [validB] using hok.1), hA]) (show termV (swA bs t u) es = .tuple #[.string B, .bool true] by rw [termV_yes (by simpa [validB] using hVA), hB]))
    have hAz : A.size ≤ 1048576 := by have := tmA_size bs 3; rw [hA] at this; omega
    have hBz : B.size ≤ 1048576 := by have := tmA_size (swA bs t u) 3; rw [hB] at this; omega
    obtain ⟨f, hf⟩ : ∃ f, hasT bs t bs.length = f := ⟨_, rfl⟩
    obtain ⟨g, hg'⟩ : ∃ g, hasT bs u bs.length = g := ⟨_, rfl⟩
    have HH := Lib.hid (show hasC A x A.size = f ∧ hasC B y B.size = f ∧ hasC A y A.size = g ∧ hasC B x B.size = g by
      refine ⟨?_, ?_, ?_, ?_⟩
      · rw [← hA, hxi, hasC_tmA bs hi, ht, hf]
      · rw [← hB, hyj, hasC_tmA _ hj, hu]
        have := swA_hasT hok.1 (v := t) lt lt lu
        rw [othN_l] at this
        rw [this, hf]
      · rw [← hA, hyj, hasC_tmA bs hj, hu, hg']
      · rw [← hB, hxi, hasC_tmA _ hi, ht]
        have := swA_hasT hok.1 (v := u) lu lt lu
        rw [othN_r] at this
        rw [this, hg'])
    clear hok hxi hxb hyj hyb ht hu lt lu hVA hA hB hf hg' hi hj
    refine (Swap_implY wP bs es _ _ _ _ x y t u HV.out.1 HV.out.2.1.1 HV.out.2.2.1 HV.out.2.1.2 HV.out.2.2.2 HP0.out.1.b HP0.out.1.e HP0.out.2.1).mono ?_
    rintro e w2 ⟨a3, d3, a3', d3', rfl, p3, p3', hb2⟩
    have hQ := PAt.new a3 a3' d3 d3' p3 p3'
    have hW : Below wP.heap.size wP (w2.alloc (.cells #[.slice a3 (swA bs t u).length d3, .slice a3' es.length d3'] 32)) := below_stepV (Below.refl _ _) hb2 _
    obtain ⟨c0, c1⟩ := And.intro (HP.out _ hW).1.c0 (HP.out _ hW).1.c1
    have H2 := Lib.hid (And.intro hQ hW)
    clear p3 p3' hb2 hQ hW HP0
    go_wp2_with fail
    generalize w2.alloc (.cells #[.slice a3 (swA bs t u).length d3, .slice a3' es.length d3'] 32) = wA at *
    generalize w2.heap.size = qa at *
    have HQ := Lib.hid (show ∀ W', Below wA.heap.size wA W' → (PAt W' q ab ae cb ce bs es ∧ PAt W' qa a3 a3' d3 d3' (swA bs t u) es ∧ Errs W' ∧ Below w.heap.size w W') from fun W' hB => ⟨(HP.out _ (below_new H2.out.2 hB)).1, H2.out.1.below hB, (HP.out _ (below_new H2.out.2 hB)).2.1, (HP.out _ (below_new H2.out.2 hB)).2.2⟩)
    have HQ0 := Lib.hid (HQ.out _ (Below.refl _ _))
    clear H2
    refine (Swap_specY wA bs es _ _ _ _ x y t u HV.out.1 HV.out.2.1.1 HV.out.2.2.1 HV.out.2.1.2 HV.out.2.2.2 HQ0.out.1.b HQ0.out.1.e).mono ?_
    rintro e w3 ⟨a4, d4, a4', d4', rfl, p4, p4', hb3⟩
    have hR := PAt.new a4 a4' d4 d4' p4 p4'
    have hW : Below wA.heap.size wA (w3.alloc (.cells #[.slice a4 (swA bs t u).length d4, .slice a4' es.length d4'] 32)) := below_stepV (Below.refl _ _) hb3 _
    obtain ⟨k0, k1⟩ := And.intro (HQ.out _ hW).2.1.c0 (HQ.out _ hW).2.1.c1
    obtain ⟨m0, m1⟩ := And.intro hR.c0 hR.c1
    have H3 := Lib.hid (And.intro hR hW)
    clear p4 p4' hb3 hR hW HQ0 c0 c1
    go_wp2_with fail
    generalize w3.alloc (.cells #[.slice a4 (swA bs t u).length d4, .slice a4' es.length d4'] 32) = wB at *
    generalize w3.heap.size = qb at *
    have H3q := Lib.hid (HQ.out _ H3.out.2)
    refine (owProg_same wB _ es _ _ _ _ _ es _ _ _ _ rfl rfl H3q.out.2.1.b H3q.out.2.1.e H3.out.1.b H3.out.1.e).mono ?_
    rintro e w4 ⟨rfl, hb4⟩
    have H4 := Lib.hid (below_new H3.out.2 hb4)
    have H4q := Lib.hid (HQ.out _ H4.out)
    obtain ⟨k0, k1⟩ := And.intro H4q.out.2.1.c0 H4q.out.2.1.c1
    clear hb4 H3 H3q m0 m1
    go_wp2_with fail
    refine (Swap_implY w4 (swA bs t u) es _ _ _ _ y x u t HVA.out.1 HV.out.2.2.1 HV.out.2.1.1 HV.out.2.2.2 HV.out.2.1.2 H4q.out.2.1.b H4q.out.2.1.e H4q.out.2.2.1).mono ?_
    rintro e w5 ⟨a5, d5, a5', d5', rfl, p5, p5', hb5⟩
    have hR := PAt.new a5 a5' d5 d5' p5 p5'
    have hW : Below wA.heap.size wA (w5.alloc (.cells #[.slice a5 (swA (swA bs t u) u t).length d5, .slice a5' es.length d5'] 32)) := below_stepV H4.out hb5 _
    obtain ⟨c0, c1⟩ := And.intro (HQ.out _ hW).1.c0 (HQ.out _ hW).1.c1
    have H5 := Lib.hid (And.intro hR hW)
    clear p5 p5' hb5 hR hW H4 H4q k0 k1
    go_wp2_with fail
    generalize w5.alloc (.cells #[.slice a5 (swA (swA bs t u) u t).length d5, .slice a5' es.length d5'] 32) = wC at *
    generalize w5.heap.size = qc at *
    have HC := Lib.hid (show ∀ W', Below wC.heap.size wC W' → (PAt W' q ab ae cb ce bs es ∧ PAt W' qa a3 a3' d3 d3' (swA bs t u) es ∧ PAt W' qc a5 a5' d5 d5' (swA (swA bs t u) u t) es ∧ Errs W' ∧ Below w.heap.size w W') from fun W' hB => ⟨(HQ.out _ (below_new H5.out.2 hB)).1, (HQ.out _ (below_new H5.out.2 hB)).2.1, H5.out.1.below hB, (HQ.out _ (below_new H5.out.2 hB)).2.2.1, (HQ.out _ (below_new H5.out.2 hB)).2.2.2⟩)
    have HC0 := Lib.hid (HC.out _ (Below.refl _ _))
    clear H5 HQ HP
    refine (TermsIn_implB wC bs es _ _ _ _ A true HA.out.1 HC0.out.1.b HC0.out.1.e HC0.out.2.2.2.1).mono ?_
    rintro e w6 ⟨rfl, hb6⟩
    have H6 := Lib.hid (below_new (Below.refl _ _) hb6)
    have H6q := Lib.hid (HC.out _ H6.out)
    obtain ⟨k0, k1⟩ := And.intro H6q.out.2.1.c0 H6q.out.2.1.c1
    clear hb6 HC0 c0 c1
    go_wp2_with fail
    refine (TermsIn_implB w6 (swA bs t u) es _ _ _ _ B true HA.out.2 H6q.out.2.1.b H6q.out.2.1.e H6q.out.2.2.2.1).mono ?_
    rintro e w7 ⟨rfl, hb7⟩
    have H7 := Lib.hid (below_new H6.out hb7)
    clear hb7 H6 H6q k0 k1
    go_wp2_with fail
    refine (DrawOpsOf_any w7 a2 n2 cap2 (HG.out.2.below (HC.out _ H7.out).2.2.2.2)).mono ?_
    rintro e w8 ⟨bx, ex, abx, aex, cbx, cex, xx, rfl, hSb, hSe, hxx, hPb, hPe, hb8⟩
    have hX := PAt.new abx aex cbx cex hPb hPe
    have hW : Below wC.heap.size wC (w8.alloc (.cells #[.slice abx bx.length cbx, .slice aex ex.length cex] 32)) := below_stepV H7.out hb8 _
    have H8 := Lib.hid (And.intro hX hW)
    clear hSb hSe hxx hPb hPe hb8 hX hW H7
    go_wp2_with fail
    generalize w8.alloc (.cells #[.slice abx bx.length cbx, .slice aex ex.length cex] 32) = wX at *
    generalize w8.heap.size = qx at *
    refine (DrawOpsOf_any wX a2 n2 cap2 (HG.out.2.below (HC.out _ H8.out.2).2.2.2.2)).mono ?_
    rintro e w9 ⟨by', ey, aby, aey, cby, cey, k, rfl, _, _, hks, _, _, hb9⟩
    have hW : Below wX.heap.size wX (w9.alloc (.cells #[.slice aby by'.length cby, .slice aey ey.length cey] 32)) := below_stepV (Below.refl _ _) hb9 _
    have hX := H8.out.1.below hW
    obtain ⟨x0, x1⟩ := And.intro hX.c0 hX.c1
    have H9 := Lib.hid (And.intro hX (below_new H8.out.2 hW))
    have hkz : k.size ≤ 1048576 := by omega
    obtain ⟨r, ok, hr⟩ := opsV_form bx ex k
    have HR := Lib.hid hr
    clear hb9 hks hX hW H8 hr
    go_wp2_with fail
    generalize w9.alloc (.cells #[.slice aby by'.length cby, .slice aey ey.length cey] 32) = wY at *
    refine (OpsOf_implT wY bx ex _ _ _ _ k r ok HR.out hkz H9.out.1.b H9.out.1.e (HC.out _ H9.out.2).2.2.2.1).mono ?_
    rintro e w10 ⟨rfl, hb10⟩
    have hX := H9.out.1.below hb10
    obtain ⟨x0, x1⟩ := And.intro hX.c0 hX.c1
    have H10 := Lib.hid (And.intro hX (below_new H9.out.2 hb10))
    clear hb10 hX H9
    go_wp2_with fail
    refine (OpsOf_specT w10 bx ex _ _ _ _ k r ok HR.out H10.out.1.b H10.out.1.e).mono ?_
    rintro e w11 ⟨rfl, hb11⟩
    have H11 := Lib.hid (below_new H10.out.2 hb11)
    have H11q := Lib.hid (HC.out _ H11.out)
    obtain ⟨k0, k1⟩ := And.intro H11q.out.2.1.c0 H11q.out.2.1.c1
    have tt : (r.toList == r.toList) = true := by rw [toList_eq_iff]; exact decide_eq_true rfl
    clear hb11 H10 x0 x1
    go_wp2_with fail
    refine (ProgValid_implB w11 (swA bs t u) es _ _ _ _ true (by simpa [validB] using HVA.out.1) H11q.out.2.1.b H11q.out.2.1.e H11q.out.2.2.2.1).mono ?_
    rintro e w12 ⟨rfl, hb12⟩
    have H12 := Lib.hid (below_new H11.out hb12)
    have H12q := Lib.hid (HC.out _ H12.out)
    obtain ⟨c0, c1⟩ := And.intro H12q.out.1.c0 H12q.out.1.c1
    obtain ⟨m0, m1⟩ := And.intro H12q.out.2.2.1.c0 H12q.out.2.2.1.c1
    clear hb12 H11 H11q k0 k1
    go_wp2_with fail
    refine (owProg_same w12 _ es _ _ _ _ _ es _ _ _ _ HVA.out.2 rfl H12q.out.2.2.1.b H12q.out.2.2.1.e H12q.out.1.b H12q.out.1.e).mono ?_
    rintro e w13 ⟨rfl, hb13⟩
    have HZ := Lib.hid (HC.out _ (below_new H12.out hb13)).2.2.2.2
    clear hb13 H12 H12q c0 c1 m0 m1
    go_wp2_with (first
      | (go_at_call 19; (with_reducible show Calls _ _ #[Value.string A, Value.string x] _ _); refine (owHas_any A x f HH.out.1 _ hAz).mono ?_; rintro e w' ⟨rfl, rfl⟩)
      | (go_at_call 19; (with_reducible show Calls _ _ #[Value.string B, Value.string y] _ _); refine (owHas_any B y f HH.out.2.1 _ hBz).mono ?_; rintro e w' ⟨rfl, rfl⟩)
      | (go_at_call 19; (with_reducible show Calls _ _ #[Value.string A, Value.string y] _ _); refine (owHas_any A y g HH.out.2.2.1 _ hAz).mono ?_; rintro e w' ⟨rfl, rfl⟩)
      | (go_at_call 19; (with_reducible show Calls _ _ #[Value.string B, Value.string x] _ _); refine (owHas_any B x g HH.out.2.2.2 _ hBz).mono ?_; rintro e w' ⟨rfl, rfl⟩))
    go_ret
    exact ⟨rfl, HZ.out⟩
  · have HN := Lib.hid (show swOk bs es x y = false by
      cases hs : swOk bs es x y
      · rfl
      · exfalso
        unfold swOk at hs
        simp only [Bool.and_eq_true] at hs
        exact hok ⟨by simpa [validB] using hs.1, hs.2.1, hs.2.2⟩)
    clear hok
    refine (Swap_implN wP bs es _ _ _ _ x y HN.out hxz hyz HP0.out.1.b HP0.out.1.e HP0.out.2.1).mono ?_
    rintro e w2 ⟨a3, d3, a3', d3', rfl, hb2⟩
    have hW : Below wP.heap.size wP (w2.alloc (.cells #[.slice a3 0 d3, .slice a3' 0 d3'] 32)) := below_stepV (Below.refl _ _) hb2 _
    have hQ : Two (w2.alloc (.cells #[.slice a3 0 d3, .slice a3' 0 d3'] 32)) w2.heap.size (.slice a3 0 d3) (.slice a3' 0 d3') := heap_alloc_new _ _
    have H2 := Lib.hid (And.intro hQ (And.intro hW (HP.out _ hW)))
    obtain ⟨c0, c1⟩ := And.intro H2.out.2.2.1.c0 H2.out.2.2.1.c1
    clear hb2 hW hQ HP0
    go_wp2_with fail
    generalize w2.alloc (.cells #[.slice a3 0 d3, .slice a3' 0 d3'] 32) = wA at *
    generalize w2.heap.size = qa at *
    refine (Swap_specN wA bs es _ _ _ _ x y HN.out hxz hyz H2.out.2.2.1.b H2.out.2.2.1.e).mono ?_
    rintro e w3 ⟨a4, d4, a4', d4', rfl, hb3⟩
    have hW : Below wA.heap.size wA (w3.alloc (.cells #[.slice a4 0 d4, .slice a4' 0 d4'] 32)) := below_stepV (Below.refl _ _) hb3 _
    have hQ := H2.out.1.of_cells (hW.block _ H2.out.1.cells.2.2.2.2)
    have hR : Two (w3.alloc (.cells #[.slice a4 0 d4, .slice a4' 0 d4'] 32)) w3.heap.size (.slice a4 0 d4) (.slice a4' 0 d4') := heap_alloc_new _ _
    have H3 := Lib.hid (And.intro hQ (And.intro hR (below_new H2.out.2.1 hW)))
    obtain ⟨k0, k1, _, _, _⟩ := H3.out.1.cells
    obtain ⟨m0, m1, _, _, _⟩ := H3.out.2.1.cells
    clear hb3 hW hQ hR c0 c1
    go_wp2_with fail
    generalize w3.alloc (.cells #[.slice a4 0 d4, .slice a4' 0 d4'] 32) = wB at *
    generalize w3.heap.size = qb at *
    refine (owProg_same wB [] [] a3 a3' d3 d3' [] [] a4 a4' d4 d4' rfl rfl (PairsAt.zero _ _) (PairsAt.zero _ _) (PairsAt.zero _ _) (PairsAt.zero _ _)).mono ?_
    rintro e w4 ⟨rfl, hb4⟩
    have hQ := H3.out.1.of_cells (hb4.block _ H3.out.1.cells.2.2.2.2)
    have hR := H3.out.2.1.of_cells (hb4.block _ H3.out.2.1.cells.2.2.2.2)
    have H4 := Lib.hid (And.intro hQ (below_new H3.out.2.2 hb4))
    obtain ⟨k0, k1, _, _, _⟩ := hQ.cells
    obtain ⟨m0, m1, _, _, _⟩ := hR.cells
    clear hb4 hQ hR H3
    go_wp2_with fail
    refine (owProg_same w4 [] [] a3 a3' d3 d3' [] [] a4 a4' d4 d4' rfl rfl (PairsAt.zero _ _) (PairsAt.zero _ _) (PairsAt.zero _ _) (PairsAt.zero _ _)).mono ?_
    rintro e w5 ⟨rfl, hb5⟩
    have hQ := H4.out.1.of_cells (hb5.block _ H4.out.1.cells.2.2.2.2)
    obtain ⟨k0, k1, _, _, _⟩ := hQ.cells
    have HZ := Lib.hid (HP.out _ (below_new H4.out.2 hb5)).2.2
    clear hb5 hQ H4
    go_wp2
    go_ret
    exact ⟨rfl, HZ.out⟩
end Go.Proofs.YtngcmjfkeageiaaDoor
end
