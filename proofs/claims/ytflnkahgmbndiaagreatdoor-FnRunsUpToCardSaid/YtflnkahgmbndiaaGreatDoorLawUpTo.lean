/-
  The walk of the law FnRunsUpTo. Conditions: what came in are bytes; the errors' variables hold errors.
-/
import Derived.Test.YtflnkahgmbndiaaGreatDoorUpR
import Derived.Test.YtflnkahgmbndiaaGreatDoorUpA
import Derived.Test.YtflnkahgmbndiaaGreatDoorUpD
import Derived.Test.YtflnkahgmbndiaaGreatDoorUpC
namespace Go.Proofs.YtflnkahgmbndiaaGreatDoor
open Go.RowKit Go.Maps

set_option maxRecDepth 100000 in
set_option maxHeartbeats 1600000 in
theorem owTexts_same (w : World) (L : List ByteArray) (a a' : Option Addr) (c c' B B' : Nat) (h : w.ownsRow B 9 1 (.slice a L.length c) L.length (L.map Value.string)) (h' : w.ownsRow B' 9 1 (.slice a' L.length c') L.length (L.map Value.string)) (hl : L.length ≤ 300) :
    Calls Tryz.prog 9 #[.slice a L.length c, .slice a' L.length c'] w fun e w' => e = .returned (.bool true) ∧ Below w.heap.size w w' := by
  have HO := Lib.hid (And.intro h h'); clear h h'
  obtain ⟨n, hn⟩ : ∃ n, L.length = n := ⟨_, rfl⟩
  have HN := Lib.hid hn
  rw [hn] at hl ⊢
  clear hn
  go_enter Tryz.func9, Tryz.ntmps9
  go_wp2
  go_loopw [11] (fun i wr => ∃ k : Nat, k ≤ n ∧ i = .int .i64 k ∧ Below w.heap.size w wr) (fun i _ => n - (intOf i).toNat)
  case atStart => exact ⟨0, Nat.zero_le _, rfl, Below.refl _ _⟩
  case round =>
    obtain ⟨k, hk, rfl, hbl⟩ := hrel
    by_cases hlt : k < n
    · obtain ⟨x, hx⟩ : ∃ x, L[k]? = some x := ⟨_, List.getElem?_eq_getElem (by rw [HN.out]; exact hlt)⟩
      obtain ⟨g, rfl, c0⟩ := own_atR (ownsRow_below HO.out.1 hbl) hx
      obtain ⟨g', rfl, c1⟩ := own_atR (ownsRow_below HO.out.2 hbl) hx
      have m0 : (0 : Int) ≤ (k : Int) := by omega
      have m1 : (k : Int) < (n : Int) := by omega
      have q0 : (x.toList != x.toList) = false := by simp
      clear hx
      go_wp2
      go_quiet (fail)
      go_wp2
      go_roundw
      case rel => exact ⟨k + 1, by omega, by go_num, below_drewN hbl _⟩
      case measure => simp [intOf]; omega
    · obtain rfl : k = n := by omega
      go_wp2
      go_ret
      exact ⟨rfl, hbl⟩
/-- what the list of the runs with k blocks at most is -/
structure UpTo (bs es : List Pr) (k : Int) (L : List ByteArray) : Prop where
  few : L.length ≤ 300
  val : Valid bs es
  run : ∀ r ∈ L, RunOk bs es r ∧ (r.size : Int) ≤ k
  all : ∀ r, RunOk bs es r → (r.size : Int) ≤ k → r ∈ L
  nd : L.Nodup
  none_ : L = [] ↔ k < ((bestT es (nameAt bs 0) (lastN bs)).size : Int)
theorem runs_upto {bs es : List Pr} {k : Int} {L : List ByteArray} {b : Bool} (h : runsR bs es k = (L, b)) : (b = false ∧ L = []) ∨ (b = true ∧ UpTo bs es k L) := by
  unfold runsR at h
  by_cases c : validB bs es = true ∧ inB k 0 12 = true ∧ (allRuns bs es k.toNat).length ≤ 300
  · rw [if_pos c] at h
    cases h
    have hV : Valid bs es := by simpa [validB] using c.1
    have hin := c.2.1
    have hk : 0 ≤ k ∧ k ≤ 12 := by simpa [inB] using hin
    refine .inr ⟨rfl, c.2.2, hV, fun r hr => ?_, fun r hr hz => run_in_all hV hr (by omega), allRuns_nodup hV _, ?_⟩
    · obtain ⟨h1, h2⟩ := all_run hV (by omega) hr
      exact ⟨h1, by omega⟩
    · rw [all_none hV]
      omega
  · rw [if_neg c] at h
    cases h
    exact .inl ⟨rfl, rfl⟩
theorem IsRun_implU (w : World) (bs es : List Pr) (ab ae : Option Addr) (cb ce : Nat) (x : ByteArray) (h : Valid bs es) (hr : RunOk bs es x) (hpb : PairsAt w ab bs) (hpe : PairsAt w ae es) (hg : Errs w) :
    Calls Tryz.prog 10 #[.agg #[.slice ab bs.length cb, .slice ae es.length ce], .string x] w fun e w' => e = .returned (.bool true) ∧ Below w.heap.size w w' :=
  (IsRun_impl w bs es ab ae cb ce x (by have := hr.hi; omega) hpb hpe hg).mono fun e w' k => ⟨by rw [k.1, show isRunB bs es x = true by rw [isRunB_yes (by simpa [validB] using h)]; exact runB_yes hr], k.2⟩
theorem ShortestRun_implU (w : World) (bs es : List Pr) (ab ae : Option Addr) (cb ce : Nat) (B : ByteArray) (hB : bestT es (nameAt bs 0) (lastN bs) = B) (h : Valid bs es) (hpb : PairsAt w ab bs) (hpe : PairsAt w ae es) (hg : Errs w) :
    Calls Tryz.prog 14 #[.agg #[.slice ab bs.length cb, .slice ae es.length ce]] w fun e w' => e = .returned (.tuple #[.string B, .bool true]) ∧ Below w.heap.size w w' :=
  (ShortestRun_impl w bs es ab ae cb ce hpb hpe hg).mono fun e w' ⟨k, hb⟩ => by
    refine ⟨?_, hb⟩
    rcases k with ⟨_, t, rfl, hbest⟩ | ⟨hv, _⟩
    · rw [← hB, bestT_eq hbest]
    · exact absurd h hv
theorem WalkRun_implU (w : World) (bs es : List Pr) (ab ae : Option Addr) (cb ce : Nat) (ns : List Int) (an : Option Addr) (cn : Nat) (r : ByteArray) (b : Bool) (h : walkV bs es ns = .tuple #[.string r, .bool b]) (hpb : PairsAt w ab bs) (hpe : PairsAt w ae es) (hpn : IntsAt w an ns) (hg : Errs w) :
    Calls Tryz.prog 12 #[.agg #[.slice ab bs.length cb, .slice ae es.length ce], .slice an ns.length cn] w fun e w' => e = .returned (.tuple #[.string r, .bool b]) ∧ Below w.heap.size w w' :=
  (WalkRun_impl w bs es ab ae cb ce ns an cn hpb hpe hpn hg).mono fun e w' k => ⟨by rw [k.1, h], k.2⟩
/-- what WalkRun answers: a run, or nothing -/
theorem walk_run (bs es : List Pr) (ns : List Int) : ∃ (r : ByteArray) (b : Bool), walkV bs es ns = .tuple #[.string r, .bool b] ∧ (b = true → RunOk bs es r) := by
  cases hv : validB bs es && picksOk ns
  · exact ⟨e0, false, by unfold walkV; rw [hv]; rfl, fun h => by cases h⟩
  · obtain ⟨h1, h2⟩ : validB bs es = true ∧ picksOk ns = true := by simpa using hv
    exact ⟨_, true, walkV_yes h1 h2, fun _ => (full_run (by simpa [validB] using h1) ns).1⟩
theorem run_upto_row (g n c m : Nat) (h : m ≤ c) (W : World) : (Instr.slice 29 (.slice (some ⟨g, 0, none⟩) n c) none (some (.int .i64 (m : Int))) none).run Tryz.prog W = .ok (.slice (some ⟨g, 0, none⟩) m c) W := by
  simp [Instr.slice, Instr.sliceBounds, Instr.sliceBound, run_underlying Tryz.underlying29, asIntOf, h, Addr.add]
theorem own_capR {w : World} {base n c g : Nat} {L : List ByteArray} (h : w.ownsRow base 9 1 (.slice (some ⟨g, 0, none⟩) n c) L.length (L.map Value.string)) : L.length ≤ c := by
  obtain ⟨_, ⟨h2, _⟩ | ⟨g', cap, cur, e1, _, _, h3, _⟩⟩ := h
  · cases h2
  · have := (Value.slice.inj e1).2.2
    omega
/-- two of the list are not the same -/
theorem nd_at {L : List ByteArray} (h : L.Nodup) {i j : Nat} {x y : ByteArray} (hi : L[i]? = some x) (hj : L[j]? = some y) (hij : j < i) : (x.toList == y.toList) = false := by
  rw [toList_eq_iff]
  refine decide_eq_false fun e => ?_
  obtain ⟨h1, h2⟩ := List.getElem?_eq_some_iff.1 hi
  obtain ⟨h3, h4⟩ := List.getElem?_eq_some_iff.1 hj
  have := List.pairwise_iff_getElem.1 h j i h3 h1 hij
  exact this (by rw [h4, h2, e])
theorem nil_iff_len (L : List ByteArray) : L = [] ↔ L.length = 0 := List.length_eq_zero_iff.symm

set_option maxRecDepth 100000 in
set_option maxHeartbeats 6400000 in
theorem LawFnRunsUpTo_any (w : World) (a : Option Addr) (n cap : Nat) (a' : Option Addr) (n' cap' : Nat) (hby : BytesRaw w a n cap) (hby' : BytesRaw w a' n' cap') (hg : Errs w) :
    Calls Tryz.prog 3 #[.slice a n cap, .slice a' n' cap'] w fun e w' => e = .returned (.bool true) ∧ Below w.heap.size w w' := by
  go_enter Tryz.func3, Tryz.ntmps3
  by_cases hL : (1048576 : Int) < (n : Int)
  · go_wp2
    go_ret
    exact ⟨rfl, Below.refl _ _⟩
  by_cases hL' : (1048576 : Int) < (n' : Int)
  · go_wp2
    go_ret
    exact ⟨rfl, Below.refl _ _⟩
  have HG := Lib.hid hg
  clear hg
  go_wp2_with fail
  refine (DrawRunsUpTo_any w a n cap hby).mono ?_
  rintro e w1 ⟨bs, es, ab, ae, cb, ce, k, rfl, hSb, hSe, hk, hPb, hPe, hb1⟩
  have hP := PAt.new ab ae cb ce hPb hPe
  have hall : Below w.heap.size w (w1.alloc (.cells #[.slice ab bs.length cb, .slice ae es.length ce] 26)) := hb1.alloc hb1.size _
  go_upto_region 4 with fail
  generalize w1.alloc (.cells #[.slice ab bs.length cb, .slice ae es.length ce] 26) = wP at *
  have HC := Lib.hid (show ∀ W', Below wP.heap.size wP W' → (W'.cell? ⟨w1.heap.size, 0, none⟩ = some (.slice ab bs.length cb) ∧ W'.cell? ⟨w1.heap.size, 1, none⟩ = some (.slice ae es.length ce)) from fun W' hB => ⟨(hP.below hB).c0, (hP.below hB).c1⟩)
  have HPP := Lib.hid (show ∀ W', Below wP.heap.size wP W' → (PairsAt W' ab bs ∧ PairsAt W' ae es ∧ Errs W' ∧ BytesRaw W' a' n' cap') from fun W' hB => ⟨(hP.below hB).b, (hP.below hB).e, HG.out.keep (hall.trans (hB.mono hall.size)), hby'.below (hall.trans (hB.mono hall.size))⟩)
  have HF := Lib.hid (show ∀ W', Below wP.heap.size wP W' → Below w.heap.size w W' from fun W' hB => hall.trans (hB.mono hall.size))
  obtain ⟨c0, c1⟩ := HC.out _ (Below.refl _ _)
  generalize w1.heap.size = q at *
  clear hP hPb hPe hb1 hSb hSe hby hby' hall HG
  obtain ⟨L, b, hR⟩ : ∃ L b, runsR bs es k = (L, b) := ⟨_, _, rfl⟩
  have hU := runs_upto hR
  have HR := Lib.hid hR
  clear hR
  have H0 := Lib.hid (HPP.out _ (Below.refl _ _))
  go_wp2_with fail
  refine (RunsUpTo_implL L b bs es _ _ _ _ _ k HR.out H0.out.1 H0.out.2.1 H0.out.2.2.1).mono ?_
  rintro e w2 ⟨a1, n1, rfl, ho1, hb2⟩
  obtain ⟨c0, c1⟩ := HC.out _ hb2
  have HQ2 := Lib.hid hb2
  have HO1 := Lib.hid ho1
  clear hb2 ho1
  go_wp2_with fail
  refine (RunsUpTo_specL L b bs es _ _ _ _ _ k HR.out (HPP.out _ HQ2.out).1 (HPP.out _ HQ2.out).2.1).mono ?_
  rintro e w3 ⟨aS, nS, rfl, hoS, hb3⟩
  have HQ3 := Lib.hid (below_new HQ2.out hb3)
  have HO3 := Lib.hid (And.intro (ownsRow_below HO1.out hb3) hoS)
  obtain ⟨c0, c1⟩ := HC.out _ HQ3.out
  clear hb3 HQ2 HO1 hoS
  have hl300 : L.length ≤ 300 := by
    rcases hU with ⟨_, h⟩ | ⟨_, h⟩
    · rw [h]; exact Nat.zero_le _
    · exact h.few
  go_wp2_with fail
  refine (owTexts_same _ L _ _ _ _ _ _ HO3.out.1 HO3.out.2 hl300).mono ?_
  rintro e w4 ⟨rfl, hb4⟩
  have HQ4 := Lib.hid (below_new HQ3.out hb4)
  have HO4 := Lib.hid (And.intro (ownsRow_below HO3.out.1 hb4) (ownsRow_below HO3.out.2 hb4))
  obtain ⟨c0, c1⟩ := HC.out _ HQ4.out
  clear hb4 HQ3 HO3
  rcases hU with ⟨rfl, hLn⟩ | ⟨rfl, hU⟩
  · have hL0 : ((L.length : Int) == 0) = true := by rw [hLn]; rfl
    clear hLn
    go_wp2_with fail
    refine (owTexts_same _ L _ _ _ _ _ _ HO4.out.1 HO4.out.2 hl300).mono ?_
    rintro e w5 ⟨rfl, hb5⟩
    have HZ := Lib.hid (HF.out _ (below_new HQ4.out hb5))
    clear hb5
    go_wp2
    go_ret
    exact ⟨by simp, HZ.out⟩
  · have HU := Lib.hid hU
    clear hU
    go_wp2
    go_loopw [77] (fun i wr => ∃ m : Nat, m ≤ L.length ∧ i = .int .i64 m ∧ Below w4.heap.size w4 wr) (fun i _ => L.length - (intOf i).toNat)
    case atStart => exact ⟨0, Nat.zero_le _, rfl, Below.refl _ _⟩
    case round =>
      obtain ⟨m, hm, rfl, hbl⟩ := hrel
      have HB := Lib.hid hbl
      have HBP := Lib.hid (below_new HQ4.out hbl)
      obtain ⟨c0, c1⟩ := HC.out _ HBP.out
      obtain ⟨wo, hwo⟩ : ∃ wo, wo = wr := ⟨_, rfl⟩
      by_cases hlt : m < L.length
      · obtain ⟨x, hx⟩ : ∃ x, L[m]? = some x := ⟨_, List.getElem?_eq_getElem hlt⟩
        have hor := ownsRow_below HO4.out.1 hbl
        obtain ⟨g, rfl, cx⟩ := own_atR hor hx
        have hcap := own_capR hor
        have s1 := run_upto_row g L.length n1 m (by omega)
        obtain ⟨hrx, hzx⟩ := HU.out.run x (List.mem_of_getElem? hx)
        have s2 : ¬ (k < (x.size : Int)) := by omega
        have s3 : decide (k < (x.size : Int)) = false := decide_eq_false s2
        have i1 : (0 : Int) ≤ (m : Int) := by omega
        have i2 : (m : Int) < (L.length : Int) := by omega
        have HX := Lib.hid (And.intro hx hrx)
        clear hx hrx hor hbl hwo
        go_wp2_with fail
        refine (IsRun_implU _ bs es _ _ _ _ x HU.out.val HX.out.2 (HPP.out _ HBP.out).1 (HPP.out _ HBP.out).2.1 (HPP.out _ HBP.out).2.2.1).mono ?_
        rintro e w5 ⟨rfl, hb5⟩
        have HB5 := Lib.hid (below_new HB.out hb5)
        clear hb5
        go_wp2
        go_loopw [96] (fun j wr2 => ∃ l : Nat, l ≤ m ∧ j = .int .i64 l ∧ wr2 = w5) (fun j _ => m - (intOf j).toNat)
        case atStart => exact ⟨0, Nat.zero_le _, rfl, rfl⟩
        case round =>
          obtain ⟨l, hl, rfl, rfl⟩ := hrel
          by_cases hlt2 : l < m
          · obtain ⟨y, hy⟩ : ∃ y, L[l]? = some y := ⟨_, List.getElem?_eq_getElem (by omega)⟩
            obtain ⟨g2, e2, cy⟩ := own_atR (ownsRow_below HO4.out.1 HB5.out) hy
            cases e2
            have tt := nd_at HU.out.nd HX.out.1 hy hlt2
            have i3 : (0 : Int) ≤ (l : Int) := by omega
            have i4 : (l : Int) < (m : Int) := by omega
            clear hy
            go_wp2
            go_roundw
            case rel => exact ⟨l + 1, by omega, by go_num, trivial⟩
            case measure => simp [intOf]; omega
          · obtain rfl : l = m := by omega
            go_wp2
            go_roundw
            case rel => exact ⟨l + 1, by omega, by go_num, HB5.out⟩
            case measure => simp [intOf]; omega
      · obtain rfl : m = L.length := by omega
        clear hwo
        go_wp2_with fail
        refine (DrawWalkRun_any _ a' n' cap' (HPP.out _ HBP.out).2.2.2).mono ?_
        rintro e w5 ⟨bs', es', ab', ae', cb', ce', ns, an, cn, rfl, hSb', hSe', hnl, hPb', hPe', hPn, hb5⟩
        have hW : Below w5.heap.size w5 (w5.alloc (.cells #[.slice ab' bs'.length cb', .slice ae' es'.length ce'] 26)) := (Below.refl _ _).alloc (Nat.le_refl _) _
        have hP' := PAt.new ab' ae' cb' ce' hPb' hPe'
        have hN := hPn.below hW
        have hall5 := below_new (below_new HB.out hb5) hW
        have hz5 : w5.heap.size < (w5.alloc (.cells #[.slice ab' bs'.length cb', .slice ae' es'.length ce'] 26)).heap.size := by simp
        go_upto_region 21 with fail
        generalize hwQ : w5.alloc (.cells #[.slice ab' bs'.length cb', .slice ae' es'.length ce'] 26) = wQ at *
        have HC' := Lib.hid (show ∀ W', Below wQ.heap.size wQ W' → (W'.cell? ⟨w5.heap.size, 0, none⟩ = some (.slice ab' bs'.length cb') ∧ W'.cell? ⟨w5.heap.size, 1, none⟩ = some (.slice ae' es'.length ce')) from fun W' hB => ⟨(hP'.below hB).c0, (hP'.below hB).c1⟩)
        have HPP' := Lib.hid (show ∀ W', Below wQ.heap.size wQ W' → (PairsAt W' ab' bs' ∧ PairsAt W' ae' es' ∧ IntsAt W' an ns) from fun W' hB => ⟨(hP'.below hB).b, (hP'.below hB).e, hN.below hB⟩)
        have H4 := Lib.hid (show ∀ W', Below wQ.heap.size wQ W' → Below w4.heap.size w4 W' from fun W' hB => below_new hall5 hB)
        obtain ⟨c0, c1⟩ := HC.out _ (below_new HQ4.out hall5)
        obtain ⟨d0, d1⟩ := HC'.out _ (Below.refl _ _)
        generalize w5.heap.size = q' at *
        clear hwQ hW hP' hN hPb' hPe' hPn hb5 hSb' hSe' hall5 hz5 hbl
        obtain ⟨F, f, hF, hFr⟩ := walk_run bs' es' ns
        have HFF := Lib.hid (And.intro hF hFr)
        clear hF hFr
        have H4P := Lib.hid (show ∀ W', Below wQ.heap.size wQ W' → Below wP.heap.size wP W' from fun W' hB => below_new HQ4.out (H4.out W' hB))
        go_wp2_with fail
        refine (WalkRun_implU _ bs' es' _ _ _ _ ns _ _ F f HFF.out.1 (HPP'.out _ (Below.refl _ _)).1 (HPP'.out _ (Below.refl _ _)).2.1 (HPP'.out _ (Below.refl _ _)).2.2 (HPP.out _ (H4P.out _ (Below.refl _ _))).2.2.1).mono ?_
        rintro e w6 ⟨rfl, hb6⟩
        have HQ6 := Lib.hid hb6
        obtain ⟨c0, c1⟩ := HC.out _ (H4P.out _ hb6)
        obtain ⟨d0, d1⟩ := HC'.out _ hb6
        clear hb6
        cases f
        · obtain ⟨B, hB⟩ : ∃ B, bestT es (nameAt bs 0) (lastN bs) = B := ⟨_, rfl⟩
          have hnn := HU.out.none_
          rw [hB, nil_iff_len] at hnn
          have t1 : (((L.length : Int) == 0) == decide (k < (B.size : Int))) = true := by
            by_cases h : k < (B.size : Int)
            · have := hnn.2 h
              rw [this, decide_eq_true h]; rfl
            · have h0 : ¬ L.length = 0 := fun e => h (hnn.1 e)
              rw [decide_eq_false h]
              have : ((L.length : Int) == 0) = false := by rw [beq_eq_false_iff_ne]; omega
              rw [this]; rfl
          clear hnn
          go_wp2_with fail
          refine (ShortestRun_implU _ bs es _ _ _ _ B hB HU.out.val (HPP.out _ (H4P.out _ HQ6.out)).1 (HPP.out _ (H4P.out _ HQ6.out)).2.1 (HPP.out _ (H4P.out _ HQ6.out)).2.2.1).mono ?_
          rintro e wz ⟨rfl, hbz⟩
          have HZ := Lib.hid (HF.out _ (H4P.out _ (below_new HQ6.out hbz)))
          clear hbz
          go_wp2
          go_ret
          exact ⟨by simp, HZ.out⟩
        · go_wp2_with fail
          refine (owProg_any _ bs es bs' es' _ _ _ _ _ _ _ _ (HPP.out _ (H4P.out _ HQ6.out)).1 (HPP.out _ (H4P.out _ HQ6.out)).2.1 (HPP'.out _ HQ6.out).1 (HPP'.out _ HQ6.out).2.1).mono ?_
          rintro e w7 ⟨he, hb7⟩
          have HQ7 := Lib.hid (below_new HQ6.out hb7)
          obtain ⟨c0, c1⟩ := HC.out _ (H4P.out _ HQ7.out)
          obtain ⟨S, hS⟩ : ∃ S, (sameL bs bs' && sameL es es') = S := ⟨_, rfl⟩
          rw [hS] at he
          subst he
          clear hb7
          cases S
          · clear hS
            obtain ⟨B, hB⟩ : ∃ B, bestT es (nameAt bs 0) (lastN bs) = B := ⟨_, rfl⟩
            have hnn := HU.out.none_
            rw [hB, nil_iff_len] at hnn
            have t1 : (((L.length : Int) == 0) == decide (k < (B.size : Int))) = true := by
              by_cases h : k < (B.size : Int)
              · have := hnn.2 h
                rw [this, decide_eq_true h]; rfl
              · have h0 : ¬ L.length = 0 := fun e => h (hnn.1 e)
                rw [decide_eq_false h]
                have : ((L.length : Int) == 0) = false := by rw [beq_eq_false_iff_ne]; omega
                rw [this]; rfl
            clear hnn
            go_wp2_with fail
            refine (ShortestRun_implU _ bs es _ _ _ _ B hB HU.out.val (HPP.out _ (H4P.out _ HQ7.out)).1 (HPP.out _ (H4P.out _ HQ7.out)).2.1 (HPP.out _ (H4P.out _ HQ7.out)).2.2.1).mono ?_
            rintro e wz ⟨rfl, hbz⟩
            have HZ := Lib.hid (HF.out _ (H4P.out _ (below_new HQ7.out hbz)))
            clear hbz
            go_wp2
            go_ret
            exact ⟨by simp, HZ.out⟩
          · by_cases hz : (F.size : Int) ≤ k
            · have hmem : F ∈ L := by
                have h2 : sameL bs bs' = true ∧ sameL es es' = true := by simpa using hS
                have e1 : bs = bs' := by simpa [sameL] using h2.1
                have e2 : es = es' := by simpa [sameL] using h2.2
                exact HU.out.all F (by rw [e1, e2]; exact HFF.out.2 trivial) hz
              have HM := Lib.hid hmem
              have hor := ownsRow_below HO4.out.1 (H4.out _ HQ7.out)
              have HOR := Lib.hid hor
              clear hS hmem hor
              go_wp2
              go_loopw [19, 130] (fun v i wr => ∃ (m : Nat) (fd : Bool), m ≤ L.length ∧ i = .int .i64 m ∧ v = .bool fd ∧ wr = w7 ∧ (fd = true ↔ F ∈ L.take m)) (fun _ i _ => L.length - (intOf i).toNat)
              case atStart => exact ⟨0, false, Nat.zero_le _, rfl, rfl, rfl, by simp⟩
              case round =>
                obtain ⟨m, fd, hm, rfl, rfl, rfl, hfd⟩ := hrel
                have HFD := Lib.hid hfd
                clear hfd
                by_cases hlt : m < L.length
                · obtain ⟨x, hx⟩ : ∃ x, L[m]? = some x := ⟨_, List.getElem?_eq_getElem hlt⟩
                  obtain ⟨g, rfl, cx⟩ := own_atR HOR.out hx
                  have hT : ∀ y, y ∈ L.take (m + 1) ↔ y ∈ L.take m ∨ y = x := fun y => by
                    rw [List.take_add_one, hx, List.mem_append]
                    simp
                  have HT := Lib.hid hT
                  have i1 : (0 : Int) ≤ (m : Int) := by omega
                  have i2 : (m : Int) < (L.length : Int) := by omega
                  clear hx hT
                  cases fd
                  · by_cases hxF : x = F
                    · have tt : (x.toList == F.toList) = true := by rw [toList_eq_iff]; exact decide_eq_true hxF
                      have HXF := Lib.hid hxF
                      clear hxF
                      go_wp2
                      go_roundw
                      case rel => exact ⟨m + 1, true, by omega, by go_num, rfl, trivial, by rw [HT.out]; simp [HXF.out]⟩
                      case measure => simp [intOf]; omega
                    · have tt : (x.toList == F.toList) = false := by rw [toList_eq_iff]; exact decide_eq_false hxF
                      have HXF := Lib.hid hxF
                      clear hxF
                      go_wp2
                      go_roundw
                      case rel => exact ⟨m + 1, false, by omega, by go_num, rfl, trivial, by rw [HT.out, ← HFD.out]; simp [Ne.symm HXF.out]⟩
                      case measure => simp [intOf]; omega
                  · go_wp2
                    go_roundw
                    case rel => exact ⟨m + 1, true, by omega, by go_num, rfl, trivial, by rw [HT.out, ← HFD.out]; simp⟩
                    case measure => simp [intOf]; omega
                · obtain rfl : m = L.length := by omega
                  obtain rfl : fd = true := HFD.out.2 (by rw [List.take_length]; exact HM.out)
                  have HZ := Lib.hid (HF.out _ (H4P.out _ HQ7.out))
                  go_wp2
                  go_ret
                  exact ⟨rfl, HZ.out⟩
            · clear hS
              obtain ⟨B, hB⟩ : ∃ B, bestT es (nameAt bs 0) (lastN bs) = B := ⟨_, rfl⟩
              have hnn := HU.out.none_
              rw [hB, nil_iff_len] at hnn
              have t1 : (((L.length : Int) == 0) == decide (k < (B.size : Int))) = true := by
                by_cases h : k < (B.size : Int)
                · have := hnn.2 h
                  rw [this, decide_eq_true h]; rfl
                · have h0 : ¬ L.length = 0 := fun e => h (hnn.1 e)
                  rw [decide_eq_false h]
                  have : ((L.length : Int) == 0) = false := by rw [beq_eq_false_iff_ne]; omega
                  rw [this]; rfl
              clear hnn
              go_wp2_with fail
              refine (ShortestRun_implU _ bs es _ _ _ _ B hB HU.out.val (HPP.out _ (H4P.out _ HQ7.out)).1 (HPP.out _ (H4P.out _ HQ7.out)).2.1 (HPP.out _ (H4P.out _ HQ7.out)).2.2.1).mono ?_
              rintro e wz ⟨rfl, hbz⟩
              have HZ := Lib.hid (HF.out _ (H4P.out _ (below_new HQ7.out hbz)))
              clear hbz
              go_wp2
              go_ret
              exact ⟨by simp, HZ.out⟩
end Go.Proofs.YtflnkahgmbndiaaGreatDoor
