/-
  The walk of the law FnRunsGrow. Conditions: what came in are bytes; the errors' variables hold errors.
-/
import Derived.Test.YtngcmjfkeageiaaDoorRunsU
import Derived.Test.YtngcmjfkeageiaaDoorGrowM
import Derived.Test.YtngcmjfkeageiaaDoorDrawU
namespace Go.Proofs.YtngcmjfkeageiaaDoor
open Go.RowKit Go.Maps

def RunsPostL (w : World) (L : List ByteArray) (b : Bool) (e : Ending) (w' : World) : Prop :=
  ∃ a c, e = .returned (.tuple #[.slice a L.length c, .bool b]) ∧ w'.ownsRow w.heap.size 9 1 (.slice a L.length c) L.length (L.map Value.string) ∧ Below w.heap.size w w'
theorem RunsPost.lit {w w' : World} {r : List ByteArray × Bool} {L : List ByteArray} {b : Bool} {e : Ending} (hr : r = (L, b)) (h : RunsPost w r e w') : RunsPostL w L b e w' := by
  subst hr
  obtain ⟨v, rfl, ho, hb⟩ := h
  obtain ⟨a, c, rfl⟩ := own_form ho
  exact ⟨a, c, rfl, ho, hb⟩
theorem RunsUpTo_implL (L : List ByteArray) (b : Bool) (bs es : List Pr) (w : World) (ab ae : Option Addr) (cb ce : Nat) (k : Int) (hr : runsR bs es k = (L, b)) (hpb : PairsAt w ab bs) (hpe : PairsAt w ae es) (hg : Errs w) :
    Calls Tryd.prog 43 #[.agg #[.slice ab bs.length cb, .slice ae es.length ce], .int .i64 k] w (RunsPostL w L b) :=
  (RunsUpTo_impl bs es w ab ae cb ce k hpb hpe hg).mono fun _ _ h => h.lit hr
theorem RunsUpTo_specL (L : List ByteArray) (b : Bool) (bs es : List Pr) (w : World) (ab ae : Option Addr) (cb ce : Nat) (k : Int) (hr : runsR bs es k = (L, b)) (hpb : PairsAt w ab bs) (hpe : PairsAt w ae es) :
    Calls Tryd.prog 42 #[.agg #[.slice ab bs.length cb, .slice ae es.length ce], .int .i64 k] w (RunsPostL w L b) :=
  (RunsUpTo_spec w bs es ab ae cb ce k hpb hpe).mono fun _ _ h => h.lit hr
theorem own_atR {w : World} {base n : Nat} {a : Option Addr} {c : Nat} {L : List ByteArray} (h : w.ownsRow base 9 1 (.slice a n c) L.length (L.map Value.string)) {i : Nat} {x : ByteArray} (hi : L[i]? = some x) : ∃ g, a = some ⟨g, 0, none⟩ ∧ w.cell? ⟨g, i, none⟩ = some (.string x) := by
  have hx : (L.map Value.string)[i]? = some (.string x) := by rw [List.getElem?_map, hi]; rfl
  rcases h.2 with ⟨h1, h2⟩ | ⟨g, cap, cur, e1, h2⟩
  · have : L.length = 0 := by omega
    have := List.length_eq_zero_iff.1 this
    subst this
    cases hi
  · have hv : (Value.slice a n c).ownBlock = some g := by rw [e1]; rfl
    have := h.cells hv i _ hx
    refine ⟨g, (Value.slice.inj e1).1, ?_⟩
    rcases Nat.eq_zero_or_pos i with h0 | h0
    · subst h0; simpa [Addr.add] using this
    · simpa [Addr.add, show i ≠ 0 by omega] using this
theorem filter_hit {p : ByteArray → Bool} : ∀ (L : List ByteArray) (m : Nat) (x : ByteArray), L[m]? = some x → p x = true → (L.filter p)[((L.take m).filter p).length]? = some x
  | [], m, x, h, _ => by simp at h
  | y :: r, 0, x, h, hp => by
    simp at h; subst h
    simp [hp]
  | y :: r, m + 1, x, h, hp => by
    have ih := filter_hit r m x (by simpa using h) hp
    cases hy : p y <;> simp [hy, ih]
theorem filter_take_succ {p : ByteArray → Bool} {L : List ByteArray} {m : Nat} {x : ByteArray} (h : L[m]? = some x) : ((L.take (m + 1)).filter p).length = ((L.take m).filter p).length + (if p x then 1 else 0) := by
  rw [List.take_add_one, h]
  cases hp : p x <;> simp [hp]
/-- the two lists of the law -/
structure Grow (K : Int) (L1 L2 : List ByteArray) : Prop where
  few : L2.length ≤ 300
  le : ∀ x ∈ L2, (x.size : Int) ≤ K + 1
  eq : L2.filter (fun r => decide ((r.size : Int) ≤ K)) = L1
theorem runs_grow {bs es : List Pr} {k : Int} {L1 L2 : List ByteArray} {b1 b2 : Bool} (h1 : runsR bs es k = (L1, b1)) (h2 : runsR bs es (k + 1) = (L2, b2)) :
    (b2 = false) ∨ (b1 = false ∧ k < 0) ∨ (b1 = true ∧ b2 = true ∧ Grow k L1 L2) := by
  unfold runsR at h1 h2
  by_cases c2 : validB bs es = true ∧ inB (k + 1) 0 12 = true ∧ (allRuns bs es (k + 1).toNat).length ≤ 300
  · rw [if_pos c2] at h2
    cases h2
    refine .inr ?_
    by_cases hk : k < 0
    · rw [if_neg (fun h => by have := h.2.1; simp [inB] at this; omega)] at h1
      cases h1
      exact .inl ⟨rfl, hk⟩
    · obtain ⟨K, rfl⟩ : ∃ K : Nat, k = (K : Int) := ⟨k.toNat, by omega⟩
      have hV : Valid bs es := by simpa [validB] using c2.1
      have hlo := hV.b.lo
      have hg := allRuns_grow (es := es) (fun i hi => name_sizeR hV.b hi) (by omega) (first_ne_lastR hV.b) K
      have e1 : ((K : Int) + 1).toNat = K + 1 := by omega
      have c2' := c2
      rw [e1] at c2'
      have hl : (allRuns bs es K).length ≤ 300 := by rw [← hg]; exact Nat.le_trans (List.length_filter_le _ _) c2'.2.2
      have hin := c2.2.1
      rw [if_pos ⟨c2.1, by simp [inB] at hin ⊢; omega, by rw [Int.toNat_natCast]; exact hl⟩] at h1
      cases h1
      refine .inr ⟨rfl, rfl, c2.2.2, fun x hx => ?_, ?_⟩
      · have := allRuns_size (fun i hi => name_sizeR hV.b hi) (by omega) _ hx
        omega
      · rw [e1, Int.toNat_natCast, ← hg]
        simp
  · rw [if_neg c2] at h2
    cases h2
    exact .inl rfl
set_option maxRecDepth 100000 in
set_option maxHeartbeats 6400000 in
theorem LawFnRunsGrow_any (w : World) (a : Option Addr) (n cap : Nat) (hby : BytesRaw w a n cap) (hg : Errs w) :
    Calls Tryd.prog 11 #[.slice a n cap] w fun e w' => e = .returned (.bool true) ∧ Below w.heap.size w w' := by
  go_enter Tryd.func11, Tryd.ntmps11
  by_cases hL : (1048576 : Int) < (n : Int)
  · go_wp2
    go_ret
    exact ⟨rfl, Below.refl _ _⟩
  have HG := Lib.hid hg
  clear hg
  go_wp2_with fail
  refine (DrawRunsUpTo_any w a n cap hby).mono ?_
  rintro e w1 ⟨bs, es, ab, ae, cb, ce, k, rfl, hSb, hSe, hk, hPb, hPe, hb1⟩
  have hP := PAt.new ab ae cb ce hPb hPe
  have hall : Below w.heap.size w (w1.alloc (.cells #[.slice ab bs.length cb, .slice ae es.length ce] 32)) := hb1.alloc hb1.size _
  go_upto_region 4 with fail
  generalize w1.alloc (.cells #[.slice ab bs.length cb, .slice ae es.length ce] 32) = wP at *
  have HC := Lib.hid (show ∀ W', Below wP.heap.size wP W' → (W'.cell? ⟨w1.heap.size, 0, none⟩ = some (.slice ab bs.length cb) ∧ W'.cell? ⟨w1.heap.size, 1, none⟩ = some (.slice ae es.length ce)) from fun W' hB => ⟨(hP.below hB).c0, (hP.below hB).c1⟩)
  have HPP := Lib.hid (show ∀ W', Below wP.heap.size wP W' → (PairsAt W' ab bs ∧ PairsAt W' ae es ∧ Errs W') from fun W' hB => ⟨(hP.below hB).b, (hP.below hB).e, HG.out.keep (hall.trans (hB.mono hall.size))⟩)
  have HF := Lib.hid (show ∀ W', Below wP.heap.size wP W' → Below w.heap.size w W' from fun W' hB => hall.trans (hB.mono hall.size))
  obtain ⟨c0, c1⟩ := HC.out _ (Below.refl _ _)
  generalize w1.heap.size = q at *
  clear hP hPb hPe hb1 hSb hSe hby hall HG
  obtain ⟨L1, b1, h1⟩ : ∃ L1 b1, runsR bs es k = (L1, b1) := ⟨_, _, rfl⟩
  obtain ⟨L2, b2, h2⟩ : ∃ L2 b2, runsR bs es (k + 1) = (L2, b2) := ⟨_, _, rfl⟩
  have hgr := runs_grow h1 h2
  have HR := Lib.hid (And.intro h1 h2)
  have e1 : IntKind.i64.wrap (k + 1) = k + 1 := IntWalk.i64_in _ (by omega)
  clear h1 h2
  go_wp2_with fail
  refine (RunsUpTo_implL L1 b1 bs es _ _ _ _ _ k HR.out.1 (HPP.out _ (Below.refl _ _)).1 (HPP.out _ (Below.refl _ _)).2.1 (HPP.out _ (Below.refl _ _)).2.2).mono ?_
  rintro e w2 ⟨a1, n1, rfl, ho1, hb2⟩
  obtain ⟨c0, c1⟩ := HC.out _ hb2
  have HQ2 := Lib.hid hb2
  have HO1 := Lib.hid ho1
  clear hb2 ho1
  go_wp2_with fail
  refine (RunsUpTo_specL L1 b1 bs es _ _ _ _ _ k HR.out.1 (HPP.out _ HQ2.out).1 (HPP.out _ HQ2.out).2.1).mono ?_
  rintro e w3 ⟨aS, nS, rfl, _, hb3⟩
  have HQ3 := Lib.hid (below_new HQ2.out hb3)
  have HO3 := Lib.hid (ownsRow_below HO1.out hb3)
  obtain ⟨c0, c1⟩ := HC.out _ HQ3.out
  have t1 : (b1 == b1) = true := by simp
  clear hb3 HQ2 HO1
  go_wp2_with fail
  refine (RunsUpTo_implL L2 b2 bs es _ _ _ _ _ (k + 1) HR.out.2 (HPP.out _ HQ3.out).1 (HPP.out _ HQ3.out).2.1 (HPP.out _ HQ3.out).2.2).mono ?_
  rintro e w4 ⟨a2, n2, rfl, ho4, hb4⟩
  have HQ4 := Lib.hid (HF.out _ (below_new HQ3.out hb4))
  have HO4 := Lib.hid (And.intro (ownsRow_below HO3.out hb4) ho4)
  clear hb4 ho4 HQ3 HO3 c0 c1
  rcases hgr with rfl | ⟨rfl, hk0⟩ | ⟨rfl, rfl, hG⟩
  · go_wp2
    all_goals
      go_ret
      exact ⟨rfl, HQ4.out⟩
  · cases b2
    · go_wp2
      all_goals
        go_ret
        exact ⟨rfl, HQ4.out⟩
    · have d0 : decide (k < 0) = true := decide_eq_true hk0
      go_wp2
      all_goals
        go_ret
        exact ⟨rfl, HQ4.out⟩
  · have hl2 := hG.few
    have hl1 : L1.length ≤ 300 := by rw [← hG.eq]; exact Nat.le_trans (List.length_filter_le _ _) hG.few
    have HGr := Lib.hid hG
    clear hG
    go_wp2
    go_loopw [11, 58] (fun c i wr => ∃ m : Nat, m ≤ L2.length ∧ i = .int .i64 m ∧ c = .int .i64 (((L2.take m).filter (fun r => decide ((r.size : Int) ≤ k))).length : Int) ∧ wr = w4) (fun _ i _ => L2.length - (intOf i).toNat)
    case atStart => exact ⟨0, Nat.zero_le _, rfl, by simp, rfl⟩
    case round =>
      obtain ⟨m, hm, rfl, rfl, rfl⟩ := hrel
      have hC : ((L2.take m).filter (fun r => decide ((r.size : Int) ≤ k))).length ≤ L1.length := by
        rw [← HGr.out.eq]; exact ((List.take_sublist m L2).filter _).length_le
      by_cases hlt : m < L2.length
      · obtain ⟨x, hx⟩ : ∃ x, L2[m]? = some x := ⟨_, List.getElem?_eq_getElem hlt⟩
        obtain ⟨g, rfl, cx⟩ := own_atR HO4.out.2 hx
        have hT := filter_take_succ (p := fun r => decide ((r.size : Int) ≤ k)) hx
        have hle := HGr.out.le x (List.mem_of_getElem? hx)
        have HX := Lib.hid hx
        by_cases hp : (x.size : Int) ≤ k
        · have h1 : L1[((L2.take m).filter (fun r => decide ((r.size : Int) ≤ k))).length]? = some x := by
            have := filter_hit (p := fun r => decide ((r.size : Int) ≤ k)) L2 m x hx (decide_eq_true hp)
            rw [HGr.out.eq] at this
            exact this
          rw [decide_eq_true hp] at hT
          have HT := Lib.hid hT
          have hCl := (List.getElem?_eq_some_iff.1 h1).1
          obtain ⟨g1, rfl, cy⟩ := own_atR HO4.out.1 h1
          have tt : (x.toList == x.toList) = true := by rw [toList_eq_iff]; exact decide_eq_true rfl
          clear hx hT h1 hle
          generalize ((L2.take m).filter (fun r => decide ((r.size : Int) ≤ k))).length = C at *
          have hCi : (C : Int) < (L1.length : Int) := by omega
          have wC : IntKind.i64.wrap ((C : Int) + 1) = (C : Int) + 1 := IntWalk.i64_in _ (by omega)
          go_wp2
          go_roundw
          case rel => exact ⟨m + 1, by omega, by go_num, by rw [HT.out]; go_num, trivial⟩
          case measure => simp [intOf]; omega
        · rw [decide_eq_false hp] at hT
          have HT := Lib.hid hT
          have ts : ((x.size : Int) == k + 1) = true := by simp; omega
          have hNo : ∀ y, y ∈ L1 → (y.toList == x.toList) = false := fun y hy => by
            rw [toList_eq_iff]
            refine decide_eq_false fun e => hp ?_
            rw [← HGr.out.eq] at hy
            have := (List.mem_filter.1 hy).2
            rw [← e]; simpa using this
          have HNo := Lib.hid hNo
          clear hx hT hle hNo
          generalize ((L2.take m).filter (fun r => decide ((r.size : Int) ≤ k))).length = C at *
          by_cases hCl : C < L1.length
          · obtain ⟨y, hy⟩ : ∃ y, L1[C]? = some y := ⟨_, List.getElem?_eq_getElem hCl⟩
            obtain ⟨g1, rfl, cy⟩ := own_atR HO4.out.1 hy
            have tt := HNo.out y (List.mem_of_getElem? hy)
            have hCi : (C : Int) < (L1.length : Int) := by omega
            clear hy
            go_wp2
            go_roundw
            case rel => exact ⟨m + 1, by omega, by go_num, by rw [HT.out]; simp, trivial⟩
            case measure => simp [intOf]; omega
          · have hCi : ¬ (C : Int) < (L1.length : Int) := by omega
            have hCd : decide ((C : Int) < (L1.length : Int)) = false := decide_eq_false hCi
            go_wp2
            go_roundw
            case rel => exact ⟨m + 1, by omega, by go_num, by rw [HT.out]; simp, trivial⟩
            case measure => simp [intOf]; omega
      · obtain rfl : m = L2.length := by omega
        have hE : ((L2.take L2.length).filter (fun r => decide ((r.size : Int) ≤ k))).length = L1.length := by rw [List.take_length, HGr.out.eq]
        rw [hE]
        clear hE hC
        go_wp2
        go_ret
        exact ⟨by simp, HQ4.out⟩
end Go.Proofs.YtngcmjfkeageiaaDoor
