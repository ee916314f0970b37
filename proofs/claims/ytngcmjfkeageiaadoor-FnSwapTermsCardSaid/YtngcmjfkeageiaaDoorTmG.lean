import Derived.Test.YtngcmjfkeageiaaDoorBlkS
import Derived.Test.YtngcmjfkeageiaaDoorSpecD
import Derived.Test.YtngcmjfkeageiaaDoorValid
import Derived.Test.YtngcmjfkeageiaaDoorMaps
import Derived.RangeFuncNested
import Derived.RangeFuncBound
import Derived.RangeFuncCalls
import Derived.RangeFuncLeaves
import Derived.RangeFuncBox
import Derived.Shelf.Abstract
import Derived.Shelf.RegionOpen
import Derived.WalkKit
import Derived.OwnWalkIn
import Derived.TacticsInMore
import Derived.LoopNIn
import Derived.LoopIn
import Derived.Maps.OwnIn
import Derived.Maps.AppendAt
import Derived.Sort.MapsRangeIn
import Derived.LoopN
import Derived.Test.YtngcmjfkeageiaaDoorBlkI
import Derived.Test.YtngcmjfkeageiaaDoorBlkF
import Derived.Test.YtngcmjfkeageiaaDoorPlan
import Derived.Deep.CutRange
section
/-
  The terms that are computed somewhere, as a fold over the three terms. No program.
-/
namespace Go.Proofs.YtngcmjfkeageiaaDoor
open Go.RowKit Go.Maps

/-- one of the first k blocks has the letter c -/
noncomputable def hasT (l : List Pr) (c : Nat) : Nat → Bool
  | 0 => false
  | k + 1 => hasT l c k || decide (0 ≤ fndC (restAt l k) c)
theorem fndC_pos (s : ByteArray) (c : Nat) : 0 ≤ fndC s c ↔ ∃ j, j < s.size ∧ byteAt s j = c := by
  constructor
  · intro h
    rcases Classical.em (∃ j, j < s.size ∧ byteAt s j = c) with h' | h'
    · exact h'
    · have := (fndC_neg s c).2 (fun j hj e => h' ⟨j, hj, e⟩)
      omega
  · rintro ⟨j, hj, e⟩
    rcases Int.lt_or_le (fndC s c) 0 with h | h
    · exact absurd e ((fndC_neg s c).1 h j hj)
    · exact h
theorem hasT_iff (l : List Pr) (c : Nat) : ∀ k, hasT l c k = true ↔ ∃ i, i < k ∧ ∃ j, j < (restAt l i).size ∧ byteAt (restAt l i) j = c
  | 0 => by
    constructor
    · intro h; cases h
    · rintro ⟨i, h, _⟩; omega
  | k + 1 => by
    unfold hasT
    rw [Bool.or_eq_true, hasT_iff l c k, decide_eq_true_eq, fndC_pos]
    constructor
    · rintro (⟨i, hi, h⟩ | h)
      · exact ⟨i, by omega, h⟩
      · exact ⟨k, by omega, h⟩
    · rintro ⟨i, hi, h⟩
      rcases Nat.lt_or_ge i k with h' | h'
      · exact .inl ⟨i, h', h⟩
      · obtain rfl : i = k := by omega
        exact .inr h
theorem hasT_hit {l : List Pr} {c k n : Nat} (hk : k < n) (h : 0 ≤ fndC (restAt l k) c) : hasT l c n = true := (hasT_iff l c n).2 ⟨k, hk, (fndC_pos _ _).1 h⟩
theorem hasT_more {l : List Pr} {c k : Nat} (h0 : hasT l c k = false) (h : fndC (restAt l k) c < 0) : hasT l c (k + 1) = false := by
  unfold hasT
  rw [h0, decide_eq_false (by omega)]; rfl

/-- 'x', 'y', 'z' -/
def tmN : Nat → ByteArray
  | 0 => ⟨#[120]⟩
  | 1 => ⟨#[121]⟩
  | _ => ⟨#[122]⟩
/-- the first k terms that are computed somewhere -/
noncomputable def tmA (l : List Pr) : Nat → ByteArray
  | 0 => ⟨#[]⟩
  | k + 1 => if hasT l (120 + k) l.length = true then tmA l k ++ tmN k else tmA l k
theorem tmA_yes {l : List Pr} {k : Nat} (h : hasT l (120 + k) l.length = true) : tmA l (k + 1) = tmA l k ++ tmN k := by show (if _ then _ else _) = _; rw [if_pos h]
theorem tmA_no {l : List Pr} {k : Nat} (h : hasT l (120 + k) l.length = false) : tmA l (k + 1) = tmA l k := by show (if _ then _ else _) = _; rw [if_neg (by rw [h]; simp)]
theorem tmN_size (k : Nat) : (tmN k).size = 1 := by
  match k with
  | 0 => rfl
  | 1 => rfl
  | _ + 2 => rfl
theorem tmA_size (l : List Pr) : ∀ k, (tmA l k).size ≤ k
  | 0 => Nat.le_refl _
  | k + 1 => by
    have ih := tmA_size l k
    cases h : hasT l (120 + k) l.length
    · rw [tmA_no h]; omega
    · rw [tmA_yes h, ByteArray.size_append, tmN_size]; omega
/-- the terms as letters, in order -/
noncomputable def tmL (l : List Pr) : List Nat := [120, 121, 122].filter fun c => hasT l c l.length
theorem tmA_tmL (l : List Pr) : tmA l 3 = ⟨((tmL l).map UInt8.ofNat).toArray⟩ := by
  unfold tmL
  cases h0 : hasT l 120 l.length <;> cases h1 : hasT l 121 l.length <;> cases h2 : hasT l 122 l.length
  all_goals
    first
      | rw [tmA_yes (k := 2) h2]
      | rw [tmA_no (k := 2) h2]
    first
      | rw [tmA_yes (k := 1) h1]
      | rw [tmA_no (k := 1) h1]
    first
      | rw [tmA_yes (k := 0) h0]
      | rw [tmA_no (k := 0) h0]
    simp only [List.filter, h0, h1, h2]
    rfl

/-- what TermsIn answers -/
noncomputable def termV (bs es : List Pr) : Value := if validB bs es = true then .tuple #[.string (tmA bs 3), .bool true] else .tuple #[.string e0, .bool false]
theorem termV_yes {bs es : List Pr} (h : validB bs es = true) : termV bs es = .tuple #[.string (tmA bs 3), .bool true] := by unfold termV; rw [if_pos h]
theorem termV_no {bs es : List Pr} (h : validB bs es = false) : termV bs es = .tuple #[.string e0, .bool false] := by unfold termV; rw [if_neg (by rw [h]; simp)]
theorem termV_form (bs es : List Pr) : ∃ (r : ByteArray) (ok : Bool), termV bs es = .tuple #[.string r, .bool ok] := by
  cases h : validB bs es
  · exact ⟨_, _, termV_no h⟩
  · exact ⟨_, _, termV_yes h⟩

/-! ### what comes of a walk over the keys -/
/-- no key twice; a key is on the list just where it is in and no longer to come -/
def ColB (S : Int → Bool) (left : Lit → Bool) (ss : List Int) : Prop := ss.Nodup ∧ ∀ x, x ∈ ss ↔ (S x = true ∧ left (.int .u8 x) = false)
theorem ColB.start {S : Int → Bool} {left : Lit → Bool} (h : ∀ x, left (.int .u8 x) = S x) : ColB S left [] :=
  ⟨List.nodup_nil, fun x => by rw [h x]; cases S x <;> simp⟩
theorem ColB.step {S : Int → Bool} {left : Lit → Bool} {ss : List Int} (h : ColB S left ss) {x : Int} (hl : left (.int .u8 x) = true) (hS : S x = true) :
    ColB S (fun z => left z && !z.sameKey (.int .u8 x)) (ss ++ [x]) := by
  have hnew : x ∉ ss := fun hx => by have := ((h.2 x).1 hx).2; rw [hl] at this; cases this
  refine ⟨List.nodup_append.2 ⟨h.1, by simp, fun a ha b hb => by simp at hb; subst hb; exact fun e => hnew (e ▸ ha)⟩, fun y => ?_⟩
  by_cases hy : y = x
  · subst hy; simp [hS, Lit.sameKey]
  · simp [h.2 y, hy, Lit.sameKey]
theorem ColB.fin {S : Int → Bool} {left : Lit → Bool} {ss : List Int} (h : ColB S left ss) (hl : ∀ kl, left kl = false) : ss.Nodup ∧ ∀ x, x ∈ ss ↔ S x = true :=
  ⟨h.1, fun x => by rw [h.2 x, hl]; simp⟩

/-- the sixteen lists of different terms -/
def all16 : List (List Int) := [[], [120], [121], [122], [120, 121], [121, 120], [120, 122], [122, 120], [121, 122], [122, 121], [120, 121, 122], [120, 122, 121], [121, 120, 122], [121, 122, 120], [122, 120, 121], [122, 121, 120]]
theorem in16 {ss : List Int} (h : ss.Nodup) (hs : ∀ x ∈ ss, x = 120 ∨ x = 121 ∨ x = 122) : ss ∈ all16 := by
  match ss, h, hs with
  | [], _, _ => decide
  | [a], _, hs => rcases hs a (by simp) with rfl | rfl | rfl <;> decide
  | [a, b], h, hs =>
    rcases hs a (by simp) with rfl | rfl | rfl <;> rcases hs b (by simp) with rfl | rfl | rfl <;> first | decide | (exfalso; revert h; decide)
  | [a, b, c], h, hs =>
    rcases hs a (by simp) with rfl | rfl | rfl <;> rcases hs b (by simp) with rfl | rfl | rfl <;> rcases hs c (by simp) with rfl | rfl | rfl <;> first | decide | (exfalso; revert h; decide)
  | a :: b :: c :: d :: r, h, hs =>
    exfalso
    have n1 := (List.nodup_cons.1 h).1
    have n2 := (List.nodup_cons.1 (List.nodup_cons.1 h).2).1
    have n3 := (List.nodup_cons.1 (List.nodup_cons.1 (List.nodup_cons.1 h).2).2).1
    have ab : a ≠ b := fun e => n1 (by rw [e]; simp)
    have ac : a ≠ c := fun e => n1 (by rw [e]; simp)
    have ad : a ≠ d := fun e => n1 (by rw [e]; simp)
    have bc : b ≠ c := fun e => n2 (by rw [e]; simp)
    have bd : b ≠ d := fun e => n2 (by rw [e]; simp)
    have cd : c ≠ d := fun e => n3 (by rw [e]; simp)
    have h1 := hs a (by simp)
    have h2 := hs b (by simp)
    have h3 := hs c (by simp)
    have h4 := hs d (by simp)
    omega
/-- the same, in order -/
def srt (ss : List Int) : List Int := [120, 121, 122].filter fun x => decide (x ∈ ss)
theorem srt_of {ss : List Int} {S : Int → Bool} (h : ∀ x, x ∈ ss ↔ S x = true) : srt ss = [120, 121, 122].filter S := by
  unfold srt
  refine List.filter_congr fun x _ => ?_
  rw [Bool.eq_iff_iff, decide_eq_true_eq, h x]
end Go.Proofs.YtngcmjfkeageiaaDoor
end

section
/-
  TermsIn of the model. Conditions: at most 1048576 blocks and edges, each text at most as many bytes.
-/
namespace Go.Proofs.YtngcmjfkeageiaaDoor
open Go.RowKit Go.Maps

theorem l15Find_at (s : ByteArray) (c : Nat) (f i : Int) (hi : i = (c : Int)) (h : fndC s c = f) (w : World) (hs : s.size ≤ 1048576) :
    Calls Tryd.prog 60 #[.string s, .int .u8 i] w fun e w' => e = .returned (.int .i64 f) ∧ w = w' := by
  subst h hi; exact l15Find_any s c w hs
theorem three_at (w w' : World) (hb : Below w.heap.size w w') (b : Nat) (hlt : b < w.heap.size) (h : w.heap[b]? = some (.cells #[.string ⟨#[120]⟩, .string ⟨#[121]⟩, .string ⟨#[122]⟩] 9 (0, 0))) :
    w'.cell? ⟨b, 0, none⟩ = some (.string ⟨#[120]⟩) ∧ w'.cell? ⟨b, 1, none⟩ = some (.string ⟨#[121]⟩) ∧ w'.cell? ⟨b, 2, none⟩ = some (.string ⟨#[122]⟩) := by
  have h' := (hb.block b hlt).trans h
  refine ⟨?_, ?_, ?_⟩ <;> simp [World.cell?, h']

set_option maxRecDepth 100000 in
set_option maxHeartbeats 12800000 in
theorem TermsIn_spec (w : World) (bs es : List Pr) (ab ae : Option Addr) (cb ce : Nat) (hpb : PairsAt w ab bs) (hpe : PairsAt w ae es) :
    Calls Tryd.prog 13 #[.agg #[.slice ab bs.length cb, .slice ae es.length ce]] w fun e w' => e = .returned (termV bs es) ∧ Below w.heap.size w w' := by
  have h1 : Below w.heap.size w (w.alloc (.cells #[.slice ab bs.length cb, .slice ae es.length ce] 32)) := (Below.refl _ _).alloc (Nat.le_refl _) _
  have hpb1 := hpb.below h1
  have hpe1 := hpe.below h1
  have H1 := Lib.hid h1; clear h1
  go_enter Tryd.func13, Tryd.ntmps13
  go_wp2_with fail
  refine (ProgValid_spec _ bs es _ _ _ _ hpb1 hpe1).mono ?_
  rintro e w1 ⟨rfl, hb1⟩
  have hall : Below w.heap.size w w1 := H1.out.trans (hb1.mono (by simp))
  have hpb2 := hpb1.below hb1
  have c0 := (hb1.cell (p := ⟨w.heap.size, 0, none⟩) (by simp)).trans (show _ = some (.slice ab bs.length cb) by go_simp)
  have c1 := (hb1.cell (p := ⟨w.heap.size, 1, none⟩) (by simp)).trans (show _ = some (.slice ae es.length ce) by go_simp)
  have hz := hall.size
  have hzq : w.heap.size < w1.heap.size := by have := hb1.size; simp at this; omega
  have hlen := hpb.len
  cases hv : validB bs es
  · have HV := Lib.hid (termV_no hv)
    clear hv
    go_wp2
    go_ret2
    exact ⟨by rw [HV.out]; rfl, hall⟩
  · have HV := Lib.hid (termV_yes hv)
    clear hv hb1 hpb1 hpe1
    go_wp2
    have hT : (w1.alloc (.cells #[.string ⟨#[120]⟩, .string ⟨#[121]⟩, .string ⟨#[122]⟩] 9)).heap[w1.heap.size]? = some (.cells #[.string ⟨#[120]⟩, .string ⟨#[121]⟩, .string ⟨#[122]⟩] 9 (0, 0)) := heap_alloc_new _ _
    have hbA : Below w1.heap.size w1 (w1.alloc (.cells #[.string ⟨#[120]⟩, .string ⟨#[121]⟩, .string ⟨#[122]⟩] 9)) := (Below.refl _ _).alloc (Nat.le_refl _) _
    have hsA : w1.heap.size < (w1.alloc (.cells #[.string ⟨#[120]⟩, .string ⟨#[121]⟩, .string ⟨#[122]⟩] 9)).heap.size := by simp
    have hallA := hall.trans (hbA.mono hz)
    have hpbA := hpb2.below hbA
    have cA := (hbA.cell (p := ⟨w.heap.size, 0, none⟩) hzq).trans c0
    generalize w1.alloc (.cells #[.string ⟨#[120]⟩, .string ⟨#[121]⟩, .string ⟨#[122]⟩] 9) = wA at *
    have HA := Lib.hid (And.intro hT (And.intro hallA hpbA))
    have hzqA : w.heap.size < wA.heap.size := by omega
    clear hbA hT hallA hpbA hall hpb2 c0 c1
    go_loopw [14, 4] (fun i v wr => ∃ k : Nat, k ≤ 3 ∧ i = .int .i64 k ∧ v = .string (tmA bs k) ∧ Below wA.heap.size wA wr) (fun i _ _ => 3 - (intOf i).toNat)
    case atStart => exact ⟨0, by omega, rfl, rfl, Below.refl _ _⟩
    case round =>
      obtain ⟨k, hk, rfl, rfl, hbl⟩ := hrel
      have HB := Lib.hid hbl
      have hsz := tmA_size bs k
      obtain ⟨z0, z1, z2⟩ := three_at wA wr hbl w1.heap.size hsA HA.out.1
      have cR := (hbl.cell (p := ⟨w.heap.size, 0, none⟩) hzqA).trans cA
      have hzr := hbl.size
      clear hbl
      by_cases hlt : k < 3
      · obtain ⟨T, hT⟩ : ∃ T, tmN k = T := ⟨_, rfl⟩
        have hTs : T.size = 1 := by rw [← hT]; exact tmN_size k
        have hcell : wr.cell? ⟨w1.heap.size, k, none⟩ = some (.string T) := by
          rw [← hT]
          obtain rfl | rfl | rfl : k = 0 ∨ k = 1 ∨ k = 2 := by omega
          · exact z0
          · exact z1
          · exact z2
        have hT0 : ∃ h0 : 0 < T.size, (T[0].toNat : Int) = ((120 + k : Nat) : Int) := by
          subst hT
          obtain rfl | rfl | rfl : k = 0 ∨ k = 1 ∨ k = 2 := by omega
          all_goals exact ⟨by decide, rfl⟩
        obtain ⟨hT0, hTv⟩ := hT0
        have HT := Lib.hid (And.intro hT hTs)
        have hTi : (0 : Int) < (T.size : Int) := by omega
        have t1 : ¬ 9223372036854775807 < (tmA bs k).size + T.size := by omega
        have HTv := Lib.hid hTv
        have d3 : (k : Int) < 3 := by omega
        clear z0 z1 z2 hT hTs hTv hsz
        go_wp2
        go_loopw [21, 4] (fun j v wr2 => ∃ m : Nat, m ≤ bs.length ∧ j = .int .i64 m ∧ v = .string (tmA bs k) ∧ hasT bs (120 + k) m = false ∧ Below wA.heap.size wA wr2) (fun j _ _ => bs.length - (intOf j).toNat)
        case atStart => exact ⟨0, Nat.zero_le _, rfl, rfl, rfl, HB.out⟩
        case round =>
          obtain ⟨m, hm, rfl, rfl, hno, hbl⟩ := hrel
          have hsz2 := hbl.size
          have HN := Lib.hid (And.intro hno hbl)
          by_cases hlt2 : m < bs.length
          · obtain ⟨b, off, rfl, hb, g1, g2⟩ := HA.out.2.2.cell m hlt2
            have d1 := (hbl.cell (p := ⟨b, off + m * 2, none⟩) hb).trans g1
            have d2 := (hbl.cell (p := ⟨b, off + m * 2 + 1, none⟩) hb).trans g2
            have HS := Lib.hid (HA.out.2.2.size m hlt2).2
            obtain ⟨f, hf⟩ : ∃ f, fndC (restAt bs m) (120 + k) = f := ⟨_, rfl⟩
            have HF := Lib.hid hf
            clear hno hbl g1 g2 hf
            by_cases hf0 : (0 : Int) ≤ f
            · have HH := Lib.hid (show hasT bs (120 + k) bs.length = true from hasT_hit hlt2 (by rw [HF.out]; exact hf0))
              have dd : decide ((0 : Int) ≤ f) = true := decide_eq_true hf0
              go_wp2
              go_quiet (exact Calls.quiet_of_same ((l15Find_at (restAt bs m) (120 + k) f _ HTv.out HF.out _ HS.out).mono fun _ _ h => ⟨h.1, h.2.symm⟩))
              go_wp2
              go_roundw
              case rel => exact ⟨k + 1, by omega, by go_num, by rw [tmA_yes HH.out, HT.out.1], below_drewN (HN.out.2.alloc hsz2 _) _⟩
              case measure => simp [intOf]; omega
            · have HH := Lib.hid (show hasT bs (120 + k) (m + 1) = false from hasT_more HN.out.1 (by rw [HF.out]; omega))
              have dd : decide ((0 : Int) ≤ f) = false := decide_eq_false hf0
              go_wp2
              go_quiet (exact Calls.quiet_of_same ((l15Find_at (restAt bs m) (120 + k) f _ HTv.out HF.out _ HS.out).mono fun _ _ h => ⟨h.1, h.2.symm⟩))
              go_wp2
              go_roundw
              case rel => exact ⟨m + 1, by omega, by go_num, rfl, HH.out, below_drewN (HN.out.2.alloc hsz2 _) _⟩
              case measure => simp [intOf]; omega
          · obtain rfl : m = bs.length := by omega
            have HH := Lib.hid (tmA_no HN.out.1)
            clear hno hbl
            go_wp2
            go_roundw
            case rel => exact ⟨k + 1, by omega, by go_num, by rw [HH.out], HN.out.2⟩
            case measure => simp [intOf]; omega
      · obtain rfl : k = 3 := by omega
        go_wp2
        go_ret2
        exact ⟨by rw [HV.out]; rfl, HA.out.2.1.trans (HB.out.mono HA.out.2.1.size)⟩
end Go.Proofs.YtngcmjfkeageiaaDoor
end

section
/-
  A map keyed by bytes, its keys, and the slice in which slices.Collect lays them. Conditions: none but what the statements say.
-/
namespace Go.Proofs.YtngcmjfkeageiaaDoor
open Go.RowKit Go.Maps Go.Shelf
attribute [local go_sem] Oper.semAt_some

theorem keyedB : Keyed Tryd.prog 5 := int_keyed Tryd.underlying5
theorem wfB {x : Nat} (h : 120 ≤ x) (h' : x ≤ 122) : (Lit.int .u8 (x : Int)).wf = true := by
  obtain rfl | rfl | rfl : x = 120 ∨ x = 121 ∨ x = 122 := by omega
  all_goals rfl
/-- block b is a map of at most n entries whose keys are those of S -/
def SetB (w : World) (b n : Nat) (S : Int → Bool) : Prop := ∃ D : DataW Value, w.ownsMap Tryd.prog 5 hR b n D ∧ ∀ x, Maps.has D (.int .u8 x) = S x
section
variable {w w' : World} {b n : Nat} {S : Int → Bool}
theorem SetB.lt (h : SetB w b n S) : b < w.heap.size := by obtain ⟨D, h, _⟩ := h; exact h.lt
theorem SetB.mono {n' : Nat} (h : SetB w b n S) (hn : n ≤ n') : SetB w b n' S := by obtain ⟨D, h, k⟩ := h; exact ⟨D, h.mono hn, k⟩
theorem SetB.made (w : World) : SetB (w.alloc (.map #[] 0)) w.heap.size 0 (fun _ => false) := ⟨.map [], World.ownsMap_made _ _ _ _, fun _ => rfl⟩
theorem SetB.same (h : SetB w b n S) (e : w'.heap[b]? = w.heap[b]?) : SetB w' b n S := by
  obtain ⟨D, ⟨es, clock, hb, r⟩, k⟩ := h
  exact ⟨D, ⟨es, clock, e.trans hb, r⟩, k⟩
theorem SetB.alloc (h : SetB w b n S) (o : Obj) : SetB (w.alloc o) b n S := h.same (Below.heap_alloc _ _ _ h.lt)
theorem SetB.below {B : Nat} (h : SetB w b n S) (hb : Below B w w') (hB : b < B) : SetB w' b n S := h.same (hb.block b hB)
theorem SetB.kept {row : Option Nat} (h : SetB w b n S) (hg : w.grownBy w' row) (hne : some b ≠ row) : SetB w' b n S := h.same (hg.block b h.lt hne)
theorem SetB.congr {T : Int → Bool} (h : SetB w b n S) (e : ∀ x, S x = T x) : SetB w b n T := by obtain ⟨D, h, k⟩ := h; exact ⟨D, h, fun x => (k x).trans (e x)⟩
theorem SetB.put {t e : TypeId} (h : SetB w b n S) (ht : Tryd.prog.underlying t = some (.map 5 e)) (hn : n < maxLen) {x : Int} (hx : (Lit.int .u8 x).wf = true) (v : Value) :
    ∃ w', (Instr.mapUpdate t (.map (some b)) (.int .u8 x) v).run Tryd.prog w = .ok () w' ∧ SetB w' b (n + 1) (fun y => S y || decide (y = x)) ∧ w.grownBy w' (some b) ∧ w'.heap.size = w.heap.size := by
  obtain ⟨D, h, k⟩ := h
  obtain ⟨w', hrun, h', ht'⟩ := h.store keyedB ht hn (Maps.keyOf_int_mk Tryd.underlying5 hx) (d := .held v) (ps := []) rfl
  refine ⟨w', hrun, ⟨_, h', fun y => ?_⟩, ht'.grown, ?_⟩
  · by_cases e : y = x
    · subst e
      rw [has_put_same h.isMap (by trivial)]; simp
    · rw [has_put_other (by intro h'; exact e (by simpa using h')), k y]; simp [e]
  · obtain ⟨es, clock, es', clock', _, rfl⟩ := ht'
    simp [ChangeMaps.setBlock]
end
section
variable (w : World) {ops : Array Oper} {rest : List Oper} {o : Oper} {a : Act} {Q : Exit → Act → World → Prop}
theorem wpList_putB (hg : o.guard = none) (m x v : Operand) (t : TypeId) (hop : o.op = Op.mapUpdate t m x v) (e : TypeId) (ht : Tryd.prog.underlying t = some (.map 5 e)) (b n : Nat) (S : Int → Bool)
    (hm : a.eval m = .map (some b)) (h : SetB w b n S) (hn : n < maxLen) (k : Int) (hx : a.eval x = .int .u8 k) (hk : (Lit.int .u8 k).wf = true) (val : Value) (hv : a.eval v = val)
    (hK : ∀ w', SetB w' b (n + 1) (fun y => S y || decide (y = k)) → w.grownBy w' (some b) → w'.heap.size = w.heap.size → wpList Tryd.prog ops Q rest (a.put o.dst undef) w') : wpList Tryd.prog ops Q (o :: rest) a w := by
  refine wpList_plain hg fun K' hK' => ?_
  obtain ⟨w', hrun, h1, h2, h3⟩ := h.put ht hn hk val
  unfold Oper.wp
  simp [execOp, hop, hm, hx, hv, hrun, Result.andThen]
  exact hK' _ _ (hK w' h1 h2 h3)
end

def encB (x : Int) : Value := .int .u8 x
theorem encB_inj {x y : Int} (h : encB x = encB y) : x = y := by simpa [encB] using h
/-- what the keys are, in some order -/
def KeyL (S : Int → Bool) (ss : List Int) : Prop := ss.Nodup ∧ ∀ x, x ∈ ss ↔ S x = true

set_option maxRecDepth 100000 in
set_option maxHeartbeats 1600000 in
/-- the function that maps.Keys hands back, for every loop body that leaves maps and walks alone -/
theorem keysB_run (F : Fence) (n : Nat) (hF : F.fn 128) (hro : F.round = none) (hn : 1 ≤ n) (l Bm b nn : Nat) (D0 : DataW Value) (S : Int → Bool) (hS : ∀ x, Maps.has D0 (.int .u8 x) = S x) (J Jx : List Int → World → Prop)
    (hY : ∀ pre x W, J pre W → pre.length < Maps.size D0 → YieldAt F (n - 1) Tryd.prog l #[.int .u8 x] W fun e W' =>
      (e = .returned (.bool true) ∧ J (pre ++ [x]) W' ∧ KeepsWalks W W') ∨ (e = .returned (.bool false) ∧ Jx (pre ++ [x]) W'))
    (W : World) (hJ : AbidesFrom W.heap.size J) (hm : W.cell? ⟨Bm, 0, none⟩ = some (.map (some b))) (hown : W.ownsMap Tryd.prog 5 hR b nn D0) (h0 : J [] W) :
    CallsIn F n Tryd.prog 128 #[.func (.yield l) #[] #[], .pointer (some ⟨Bm, 0, none⟩)] W fun e W' => (∃ v, e = .returned v) ∧
      ((∃ ss : List Int, KeyL S ss ∧ J ss W') ∨ (∃ pre : List Int, True ∧ Jx pre W')) := by
  refine callsIn_of_wp Tryd.func128 rfl hF ?_ hro
  simp only [Tryd.ntmps128, List.size_toArray, List.length_cons, List.length_nil, Nat.reduceAdd, Nat.reduceSub, Array.replicate_succ, Array.replicate_zero, List.push_toArray, List.append_toArray, List.nil_append, List.cons_append]
  gi_wp2_with (first
    | (gi_at_range; refine wpListIn_range_own _ rfl _ 88 rfl 5 4 keyedB Tryd.underlying88 _ b nn _ rfl hown ?_; intro w0 hrg0 hg0 hs0)
    | gi_in)
  go_frame
  gi_loopw [3] (fun _ wr => ∃ (left : Lit → Bool) (cnt : Nat) (ss : List Int), wr.ranges Tryd.prog 5 hR b W.heap.size nn D0 left cnt ∧ ss.length + cnt ≤ Maps.size D0 ∧ ColB S left ss ∧ J ss wr)
    (fun _ wr => wr.rangeLeft b W.heap.size)
  case atStart =>
    exact ⟨_, _, [], hrg0, by simp, ColB.start hS, hJ [] W w0 none h0 hg0 (fun r e => by cases e)⟩
  case round =>
    obtain ⟨left, cnt, ss, hrg, hcs, hC, hJs⟩ := hrel
    gi_wp2_with (first
      | (gi_at_next; refine wpListIn_next_ranges _ rfl _ rfl 5 keyedB hR (Value.int .u8) id (fun key kl hk => by obtain ⟨x, hx, _⟩ := Maps.keyOf_int_inv Tryd.underlying5 hk; exact ⟨x, hx⟩) (fun v _ _ => ⟨v, rfl⟩) b W.heap.size nn _ _ _ rfl hrg ?_ ?_)
      | gi_in)
    · intro hc0 hl0
      gi_wp2
      go_end0
      exact ⟨⟨_, rfl⟩, .inl ⟨ss, hC.fin hl0, hJs⟩⟩
    · intro x c kl yd yp w2 cnt2 hkey hlk hv hat hrg2 hlt hg2 hs2 hen
      obtain ⟨x', ex, rfl, _⟩ := Maps.keyOf_int_inv Tryd.underlying5 hkey
      obtain rfl : x = x' := by simpa using ex
      have hJ2 : J ss w2 := hJ ss wr w2 (some W.heap.size) hJs hg2 (fun r e => by cases e; exact ⟨Nat.le_refl _, hrg.iter_walk⟩)
      obtain ⟨fn, tmps, assign, body, hy, hR⟩ := hY ss x w2 hJ2 (by omega)
      have hin : S x = true := by rw [← hS x]; exact has_true_of_atKey hat
      clear hs2
      gi_wp2
      refine hR.mono ?_
      have hC2 := hC.step hlk hin
      rintro e W3 (⟨rfl, hJ3, hk3⟩ | ⟨rfl, hJx3⟩)
      · gi_wp2
        have hrg3 := hrg2.of_walks hk3
        go_roundw
        case rel => exact ⟨_, cnt2, ss ++ [x], hrg3, by simp; omega, hC2, hJ3⟩
        case measure => rw [hrg3.left_eq, hrg.left_eq]; exact hlt
      · gi_wp2
        refine bodyPost_ret (results_none rfl _ _ _) rfl ?_
        exact ⟨⟨_, rfl⟩, .inr ⟨_, trivial, hJx3⟩⟩

theorem keysB_stops (F : Fence) (n : Nat) (hF : F.fn 128) (hro : F.round = none) (hn : 1 ≤ n) (Bm b nn : Nat) (D0 : DataW Value) (S : Int → Bool) (hS : ∀ x, Maps.has D0 (.int .u8 x) = S x) (w : World) (hBm : Bm < w.heap.size)
    (hm : w.cell? ⟨Bm, 0, none⟩ = some (.map (some b))) (hown : w.ownsMap Tryd.prog 5 hR b nn D0) :
    SeqStopsK F n Tryd.prog 128 #[.pointer (some ⟨Bm, 0, none⟩)] (fun x : Int => #[.int .u8 x]) KeepsWalks (KeyL S) (fun _ => True) (Maps.size D0) w := fun l J Jx W hW hJ _ hY h0 => by
  have hown' : W.ownsMap Tryd.prog 5 hR b nn D0 := by
    have hbl := hown.lt
    obtain ⟨es, clock, hb, Ft, hs, hD⟩ := hown
    exact ⟨es, clock, (hW.block b hbl).trans hb, Ft, hs, hD⟩
  exact keysB_run F n hF hro hn l Bm b nn D0 S hS J Jx hY W hJ ((hW.cell (p := ⟨Bm, 0, none⟩) hBm).trans hm) hown' h0

set_option maxRecDepth 100000 in
theorem keysB_any (mb : Option Nat) (w : World) :
    Calls Tryd.prog 65 #[.map mb] w fun e w' => e = .returned (.func (.func 128) #[] #[.pointer (some ⟨w.heap.size, 0, none⟩)]) ∧ w' = w.alloc (.cells #[.map mb] 88) := by
  go_enter Tryd.func65, Tryd.ntmps65
  go_wp2
  go_ret
  exact ⟨rfl, rfl⟩

theorem infoU8 : (Tryd.prog.info? 5).map (fun i => (i.zero, i.size, i.bytes)) = some (some (.int .u8 0), 1, 1) := by kernel_rfl

set_option maxRecDepth 100000 in
set_option maxHeartbeats 3200000 in
theorem appendSeqB_any (w : World) (Bm b nn : Nat) (S : Int → Bool) (D0 : DataW Value) (hS : ∀ x, Maps.has D0 (.int .u8 x) = S x) (hBm : Bm < w.heap.size) (hm : w.cell? ⟨Bm, 0, none⟩ = some (.map (some b))) (hown : w.ownsMap Tryd.prog 5 hR b nn D0) (hN : Maps.size D0 ≤ 1048576) :
    Calls Tryd.prog 166 #[.slice none 0 0, .func (.func 128) #[] #[.pointer (some ⟨Bm, 0, none⟩)]] w fun e w' =>
      ∃ (v : Value) (ss : List Int), e = .returned v ∧ KeyL S ss ∧ w'.ownsRow w.heap.size 5 1 v ss.length (ss.map encB) ∧ (v = .slice none 0 0 ↔ ss = []) ∧ Below w.heap.size w w' := by
  refine (callsIn_wide (n := 5)).1 ?_
  have h1 : 1 ≤ 5 := by decide
  obtain ⟨i0, hi, hz0, hz1, hz2⟩ := info_parts infoU8
  refine callsIn_of_wp_marks Tryd.func166 rfl trivial ?_ rfl
  simp only [Tryd.ntmps166, List.size_toArray, List.length_cons, List.length_nil, Nat.reduceAdd, Nat.reduceSub, Array.replicate_succ, Array.replicate_zero, List.push_toArray, List.append_toArray, List.nil_append, List.cons_append]
  gi_wp2
  have bO := Boxed.new w 36 (.slice none 0 0)
  have hB0 : Below w.heap.size w (w.alloc (.cells #[.slice none 0 0] 36)) := (Below.refl _ w).alloc (Nat.le_refl _) _
  refine wpIn_rangeFunc_ownF rfl h1 (gf := 128) (lb := #[.pointer (some ⟨Bm, 0, none⟩)]) rfl trivial (enters_of Tryd.func128 (by kernel_rfl) rfl)
    ((keysB_stops Fence.wide (5 - 1) trivial rfl (by decide) Bm b nn D0 S hS w hBm hm hown)) walksK_t walksK_b hB0 (fun _ => rfl)
    (fun pre W => (∃ v, Boxed W w.heap.size 36 v ∧ W.ownsRow w.heap.size 5 1 v pre.length (pre.map encB) ∧ (v = .slice none 0 0 ↔ pre = [])) ∧ Below w.heap.size w W)
    (fun _ _ _ => False)
    (OwnFrom.and (Own.from (holdsRow_own w.heap.size w.heap.size 36 5 1 (fun pre => pre.length) (fun pre => pre.map encB) (fun pre v => v = .slice none 0 0 ↔ pre = [])) _) (ownFrom_below (Nat.le_refl _) (by simp)))
    (fun _ _ _ _ _ hs _ _ => hs)
    ⟨⟨_, bO, World.ownsRow_nil _ _ _ _, by simp⟩, hB0⟩
    (fun x => { tmps := #[.slice none 0 0, .func (.func 128) #[] #[.pointer (some ⟨Bm, 0, none⟩)], .pointer (some ⟨w.heap.size, 0, none⟩), undef, .slice none 0 0, .int .u8 x, .func (.func 128) #[] #[.pointer (some ⟨Bm, 0, none⟩)], .int .u8 x, undef, undef, undef, undef, undef], defers := [] }) ?assign ?body ?done ?stop
  case assign =>
    intro l x W K hK
    gi_wp2
    exact hK
  case body =>
    rintro l pre x W ⟨⟨v, hv, hrow, hnil⟩, hB⟩ hlt
    have hc := hv.cell
    gi_wp2_with (gi_at_builtin; refine wpListIn_append_own _ rfl _ _ 36 rfl w.heap.size 5 i0 (.int .u8 0) 1 1 Tryd.underlying36 hi hz0 hz1 hz2 rfl (by decide) _ _ _ rfl (hrow.alloc _) ⟨W.heap.size, 0, none⟩ 1 1 [.int .u8 x] rfl rfl (cell_one_new _ _ _) (by simp [Value.oneCell']) (by unfold maxLen; omega) (by omega) (by have := hB.size; simp; omega) ?_; intro v' w1 hown' hgrow _; obtain ⟨g', cap', rfl⟩ := ownsRow_succ hown'; obtain ⟨hv1, hv2, hr2, hk2, hb2⟩ := hv.appended (by decide) hrow hB.size (Nat.le_refl _) hown' hgrow; have hc1 := hv1.cell; have hf1 := hv1.frozen)
    exact ⟨hk2, hk2.walks, ⟨_, hv2, by simpa [encB] using hr2, by simp⟩, hB.trans hb2⟩
  case done =>
    rintro D ys W hD hKL ⟨⟨v, hv, hrow, hnil⟩, hB⟩ hK
    have hc := hv.cell
    gi_wp2
    refine ⟨by simp, .inl ⟨_, _, rfl, run_takeDeferred hK, ?_⟩⟩
    exact ⟨_, results_tmp rfl _ _ _, v, ys, rfl, hKL, ownsRow_putObj hrow _ hK rfl, hnil, hB.trans (belowK_b (w := w) (Nat.le_refl _) W D _ _ (by simp at hD; omega) hK rfl rfl)⟩
  case stop =>
    rintro D c pre W _ _ h _
    exact h.elim
end Go.Proofs.YtngcmjfkeageiaaDoor
end

section
/-
  slices.Sorted over at most three different terms as bytes. Conditions: none but what the statements say.
-/
namespace Go.Proofs.YtngcmjfkeageiaaDoor
open Go.RowKit Go.Maps

/-- the cells of a row of bytes -/
def CellsB (w : World) (g : Nat) (l : List Int) : Prop := ∀ j, j < l.length → w.cell? ⟨g, j, none⟩ = some (encB (l.getD j 0)) ∧ w.frozen? ⟨g, j, none⟩ = false
theorem CellsB.of_own {w : World} {base g n cap : Nat} {l : List Int} (h : w.ownsRow base 5 1 (.slice (some ⟨g, 0, none⟩) n cap) l.length (l.map encB)) (hn : n = l.length) : CellsB w g l := by
  subst hn
  obtain ⟨_, h⟩ := h
  intro j hj
  rcases h with ⟨h, h0⟩ | ⟨g', cap', cur, e, _, hg, _, _, hsz, ht⟩
  · omega
  · obtain ⟨rfl, _⟩ : g = g' ∧ cap = cap' := by simpa using e
    have hlt : j < cur.size := by
      have : (cur.toList.take (l.length * 1)).length = (l.map encB).length := by rw [ht]
      simp at this; omega
    have hv : cur[j]? = some (encB (l.getD j 0)) := by
      have : (cur.toList.take (l.length * 1))[j]? = (l.map encB)[j]? := by rw [ht]
      rw [List.getElem?_take, if_pos (by omega), List.getElem?_map, List.getElem?_eq_getElem hj, Array.getElem?_toList] at this
      rw [this, List.getD_eq_getElem?_getD, List.getElem?_eq_getElem hj]; rfl
    constructor
    · simp [World.cell?, hg, hv]
    · simp [World.frozen?, hg]

set_option maxRecDepth 100000 in
theorem isNaN_u8 (x : Int) (w : World) : Calls Tryd.prog 210 #[.int .u8 x] w fun e w' => e = .returned (.bool false) ∧ w = w' := by
  go_enter Tryd.func210, Tryd.ntmps210
  go_wp2
  go_ret
  exact ⟨ret_bool (by simp), rfl⟩
set_option maxRecDepth 100000 in
theorem less_u8 (x y : Int) (b : Bool) (hb : decide (x < y) = b) (w : World) : Calls Tryd.prog 188 #[.int .u8 x, .int .u8 y] w fun e w' => e = .returned (.bool b) ∧ w = w' := by
  go_enter Tryd.func188, Tryd.ntmps188
  go_wp2_with (go_at_call 210; refine (isNaN_u8 _ _).mono ?_; rintro e w' ⟨rfl, rfl⟩)
  go_ret
  exact ⟨ret_bool (by simp), rfl⟩

/-- a row in which the place j sinks as far as it is less -/
def bub (L : List Int) : Nat → List Int
  | 0 => L
  | j + 1 => if L.getD (j + 1) 0 < L.getD j 0 then bub ((L.set (j + 1) (L.getD j 0)).set j (L.getD (j + 1) 0)) j else L
theorem bub_less {L : List Int} {j : Nat} (h : L.getD (j + 1) 0 < L.getD j 0) : bub L (j + 1) = bub ((L.set (j + 1) (L.getD j 0)).set j (L.getD (j + 1) 0)) j := by rw [bub, if_pos h]
theorem bub_not {L : List Int} {j : Nat} (h : ¬ L.getD (j + 1) 0 < L.getD j 0) : bub L (j + 1) = L := by rw [bub, if_neg h]
theorem bub_length : ∀ (j : Nat) (L : List Int), (bub L j).length = L.length
  | 0, _ => rfl
  | j + 1, L => by
    by_cases h : L.getD (j + 1) 0 < L.getD j 0
    · rw [bub_less h, bub_length j]; simp
    · rw [bub_not h]
/-- the first places in order -/
def insS (L : List Int) : Nat → List Int
  | 0 => L
  | 1 => L
  | i + 2 => bub (insS L (i + 1)) (i + 1)
theorem insS_length (L : List Int) : ∀ i, (insS L i).length = L.length
  | 0 => rfl
  | 1 => rfl
  | i + 2 => by show (bub (insS L (i + 1)) (i + 1)).length = _; rw [bub_length, insS_length L (i + 1)]
theorem insS_all16 : ∀ l ∈ all16, insS l l.length = srt l := by decide

theorem CellsB.swap {w : World} {g j : Nat} {L : List Int} (h : CellsB w g L) (hj : j + 1 < L.length) :
    CellsB ((w.setCell ⟨g, j + 1, none⟩ (encB (L.getD j 0))).setCell ⟨g, j, none⟩ (encB (L.getD (j + 1) 0))) g ((L.set (j + 1) (L.getD j 0)).set j (L.getD (j + 1) 0)) := by
  intro i hi
  have hi' : i < L.length := by simpa using hi
  constructor
  · by_cases e : i = j
    · subst e
      rw [World.cell?_setCell_same' _ _ _ (by rw [World.cell?_setCell_other _ _ _ _ (fun e => by cases e), (h i hi').1]; rfl)]
      simp [List.getD_eq_getElem?_getD, hi']
    · rw [World.cell?_setCell_other _ _ _ _ (fun e' => by cases e'; exact e rfl)]
      by_cases e2 : i = j + 1
      · subst e2
        rw [World.cell?_setCell_same' _ _ _ (by rw [(h (j + 1) hi').1]; rfl)]
        simp [List.getD_eq_getElem?_getD, hi']
      · rw [World.cell?_setCell_other _ _ _ _ (fun e' => by cases e'; exact e2 rfl), (h i hi').1]
        have e3 : ¬ j = i := fun e' => e e'.symm
        have e4 : ¬ j + 1 = i := fun e' => e2 e'.symm
        simp [List.getD_eq_getElem?_getD, e3, e4]
  · rw [World.frozen?_setCell, World.frozen?_setCell]; exact (h i hi').2
theorem CellsB.swap2 {w : World} {g j : Nat} {L : List Int} (h : CellsB w g L) (hj : j + 1 < L.length) :
    CellsB ((w.setCell ⟨g, j, none⟩ (encB (L.getD (j + 1) 0))).setCell ⟨g, j + 1, none⟩ (encB (L.getD j 0))) g ((L.set (j + 1) (L.getD j 0)).set j (L.getD (j + 1) 0)) := by
  intro i hi
  have hi' : i < L.length := by simpa using hi
  constructor
  · by_cases e2 : i = j + 1
    · subst e2
      rw [World.cell?_setCell_same' _ _ _ (by rw [World.cell?_setCell_other _ _ _ _ (fun e => by cases e), (h (j + 1) hi').1]; rfl)]
      simp [List.getD_eq_getElem?_getD, hi']
    · rw [World.cell?_setCell_other _ _ _ _ (fun e' => by cases e'; exact e2 rfl)]
      by_cases e : i = j
      · subst e
        rw [World.cell?_setCell_same' _ _ _ (by rw [(h i hi').1]; rfl)]
        simp [List.getD_eq_getElem?_getD, hi']
      · rw [World.cell?_setCell_other _ _ _ _ (fun e' => by cases e'; exact e rfl), (h i hi').1]
        have e3 : ¬ j = i := fun e' => e e'.symm
        have e4 : ¬ j + 1 = i := fun e' => e2 e'.symm
        simp [List.getD_eq_getElem?_getD, e3, e4]
  · rw [World.frozen?_setCell, World.frozen?_setCell]; exact (h i hi').2

set_option maxRecDepth 100000 in
set_option maxHeartbeats 3200000 in
theorem insSort_any (w : World) (g cap B : Nat) (l : List Int) (hl : l.length ≤ 1000) (hc : CellsB w g l) (hB : B ≤ g) (h0 : Below B w w) :
    Calls Tryd.prog 182 #[.slice (some ⟨g, 0, none⟩) l.length cap, .int .i64 0, .int .i64 (l.length : Int)] w fun e w' => e = .returned (.tuple #[]) ∧ CellsB w' g (insS l l.length) ∧ Below B w w' := by
  obtain ⟨n, hn⟩ : ∃ n, l.length = n := ⟨_, rfl⟩
  have HN := Lib.hid hn
  rw [hn] at hl ⊢
  clear hn
  go_enter Tryd.func182, Tryd.ntmps182
  go_wp2
  go_loopw [6] (fun i wr => ∃ k : Nat, i = .int .i64 ((k : Int) + 1) ∧ (k + 1 ≤ n ∨ k = 0) ∧ CellsB wr g (insS l (k + 1)) ∧ Below B w wr) (fun i _ => n + 1 - (intOf i).toNat)
  case atStart => exact ⟨0, rfl, .inr rfl, hc, h0⟩
  case round =>
    obtain ⟨k, rfl, hk, hC, hb⟩ := hrel
    by_cases hlt : k + 1 < n
    · have HK := Lib.hid (And.intro hC hb)
      have d1 : ((k : Int) + 1 < (n : Int)) := by omega
      clear hC hb
      go_wp2
      go_loopw [7] (fun j wr2 => ∃ (m : Nat) (L : List Int), j = .int .i64 (m : Int) ∧ m ≤ k + 1 ∧ L.length = n ∧ CellsB wr2 g L ∧ bub L m = insS l (k + 2) ∧ Below B w wr2) (fun j _ => (intOf j).toNat)
      case atStart => exact ⟨k + 1, insS l (k + 1), by simp, Nat.le_refl _, by rw [insS_length, HN.out], HK.out.1, rfl, HK.out.2⟩
      case round =>
        obtain ⟨m, L, rfl, hm, hL, hC, hbu, hb⟩ := hrel
        have HI := Lib.hid (And.intro hL (And.intro hbu hb))
        cases m with
        | zero =>
          have HC := Lib.hid hC
          clear hC hL hbu hb
          have d0 : decide ((0 : Int) < (0 : Int)) = false := by decide
          have e3 : IntKind.i64.wrap ((k : Int) + 1 + 1) = (k : Int) + 1 + 1 := IntWalk.i64_in _ (by omega)
          go_wp2
          go_quiet (fail)
          go_wp2
          go_roundw
          case rel => exact ⟨k + 1, by simp, .inl (by omega), by have := HC.out; rw [show L = insS l (k + 2) from HI.out.2.1] at this; exact this, below_drewN HI.out.2.2 _⟩
          case measure => simp [intOf]; omega
        | succ m =>
          obtain ⟨c1, f1⟩ := hC (m + 1) (by omega)
          obtain ⟨c0, f0⟩ := hC m (by omega)
          have HC := Lib.hid hC
          obtain ⟨x, hx⟩ : ∃ x, L.getD m 0 = x := ⟨_, rfl⟩
          obtain ⟨y, hy⟩ : ∃ y, L.getD (m + 1) 0 = y := ⟨_, rfl⟩
          rw [hx] at c0
          rw [hy] at c1
          have HX := Lib.hid (And.intro hx hy)
          have d0 : decide ((0 : Int) < (m : Int) + 1) = true := decide_eq_true (by omega)
          have e1 : IntKind.i64.wrap ((m : Int) + 1 - 1) = (m : Int) := by rw [show (m : Int) + 1 - 1 = m by omega]; exact IntWalk.i64_in _ (by omega)
          have e2 : IntKind.i64.wrap (m : Int) = (m : Int) := IntWalk.i64_in _ (by omega)
          have x1 : (0 : Int) ≤ (m : Int) + 1 := by omega
          have x2 : (m : Int) + 1 < (n : Int) := by omega
          have x3 : (m : Int) < (n : Int) := by omega
          clear hC hL hbu hb hx hy
          unfold encB at c0 c1
          by_cases hxy : y < x
          · have dl : decide (y < x) = true := decide_eq_true hxy
            go_wp2
            go_quiet (exact Calls.quiet_of_same ((less_u8 y x true dl _).mono fun _ _ h => ⟨h.1, h.2.symm⟩))
            have HL := Lib.hid (bub_less (L := L) (j := m) (by rw [HX.out.1, HX.out.2]; exact hxy))
            clear hxy
            go_wp2
            go_region
            all_goals
              go_wp2
              go_roundw
              case rel =>
                have h := CellsB.swap (w := wr.drewN (nq + 1)) (L := L) (j := m) HC.out (by rw [HI.out.1]; omega)
                have hq := HL.out
                rw [HX.out.1, HX.out.2] at h hq
                exact ⟨m, _, rfl, by omega, by simp [HI.out.1], h, by rw [← hq]; exact HI.out.2.1, ((below_drewN HI.out.2.2 _).setCell (p := ⟨g, m + 1, none⟩) hB _).setCell (p := ⟨g, m, none⟩) hB _⟩
              case measure => simp [intOf]
          · have dl : decide (y < x) = false := decide_eq_false hxy
            have HL := Lib.hid (bub_not (L := L) (j := m) (by rw [HX.out.1, HX.out.2]; exact hxy))
            clear hxy
            go_wp2
            go_quiet (exact Calls.quiet_of_same ((less_u8 y x false dl _).mono fun _ _ h => ⟨h.1, h.2.symm⟩))
            have e3 : IntKind.i64.wrap ((k : Int) + 1 + 1) = (k : Int) + 1 + 1 := IntWalk.i64_in _ (by omega)
            go_wp2
            go_roundw
            case rel => exact ⟨k + 1, by simp, .inl (by omega), by have := HC.out; rw [show L = insS l (k + 2) from by rw [← HL.out]; exact HI.out.2.1] at this; exact this, below_drewN HI.out.2.2 _⟩
            case measure => simp [intOf]; omega
    · have HZ := Lib.hid (And.intro hC hb)
      clear hC hb
      go_wp2
      go_end0
      refine ⟨rfl, ?_, HZ.out.2⟩
      rcases hk with h | h
      · obtain rfl : n = k + 1 := by omega
        exact HZ.out.1
      · subst h
        have h1 : CellsB wr g l := HZ.out.1
        obtain rfl | rfl : n = 0 ∨ n = 1 := by omega
        · exact h1
        · exact h1
end Go.Proofs.YtngcmjfkeageiaaDoor
end

section
/-
  slices.Sorted over the keys of a map of terms. Conditions: none but what the statements say.
-/
namespace Go.Proofs.YtngcmjfkeageiaaDoor
open Go.RowKit Go.Maps

set_option maxRecDepth 100000 in
theorem collectB_any (w : World) (Bm b nn : Nat) (S : Int → Bool) (D0 : DataW Value) (hS : ∀ x, Maps.has D0 (.int .u8 x) = S x) (hBm : Bm < w.heap.size) (hm : w.cell? ⟨Bm, 0, none⟩ = some (.map (some b))) (hown : w.ownsMap Tryd.prog 5 hR b nn D0) (hN : Maps.size D0 ≤ 1048576) :
    Calls Tryd.prog 126 #[.func (.func 128) #[] #[.pointer (some ⟨Bm, 0, none⟩)]] w fun e w' =>
      ∃ (v : Value) (ss : List Int), e = .returned v ∧ KeyL S ss ∧ w'.ownsRow w.heap.size 5 1 v ss.length (ss.map encB) ∧ (v = .slice none 0 0 ↔ ss = []) ∧ Below w.heap.size w w' := by
  go_enter Tryd.func126, Tryd.ntmps126
  go_wp2_with fail
  refine (appendSeqB_any w Bm b nn S D0 hS hBm hm hown hN).mono ?_
  rintro e w1 ⟨v, ss, rfl, hK, ho, hn, hb⟩
  have HX := Lib.hid (And.intro hK (And.intro ho (And.intro hn hb)))
  clear hK ho hn hb
  go_wp2
  go_ret
  exact ⟨v, ss, rfl, HX.out.1, HX.out.2.1, HX.out.2.2.1, HX.out.2.2.2⟩

set_option maxRecDepth 100000 in
theorem insNil_any (w : World) : Calls Tryd.prog 182 #[.slice none 0 0, .int .i64 0, .int .i64 0] w fun e w' => e = .returned (.tuple #[]) ∧ w = w' := by
  go_enter Tryd.func182, Tryd.ntmps182
  go_wp2
  refine wp_loop_rounds 1 ?_
  rw [rounds_succ]
  go_wp2
  go_end0
  exact ⟨rfl, rfl⟩
set_option maxRecDepth 100000 in
theorem pdqNil_any (w : World) (m : Int) : Calls Tryd.prog 167 #[.slice none 0 0, .int .i64 0, .int .i64 0, .int .i64 m] w fun e w' => e = .returned (.tuple #[]) ∧ w = w' := by
  go_enter Tryd.func167, Tryd.ntmps167
  go_wp2
  refine wp_loop_rounds 1 ?_
  rw [rounds_succ]
  go_wp2_with fail
  refine (insNil_any _).mono ?_
  rintro e w1 ⟨rfl, rfl⟩
  go_wp2
  refine bodyPost_ret (results_none rfl _ _ _) rfl ?_
  exact ⟨rfl, rfl⟩
set_option maxRecDepth 100000 in
theorem pdqB_any (w : World) (g cap B : Nat) (l : List Int) (m : Int) (hl : l.length ≤ 12) (hc : CellsB w g l) (hB : B ≤ g) (h0 : Below B w w) :
    Calls Tryd.prog 167 #[.slice (some ⟨g, 0, none⟩) l.length cap, .int .i64 0, .int .i64 (l.length : Int), .int .i64 m] w fun e w' => e = .returned (.tuple #[]) ∧ CellsB w' g (insS l l.length) ∧ Below B w w' := by
  have e1 : IntKind.i64.wrap (l.length : Int) = (l.length : Int) := IntWalk.i64_in _ (by omega)
  have e2 : (l.length : Int) ≤ 12 := by omega
  go_enter Tryd.func167, Tryd.ntmps167
  go_wp2
  refine wp_loop_rounds 1 ?_
  rw [rounds_succ]
  go_wp2_with fail
  refine (insSort_any w g cap B l (by omega) hc hB h0).mono ?_
  rintro e w1 ⟨rfl, hc1, hb1⟩
  go_wp2
  refine bodyPost_ret (results_none rfl _ _ _) rfl ?_
  exact ⟨rfl, hc1, hb1⟩
set_option maxRecDepth 100000 in
theorem len64_few (n : Nat) (hn : n ≤ 3) (w : World) : Calls Tryd.prog 192 #[.int .u64 (n : Int)] w fun e w' => (∃ r, e = .returned (.int .i64 r)) ∧ w = w' := by
  obtain rfl | rfl | rfl | rfl : n = 0 ∨ n = 1 ∨ n = 2 ∨ n = 3 := by omega
  all_goals
    go_enter Tryd.func192, Tryd.ntmps192
    go_wp2
    go_ret
    exact ⟨⟨_, rfl⟩, rfl⟩
set_option maxRecDepth 100000 in
theorem len_few (n : Nat) (hn : n ≤ 3) (w : World) : Calls Tryd.prog 168 #[.int .u64 (n : Int)] w fun e w' => (∃ r, e = .returned (.int .i64 r)) ∧ w = w' := by
  go_enter Tryd.func168, Tryd.ntmps168
  go_wp2_with fail
  refine (len64_few n hn _).mono ?_
  rintro e w1 ⟨⟨r, rfl⟩, rfl⟩
  go_wp2
  go_ret
  exact ⟨⟨_, rfl⟩, rfl⟩
set_option maxRecDepth 100000 in
theorem sortNil_any (w : World) : Calls Tryd.prog 127 #[.slice none 0 0] w fun e w' => e = .returned (.tuple #[]) ∧ w = w' := by
  go_enter Tryd.func127, Tryd.ntmps127
  go_wp2_with fail
  refine (len_few 0 (by omega) _).mono ?_
  rintro e w1 ⟨⟨r, rfl⟩, rfl⟩
  go_wp2_with fail
  refine (pdqNil_any _ _).mono ?_
  rintro e w1 ⟨rfl, rfl⟩
  go_wp2
  go_end0
  exact ⟨rfl, rfl⟩
set_option maxRecDepth 100000 in
theorem sortB_any (w : World) (g cap B : Nat) (l : List Int) (hl : l.length ≤ 3) (hc : CellsB w g l) (hB : B ≤ g) (h0 : Below B w w) :
    Calls Tryd.prog 127 #[.slice (some ⟨g, 0, none⟩) l.length cap] w fun e w' => e = .returned (.tuple #[]) ∧ CellsB w' g (insS l l.length) ∧ Below B w w' := by
  have e1 : IntKind.u64.wrap (l.length : Int) = (l.length : Int) := by
    have : l.length = 0 ∨ l.length = 1 ∨ l.length = 2 ∨ l.length = 3 := by omega
    rcases this with h | h | h | h <;> rw [h] <;> rfl
  go_enter Tryd.func127, Tryd.ntmps127
  go_wp2_with fail
  refine (len_few l.length hl _).mono ?_
  rintro e w1 ⟨⟨r, rfl⟩, rfl⟩
  go_wp2_with fail
  refine (pdqB_any w g cap B l r (by omega) hc hB h0).mono ?_
  rintro e w1 ⟨rfl, hc1, hb1⟩
  go_wp2
  go_end0
  exact ⟨rfl, hc1, hb1⟩

/-- what slices.Sorted hands back -/
def SortedPost (w : World) (S : Int → Bool) (e : Ending) (w' : World) : Prop :=
  Below w.heap.size w w' ∧ ∃ v, e = .returned v ∧ ((v = .slice none 0 0 ∧ [120, 121, 122].filter S = []) ∨ ∃ g n cap, v = .slice (some ⟨g, 0, none⟩) n cap ∧ n = ([120, 121, 122].filter S).length ∧ CellsB w' g ([120, 121, 122].filter S))
set_option maxRecDepth 100000 in
theorem sortedB_any (w : World) (Bm b nn : Nat) (S : Int → Bool) (D0 : DataW Value) (hS : ∀ x, Maps.has D0 (.int .u8 x) = S x) (h3 : ∀ x, S x = true → x = 120 ∨ x = 121 ∨ x = 122) (hBm : Bm < w.heap.size) (hm : w.cell? ⟨Bm, 0, none⟩ = some (.map (some b))) (hown : w.ownsMap Tryd.prog 5 hR b nn D0) (hN : Maps.size D0 ≤ 1048576) :
    Calls Tryd.prog 64 #[.func (.func 128) #[] #[.pointer (some ⟨Bm, 0, none⟩)]] w (SortedPost w S) := by
  go_enter Tryd.func64, Tryd.ntmps64
  go_wp2_with fail
  refine (collectB_any w Bm b nn S D0 hS hBm hm hown hN).mono ?_
  rintro e w1 ⟨v, ss, rfl, hK, ho, hn, hb⟩
  have h16 := in16 hK.1 (fun x hx => h3 x ((hK.2 x).1 hx))
  have hsrt := srt_of hK.2
  have hins := insS_all16 ss h16
  by_cases hs : ss = []
  · have hv := hn.2 hs
    subst hv
    have HX := Lib.hid (And.intro hb (show [120, 121, 122].filter S = [] by rw [← hsrt, hs]; rfl))
    clear hb hsrt hins h16 hK ho hn hS hown
    go_wp2_with fail
    refine (sortNil_any _).mono ?_
    rintro e w2 ⟨rfl, rfl⟩
    go_wp2
    go_ret
    exact ⟨HX.out.1, _, rfl, .inl ⟨rfl, HX.out.2⟩⟩
  · have hpos : ss.length ≠ 0 := by simpa using hs
    have hl3 : ss.length ≤ 3 := by
      have : ∀ l ∈ all16, l.length ≤ 3 := by decide
      exact this ss h16
    have hco : ∃ g cap, v = .slice (some ⟨g, 0, none⟩) ss.length cap ∧ w.heap.size ≤ g := by
      rcases ho.2 with ⟨_, h0⟩ | ⟨g, cap, _, rfl, hg, _⟩
      · exact absurd h0 hpos
      · exact ⟨g, cap, rfl, hg⟩
    obtain ⟨g, cap, rfl, hg⟩ := hco
    have hc := CellsB.of_own ho rfl
    have HX := Lib.hid (And.intro hb (And.intro hc (And.intro hsrt hins)))
    have hlen : ss.length = ([120, 121, 122].filter S).length := by
      rw [← hsrt, ← hins, insS_length]
    have HL := Lib.hid hlen
    clear hb hsrt hins h16 hK ho hn hS hown hc hlen
    go_wp2_with fail
    refine (sortB_any w1 g cap w.heap.size ss hl3 HX.out.2.1 hg ((Below.refl _ _).mono HX.out.1.size)).mono ?_
    rintro e w2 ⟨rfl, hc2, hb2⟩
    have HY := Lib.hid (And.intro hc2 hb2)
    clear hc2 hb2
    go_wp2
    go_ret
    refine ⟨HX.out.1.trans HY.out.2, _, rfl, .inr ⟨g, _, cap, rfl, HL.out, ?_⟩⟩
    rw [← HX.out.2.2.1, ← HX.out.2.2.2]
    exact HY.out.1
end Go.Proofs.YtngcmjfkeageiaaDoor
end

section
/-
  TermsIn of the program. Conditions: at most 1048576 blocks and edges, each text at most as many bytes; the errors' variables hold errors.
-/
namespace Go.Proofs.YtngcmjfkeageiaaDoor
open Go.RowKit Go.Maps

/-- a letter of a block that a walk over the blocks has had -/
def Had (bs : List Pr) (lf : Lit → Bool) (x : Nat) : Prop := ∃ p ∈ bs, lf (kS p.1) = false ∧ ∃ j, j < p.2.size ∧ byteAt p.2 j = x
/-- the keys that are in -/
def InF (S : Int → Bool) (P : Nat → Prop) : Prop := ∀ y, S y = true ↔ ∃ x : Nat, y = (x : Int) ∧ lowB x = true ∧ P x
theorem InF.congr {S : Int → Bool} {P Q : Nat → Prop} (h : InF S P) (e : ∀ x, P x ↔ Q x) : InF S Q := fun y => (h y).trans ⟨fun ⟨x, a, b, c⟩ => ⟨x, a, b, (e x).1 c⟩, fun ⟨x, a, b, c⟩ => ⟨x, a, b, (e x).2 c⟩⟩
theorem InF.put {S : Int → Bool} {s : ByteArray} {k : Nat} {P : Nat → Prop} (h : InF S (fun x => P x ∨ ∃ j, j < k ∧ byteAt s j = x)) (hl : lowB (byteAt s k) = true) :
    InF (fun y => S y || decide (y = ((byteAt s k : Nat) : Int))) (fun x => P x ∨ ∃ j, j < k + 1 ∧ byteAt s j = x) := by
  intro y
  simp only [Bool.or_eq_true, decide_eq_true_eq, h y]
  constructor
  · rintro (⟨x, e, hl', hp | ⟨j, hj, e'⟩⟩ | e)
    · exact ⟨x, e, hl', .inl hp⟩
    · exact ⟨x, e, hl', .inr ⟨j, by omega, e'⟩⟩
    · exact ⟨byteAt s k, e, hl, .inr ⟨k, by omega, rfl⟩⟩
  · rintro ⟨x, e, hl', hp | ⟨j, hj, e'⟩⟩
    · exact .inl ⟨x, e, hl', .inl hp⟩
    · rcases Nat.lt_or_ge j k with h' | h'
      · exact .inl ⟨x, e, hl', .inr ⟨j, h', e'⟩⟩
      · obtain rfl : j = k := by omega
        exact .inr (by rw [e, e'])
theorem InF.skip {S : Int → Bool} {s : ByteArray} {k : Nat} {P : Nat → Prop} (h : InF S (fun x => P x ∨ ∃ j, j < k ∧ byteAt s j = x)) (hl : lowB (byteAt s k) = false) :
    InF S (fun x => P x ∨ ∃ j, j < k + 1 ∧ byteAt s j = x) := by
  intro y
  rw [h y]
  constructor
  · rintro ⟨x, e, hl', hp | ⟨j, hj, e'⟩⟩
    · exact ⟨x, e, hl', .inl hp⟩
    · exact ⟨x, e, hl', .inr ⟨j, by omega, e'⟩⟩
  · rintro ⟨x, e, hl', hp | ⟨j, hj, e'⟩⟩
    · exact ⟨x, e, hl', .inl hp⟩
    · rcases Nat.lt_or_ge j k with h' | h'
      · exact ⟨x, e, hl', .inr ⟨j, h', e'⟩⟩
      · obtain rfl : j = k := by omega
        rw [e', hl'] at hl; cases hl
theorem had_step {bs : List Pr} (hnd : (names bs).Nodup) {lf : Lit → Bool} {p : Pr} (hp : p ∈ bs) (x : Nat) :
    (Had bs lf x ∨ ∃ j, j < p.2.size ∧ byteAt p.2 j = x) ↔ Had bs (fun z => lf z && !z.sameKey (kS p.1)) x := by
  constructor
  · rintro (⟨q, hq, hl, h⟩ | h)
    · exact ⟨q, hq, by show (lf (kS q.1) && _) = false; rw [hl]; rfl, h⟩
    · exact ⟨p, hp, by show (lf (kS p.1) && !(kS p.1).sameKey (kS p.1)) = false; rw [WideAt.sameKey_self (isKeyS _)]; simp, h⟩
  · rintro ⟨q, hq, hl, h⟩
    cases hl' : lf (kS q.1)
    · exact .inl ⟨q, hq, hl', h⟩
    · have hl2 : (lf (kS q.1) && !(kS q.1).sameKey (kS p.1)) = false := hl
      rw [hl'] at hl2
      have hk : kS q.1 = kS p.1 := WideAt.sameKey_eq (by simpa using hl2)
      have he := kS_inj.1 hk
      obtain ⟨i, hi, e1, e2⟩ := mem_at hp
      obtain ⟨j, hj, f1, f2⟩ := mem_at hq
      have := names_inj hnd hj hi (by rw [f1, e1, he])
      subst this
      rw [← f2, e2] at h
      exact .inr h
theorem had_all {bs : List Pr} {lf : Lit → Bool} (hl : ∀ kl, lf kl = false) (x : Nat) : Had bs lf x ↔ hasT bs x bs.length = true := by
  rw [hasT_iff]
  constructor
  · rintro ⟨p, hp, _, h⟩
    obtain ⟨i, hi, _, e2⟩ := mem_at hp
    exact ⟨i, hi, by rw [e2]; exact h⟩
  · rintro ⟨i, hi, h⟩
    exact ⟨_, pair_mem hi, hl _, h⟩
theorem InF.fin {S : Int → Bool} {bs : List Pr} (h : InF S (fun x => hasT bs x bs.length = true)) : (∀ x, S x = true → x = 120 ∨ x = 121 ∨ x = 122) ∧ [120, 121, 122].filter S = (tmL bs).map fun n => ((n : Nat) : Int) := by
  have key : ∀ n : Nat, lowB n = true → S (n : Int) = hasT bs n bs.length := fun n hn => by
    rw [Bool.eq_iff_iff, h]
    constructor
    · rintro ⟨x, e, _, hx⟩
      obtain rfl : n = x := by omega
      exact hx
    · intro hx; exact ⟨n, rfl, hn, hx⟩
  have k0 := key 120 rfl
  have k1 := key 121 rfl
  have k2 := key 122 rfl
  refine ⟨fun x hx => ?_, ?_⟩
  · obtain ⟨n, e, hn, _⟩ := (h x).1 hx
    unfold lowB at hn
    simp only [Bool.and_eq_true, decide_eq_true_eq] at hn
    omega
  · unfold tmL
    simp only [List.filter]
    rw [show S 120 = _ from k0, show S 121 = _ from k1, show S 122 = _ from k2]
    cases hasT bs 120 bs.length <;> cases hasT bs 121 bs.length <;> cases hasT bs 122 bs.length <;> rfl

theorem ownB_size {w : World} {b n : Nat} {D : DataW Value} (h : w.ownsMap Tryd.prog 5 hR b n D) : Maps.size D ≤ n := by
  obtain ⟨es', clock, _, _, hes, rfl⟩ := h
  simpa [Maps.size, length_sorted] using hes
theorem conv_none (W : World) : (convert 36 9 (.slice none 0 0)).run Tryd.prog W = .ok (.string ⟨#[]⟩) W := by kernel_rfl
theorem conv_row (w : World) (g cap : Nat) (l : List Nat) (h3 : ∀ x ∈ l, x < 256) (hc : CellsB w g (l.map fun n => ((n : Nat) : Int))) :
    (convert 36 9 (.slice (some ⟨g, 0, none⟩) l.length cap)).run Tryd.prog w = .ok (.string ⟨(l.map UInt8.ofNat).toArray⟩) w := by
  have h := run_convert_bytes_back (P := Tryd.prog) w 36 9 5 ⟨g, 0, none⟩ cap (l.map UInt8.ofNat) Tryd.underlying36 Tryd.underlying5 Tryd.underlying9 (fun j hj => ?_)
  · rw [List.length_map] at h; exact h
  · have hj' : j < l.length := by simpa using hj
    have h1 := (hc j (by simpa using hj')).1
    have hx := h3 (l[j]) (List.getElem_mem hj')
    have e1 : (l.map fun n => ((n : Nat) : Int)).getD j 0 = ((l[j] : Nat) : Int) := by simp [List.getD_eq_getElem?_getD, hj']
    rw [e1] at h1
    have e2 : (((l.map UInt8.ofNat)[j]).toNat : Int) = ((l[j] : Nat) : Int) := by
      rw [List.getElem_map, UInt8.toNat_ofNat', Nat.mod_eq_of_lt hx]
    have e3 : (⟨g, 0, none⟩ : Addr).add j = ⟨g, j, none⟩ := by by_cases h : j = 0 <;> simp [Addr.add, h]
    rw [e2, e3]
    exact h1

set_option maxRecDepth 100000 in
set_option maxHeartbeats 12800000 in
theorem TermsIn_impl (w : World) (bs es : List Pr) (ab ae : Option Addr) (cb ce : Nat) (hpb : PairsAt w ab bs) (hpe : PairsAt w ae es) (hg : Errs w) :
    Calls Tryd.prog 15 #[.agg #[.slice ab bs.length cb, .slice ae es.length ce]] w fun e w' => e = .returned (termV bs es) ∧ Below w.heap.size w w' := by
  have h1 : Below w.heap.size w (w.alloc (.cells #[.slice ab bs.length cb, .slice ae es.length ce] 32)) := (Below.refl _ _).alloc (Nat.le_refl _) _
  have hpb1 := hpb.below h1
  have hpe1 := hpe.below h1
  have hg1 := hg.keep h1
  have H1 := Lib.hid h1; clear h1
  have hmm := @run_makeMap Tryd.prog
  go_enter Tryd.func15, Tryd.ntmps15
  go_wp2_with fail
  refine (planOf_any _ bs es _ _ _ _ hpb1 hpe1 hg1).mono ?_
  rintro e w1 ⟨hb1, hcase⟩
  have hall : Below w.heap.size w w1 := H1.out.trans (hb1.mono (by simp))
  have hz := hall.size
  rcases hcase with ⟨hv, o, lo, li, rfl, hp⟩ | ⟨hv, t, z, rfl⟩
  · have HV := Lib.hid (show validB bs es = true by simpa [validB] using hv)
    have HVV := Lib.hid hv
    obtain ⟨F, hO⟩ := hp.ops
    have hol := hO.map.lt
    have hP : Below w1.heap.size w1 (w1.alloc (.cells #[.map (some o), .map (some lo), .map (some li)] 83)) := (Below.refl _ _).alloc (Nat.le_refl _) _
    have hM : Below w1.heap.size w1 ((w1.alloc (.cells #[.map (some o), .map (some lo), .map (some li)] 83)).alloc (.map #[] 0)) := hP.alloc hP.size _
    have hS0 := SetB.made (w1.alloc (.cells #[.map (some o), .map (some lo), .map (some li)] 83))
    rw [show (w1.alloc (.cells #[.map (some o), .map (some lo), .map (some li)] 83)).heap.size = w1.heap.size + 1 by simp] at hS0
    have c0 : ((w1.alloc (.cells #[.map (some o), .map (some lo), .map (some li)] 83)).alloc (.map #[] 0)).cell? ⟨w1.heap.size, 0, none⟩ = some (.map (some o)) := by go_simp
    have hO1 := hO.below hM
    have hsM : ((w1.alloc (.cells #[.map (some o), .map (some lo), .map (some li)] 83)).alloc (.map #[] 0)).heap.size = w1.heap.size + 2 := by simp
    have HO := Lib.hid (And.intro hO1 (And.intro hM hall))
    have HO1 := Lib.hid hO
    clear hv hp hpb1 hpe1 hg1 hb1 hO hP hM hall hO1
    go_upto_region 5 with fail
    generalize (w1.alloc (.cells #[.map (some o), .map (some lo), .map (some li)] 83)).alloc (.map #[] 0) = wM at *
    obtain ⟨D, hown, hD⟩ := HO.out.1.map
    have HD := Lib.hid hD
    have HSM := Lib.hid hsM
    have hqM : w1.heap.size + 1 < wM.heap.size := by omega
    clear hD hsM
    go_wp2_with (first
      | (at_range; refine wpList_range_own _ rfl _ 79 rfl 9 89 keyed Tryd.underlying79 hR o bs.length D rfl hown ?_; intro w0 hrg0 hg0 hs0)
      | go_in)
    go_frame
    have hb0 : Below w1.heap.size w1 w0 := HO.out.2.1.grown hg0 HO.out.2.1.size (fun j hj => by cases hj)
    have hS1 := hS0.kept hg0 (by simp)
    have hsz0 : Maps.size D ≤ bs.length := by
      obtain ⟨es', clock, _, _, hes, rfl⟩ := hown
      simpa [Maps.size, length_sorted] using hes
    have h9 := HVV.out.b.hi
    have HR := Lib.hid (And.intro hb0 hS1)
    clear hb0 hS1 hS0 hg0 hs0 hown c0
    go_loopw [8] (fun _ wr => ∃ (lf : Lit → Bool) (cnt n : Nat) (S : Int → Bool), wr.ranges Tryd.prog 9 hR o wM.heap.size bs.length D lf cnt ∧ SetB wr (w1.heap.size + 1) n S ∧ n + 6 * cnt ≤ 54 ∧ Below w1.heap.size w1 wr ∧ InF S (Had bs lf)) (fun _ wr => wr.rangeLeft o wM.heap.size)
    case atStart =>
      refine ⟨_, _, 0, _, hrg0, HR.out.2, by omega, HR.out.1, fun y => ⟨fun h => absurd h (by simp), ?_⟩⟩
      rintro ⟨x, _, _, p, hp, hl, _⟩
      exfalso
      rw [(HD.out p.1).2] at hl
      cases hf : F p.1 with
      | none => exact (HO.out.1.none_ p.1).1 hf (List.mem_map.2 ⟨p, hp, rfl⟩)
      | some v => rw [hf] at hl; cases hl
    case round =>
      obtain ⟨lf, cnt, n, S, hrg, hS, hn, hbr, hI⟩ := hrel
      have HI := Lib.hid hI; clear hI
      go_wp2_with (first
        | (at_next; refine wpList_next_ranges _ rfl _ rfl 9 keyed hR Value.string (fun v : Value => v) (fun key kl hkey => key_string hkey) (fun v y _ => ⟨v, rfl⟩) o wM.heap.size bs.length _ _ _ rfl hrg ?_ ?_)
        | go_in)
      · intro _ hl0
        have Hl0 := Lib.hid hl0; clear hl0
        have HF := Lib.hid (HI.out.congr (fun x => had_all Hl0.out x)).fin
        obtain ⟨DB, hownB, hSB⟩ := hS.alloc (.cells #[.map (some (w1.heap.size + 1))] 88)
        have hszB : Maps.size DB ≤ 1048576 := by
          have h1 := ownB_size hownB
          omega
        have hbq : Below w1.heap.size w1 (wr.alloc (.cells #[.map (some (w1.heap.size + 1))] 88)) := hbr.alloc hbr.size _
        have HQ := Lib.hid (And.intro hbq (And.intro hownB (And.intro hSB hszB)))
        clear hrg hS hbr hownB hSB hszB hbq
        go_wp2_with (go_at_call 65; refine (keysB_any _ _).mono ?_; rintro e w' ⟨rfl, rfl⟩)
        refine (sortedB_any (wr.alloc (.cells #[.map (some (w1.heap.size + 1))] 88)) wr.heap.size (w1.heap.size + 1) n S DB HQ.out.2.2.1 HF.out.1 (by simp) (by go_simp) HQ.out.2.1 HQ.out.2.2.2).mono ?_
        rintro e w5 ⟨hb5, v, rfl, hcase⟩
        have HZ := Lib.hid (HO.out.2.2.trans ((HQ.out.1.trans (hb5.mono HQ.out.1.size)).mono hz))
        rcases hcase with ⟨rfl, hnil⟩ | ⟨g, m, cap, rfl, hm, hc⟩
        · have hcv := fun W => conv_none W
          have HE := Lib.hid (show tmA bs 3 = ⟨#[]⟩ by
            have h1 : tmL bs = [] := by have h2 := HF.out.2; rw [hnil] at h2; simpa using h2.symm
            rw [tmA_tmL, h1]; rfl)
          clear hnil hb5
          go_wp2
          go_ret2
          exact ⟨by rw [termV_yes HV.out, HE.out]; rfl, HZ.out⟩
        · rw [HF.out.2] at hm hc
          have hcv := conv_row w5 g cap (tmL bs) (fun x hx => by
            have := (List.mem_filter.1 hx).1
            simp at this
            omega) hc
          rw [List.length_map] at hm
          subst hm
          rw [← tmA_tmL] at hcv
          have HC := Lib.hid hc
          clear hc hb5
          go_wp2
          go_ret2
          exact ⟨by rw [termV_yes HV.out]; rfl, HZ.out⟩
      · intro x c kl y1 y2 w2 cnt2 hkey hlk hRc hat hrg2 hlt2 hgr2 hsz2 hen
        obtain ⟨hxs, rfl⟩ := key_string' hkey
        have hmem : x ∈ names bs := by
          have h1 := has_true_of_atKey hat
          rw [(HD.out x).2] at h1
          by_cases hx : x ∈ names bs
          · exact hx
          · rw [(HO.out.1.none_ x).2 hx] at h1; cases h1
        obtain ⟨p, hp, rfl⟩ := List.mem_map.1 hmem
        obtain ⟨v, hFv, hrow⟩ := HO1.out.row p hp
        have hcv : c = v := by
          have h1 := hat (.held .nilIface)
          rw [(HD.out p.1).1, hFv] at h1
          simp only [hR, Option.some.injEq, Prod.mk.injEq] at hRc
          rw [← hRc.1] at h1
          simpa using h1.symm
        subst hcv
        obtain ⟨aa, ca, hcf⟩ := row_len3 hrow
        rw [opVals_length] at hcf
        subst hcf
        have HRow := Lib.hid hrow
        have hop6 := (HVV.out.b.op p hp).1
        have HOp := Lib.hid (HVV.out.b.op p hp).2
        have hrm : ∀ j, some wM.heap.size = some j → w1.heap.size ≤ j := fun j hj => by cases hj; have := HSM.out; omega
        have hb2 : Below w1.heap.size w1 w2 := hbr.grown hgr2 hbr.size (fun j hj => hrm j hj)
        have hS2 : SetB w2 (w1.heap.size + 1) n S := hS.kept hgr2 (by intro h; have h1 := Option.some.inj h; have := HSM.out; omega)
        have H2 := Lib.hid (And.intro hrg2 (And.intro hS2 hb2))
        have HP := Lib.hid (And.intro hp (And.intro hlk hrg.left_eq))
        have hql : w1.heap.size + 1 ≠ wM.heap.size := by have := HSM.out; omega
        have hqo : w1.heap.size + 1 ≠ o := by omega
        clear hrow hat hRc hkey hmem hb2 hS2 hrg2 hgr2 hsz2 hFv hrm hS hbr hrg hlk hp
        go_wp2
        go_loopw [30] (fun j wr2 => ∃ (k n2 : Nat) (S2 : Int → Bool), k ≤ p.2.size ∧ j = .int .i64 k ∧ wr2.ranges Tryd.prog 9 hR o wM.heap.size bs.length D (fun z => lf z && !z.sameKey (kS p.1)) cnt2 ∧ SetB wr2 (w1.heap.size + 1) n2 S2 ∧ n2 ≤ n + k ∧ Below w1.heap.size w1 wr2 ∧ InF S2 (fun x => Had bs lf x ∨ ∃ i, i < k ∧ byteAt p.2 i = x)) (fun j _ => p.2.size - (intOf j).toNat)
        case atStart => exact ⟨0, n, S, Nat.zero_le _, rfl, H2.out.1, H2.out.2.1, by omega, H2.out.2.2, HI.out.congr (fun x => ⟨.inl, fun h => h.elim id (fun ⟨i, hi, _⟩ => absurd hi (Nat.not_lt_zero _))⟩)⟩
        case round =>
          obtain ⟨k, n2, S2, hk, rfl, hrg3, hS3, hn3, hb3, hI3⟩ := hrel
          have HI3 := Lib.hid hI3
          clear hI3
          by_cases hlt : k < p.2.size
          · obtain ⟨g, cap', e, hg, hc⟩ := row_cell3 HRow.out (k := k) (by rw [opVals_length]; exact hlt)
            rw [opVals_length] at e
            simp only [Value.slice.injEq, true_and] at e
            obtain ⟨rfl, rfl⟩ := e
            rw [opVals_at3 hlt] at hc
            have d1 := (hb3.cell (p := ⟨g, k, none⟩) hg).trans hc
            clear hc
            cases hlow : lowB (byteAt p.2 k)
            · have HL := Lib.hid (HI3.out.skip hlow)
              unfold opVal at d1
              rw [hlow] at d1
              simp only [Bool.false_eq_true, if_false] at d1
              have a1 := fun w => Tryd.isSC ((byteAt p.2 k : Int) - 88 + 120) w
              have a2 := fun w => Tryd.isSS ((byteAt p.2 k : Int) - 88 + 120) w
              clear hlow
              go_wp2
              go_roundw
              case rel => exact ⟨k + 1, n2, S2, by omega, by go_num, hrg3.alloc _, hS3.alloc _, by omega, hb3.alloc hb3.size _, HL.out⟩
              case measure => simp [intOf]; omega
            · have hl := hlow
              unfold lowB at hl
              simp only [Bool.and_eq_true, decide_eq_true_eq] at hl
              have HL := Lib.hid (And.intro (HI3.out.put hlow) hl)
              unfold opVal at d1
              rw [hlow] at d1
              simp only [if_true] at d1
              have a1 := fun w => Tryd.isCC (byteAt p.2 k : Int) w
              clear hlow hl
              go_wp2_with (at_mapUpdate; refine wpList_putB _ rfl _ _ _ 88 rfl 4 Tryd.underlying88 (w1.heap.size + 1) n2 S2 rfl (hS3.alloc _) (by unfold maxLen; omega) (byteAt p.2 k : Int) rfl (wfB HL.out.2.1 HL.out.2.2) (.bool true) rfl ?_; intro w4 hS4 hg4 hs4)
              go_roundw
              case rel => exact ⟨k + 1, n2 + 1, _, by omega, by go_num, (hrg3.alloc _).kept hg4 (by intro h; exact hqo (Option.some.inj h).symm) (by intro h; exact hql (Option.some.inj h).symm), hS4, by omega, (hb3.alloc hb3.size _).grown hg4 (hb3.alloc hb3.size _).size (fun j hj => by cases hj; exact Nat.le_succ _), HL.out.1⟩
              case measure => simp [intOf]; omega
          · obtain rfl : k = p.2.size := by omega
            go_wp2
            go_roundw
            case rel => exact ⟨_, cnt2, n2, S2, hrg3, hS3, by omega, hb3, HI3.out.congr (had_step HVV.out.b.nd HP.out.1)⟩
            case measure => rw [hrg3.left_eq, HP.out.2.2]; exact hlt2
  · have HV := Lib.hid (termV_no (show validB bs es = false by simpa [validB] using hv))
    clear hv hpb1 hpe1 hg1 hb1
    go_wp2
    go_ret2
    exact ⟨by rw [HV.out]; rfl, hall.alloc hz _⟩
end Go.Proofs.YtngcmjfkeageiaaDoor
end

section
/-
  The laws' owHas: whether a text of one byte stands in another. Conditions: texts of at most 1048576 bytes.
-/
namespace Go.Proofs.YtngcmjfkeageiaaDoor
open Go.RowKit Go.Maps

/-- a text of one byte stands in another -/
def hasC (s c : ByteArray) (k : Nat) : Bool := (List.range k).any fun i => decide (ch s i = c)
theorem hasC_succ (s c : ByteArray) (k : Nat) : hasC s c (k + 1) = (hasC s c k || decide (ch s k = c)) := by
  unfold hasC
  rw [List.range_succ, List.any_append]; simp
theorem hasC_hit {s c : ByteArray} {k n : Nat} (hk : k < n) (h : ch s k = c) : hasC s c n = true := by
  unfold hasC
  rw [List.any_eq_true]
  exact ⟨k, List.mem_range.2 hk, by simpa using h⟩

set_option maxRecDepth 100000 in
set_option maxHeartbeats 1600000 in
theorem owHas_any (s c : ByteArray) (b : Bool) (hb : hasC s c s.size = b) (w : World) (hs : s.size ≤ 1048576) :
    Calls Tryd.prog 19 #[.string s, .string c] w fun e w' => e = .returned (.bool b) ∧ w = w' := by
  have HB := Lib.hid hb
  clear hb
  go_enter Tryd.func19, Tryd.ntmps19
  go_wp2
  go_loopw [8] (fun i wr => ∃ k : Nat, k ≤ s.size ∧ i = .int .i64 k ∧ hasC s c k = false ∧ w = wr) (fun i _ => s.size - (intOf i).toNat)
  case atStart => exact ⟨0, Nat.zero_le _, rfl, rfl, rfl⟩
  case round =>
    obtain ⟨k, hk, rfl, hno, rfl⟩ := hrel
    by_cases hlt : k < s.size
    · have hw1 : IntKind.i64.wrap ((k : Int) + 1) = (k : Int) + 1 := IntWalk.i64_in _ (by omega)
      have hsl := run_slice_str s (k : Int) ((k : Int) + 1) k (k + 1) rfl (by omega) (by omega) (by omega)
      have hst := hasC_succ s c k
      have hhit : ch s k = c → hasC s c s.size = true := hasC_hit hlt
      unfold ch at hst hhit
      generalize s.extract k (k + 1) = d at *
      have HN := Lib.hid (And.intro hno (And.intro hst hhit))
      clear hno hst hhit
      by_cases h : d = c
      · have d1 : (d.toList == c.toList) = true := by rw [toList_eq_iff]; exact decide_eq_true h
        have HT := Lib.hid (HN.out.2.2 h)
        clear h
        go_wp2
        go_ret
        exact ⟨by rw [← HB.out, HT.out]; rfl, rfl⟩
      · have d1 : (d.toList == c.toList) = false := by rw [toList_eq_iff]; exact decide_eq_false h
        have HF := Lib.hid (show hasC s c (k + 1) = false by rw [HN.out.2.1, HN.out.1]; simpa using h)
        clear h
        go_wp2
        go_roundw
        case rel => exact ⟨k + 1, by omega, by go_num, HF.out, trivial⟩
        case measure => simp [intOf]; omega
    · obtain rfl : k = s.size := by omega
      have HN := Lib.hid hno
      clear hno
      go_wp2
      go_ret
      exact ⟨by rw [← HB.out, HN.out]; rfl, rfl⟩
end Go.Proofs.YtngcmjfkeageiaaDoor
end

section
/-
  Whether a text has a term, as the laws ask it. Conditions: none.
-/
namespace Go.Proofs.YtngcmjfkeageiaaDoor
open Go.RowKit Go.Maps

theorem tmN_at {k : Nat} (h : k < 3) : byteAt (tmN k) 0 = 120 + k := by
  obtain rfl | rfl | rfl : k = 0 ∨ k = 1 ∨ k = 2 := by omega
  all_goals rfl
theorem ch_tm {s : ByteArray} {i k : Nat} (hi : i < s.size) (hk : k < 3) : ch s i = tmN k ↔ byteAt s i = 120 + k := by
  rw [one_iff (ch_size hi) (tmN_size k), tmN_at hk, show byteAt (ch s i) 0 = byteAt s i from byteAt_ch hi]
theorem hasC_tm {s : ByteArray} {k : Nat} (hk : k < 3) : hasC s (tmN k) s.size = decide (0 ≤ fndC s (120 + k)) := by
  rw [Bool.eq_iff_iff, decide_eq_true_eq, fndC_pos]
  unfold hasC
  rw [List.any_eq_true]
  constructor
  · rintro ⟨i, hi, h⟩
    have hi' := List.mem_range.1 hi
    exact ⟨i, hi', (ch_tm hi' hk).1 (by simpa using h)⟩
  · rintro ⟨i, hi, h⟩
    exact ⟨i, List.mem_range.2 hi, by simpa using (ch_tm hi hk).2 h⟩
theorem hasC_tmA (l : List Pr) {k : Nat} (hk : k < 3) : hasC (tmA l 3) (tmN k) (tmA l 3).size = hasT l (120 + k) l.length := by
  cases h0 : hasT l 120 l.length <;> cases h1 : hasT l 121 l.length <;> cases h2 : hasT l 122 l.length
  all_goals
    first
      | rw [tmA_yes (k := 2) h2]
      | rw [tmA_no (k := 2) h2]
    first
      | rw [tmA_yes (k := 1) h1]
      | rw [tmA_no (k := 1) h1]
    first
      | rw [tmA_yes (k := 0) h0]
      | rw [tmA_no (k := 0) h0]
    obtain rfl | rfl | rfl : k = 0 ∨ k = 1 ∨ k = 2 := by omega
    · rw [h0]; rfl
    · rw [h1]; rfl
    · rw [h2]; rfl
end Go.Proofs.YtngcmjfkeageiaaDoor
end
