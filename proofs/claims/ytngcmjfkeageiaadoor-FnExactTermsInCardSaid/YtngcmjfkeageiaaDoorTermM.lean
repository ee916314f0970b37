/-
  The terms that are computed somewhere, as a fold over the three terms. No program.
-/
import Derived.Test.YtngcmjfkeageiaaDoorBlkS
namespace Go.Proofs.YtngcmjfkeageiaaDoor
open Go.RowKit Go.Maps

/-- one of the first k blocks has the letter c -/
noncomputable def hasT (l : List Pr) (c : Nat) : Nat → Bool
  | 0 => false
  | k + 1 => hasT l c k || decide (0 ≤ fndC (restAt l k) c)
theorem fndC_pos (s : ByteArray) (c : Nat) : 0 ≤ fndC s c ↔ ∃ j, j < s.size ∧ byteAt s j = c := by
  constructor
  · intro h
    rcases Classical.em (∃ j, j < s.size ∧ byteAt s j = c) with h' | h'
    · exact h'
    · have := (fndC_neg s c).2 (fun j hj e => h' ⟨j, hj, e⟩)
      omega
  · rintro ⟨j, hj, e⟩
    rcases Int.lt_or_le (fndC s c) 0 with h | h
    · exact absurd e ((fndC_neg s c).1 h j hj)
    · exact h
theorem hasT_iff (l : List Pr) (c : Nat) : ∀ k, hasT l c k = true ↔ ∃ i, i < k ∧ ∃ j, j < (restAt l i).size ∧ byteAt (restAt l i) j = c
  | 0 => by
    constructor
    · intro h; cases h
    · rintro ⟨i, h, _⟩; omega
  | k + 1 => by
    unfold hasT
    rw [Bool.or_eq_true, hasT_iff l c k, decide_eq_true_eq, fndC_pos]
    constructor
    · rintro (⟨i, hi, h⟩ | h)
      · exact ⟨i, by omega, h⟩
      · exact ⟨k, by omega, h⟩
    · rintro ⟨i, hi, h⟩
      rcases Nat.lt_or_ge i k with h' | h'
      · exact .inl ⟨i, h', h⟩
      · obtain rfl : i = k := by omega
        exact .inr h
theorem hasT_hit {l : List Pr} {c k n : Nat} (hk : k < n) (h : 0 ≤ fndC (restAt l k) c) : hasT l c n = true := (hasT_iff l c n).2 ⟨k, hk, (fndC_pos _ _).1 h⟩
theorem hasT_more {l : List Pr} {c k : Nat} (h0 : hasT l c k = false) (h : fndC (restAt l k) c < 0) : hasT l c (k + 1) = false := by
  unfold hasT
  rw [h0, decide_eq_false (by omega)]; rfl

/-- 'x', 'y', 'z' -/
def tmN : Nat → ByteArray
  | 0 => ⟨#[120]⟩
  | 1 => ⟨#[121]⟩
  | _ => ⟨#[122]⟩
/-- the first k terms that are computed somewhere -/
noncomputable def tmA (l : List Pr) : Nat → ByteArray
  | 0 => ⟨#[]⟩
  | k + 1 => if hasT l (120 + k) l.length = true then tmA l k ++ tmN k else tmA l k
theorem tmA_yes {l : List Pr} {k : Nat} (h : hasT l (120 + k) l.length = true) : tmA l (k + 1) = tmA l k ++ tmN k := by show (if _ then _ else _) = _; rw [if_pos h]
theorem tmA_no {l : List Pr} {k : Nat} (h : hasT l (120 + k) l.length = false) : tmA l (k + 1) = tmA l k := by show (if _ then _ else _) = _; rw [if_neg (by rw [h]; simp)]
theorem tmN_size (k : Nat) : (tmN k).size = 1 := by
  match k with
  | 0 => rfl
  | 1 => rfl
  | _ + 2 => rfl
theorem tmA_size (l : List Pr) : ∀ k, (tmA l k).size ≤ k
  | 0 => Nat.le_refl _
  | k + 1 => by
    have ih := tmA_size l k
    cases h : hasT l (120 + k) l.length
    · rw [tmA_no h]; omega
    · rw [tmA_yes h, ByteArray.size_append, tmN_size]; omega
/-- the terms as letters, in order -/
noncomputable def tmL (l : List Pr) : List Nat := [120, 121, 122].filter fun c => hasT l c l.length
theorem tmA_tmL (l : List Pr) : tmA l 3 = ⟨((tmL l).map UInt8.ofNat).toArray⟩ := by
  unfold tmL
  cases h0 : hasT l 120 l.length <;> cases h1 : hasT l 121 l.length <;> cases h2 : hasT l 122 l.length
  all_goals
    first
      | rw [tmA_yes (k := 2) h2]
      | rw [tmA_no (k := 2) h2]
    first
      | rw [tmA_yes (k := 1) h1]
      | rw [tmA_no (k := 1) h1]
    first
      | rw [tmA_yes (k := 0) h0]
      | rw [tmA_no (k := 0) h0]
    simp only [List.filter, h0, h1, h2]
    rfl

/-- what TermsIn answers -/
noncomputable def termV (bs es : List Pr) : Value := if validB bs es = true then .tuple #[.string (tmA bs 3), .bool true] else .tuple #[.string e0, .bool false]
theorem termV_yes {bs es : List Pr} (h : validB bs es = true) : termV bs es = .tuple #[.string (tmA bs 3), .bool true] := by unfold termV; rw [if_pos h]
theorem termV_no {bs es : List Pr} (h : validB bs es = false) : termV bs es = .tuple #[.string e0, .bool false] := by unfold termV; rw [if_neg (by rw [h]; simp)]
theorem termV_form (bs es : List Pr) : ∃ (r : ByteArray) (ok : Bool), termV bs es = .tuple #[.string r, .bool ok] := by
  cases h : validB bs es
  · exact ⟨_, _, termV_no h⟩
  · exact ⟨_, _, termV_yes h⟩

/-! ### what comes of a walk over the keys -/
/-- no key twice; a key is on the list just where it is in and no longer to come -/
def ColB (S : Int → Bool) (left : Lit → Bool) (ss : List Int) : Prop := ss.Nodup ∧ ∀ x, x ∈ ss ↔ (S x = true ∧ left (.int .u8 x) = false)
theorem ColB.start {S : Int → Bool} {left : Lit → Bool} (h : ∀ x, left (.int .u8 x) = S x) : ColB S left [] :=
  ⟨List.nodup_nil, fun x => by rw [h x]; cases S x <;> simp⟩
theorem ColB.step {S : Int → Bool} {left : Lit → Bool} {ss : List Int} (h : ColB S left ss) {x : Int} (hl : left (.int .u8 x) = true) (hS : S x = true) :
    ColB S (fun z => left z && !z.sameKey (.int .u8 x)) (ss ++ [x]) := by
  have hnew : x ∉ ss := fun hx => by have := ((h.2 x).1 hx).2; rw [hl] at this; cases this
  refine ⟨List.nodup_append.2 ⟨h.1, by simp, fun a ha b hb => by simp at hb; subst hb; exact fun e => hnew (e ▸ ha)⟩, fun y => ?_⟩
  by_cases hy : y = x
  · subst hy; simp [hS, Lit.sameKey]
  · simp [h.2 y, hy, Lit.sameKey]
theorem ColB.fin {S : Int → Bool} {left : Lit → Bool} {ss : List Int} (h : ColB S left ss) (hl : ∀ kl, left kl = false) : ss.Nodup ∧ ∀ x, x ∈ ss ↔ S x = true :=
  ⟨h.1, fun x => by rw [h.2 x, hl]; simp⟩

/-- the sixteen lists of different terms -/
def all16 : List (List Int) := [[], [120], [121], [122], [120, 121], [121, 120], [120, 122], [122, 120], [121, 122], [122, 121], [120, 121, 122], [120, 122, 121], [121, 120, 122], [121, 122, 120], [122, 120, 121], [122, 121, 120]]
theorem in16 {ss : List Int} (h : ss.Nodup) (hs : ∀ x ∈ ss, x = 120 ∨ x = 121 ∨ x = 122) : ss ∈ all16 := by
  match ss, h, hs with
  | [], _, _ => decide
  | [a], _, hs => rcases hs a (by simp) with rfl | rfl | rfl <;> decide
  | [a, b], h, hs =>
    rcases hs a (by simp) with rfl | rfl | rfl <;> rcases hs b (by simp) with rfl | rfl | rfl <;> first | decide | (exfalso; revert h; decide)
  | [a, b, c], h, hs =>
    rcases hs a (by simp) with rfl | rfl | rfl <;> rcases hs b (by simp) with rfl | rfl | rfl <;> rcases hs c (by simp) with rfl | rfl | rfl <;> first | decide | (exfalso; revert h; decide)
  | a :: b :: c :: d :: r, h, hs =>
    exfalso
    have n1 := (List.nodup_cons.1 h).1
    have n2 := (List.nodup_cons.1 (List.nodup_cons.1 h).2).1
    have n3 := (List.nodup_cons.1 (List.nodup_cons.1 (List.nodup_cons.1 h).2).2).1
    have ab : a ≠ b := fun e => n1 (by rw [e]; simp)
    have ac : a ≠ c := fun e => n1 (by rw [e]; simp)
    have ad : a ≠ d := fun e => n1 (by rw [e]; simp)
    have bc : b ≠ c := fun e => n2 (by rw [e]; simp)
    have bd : b ≠ d := fun e => n2 (by rw [e]; simp)
    have cd : c ≠ d := fun e => n3 (by rw [e]; simp)
    have h1 := hs a (by simp)
    have h2 := hs b (by simp)
    have h3 := hs c (by simp)
    have h4 := hs d (by simp)
    omega
/-- the same, in order -/
def srt (ss : List Int) : List Int := [120, 121, 122].filter fun x => decide (x ∈ ss)
theorem srt_of {ss : List Int} {S : Int → Bool} (h : ∀ x, x ∈ ss ↔ S x = true) : srt ss = [120, 121, 122].filter S := by
  unfold srt
  refine List.filter_congr fun x _ => ?_
  rw [Bool.eq_iff_iff, decide_eq_true_eq, h x]
end Go.Proofs.YtngcmjfkeageiaaDoor
