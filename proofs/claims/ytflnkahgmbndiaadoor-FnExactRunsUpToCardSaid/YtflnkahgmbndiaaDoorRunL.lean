/-
  RunsUpTo of both sides at a known result. Conditions: the errors' variables hold errors.
-/
import Derived.Test.YtflnkahgmbndiaaDoorRunsU
import Derived.Test.YtflnkahgmbndiaaDoorGrowM
namespace Go.Proofs.YtflnkahgmbndiaaDoor
open Go.RowKit Go.Maps

def RunsPostL (w : World) (L : List ByteArray) (b : Bool) (e : Ending) (w' : World) : Prop :=
  ∃ a c, e = .returned (.tuple #[.slice a L.length c, .bool b]) ∧ w'.ownsRow w.heap.size 9 1 (.slice a L.length c) L.length (L.map Value.string) ∧ Below w.heap.size w w'
theorem RunsPost.lit {w w' : World} {r : List ByteArray × Bool} {L : List ByteArray} {b : Bool} {e : Ending} (hr : r = (L, b)) (h : RunsPost w r e w') : RunsPostL w L b e w' := by
  subst hr
  obtain ⟨v, rfl, ho, hb⟩ := h
  obtain ⟨a, c, rfl⟩ := own_form ho
  exact ⟨a, c, rfl, ho, hb⟩
theorem RunsUpTo_implL (L : List ByteArray) (b : Bool) (bs es : List Pr) (w : World) (ab ae : Option Addr) (cb ce : Nat) (k : Int) (hr : runsR bs es k = (L, b)) (hpb : PairsAt w ab bs) (hpe : PairsAt w ae es) (hg : Errs w) :
    Calls Tryd.prog 9 #[.agg #[.slice ab bs.length cb, .slice ae es.length ce], .int .i64 k] w (RunsPostL w L b) :=
  (RunsUpTo_impl bs es w ab ae cb ce k hpb hpe hg).mono fun _ _ h => h.lit hr
theorem RunsUpTo_specL (L : List ByteArray) (b : Bool) (bs es : List Pr) (w : World) (ab ae : Option Addr) (cb ce : Nat) (k : Int) (hr : runsR bs es k = (L, b)) (hpb : PairsAt w ab bs) (hpe : PairsAt w ae es) :
    Calls Tryd.prog 7 #[.agg #[.slice ab bs.length cb, .slice ae es.length ce], .int .i64 k] w (RunsPostL w L b) :=
  (RunsUpTo_spec w bs es ab ae cb ce k hpb hpe).mono fun _ _ h => h.lit hr
theorem own_atR {w : World} {base n : Nat} {a : Option Addr} {c : Nat} {L : List ByteArray} (h : w.ownsRow base 9 1 (.slice a n c) L.length (L.map Value.string)) {i : Nat} {x : ByteArray} (hi : L[i]? = some x) : ∃ g, a = some ⟨g, 0, none⟩ ∧ w.cell? ⟨g, i, none⟩ = some (.string x) := by
  have hx : (L.map Value.string)[i]? = some (.string x) := by rw [List.getElem?_map, hi]; rfl
  rcases h.2 with ⟨h1, h2⟩ | ⟨g, cap, cur, e1, h2⟩
  · have : L.length = 0 := by omega
    have := List.length_eq_zero_iff.1 this
    subst this
    cases hi
  · have hv : (Value.slice a n c).ownBlock = some g := by rw [e1]; rfl
    have := h.cells hv i _ hx
    refine ⟨g, (Value.slice.inj e1).1, ?_⟩
    rcases Nat.eq_zero_or_pos i with h0 | h0
    · subst h0; simpa [Addr.add] using this
    · simpa [Addr.add, show i ≠ 0 by omega] using this
theorem filter_hit {p : ByteArray → Bool} : ∀ (L : List ByteArray) (m : Nat) (x : ByteArray), L[m]? = some x → p x = true → (L.filter p)[((L.take m).filter p).length]? = some x
  | [], m, x, h, _ => by simp at h
  | y :: r, 0, x, h, hp => by
    simp at h; subst h
    simp [hp]
  | y :: r, m + 1, x, h, hp => by
    have ih := filter_hit r m x (by simpa using h) hp
    cases hy : p y <;> simp [hy, ih]
theorem filter_take_succ {p : ByteArray → Bool} {L : List ByteArray} {m : Nat} {x : ByteArray} (h : L[m]? = some x) : ((L.take (m + 1)).filter p).length = ((L.take m).filter p).length + (if p x then 1 else 0) := by
  rw [List.take_add_one, h]
  cases hp : p x <;> simp [hp]
/-- the two lists of the law -/
structure Grow (K : Int) (L1 L2 : List ByteArray) : Prop where
  few : L2.length ≤ 300
  le : ∀ x ∈ L2, (x.size : Int) ≤ K + 1
  eq : L2.filter (fun r => decide ((r.size : Int) ≤ K)) = L1
theorem runs_grow {bs es : List Pr} {k : Int} {L1 L2 : List ByteArray} {b1 b2 : Bool} (h1 : runsR bs es k = (L1, b1)) (h2 : runsR bs es (k + 1) = (L2, b2)) :
    (b2 = false) ∨ (b1 = false ∧ k < 0) ∨ (b1 = true ∧ b2 = true ∧ Grow k L1 L2) := by
  unfold runsR at h1 h2
  by_cases c2 : validB bs es = true ∧ inB (k + 1) 0 12 = true ∧ (allRuns bs es (k + 1).toNat).length ≤ 300
  · rw [if_pos c2] at h2
    cases h2
    refine .inr ?_
    by_cases hk : k < 0
    · rw [if_neg (fun h => by have := h.2.1; simp [inB] at this; omega)] at h1
      cases h1
      exact .inl ⟨rfl, hk⟩
    · obtain ⟨K, rfl⟩ : ∃ K : Nat, k = (K : Int) := ⟨k.toNat, by omega⟩
      have hV : Valid bs es := by simpa [validB] using c2.1
      have hlo := hV.b.lo
      have hg := allRuns_grow (es := es) (fun i hi => name_sizeR hV.b hi) (by omega) (first_ne_lastR hV.b) K
      have e1 : ((K : Int) + 1).toNat = K + 1 := by omega
      have c2' := c2
      rw [e1] at c2'
      have hl : (allRuns bs es K).length ≤ 300 := by rw [← hg]; exact Nat.le_trans (List.length_filter_le _ _) c2'.2.2
      have hin := c2.2.1
      rw [if_pos ⟨c2.1, by simp [inB] at hin ⊢; omega, by rw [Int.toNat_natCast]; exact hl⟩] at h1
      cases h1
      refine .inr ⟨rfl, rfl, c2.2.2, fun x hx => ?_, ?_⟩
      · have := allRuns_size (fun i hi => name_sizeR hV.b hi) (by omega) _ hx
        omega
      · rw [e1, Int.toNat_natCast, ← hg]
        simp
  · rw [if_neg c2] at h2
    cases h2
    exact .inl rfl
end Go.Proofs.YtflnkahgmbndiaaDoor
