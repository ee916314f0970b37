/-
  The program's chapter 1: canJoin: whether an edge lies between two blocks and is new. Conditions: texts of at most 1048576 bytes.
-/
import Derived.Test.YtfmhcjhcmoniaaaDoorOps
namespace Go.Proofs.YtfmhcjhcmoniaaaDoor
open Go.RowKit Go.Maps

open Classical in
noncomputable def joinB (bs E : List Pr) (x y : ByteArray) : Bool := decide (x ∈ names bs) && (decide (y ∈ names bs) && !decide ((x, y) ∈ E))
theorem inner_isSome (E : List Pr) (x y : ByteArray) : (inner E x y).isSome = true ↔ (x, y) ∈ E := by
  unfold inner
  cases h : idx E (x, y) with
  | none => simp [(idx_eq_none_iff _ _).1 h]
  | some k => simp [List.mem_of_getElem? (idx_some _ _ _ h).1]
theorem joinB_no1 {bs E : List Pr} {x y : ByteArray} (h : x ∉ names bs) : joinB bs E x y = false := by simp [joinB, h]
theorem joinB_no2 {bs E : List Pr} {x y : ByteArray} (h : y ∉ names bs) : joinB bs E x y = false := by simp [joinB, h]
theorem joinB_no3 {bs E : List Pr} {x y : ByteArray} (h : (x, y) ∈ E) : joinB bs E x y = false := by simp [joinB, h]
theorem joinB_yes {bs E : List Pr} {x y : ByteArray} (h1 : x ∈ names bs) (h2 : y ∈ names bs) (h3 : (x, y) ∉ E) : joinB bs E x y = true := by simp [joinB, h1, h2, h3]

set_option maxRecDepth 100000 in
set_option maxHeartbeats 3200000 in
theorem canJoin_walk (w : World) (o lo : Nat) (vi : Value) (x y : ByteArray) (v1 v2 v4 : Value) (r : Option Nat) (a b c : Bool)
    (l1 : (Instr.lookup 54 (.map (some o)) (.string x) true).run Tryd.prog ((w.alloc (.cells #[.map (some o), .map (some lo), vi] 58)).alloc (.cells #[.string x, .string y] 81)) = .ok (.tuple #[v1, .bool a]) ((w.alloc (.cells #[.map (some o), .map (some lo), vi] 58)).alloc (.cells #[.string x, .string y] 81)))
    (l2 : (Instr.lookup 54 (.map (some o)) (.string y) true).run Tryd.prog ((w.alloc (.cells #[.map (some o), .map (some lo), vi] 58)).alloc (.cells #[.string x, .string y] 81)) = .ok (.tuple #[v2, .bool b]) ((w.alloc (.cells #[.map (some o), .map (some lo), vi] 58)).alloc (.cells #[.string x, .string y] 81)))
    (l3 : (Instr.lookup 56 (.map (some lo)) (.string x) false).run Tryd.prog ((w.alloc (.cells #[.map (some o), .map (some lo), vi] 58)).alloc (.cells #[.string x, .string y] 81)) = .ok (.map r) ((w.alloc (.cells #[.map (some o), .map (some lo), vi] 58)).alloc (.cells #[.string x, .string y] 81)))
    (l4 : (Instr.lookup 60 (.map r) (.string y) true).run Tryd.prog ((w.alloc (.cells #[.map (some o), .map (some lo), vi] 58)).alloc (.cells #[.string x, .string y] 81)) = .ok (.tuple #[v4, .bool c]) ((w.alloc (.cells #[.map (some o), .map (some lo), vi] 58)).alloc (.cells #[.string x, .string y] 81))) :
    Calls Tryd.prog 61 #[.agg #[.map (some o), .map (some lo), vi], .agg #[.string x, .string y]] w fun e w' => e = .returned (.bool (a && (b && !c))) ∧ Below w.heap.size w w' := by
  cases a <;> cases b <;> cases c
  all_goals
    go_enter Tryd.func61, Tryd.ntmps61
    go_wp2
    go_ret
    exact ⟨rfl, ((Below.refl _ _).alloc (Nat.le_refl _) _).alloc (by simp) _⟩

open Classical in
theorem canJoin_any (w : World) (o lo : Nat) (vi : Value) (bs E : List Pr) (fp : List Nat) (FO FL : ByteArray → Option Value) (x y : ByteArray) (hO : OpsMap w o bs FO) (hL : Links w lo fp E FL) (hfp : ∀ k ∈ fp, k < w.heap.size) (hx : x.size ≤ 1048576) (hy : y.size ≤ 1048576) :
    Calls Tryd.prog 61 #[.agg #[.map (some o), .map (some lo), vi], .agg #[.string x, .string y]] w fun e w' => e = .returned (.bool (joinB bs E x y)) ∧ Below w.heap.size w w' := by
  have hw : Below w.heap.size w ((w.alloc (.cells #[.map (some o), .map (some lo), vi] 58)).alloc (.cells #[.string x, .string y] 81)) := ((Below.refl _ _).alloc (Nat.le_refl _) _).alloc (by simp) _
  have hO2 := hO.below hw
  have l1 := hO2.map.look_ok Tryd.underlying54 (zeroOps _) (mx hx)
  have l2 := hO2.map.look_ok Tryd.underlying54 (zeroOps _) (mx hy)
  have hm3 := hL.map.below hw hL.map.lt
  have l3 := hm3.look Tryd.underlying56 (zeroMap _) (mx hx)
  have n1 : (FO x).isSome = decide (x ∈ names bs) := by
    by_cases h : x ∈ names bs
    · cases hF : FO x with
      | none => exact absurd h ((hO.none_ x).1 hF)
      | some v => simp [h]
    · rw [(hO.none_ x).2 h]; simp [h]
  have n2 : (FO y).isSome = decide (y ∈ names bs) := by
    by_cases h : y ∈ names bs
    · cases hF : FO y with
      | none => exact absurd h ((hO.none_ y).1 hF)
      | some v => simp [h]
    · rw [(hO.none_ y).2 h]; simp [h]
  rw [n1] at l1
  rw [n2] at l2
  cases hFL : FL x with
  | none =>
    rw [hFL] at l3
    have hE : decide ((x, y) ∈ E) = false := by simpa using hL.none_ x hFL y
    have l4 := look_nil_ok (w := (w.alloc (.cells #[.map (some o), .map (some lo), vi] 58)).alloc (.cells #[.string x, .string y] 81)) Tryd.underlying60 (zeroInt _) (mx hy)
    refine (canJoin_walk w o lo vi x y _ _ _ none _ _ _ l1 l2 l3 l4).mono fun e w' h => ⟨?_, h.2⟩
    rw [h.1]
    unfold joinB
    rw [hE]
  | some v =>
    obtain ⟨bi, rfl, hbi, hmi, _⟩ := hL.some_ x v hFL
    rw [hFL] at l3
    have l4 := (hmi.below hw (hfp bi hbi)).look_ok Tryd.underlying60 (zeroInt _) (mx hy)
    have hE : (inner E x y).isSome = decide ((x, y) ∈ E) := by
      have := inner_isSome E x y
      by_cases h : (x, y) ∈ E
      · simp [h, this.2 h]
      · simp [h]
        cases hi : (inner E x y).isSome
        · simpa using hi
        · exact absurd (this.1 hi) h
    rw [hE] at l4
    exact (canJoin_walk w o lo vi x y _ _ _ (some bi) _ _ _ l1 l2 l3 l4).mono fun e w' h => ⟨h.1, h.2⟩
end Go.Proofs.YtfmhcjhcmoniaaaDoor
