/-
  slices.Clone over edges. Conditions: at most 1048576 edges, each text at most as many bytes.
-/
import Derived.Test.YtfmhcjhcmoniaaaDoorBlkF
import Derived.Test.YtfmhcjhcmoniaaaDoorTo
namespace Go.Proofs.YtfmhcjhcmoniaaaDoor
open Go.RowKit Go.Maps

theorem cellsOf_one : ∀ (l : List Pr), ∀ u ∈ cellsOf l, u.oneCell' = true
  | [], u, h => by cases h
  | p :: r, u, h => by
    simp only [cellsOf, List.mem_cons] at h
    rcases h with rfl | rfl | h
    · rfl
    · rfl
    · exact cellsOf_one r u h
theorem cellsOf_at {l : List Pr} {j : Nat} {u : Value} (h : (cellsOf l)[j]? = some u) : ∃ i, i < l.length ∧ ((j = i * 2 ∧ u = .string (nameAt l i)) ∨ (j = i * 2 + 1 ∧ u = .string (restAt l i))) := by
  have hj : j < l.length * 2 := by have := (List.getElem?_eq_some_iff.1 h).1; rwa [cellsOf_length] at this
  refine ⟨j / 2, by omega, ?_⟩
  have h2 : j / 2 < l.length := by omega
  rcases Nat.mod_two_eq_zero_or_one j with e | e
  · have ej : j = j / 2 * 2 := by omega
    refine .inl ⟨ej, ?_⟩
    have := cellsOf_even l (j / 2) h2
    rw [← ej] at this
    rw [this] at h
    exact (Option.some.inj h).symm
  · have ej : j = j / 2 * 2 + 1 := by omega
    refine .inr ⟨ej, ?_⟩
    have := cellsOf_odd l (j / 2) h2
    rw [← ej] at this
    rw [this] at h
    exact (Option.some.inj h).symm

end Go.Proofs.YtfmhcjhcmoniaaaDoor
