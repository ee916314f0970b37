/-
  What stands behind writes to some blocks alone: cells, a program's block, a row. Conditions: none.
-/
import Derived.Test.YtfmhcjhcmoniaaaDoorTwo
namespace Go.Proofs.YtfmhcjhcmoniaaaDoor
open Go.RowKit Go.Maps

theorem Turns.cellT {S : Nat → Prop} {a b : World} (h : Turns S a b) {g i : Nat} (hg : g < a.heap.size) (hS : ¬ S g) : b.cell? ⟨g, i, none⟩ = a.cell? ⟨g, i, none⟩ := World.cell?_of_block (h.block g hg hS)
theorem Turns.two {S : Nat → Prop} {a b : World} (h : Turns S a b) {R : Nat} {x y : Value} (hR : Two a R x y) (hS : ¬ S R) : Two b R x y := (h.block R (Array.getElem?_eq_some_iff.1 hR).1 hS).trans hR
theorem Turns.row {S : Nat → Prop} {a b : World} (h : Turns S a b) {base : Nat} {e : TypeId} {size n : Nat} {v : Value} {xs : List Value} (ho : a.ownsRow base e size v n xs) (hS : ∀ g, v.ownBlock = some g → ¬ S g) : b.ownsRow base e size v n xs := by
  obtain ⟨h1, h2⟩ := ho
  refine ⟨h1, ?_⟩
  rcases h2 with h2 | ⟨g, cap, cur, rfl, e2, e3, e4⟩
  · exact .inl h2
  · exact .inr ⟨g, cap, cur, rfl, e2, (h.block g (Array.getElem?_eq_some_iff.1 e3).1 (hS g rfl)).trans e3, e4⟩
end Go.Proofs.YtfmhcjhcmoniaaaDoor
