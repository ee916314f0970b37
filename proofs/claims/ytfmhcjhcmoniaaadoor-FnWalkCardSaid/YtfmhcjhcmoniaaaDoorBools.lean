/-
  A block of truths of the call's own, known whole. Conditions: none.
-/
import Derived.Test.YtfmhcjhcmoniaaaDoorWords
import Derived.Deep.RegionHeld3
namespace Go.Proofs.YtfmhcjhcmoniaaaDoor
open Go.RowKit

/-- block g holds just the truths L -/
def BL (w : World) (g : Nat) (L : List Bool) : Prop := w.heap[g]? = some (.cells (L.map Value.bool).toArray 4 (0, 0))
theorem BL.lt {w : World} {g : Nat} {L : List Bool} (h : BL w g L) : g < w.heap.size := by
  rcases Nat.lt_or_ge g w.heap.size with hlt | hge
  · exact hlt
  · unfold BL at h; rw [Array.getElem?_eq_none hge] at h; cases h
theorem BL.cell {w : World} {g : Nat} {L : List Bool} (h : BL w g L) {i : Nat} (hi : i < L.length) : w.cell? ⟨g, i, none⟩ = some (.bool (L.getD i false)) := by
  unfold BL at h
  rw [cell_of_row w g i _ _ (0, 0) h]
  simp [hi]
theorem BL.frozen {w : World} {g : Nat} {L : List Bool} (h : BL w g L) (i : Nat) : w.frozen? ⟨g, i, none⟩ = false := by
  unfold BL at h
  simp [World.frozen?, h]
theorem BL.block {w w' : World} {g : Nat} {L : List Bool} (h : BL w g L) (e : w'.heap[g]? = w.heap[g]?) : BL w' g L := e.trans h
theorem BL.below {w w' : World} {g B : Nat} {L : List Bool} (h : BL w g L) (hb : Below B w w') (hg : g < B) : BL w' g L := h.block (hb.block g hg)
theorem BL.set_ {w : World} {g : Nat} {L : List Bool} (h : BL w g L) (i : Nat) (b : Bool) : BL (w.setCell ⟨g, i, none⟩ (.bool b)) g (L.set i b) := by
  unfold BL at h ⊢
  simp [World.setCell, Array.getElem?_modify, h]
theorem BL.of_own {w : World} {base n : Nat} {g : Nat} {xs : List Value} {L : List Bool} (h : w.ownsRow base 4 1 (.slice (some ⟨g, 0, none⟩) n n) n xs) (e : xs = L.map Value.bool) : BL w g L := by
  obtain ⟨hl, h | ⟨g', cap, cur, hv, hg, hh, hn, hc, hs, ht⟩⟩ := h
  · simp at h
  · simp only [Value.slice.injEq, Option.some.injEq, Addr.mk.injEq] at hv
    obtain ⟨⟨rfl, _⟩, _, rfl⟩ := hv
    unfold BL
    rw [hh]
    have : cur = (L.map Value.bool).toArray := by
      rw [← e, ← ht, List.take_of_length_le (by simp [hs])]
    rw [this]
theorem made_false (n : Nat) : (madeCells (Value.bool false).cells (n * 1)).toList = (List.replicate n false).map Value.bool := by
  apply List.ext_getElem
  · simp [madeCells]
  · intro i h1 h2
    simp [madeCells, Value.cells, Nat.mod_one]
/-- how many are not true -/
def nots (L : List Bool) : Nat := L.countP (fun b => !b)
theorem nots_set : ∀ {L : List Bool} {i : Nat}, i < L.length → L.getD i false = false → nots (L.set i true) + 1 = nots L
  | [], i, h, _ => by simp at h
  | b :: r, 0, _, e => by simp at e; subst e; simp [nots]
  | b :: r, i + 1, h, e => by
    have := nots_set (L := r) (i := i) (by simpa using h) (by simpa using e)
    unfold nots at this ⊢
    simp only [List.set_cons_succ, List.countP_cons]
    omega
theorem getD_set_true {L : List Bool} {i j : Nat} (h : (L.set i true).getD j false = true) : j = i ∨ L.getD j false = true := by
  by_cases e : j = i
  · exact .inl e
  · right
    simpa [List.getElem?_set, Ne.symm e] using h
theorem getD_set_keep {L : List Bool} {i j : Nat} (h : L.getD j false = true) : (L.set i true).getD j false = true := by
  by_cases e : i = j
  · subst e
    have hi : i < L.length := by
      rcases Nat.lt_or_ge i L.length with h' | h'
      · exact h'
      · simp [h'] at h
    simp [hi]
  · simpa [List.getElem?_set, e] using h
theorem getD_set_self {L : List Bool} {i : Nat} (hi : i < L.length) : (L.set i true).getD i false = true := by simp [hi]
end Go.Proofs.YtfmhcjhcmoniaaaDoor
