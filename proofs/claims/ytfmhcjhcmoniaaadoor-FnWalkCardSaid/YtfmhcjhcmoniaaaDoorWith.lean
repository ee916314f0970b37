/-
  planWith and l1Has: a valid program that has a block of a name. Conditions: at most 1048576 blocks and edges, each text at most as many bytes; the errors' variables hold errors.
-/
import Derived.Test.YtfmhcjhcmoniaaaDoorPlan
namespace Go.Proofs.YtfmhcjhcmoniaaaDoor
open Go.RowKit Go.Maps

open Classical in
noncomputable def hasB (bs es : List Pr) (x : ByteArray) : Bool := validB bs es && decide (x ∈ names bs)
theorem hasB_iff {bs es : List Pr} {x : ByteArray} : hasB bs es x = true ↔ validB bs es = true ∧ x ∈ names bs := by simp [hasB]
theorem hasB_no1 {bs es : List Pr} {x : ByteArray} (h : validB bs es = false) : hasB bs es x = false := by simp [hasB, h]
theorem hasB_no2 {bs es : List Pr} {x : ByteArray} (h : x ∉ names bs) : hasB bs es x = false := by simp [hasB, h]
theorem fnd_neg {l : List Pr} {x : ByteArray} (h : x ∉ names l) : fnd l x = -1 := by unfold fnd; rw [(idx_eq_none_iff _ _).2 h]
theorem fnd_pos {l : List Pr} {x : ByteArray} (h : x ∈ names l) : ∃ k, k < l.length ∧ fnd l x = (k : Int) ∧ nameAt l k = x := by
  cases hi : idx (names l) x with
  | none => exact absurd h ((idx_eq_none_iff _ _).1 hi)
  | some k =>
    obtain ⟨h1, _⟩ := idx_some _ _ _ hi
    obtain ⟨hk, e⟩ := List.getElem?_eq_some_iff.1 h1
    have hk' : k < l.length := by simpa [names] using hk
    refine ⟨k, hk', by unfold fnd; rw [hi], ?_⟩
    unfold nameAt
    rw [List.getD_eq_getElem?_getD, List.getElem?_eq_getElem hk']
    simpa [names] using e

theorem PlanAt.keep {w w' : World} {o lo li : Nat} {bs es : List Pr} (h : PlanAt w o lo li bs es) (hb : Below w.heap.size w w') : PlanAt w' o lo li bs es := by
  obtain ⟨⟨F, hO⟩, ⟨fp, G, hG, hf⟩, ⟨fq, K, hK, hk⟩⟩ := h
  exact ⟨⟨F, hO.below hb⟩, ⟨fp, G, hG.below_ hb hf, fun k h => Nat.lt_of_lt_of_le (hf k h) hb.size⟩, ⟨fq, K, hK.below_ hb hk, fun k h => Nat.lt_of_lt_of_le (hk k h) hb.size⟩⟩
open Classical in
theorem Links.res {w w' : World} {b R : Nat} {fp : List Nat} {E : List Pr} {F : ByteArray → Option Value} {cs : Array Value} {t : TypeId} {fr : Nat × Nat} (h : Links w b fp E F) (hR : w.heap[R]? = some (.cells cs t fr)) (hk : ∀ k, k ≠ R → w'.heap[k]? = w.heap[k]?) :
    Links w' b (fp.filter (fun k => decide (k ≠ R))) E F := by
  have hm : ∀ {k n f}, MapV w k n f → k ≠ R := fun hm e => by
    obtain ⟨es, c, h⟩ := hm.block
    rw [e, hR] at h; cases h
  refine ⟨h.map.same (hk _ (hm h.map)), fun hb => h.apart ((List.mem_filter.1 hb).1), h.none_, fun x v hx => ?_, h.inj⟩
  obtain ⟨bi, e, hf, hv, hy⟩ := h.some_ x v hx
  exact ⟨bi, e, List.mem_filter.2 ⟨hf, by simpa using hm hv⟩, hv.same (hk _ (hm hv)), hy⟩
theorem PlanAt.res {w w' : World} {o lo li R : Nat} {bs es : List Pr} {cs : Array Value} {fr : Nat × Nat} (h : PlanAt w o lo li bs es) (hR : w.heap[R]? = some (.cells cs 58 fr)) (hk : ∀ k, k ≠ R → w'.heap[k]? = w.heap[k]?) (hz : w'.heap.size = w.heap.size) : PlanAt w' o lo li bs es := by
  obtain ⟨⟨F, hO⟩, ⟨fp, G, hG, hf⟩, ⟨fq, K, hK, hq⟩⟩ := h
  have hm : ∀ {k n f}, MapV w k n f → k ≠ R := fun hm e => by
    obtain ⟨es, c, h⟩ := hm.block
    rw [e, hR] at h; cases h
  refine ⟨⟨F, hO.map.same (hk _ (hm hO.map)), hO.none_, fun p hp => ?_⟩, ⟨_, G, hG.res hR hk, fun k h => by rw [hz]; exact hf k (List.mem_filter.1 h).1⟩, ⟨_, K, hK.res hR hk, fun k h => by rw [hz]; exact hq k (List.mem_filter.1 h).1⟩⟩
  obtain ⟨v, hv, h1, h2⟩ := hO.row p hp
  refine ⟨v, hv, h1, ?_⟩
  rcases h2 with h2 | ⟨g, cap, cur, e1, e2, e3, e4⟩
  · exact .inl h2
  · refine .inr ⟨g, cap, cur, e1, e2, (hk g (fun e => ?_)).trans e3, e4⟩
    rw [e, hR] at e3
    simp at e3
theorem PlanAt.set3 {w : World} {o lo li R : Nat} {bs es : List Pr} {cs : Array Value} {fr : Nat × Nat} {a b c : Value} (h : PlanAt w o lo li bs es) (hR : w.heap[R]? = some (.cells cs 58 fr)) : PlanAt (((w.setCell ⟨R, 0, none⟩ a).setCell ⟨R, 1, none⟩ b).setCell ⟨R, 2, none⟩ c) o lo li bs es :=
  h.res hR (fun k hk => by rw [Below.heap_setCell _ _ _ _ hk, Below.heap_setCell _ _ _ _ hk, Below.heap_setCell _ _ _ _ hk]) (by simp [World.setCell])

theorem set3_reads {w : World} {R : Nat} {a b c x y z : Value} (o : Obj) (hR : R < w.heap.size) (h0 : w.cell? ⟨R, 0, none⟩ = some x) (h1 : w.cell? ⟨R, 1, none⟩ = some y) (h2 : w.cell? ⟨R, 2, none⟩ = some z) :
    ((((w.setCell ⟨R, 0, none⟩ a).setCell ⟨R, 1, none⟩ b).setCell ⟨R, 2, none⟩ c).alloc o).cell? ⟨R, 0, none⟩ = some a ∧ ((((w.setCell ⟨R, 0, none⟩ a).setCell ⟨R, 1, none⟩ b).setCell ⟨R, 2, none⟩ c).alloc o).cell? ⟨R, 1, none⟩ = some b ∧
      ((((w.setCell ⟨R, 0, none⟩ a).setCell ⟨R, 1, none⟩ b).setCell ⟨R, 2, none⟩ c).alloc o).cell? ⟨R, 2, none⟩ = some c := by
  have hb : Below (((w.setCell ⟨R, 0, none⟩ a).setCell ⟨R, 1, none⟩ b).setCell ⟨R, 2, none⟩ c).heap.size (((w.setCell ⟨R, 0, none⟩ a).setCell ⟨R, 1, none⟩ b).setCell ⟨R, 2, none⟩ c) ((((w.setCell ⟨R, 0, none⟩ a).setCell ⟨R, 1, none⟩ b).setCell ⟨R, 2, none⟩ c).alloc o) := (Below.refl _ _).alloc (Nat.le_refl _) _
  have hs : R < (((w.setCell ⟨R, 0, none⟩ a).setCell ⟨R, 1, none⟩ b).setCell ⟨R, 2, none⟩ c).heap.size := by simpa [World.setCell] using hR
  refine ⟨(hb.cell (p := ⟨R, 0, none⟩) hs).trans ?_, (hb.cell (p := ⟨R, 1, none⟩) hs).trans ?_, (hb.cell (p := ⟨R, 2, none⟩) hs).trans ?_⟩ <;> simp [go_sem, h0, h1, h2]

def WithPost (w : World) (bs es : List Pr) (x : ByteArray) (e : Ending) (w' : World) : Prop :=
  Below w.heap.size w w' ∧ ((hasB bs es x = true ∧ ∃ o lo li, e = .returned (.tuple #[.agg #[.map (some o), .map (some lo), .map (some li)], .bool true]) ∧ PlanAt w' o lo li bs es) ∨
    (hasB bs es x = false ∧ e = .returned (.tuple #[.agg #[.map none, .map none, .map none], .bool false])))

end Go.Proofs.YtfmhcjhcmoniaaaDoor
