/-
  Words for memory: a slice of pairs of texts that reads as a list; what stays below a block number. It names no function of the program. Conditions: none.
-/
import Derived.Test.YtfmhcjhcmoniaaaDoorProg
import Derived.WalkKit
import Derived.WalkSpells
import Derived.WalkLawsBesides
import Derived.Lib.Hide
import Derived.Deep.LoopGhost
import Derived.Test.YtfmhcjhcmoniaaaDoorPlain
namespace Go.Proofs.YtfmhcjhcmoniaaaDoor
open Go.RowKit

theorem bcell {W w1 : World} (hb : Below W.heap.size W w1) : (∀ b o, b < W.heap.size → w1.cell? ⟨b, o, none⟩ = W.cell? ⟨b, o, none⟩) ∧ (∀ b o, b < W.heap.size → w1.frozen? ⟨b, o, none⟩ = W.frozen? ⟨b, o, none⟩) :=
  ⟨fun b o h => hb.cell (p := ⟨b, o, none⟩) h, fun b o h => hb.frozen (p := ⟨b, o, none⟩) h⟩

/-- the slice with its head at a holds the pairs l -/
structure PairsAt (w : World) (a : Option Addr) (l : List Pr) : Prop where
  len : l.length ≤ 1048576
  size : ∀ i, i < l.length → (nameAt l i).size ≤ 1048576 ∧ (restAt l i).size ≤ 1048576
  cell : ∀ i, i < l.length → ∃ b off, a = some ⟨b, off, none⟩ ∧ b < w.heap.size ∧ w.cell? ⟨b, off + i * 2, none⟩ = some (.string (nameAt l i)) ∧ w.cell? ⟨b, off + i * 2 + 1, none⟩ = some (.string (restAt l i))
theorem PairsAt.keep {w w' : World} {a : Option Addr} {l : List Pr} (h : PairsAt w a l) (hs : w.heap.size ≤ w'.heap.size) (hk : ∀ b o, b < w.heap.size → w'.cell? ⟨b, o, none⟩ = w.cell? ⟨b, o, none⟩) : PairsAt w' a l :=
  ⟨h.len, h.size, fun i hi => by
    obtain ⟨b, off, e, hb, h1, h2⟩ := h.cell i hi
    exact ⟨b, off, e, Nat.lt_of_lt_of_le hb hs, (hk _ _ hb).trans h1, (hk _ _ hb).trans h2⟩⟩
theorem PairsAt.below {w w' : World} {a : Option Addr} {l : List Pr} (h : PairsAt w a l) (hb : Below w.heap.size w w') : PairsAt w' a l := h.keep hb.size (bcell hb).1
theorem PairsAt.alloc {w : World} {a : Option Addr} {l : List Pr} (h : PairsAt w a l) (o : Obj) : PairsAt (w.alloc o) a l := h.below ((Below.refl _ _).alloc (Nat.le_refl _) _)
theorem PairsAt.drew {w : World} {a : Option Addr} {l : List Pr} (h : PairsAt w a l) : PairsAt w.drew a l := h.below (Below.refl _ _).drew

theorem toList_eq_iff (a b : ByteArray) : (a.toList == b.toList) = decide (a = b) := by
  rw [ByteArray.toList_eq, ByteArray.toList_eq]
  by_cases h : a = b
  · subst h; simp
  · simp only [h, decide_false]
    exact beq_eq_false_iff_ne.2 fun e => h (ByteArray.ext (Array.toList_inj.1 e))
theorem toList_eq_true {a b : ByteArray} (h : (a.toList == b.toList) = true) : a = b := by rw [toList_eq_iff] at h; simpa using h
theorem toList_eq_false {a b : ByteArray} (h : (a.toList == b.toList) = false) : a ≠ b := by rw [toList_eq_iff] at h; simpa using h
theorem isEmpty_eq (s : ByteArray) : s.toList.isEmpty = decide (s = e0) := by
  rw [← toList_eq_iff, ByteArray.toList_eq, ByteArray.toList_eq]
  show s.data.toList.isEmpty = (s.data.toList == [])
  cases s.data.toList <;> rfl
theorem ret_int {k : IntKind} {a b : Int} (h : a = b) : Ending.returned (.int k a) = .returned (.int k b) := by rw [h]
theorem ret_bool {a b : Bool} (h : a = b) : Ending.returned (.bool a) = .returned (.bool b) := by rw [h]
theorem all_step {p : Nat → Prop} {k : Nat} (h : ∀ j, j < k → p j) (hk : p k) : ∀ j, j < k + 1 → p j := fun j hj => by
  rcases Nat.lt_or_ge j k with h' | h'
  · exact h j h'
  · obtain rfl : j = k := by omega
    exact hk
theorem all_zero {p : Nat → Prop} : ∀ j, j < 0 → p j := fun _ h => absurd h (Nat.not_lt_zero _)
theorem len_i64 {n : Nat} (h : n ≤ 1048576) : IntKind.i64.wrap (n : Int) = n := IntWalk.i64_in _ (by omega)
theorem mx {n : Nat} (h : n ≤ 1048576) : n ≤ maxLen := by unfold maxLen; omega
theorem mxl {n : Nat} (h : n ≤ 1048576) : n < maxLen := by unfold maxLen; omega
theorem below_new {w wr w' : World} (h : Below w.heap.size w wr) (h' : Below wr.heap.size wr w') : Below w.heap.size w w' := h.trans (h'.mono h.size)
end Go.Proofs.YtfmhcjhcmoniaaaDoor
