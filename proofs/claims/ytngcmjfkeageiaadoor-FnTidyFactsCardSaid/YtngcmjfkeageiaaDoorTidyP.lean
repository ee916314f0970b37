/-
  What the program's Tidy returns. It names the program's types alone.
-/
import Derived.Test.YtngcmjfkeageiaaDoorTidyL
import Derived.Test.YtngcmjfkeageiaaDoorTidyC
import Derived.Test.YtngcmjfkeageiaaDoorTidyE
namespace Go.Proofs.YtngcmjfkeageiaaDoor
open Go.RowKit Go.Maps

/-- the first blocks, tidied -/
def tidL (bs : List Pr) (k : Nat) : List Pr := (List.range k).map fun i => (nameAt bs i, tidyA (restAt bs i) (restAt bs i).size)
theorem tidL_length (bs : List Pr) (k : Nat) : (tidL bs k).length = k := by simp [tidL]
theorem cellsOf_append : ∀ (a b : List Pr), cellsOf (a ++ b) = cellsOf a ++ cellsOf b
  | [], b => rfl
  | p :: r, b => by show _ :: _ :: cellsOf (r ++ b) = _; rw [cellsOf_append r b]; rfl
theorem tidL_succ (bs : List Pr) (k : Nat) : cellsOf (tidL bs (k + 1)) = cellsOf (tidL bs k) ++ [.string (nameAt bs k), .string (tidyA (restAt bs k) (restAt bs k).size)] := by
  unfold tidL
  rw [List.range_succ, List.map_append, cellsOf_append]; rfl
/-- what Tidy leaves -/
def TidyPost (w : World) (bs es : List Pr) (e : Ending) (w' : World) : Prop :=
  Below w.heap.size w w' ∧ ((validB bs es = true ∧ ∃ v ve, e = .returned (.tuple #[.agg #[v, ve], .bool true]) ∧ w'.ownsRow w.heap.size 40 2 v bs.length (cellsOf (tidL bs bs.length)) ∧ w'.ownsRow w.heap.size 111 2 ve es.length (cellsOf es)) ∨ (validB bs es = false ∧ e = .returned (.tuple #[.agg #[.slice none 0 0, .slice none 0 0], .bool false])))

theorem tidL_get {bs : List Pr} {k i : Nat} (h : i < k) : (tidL bs k).getD i (e0, e0) = (nameAt bs i, tidyA (restAt bs i) (restAt bs i).size) := by
  unfold tidL
  rw [List.getD_eq_getElem?_getD]
  simp [h]
theorem tidL_name {bs : List Pr} {k i : Nat} (h : i < k) : nameAt (tidL bs k) i = nameAt bs i := by
  show ((tidL bs k).getD i (e0, e0)).1 = _
  rw [tidL_get h]
theorem tidL_rest {bs : List Pr} {k i : Nat} (h : i < k) : restAt (tidL bs k) i = tidyA (restAt bs i) (restAt bs i).size := by
  show ((tidL bs k).getD i (e0, e0)).2 = _
  rw [tidL_get h]
/-- slices.Equal's value at the tidied blocks is the model's -/
theorem eqTo_tidy (bs : List Pr) (n : Nat) : ∀ k, k ≤ n → eqTo bs (tidL bs n) k = tidyB bs k
  | 0, _ => rfl
  | k + 1, h => by
    show (eqTo bs (tidL bs n) k && (decide (nameAt bs k = nameAt (tidL bs n) k) && decide (restAt bs k = restAt (tidL bs n) k))) = _
    rw [eqTo_tidy bs n k (by omega), tidL_name (by omega), tidL_rest (by omega), tidyB_succ, decide_eq_true rfl, Bool.true_and]
    congr 1
    exact decide_eq_decide.2 ⟨Eq.symm, Eq.symm⟩
end Go.Proofs.YtngcmjfkeageiaaDoor
