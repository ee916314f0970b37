/-
  What the library's Cut and SplitN give the program's parser. Conditions: at most 1048576 bytes; bytealg's MaxLen holds a number.
-/
import Derived.Test.YtngcmjfkeageiaaDoorPtS
import Derived.Test.YtngcmjfkeageiaaDoorPgLib
import Derived.Test.YtngcmjfkeageiaaDoorShelfS
import Derived.Test.YtngcmjfkeageiaaDoorPlan
namespace Go.Proofs.YtngcmjfkeageiaaDoor
open Go.RowKit Go.Maps

/-- bytealg's MaxLen holds a number -/
def MaxAt (w : World) : Prop := 10 < w.heap.size ∧ ∃ m, w.cell? ⟨10, 0, none⟩ = some (.int .i64 m)
theorem MaxAt.keep {w w' : World} (h : MaxAt w) (hb : Below w.heap.size w w') : MaxAt w' := by
  obtain ⟨h1, m, h2⟩ := h
  exact ⟨Nat.lt_of_lt_of_le h1 hb.size, m, (hb.cell (p := ⟨_, 0, none⟩) h1).trans h2⟩
theorem Cut_any (w : World) (text : ByteArray) (hs : text.size ≤ 1048576) (hm : MaxAt w) :
    Calls Tryd.prog 137 #[.string text, .string ⟨#[58]⟩] w fun e w' => e = .returned (.tuple #[.string (headT text), .string (tailT text), .bool (foundT text)]) ∧ Below w.heap.size w w' := by
  obtain ⟨_, m, h2⟩ := hm
  exact (Tryd.strings_Cut text ⟨#[58]⟩ m w (by omega) h2).mono fun e w' ⟨h, n, hw⟩ => ⟨h, by subst hw; exact below_drewN (Below.refl _ _) n⟩
/-- a row of pieces -/
def SplitPost (w : World) (L : List ByteArray) (e : Ending) (w' : World) : Prop := ∃ c, e = .returned (.slice (some ⟨w.heap.size, 0, none⟩) (List.length L) c) ∧ Below w.heap.size w w' ∧ w'.heap.size = w.heap.size + 1 ∧ (∃ cs, w'.heap[w.heap.size]? = some (.cells cs 9 (0, 0)) ∧ ∀ i, i < (List.length L) → cs[i]? = some (.string (pieceAt L i)))
theorem libCells_at {L : List ByteArray} {N i : Nat} (h : i < L.length) : (Lib.cellsOf L N)[i]? = some (.string (pieceAt L i)) := by
  unfold Lib.cellsOf
  rw [List.getElem?_toArray, List.getElem?_append_left (by simpa using h)]
  exact pieceAt_cell h
theorem SplitN_any (w : World) (s : ByteArray) (n : Nat) (hs : s.size ≤ 1048576) (hn : 1 ≤ n) (hn2 : n ≤ 100) (hm : MaxAt w) :
    Calls Tryd.prog 138 #[.string s, .string ⟨#[44]⟩, .int .i64 (n : Int)] w (SplitPost w (piecesN n s)) := by
  obtain ⟨_, m, h2⟩ := hm
  exact (Tryd.strings_SplitN s ⟨#[44]⟩ n m w (by omega) h2 (by decide) hn (by omega)).mono fun e w' ⟨h, hw⟩ => by
    subst hw
    exact ⟨_, h, (Below.refl _ _).alloc (Nat.le_refl _) _, by simp, _, heap_alloc_new _ _, fun i hi => libCells_at hi⟩
end Go.Proofs.YtngcmjfkeageiaaDoor
