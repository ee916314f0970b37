/-
  What the rows list that read a program's text: the eight errors, Go's two tables, the search's variable. Conditions: none.
-/
import Derived.Test.YtngcmjfkeageiaaDoorCards2
import Derived.Test.YtngcmjfkeageiaaDoorReadA
import Derived.Shelf.Vars
namespace Go.Proofs.YtngcmjfkeageiaaDoor
open Go.ChangeShapes Go.WideShapes Go.ChangeAt Go.RowKit Go.Joins Go.Deep
set_option maxRecDepth 100000

theorem Tryd.gOferrColon : Tryd.prog.globalNamed "loop.example/onceways/impl.errColon" = some 2 := by kernel_rfl
theorem Tryd.tOferrColon : (Tryd.prog.globals[2]?).map (·.type) = some 85 := by kernel_rfl
abbrev eight : List String := ["loop.example/onceways/impl.errColon", "loop.example/onceways/impl.errName", "loop.example/onceways/impl.errEdge", "loop.example/onceways/impl.errCount", "loop.example/onceways/impl.errOps", "loop.example/onceways/impl.errEntry", "loop.example/onceways/impl.errExit", "loop.example/onceways/impl.errLost"]
theorem eight_type : ∀ n ∈ eight, ∀ g t, Tryd.prog.globalNamed n = some g → (Tryd.prog.globals[g]?).map (·.type) = some t → t = 85 := by
  intro n hn g t hg ht
  simp only [eight, List.mem_cons, List.not_mem_nil, or_false] at hn
  rcases hn with rfl | rfl | rfl | rfl | rfl | rfl | rfl | rfl
  · rw [Tryd.gOferrColon] at hg; cases hg; rw [Tryd.tOferrColon] at ht; exact (Option.some.inj ht).symm
  · rw [Tryd.gOferrName] at hg; cases hg; rw [Tryd.tOferrName] at ht; exact (Option.some.inj ht).symm
  · rw [Tryd.gOferrEdge] at hg; cases hg; rw [Tryd.tOferrEdge] at ht; exact (Option.some.inj ht).symm
  · rw [Tryd.gOferrCount] at hg; cases hg; rw [Tryd.tOferrCount] at ht; exact (Option.some.inj ht).symm
  · rw [Tryd.gOferrOps] at hg; cases hg; rw [Tryd.tOferrOps] at ht; exact (Option.some.inj ht).symm
  · rw [Tryd.gOferrEntry] at hg; cases hg; rw [Tryd.tOferrEntry] at ht; exact (Option.some.inj ht).symm
  · rw [Tryd.gOferrExit] at hg; cases hg; rw [Tryd.tOferrExit] at ht; exact (Option.some.inj ht).symm
  · rw [Tryd.gOferrLost] at hg; cases hg; rw [Tryd.tOferrLost] at ht; exact (Option.some.inj ht).symm

/-- the row's list gives the eight errors -/
theorem errs8 {W : World} (h : laidMetH Tryd.prog Rows.fnProgTextRow.laid W) : Errs W ∧ ErrAt W 2 := by
  have h0 : laidMet Tryd.prog Rows.fnProgTextRow.laid W := h
  obtain ⟨ec, h1⟩ := err_of_laid (laidMet.tail h0) Tryd.gOferrColon Tryd.tOferrColon
  obtain ⟨e0, h2⟩ := err_of_laid h1 Tryd.gOferrCount Tryd.tOferrCount
  obtain ⟨e1, h3⟩ := err_of_laid h2 Tryd.gOferrName Tryd.tOferrName
  obtain ⟨e2, h4⟩ := err_of_laid h3 Tryd.gOferrOps Tryd.tOferrOps
  obtain ⟨e3, h5⟩ := err_of_laid h4 Tryd.gOferrEdge Tryd.tOferrEdge
  obtain ⟨e4, h6⟩ := err_of_laid h5 Tryd.gOferrEntry Tryd.tOferrEntry
  obtain ⟨e5, h7⟩ := err_of_laid h6 Tryd.gOferrExit Tryd.tOferrExit
  obtain ⟨e6, h8⟩ := err_of_laid h7 Tryd.gOferrLost Tryd.tOferrLost
  exact ⟨⟨e0, e1, e2, e3, e4, e5, e6⟩, ec⟩
/-- the search's variable holds a number at every row's first world -/
theorem max_of_shape {W : World} (h : W.ShapedOpen Tryd.prog) : MaxAt W := by
  obtain ⟨m, hm⟩ := Go.Proofs.cell_of_shapedOpen_int (zero := #[.int .i64 0]) (t := 3) (g := 10) h (of_decide_eq_true (by kernel_rfl)) (by kernel_rfl) rfl (by kernel_rfl) (by kernel_rfl) Tryd.underlying3
  exact ⟨World.block_lt_of_cell? _ _ hm, m, hm⟩

/-- a world for the witness -/
abbrev texterrColon : ByteArray := { data := #[110, 111, 32, 99, 111, 108, 111, 110, 32, 98, 101, 116, 119, 101, 101, 110, 32, 98, 108, 111, 99, 107, 115, 32, 97, 110, 100, 32, 101, 100, 103, 101, 115] }
def setTab8 (h : Array Obj) (g : Nat) (cs : Array Value) : Array Obj := h.modify g fun
  | .cells _ t frozen => .cells cs t frozen
  | o => o
def tabAcc : Array Value := #[.int .u8 128, .int .u8 191, .int .u8 160, .int .u8 191, .int .u8 128, .int .u8 159, .int .u8 144, .int .u8 191, .int .u8 128, .int .u8 143, .int .u8 0, .int .u8 0, .int .u8 0, .int .u8 0, .int .u8 0, .int .u8 0, .int .u8 0, .int .u8 0, .int .u8 0, .int .u8 0, .int .u8 0, .int .u8 0, .int .u8 0, .int .u8 0, .int .u8 0, .int .u8 0, .int .u8 0, .int .u8 0, .int .u8 0, .int .u8 0, .int .u8 0, .int .u8 0]
def tabFirst : Array Value := #[.int .u8 240, .int .u8 240, .int .u8 240, .int .u8 240, .int .u8 240, .int .u8 240, .int .u8 240, .int .u8 240, .int .u8 240, .int .u8 240, .int .u8 240, .int .u8 240, .int .u8 240, .int .u8 240, .int .u8 240, .int .u8 240, .int .u8 240, .int .u8 240, .int .u8 240, .int .u8 240, .int .u8 240, .int .u8 240, .int .u8 240, .int .u8 240, .int .u8 240, .int .u8 240, .int .u8 240, .int .u8 240, .int .u8 240, .int .u8 240, .int .u8 240, .int .u8 240, .int .u8 240, .int .u8 240, .int .u8 240, .int .u8 240, .int .u8 240, .int .u8 240, .int .u8 240, .int .u8 240, .int .u8 240, .int .u8 240, .int .u8 240, .int .u8 240, .int .u8 240, .int .u8 240, .int .u8 240, .int .u8 240, .int .u8 240, .int .u8 240, .int .u8 240, .int .u8 240, .int .u8 240, .int .u8 240, .int .u8 240, .int .u8 240, .int .u8 240, .int .u8 240, .int .u8 240, .int .u8 240, .int .u8 240, .int .u8 240, .int .u8 240, .int .u8 240, .int .u8 240, .int .u8 240, .int .u8 240, .int .u8 240, .int .u8 240, .int .u8 240, .int .u8 240, .int .u8 240, .int .u8 240, .int .u8 240, .int .u8 240, .int .u8 240, .int .u8 240, .int .u8 240, .int .u8 240, .int .u8 240, .int .u8 240, .int .u8 240, .int .u8 240, .int .u8 240, .int .u8 240, .int .u8 240, .int .u8 240, .int .u8 240, .int .u8 240, .int .u8 240, .int .u8 240, .int .u8 240, .int .u8 240, .int .u8 240, .int .u8 240, .int .u8 240, .int .u8 240, .int .u8 240, .int .u8 240, .int .u8 240, .int .u8 240, .int .u8 240, .int .u8 240, .int .u8 240, .int .u8 240, .int .u8 240, .int .u8 240, .int .u8 240, .int .u8 240, .int .u8 240, .int .u8 240, .int .u8 240, .int .u8 240, .int .u8 240, .int .u8 240, .int .u8 240, .int .u8 240, .int .u8 240, .int .u8 240, .int .u8 240, .int .u8 240, .int .u8 240, .int .u8 240, .int .u8 240, .int .u8 240, .int .u8 240, .int .u8 240, .int .u8 240, .int .u8 241, .int .u8 241, .int .u8 241, .int .u8 241, .int .u8 241, .int .u8 241, .int .u8 241, .int .u8 241, .int .u8 241, .int .u8 241, .int .u8 241, .int .u8 241, .int .u8 241, .int .u8 241, .int .u8 241, .int .u8 241, .int .u8 241, .int .u8 241, .int .u8 241, .int .u8 241, .int .u8 241, .int .u8 241, .int .u8 241, .int .u8 241, .int .u8 241, .int .u8 241, .int .u8 241, .int .u8 241, .int .u8 241, .int .u8 241, .int .u8 241, .int .u8 241, .int .u8 241, .int .u8 241, .int .u8 241, .int .u8 241, .int .u8 241, .int .u8 241, .int .u8 241, .int .u8 241, .int .u8 241, .int .u8 241, .int .u8 241, .int .u8 241, .int .u8 241, .int .u8 241, .int .u8 241, .int .u8 241, .int .u8 241, .int .u8 241, .int .u8 241, .int .u8 241, .int .u8 241, .int .u8 241, .int .u8 241, .int .u8 241, .int .u8 241, .int .u8 241, .int .u8 241, .int .u8 241, .int .u8 241, .int .u8 241, .int .u8 241, .int .u8 241, .int .u8 241, .int .u8 241, .int .u8 2, .int .u8 2, .int .u8 2, .int .u8 2, .int .u8 2, .int .u8 2, .int .u8 2, .int .u8 2, .int .u8 2, .int .u8 2, .int .u8 2, .int .u8 2, .int .u8 2, .int .u8 2, .int .u8 2, .int .u8 2, .int .u8 2, .int .u8 2, .int .u8 2, .int .u8 2, .int .u8 2, .int .u8 2, .int .u8 2, .int .u8 2, .int .u8 2, .int .u8 2, .int .u8 2, .int .u8 2, .int .u8 2, .int .u8 2, .int .u8 19, .int .u8 3, .int .u8 3, .int .u8 3, .int .u8 3, .int .u8 3, .int .u8 3, .int .u8 3, .int .u8 3, .int .u8 3, .int .u8 3, .int .u8 3, .int .u8 3, .int .u8 35, .int .u8 3, .int .u8 3, .int .u8 52, .int .u8 4, .int .u8 4, .int .u8 4, .int .u8 68, .int .u8 241, .int .u8 241, .int .u8 241, .int .u8 241, .int .u8 241, .int .u8 241, .int .u8 241, .int .u8 241, .int .u8 241, .int .u8 241, .int .u8 241]
noncomputable def laidWorld8 (os : Os) : World :=
  let w0 := World.holding Tryd.prog os ⟨#[.cells #[.string texterrColon] 311, .cells #[.string texterrCount] 311, .cells #[.string texterrName] 311, .cells #[.string texterrOps] 311, .cells #[.string texterrEdge] 311, .cells #[.string texterrEntry] 311, .cells #[.string texterrExit] 311, .cells #[.string texterrLost] 311], #[], []⟩
  { w0 with heap := setTab8 (setTab8 (setErr (setErr (setErr (setErr (setErr (setErr (setErr (setErr w0.heap 2 (low + 0)) 0 (low + 1)) 3 (low + 2)) 8 (low + 3)) 1 (low + 4)) 5 (low + 5)) 6 (low + 6)) 7 (low + 7)) 13 tabAcc) 12 tabFirst }
theorem laid_met8 (os : Os) (args : Array Value) : laidMet Tryd.prog Rows.fnProgTextRow.laid ((laidWorld8 os).forCall (fun _ _ => 0) ⟨#[], args, []⟩).memory :=
  laidMet_of_run' 8 (by kernel_rfl) (by kernel_rfl)
end Go.Proofs.YtngcmjfkeageiaaDoor
