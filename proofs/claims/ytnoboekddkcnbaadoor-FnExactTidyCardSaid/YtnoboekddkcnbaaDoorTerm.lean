/-
  The model's l1Term, its answer as a literal. Conditions: none.
-/
import Derived.Test.YtnoboekddkcnbaaDoorBlkT
namespace Go.Proofs.YtnoboekddkcnbaaDoor
open Go.RowKit Go.Maps

theorem l1Term_lit (s : ByteArray) (b : Bool) (h : isTm s = b) (w : World) :
    Calls Tryd.prog 86 #[.string s] w fun e w' => e = .returned (.bool b) ∧ w = w' :=
  (l1Term_any s w).mono fun e w' k => ⟨by rw [k.1, h], k.2⟩
end Go.Proofs.YtnoboekddkcnbaaDoor
