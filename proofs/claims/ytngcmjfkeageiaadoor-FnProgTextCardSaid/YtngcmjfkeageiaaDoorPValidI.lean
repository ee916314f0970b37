/-
  The program's ProgValid. Conditions: what came in has lengths that Go bears; the errors' variables hold errors.
-/
import Derived.Test.YtngcmjfkeageiaaDoorPlan
namespace Go.Proofs.YtngcmjfkeageiaaDoor
open Go.RowKit

set_option maxRecDepth 100000 in
set_option maxHeartbeats 1600000 in
theorem ProgValid_impl (w : World) (bs es : List Pr) (ab ae : Option Addr) (cb ce : Nat) (hpb : PairsAt w ab bs) (hpe : PairsAt w ae es) (hg : Errs w) :
    Calls Tryd.prog 26 #[.agg #[.slice ab bs.length cb, .slice ae es.length ce]] w fun e w' => e = .returned (.bool (validB bs es)) ∧ Below w.heap.size w w' := by
  have h1 : Below w.heap.size w (w.alloc (.cells #[.slice ab bs.length cb, .slice ae es.length ce] 32)) := (Below.refl _ _).alloc (Nat.le_refl _) _
  have hpb1 := hpb.below h1
  have hpe1 := hpe.below h1
  have hg1 := hg.keep h1
  have H1 := Lib.hid h1; clear h1
  go_enter Tryd.func26, Tryd.ntmps26
  go_wp2_with fail
  refine (planOf_any _ bs es _ _ _ _ hpb1 hpe1 hg1).mono ?_
  rintro e w1 ⟨hb1, hcase⟩
  have hall : Below w.heap.size w w1 := H1.out.trans (hb1.mono (by simp))
  have hz := hall.size
  rcases hcase with ⟨hv, o, lo, li, rfl, _⟩ | ⟨hv, t, x, rfl⟩
  · have HV := Lib.hid (show validB bs es = true by simpa [validB] using hv)
    clear hv
    go_wp2
    go_ret
    exact ⟨ret_bool (by rw [HV.out]), hall.alloc hz _⟩
  · have HV := Lib.hid (show validB bs es = false by simpa [validB] using hv)
    clear hv
    go_wp2
    go_ret
    exact ⟨ret_bool (by rw [HV.out]), hall.alloc hz _⟩

end Go.Proofs.YtngcmjfkeageiaaDoor
