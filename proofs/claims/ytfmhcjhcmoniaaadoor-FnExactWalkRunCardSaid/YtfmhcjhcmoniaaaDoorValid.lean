/-
  eqProg of a program with itself: what LawValid (P1) holds ahead of its law, for seats without that law. Conditions: none.
-/
import Derived.Test.YtfmhcjhcmoniaaaDoorPlan
import Derived.Test.YtfmhcjhcmoniaaaDoorEq
namespace Go.Proofs.YtfmhcjhcmoniaaaDoor
open Go.RowKit

theorem eqProg_same (w : World) (bs es : List Pr) (ab ae ab' ae' : Option Addr) (cb ce cb' ce' : Nat) (hb : PairsAt w ab bs) (he : PairsAt w ae es) (hb' : PairsAt w ab' bs) (he' : PairsAt w ae' es) :
    Calls Tryd.prog 10 #[.agg #[.slice ab bs.length cb, .slice ae es.length ce], .agg #[.slice ab' bs.length cb', .slice ae' es.length ce']] w fun e w' => e = .returned (.bool true) ∧ Below w.heap.size w w' :=
  (eqProg_any w bs es bs es ab ae ab' ae' cb ce cb' ce' hb he hb' he').mono fun e w' h => ⟨by rw [h.1]; simp [sameL], h.2⟩

end Go.Proofs.YtfmhcjhcmoniaaaDoor
