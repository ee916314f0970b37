/-
  IsTidy, FactsOf and Tidy at values known. Conditions: pairs that stand; the errors' variables hold errors.
-/
import Derived.Test.YtngcmjfkeageiaaDoorFsP
import Derived.Test.YtngcmjfkeageiaaDoorFsC
import Derived.Test.YtngcmjfkeageiaaDoorFsT
import Derived.Test.YtngcmjfkeageiaaDoorFsF
import Derived.Test.YtngcmjfkeageiaaDoorTidyI
import Derived.Deep.RegionLawGrows
namespace Go.Proofs.YtngcmjfkeageiaaDoor
open Go.RowKit Go.Maps

section
variable (w : World) (bs es : List Pr) (ab ae : Option Addr) (cb ce : Nat)
theorem IsTidy_implB (b : Bool) (h : isTidyV bs es = b) (hpb : PairsAt w ab bs) (hpe : PairsAt w ae es) (hg : Errs w) :
    Calls Tryd.prog 39 #[.agg #[.slice ab bs.length cb, .slice ae es.length ce]] w fun e w' => e = .returned (.bool b) ∧ Below w.heap.size w w' := by
  subst h; exact IsTidy_impl w bs es ab ae cb ce hpb hpe hg
theorem IsTidy_specB (b : Bool) (h : isTidyV bs es = b) (hpb : PairsAt w ab bs) (hpe : PairsAt w ae es) :
    Calls Tryd.prog 40 #[.agg #[.slice ab bs.length cb, .slice ae es.length ce]] w fun e w' => e = .returned (.bool b) ∧ Below w.heap.size w w' := by
  subst h; exact IsTidy_spec w bs es ab ae cb ce hpb hpe
theorem FactsOf_implB (t r : ByteArray) (b : Bool) (h : factsV bs es t = .tuple #[.string r, .bool b]) (hpb : PairsAt w ab bs) (hpe : PairsAt w ae es) (hg : Errs w) :
    Calls Tryd.prog 36 #[.agg #[.slice ab bs.length cb, .slice ae es.length ce], .string t] w fun e w' => e = .returned (.tuple #[.string r, .bool b]) ∧ Below w.heap.size w w' :=
  (FactsOf_impl w bs es ab ae cb ce t hpb hpe hg).mono fun e w' k => ⟨by rw [k.1, h], k.2⟩
theorem FactsOf_specB (t r : ByteArray) (b : Bool) (h : factsV bs es t = .tuple #[.string r, .bool b]) (hpb : PairsAt w ab bs) (hpe : PairsAt w ae es) :
    Calls Tryd.prog 37 #[.agg #[.slice ab bs.length cb, .slice ae es.length ce], .string t] w fun e w' => e = .returned (.tuple #[.string r, .bool b]) ∧ Below w.heap.size w w' :=
  (FactsOf_spec w bs es ab ae cb ce t hpb hpe).mono fun e w' k => ⟨by rw [k.1, h], k.2⟩
theorem tidy_same {bs es : List Pr} (hV : Valid bs es) : (sameL bs (tidW bs) && sameL es es) = isTidyV bs es := by
  rw [sameL_yes (a := es) rfl, Bool.and_true, Bool.eq_iff_iff, isTidy_iff hV]
  constructor
  · intro h
    have h' : bs = tidW bs := by simpa [sameL] using h
    exact h'.symm
  · intro h; exact sameL_yes h.symm
theorem owProg_tidy (ab' ae' : Option Addr) (cb' ce' : Nat) (hV : Valid bs es) (hb : PairsAt w ab bs) (he : PairsAt w ae es) (hb' : PairsAt w ab' (tidW bs)) (he' : PairsAt w ae' es) :
    Calls Tryd.prog 23 #[.agg #[.slice ab bs.length cb, .slice ae es.length ce], .agg #[.slice ab' (tidW bs).length cb', .slice ae' es.length ce']] w fun e w' => e = .returned (.bool (isTidyV bs es)) ∧ Below w.heap.size w w' :=
  (owProg_any w bs es (tidW bs) es ab ae ab' ae' cb ce cb' ce' hb he hb' he').mono fun e w' h => ⟨by rw [h.1, tidy_same hV], h.2⟩
/-- one call and one block more -/
theorem below_stepT {w w1 w2 : World} (h : Below w.heap.size w w1) (hb : Below w1.heap.size w1 w2) (o : Obj) : Below w.heap.size w (w2.alloc o) := by
  have h1 := h.trans (hb.mono h.size)
  exact h1.alloc h1.size o
/-- Tidy of a valid program -/
def TidYes (w : World) (bs es : List Pr) (e : Ending) (w' : World) : Prop := ∃ a c a' c', e = .returned (.tuple #[.agg #[.slice a (tidW bs).length c, .slice a' es.length c'], .bool true]) ∧ PairsAt w' a (tidW bs) ∧ PairsAt w' a' es ∧ Below w.heap.size w w'
theorem Tidy_implY (hV : Valid bs es) (hpb : PairsAt w ab bs) (hpe : PairsAt w ae es) (hg : Errs w) :
    Calls Tryd.prog 41 #[.agg #[.slice ab bs.length cb, .slice ae es.length ce]] w (TidYes w bs es) :=
  (Tidy_impl w bs es ab ae cb ce hpb hpe hg).mono fun e w' h => by
    obtain ⟨hb, ⟨_, v, ve, rfl, ho, hoe⟩ | ⟨hv, _⟩⟩ := h
    · obtain ⟨a, c, rfl⟩ := own_form ho
      obtain ⟨a', c', rfl⟩ := own_form hoe
      have hl := tidW_length bs
      exact ⟨a, c, a', c', by rw [hl], own_atT hl.symm ho (by rw [hl]; exact hpb.len) (tidL_small hpb.size), own_atT rfl hoe hpe.len hpe.size, hb⟩
    · rw [show validB bs es = true by simpa [validB] using hV] at hv; cases hv
end

/-- two orders of one region, told once -/
theorem once_more {P : World → Prop} {Q : Prop} (G : World → Prop) (key : ∀ wC, P wC → G wC) (rest : (∀ wC, P wC → G wC) → Q) : Q := rest key
end Go.Proofs.YtngcmjfkeageiaaDoor
