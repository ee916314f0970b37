/-
  InOf of the program: the names at the other ends of a block's edges. Conditions: at most 1048576 blocks and edges, each text at most as many bytes; the errors' variables hold errors.
-/
import Derived.Test.YtecnaabfdogehaaDoorNamesAt
import Derived.Test.YtecnaabfdogehaaDoorValid
namespace Go.Proofs.YtecnaabfdogehaaDoor
open Go.RowKit Go.Maps

set_option maxRecDepth 100000 in
theorem InOf_impl (w : World) (bs es : List Pr) (ab ae : Option Addr) (cb ce : Nat) (x : ByteArray) (hx : x.size ≤ 1048576) (hpb : PairsAt w ab bs) (hpe : PairsAt w ae es) (hg : Errs w) :
    Calls Tryd.prog 47 #[.agg #[.slice ab bs.length cb, .slice ae es.length ce], .string x] w fun e w' => e = .returned (inOfV bs es x) ∧ Below w.heap.size w w' := by
  have h1 : Below w.heap.size w (w.alloc (.cells #[.slice ab bs.length cb, .slice ae es.length ce] 31)) := (Below.refl _ _).alloc (Nat.le_refl _) _
  have hpb1 := hpb.below h1
  have hpe1 := hpe.below h1
  have hg1 := hg.keep h1
  have H1 := Lib.hid h1; clear h1
  go_enter Tryd.func47, Tryd.ntmps47
  go_wp2_with fail
  refine (planWith_any _ bs es _ _ _ _ x hx hpb1 hpe1 hg1).mono ?_
  rintro e w1 ⟨hb1, hcase⟩
  have hall : Below w.heap.size w w1 := H1.out.trans (hb1.mono (by simp))
  have hz := hall.size
  rcases hcase with ⟨hv, o, lo, li, rfl, hp⟩ | ⟨hv, rfl⟩
  · have HV := Lib.hid (outV_yes (E := (flip es)) hv)
    have HVV := Lib.hid (show Valid bs es by simpa [validB] using (hasB_iff.1 hv).1)
    clear hv
    have hwa : Below w1.heap.size w1 (w1.alloc (.cells #[.map (some o), .map (some lo), .map (some li)] 66)) := (Below.refl _ _).alloc (Nat.le_refl _) _
    obtain ⟨fp, F, hL, hfp⟩ := (hp.keep hwa).in_
    have hmem : ∀ y ∈ outL (flip es) x, y ∈ names bs := fun y hy => HVV.out.e.fr (y, x) (mem_flip.1 (mem_outL.1 hy))
    have hnd : ((flip es) : List Pr).Nodup := flip_nodup HVV.out.e.nd
    have hl9 : (outL (flip es) x).length ≤ 12 := Nat.le_trans (length_le_of_sub _ (names bs) (outL_nodup hnd x) hmem) (by rw [names_length]; have := HVV.out.b.hi; omega)
    have hE : ((flip es) : List Pr).length ≤ 1000 := by rw [flip_length]; have := HVV.out.e.hi; omega
    have hn := namesAt_any _ li fp (flip es) F x hL hfp hx hE hnd hl9 (fun y hy => HVV.out.name_size (hmem y hy))
    clear hL hfp hmem hnd hl9 hE
    go_wp2_with fail
    refine hn.mono ?_
    rintro e w2 ⟨rfl, hb2⟩
    go_wp2
    go_ret2
    exact ⟨by unfold inOfV; rw [HV.out]; rfl, (hall.alloc hz _).trans (hb2.mono (by simp; omega))⟩
  · have HV := Lib.hid (outV_no (E := (flip es)) hv)
    clear hv
    go_wp2
    go_ret2
    exact ⟨by unfold inOfV; rw [HV.out]; rfl, hall.alloc hz _⟩
end Go.Proofs.YtecnaabfdogehaaDoor
