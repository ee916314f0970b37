/-
  ShortestRun, the model's and the program's, as one value. Conditions: at most 1048576 blocks and edges, each text at most as many bytes; the errors' variables hold errors.
-/
import Derived.Test.YtfmhcjhcmoniaaaDoorShortN
import Derived.Test.YtfmhcjhcmoniaaaDoorShortI
namespace Go.Proofs.YtfmhcjhcmoniaaaDoor
open Go.RowKit Go.Maps

set_option maxRecDepth 100000 in
theorem ShortestRun_spec (w : World) (bs es : List Pr) (ab ae : Option Addr) (cb ce : Nat) (hpb : PairsAt w ab bs) (hpe : PairsAt w ae es) :
    Calls Tryd.prog 7 #[.agg #[.slice ab bs.length cb, .slice ae es.length ce]] w fun e w' => e = .returned (shortV bs es) ∧ Below w.heap.size w w' := by
  have h1 : Below w.heap.size w (w.alloc (.cells #[.slice ab bs.length cb, .slice ae es.length ce] 32)) := (Below.refl _ _).alloc (Nat.le_refl _) _
  have hpb1 := hpb.below h1
  have hpe1 := hpe.below h1
  have H1 := Lib.hid h1; clear h1
  go_enter Tryd.func7, Tryd.ntmps7
  go_wp2_with fail
  refine (ProgValid_spec _ bs es _ _ _ _ hpb1 hpe1).mono ?_
  rintro e w1 ⟨rfl, hb1⟩
  have hall : Below w.heap.size w w1 := H1.out.trans (hb1.mono (by simp))
  have hpb2 := hpb1.below hb1
  have hpe2 := hpe1.below hb1
  have c0 := (hb1.cell (p := ⟨w.heap.size, 0, none⟩) (by simp)).trans (show _ = some (.slice ab bs.length cb) by go_simp)
  have c1 := (hb1.cell (p := ⟨w.heap.size, 1, none⟩) (by simp)).trans (show _ = some (.slice ae es.length ce) by go_simp)
  have hz := hall.size
  have hz1 : w.heap.size < w1.heap.size := by have := hb1.size; simp at this; omega
  cases hv : validB bs es
  · have HN := Lib.hid (shortV_no hv)
    clear hv
    go_wp2
    go_ret2
    exact ⟨by rw [HN.out]; rfl, hall⟩
  · have HN := Lib.hid (show shortV bs es = .tuple #[.string (bestT es (nameAt bs 0) (lastN bs)), .bool true] by unfold shortV; rw [if_pos hv])
    have hV : Valid bs es := by simpa [validB] using hv
    have h0 : 0 < bs.length := by have := hV.b.lo; omega
    have hm := nameAt_mem (l := bs) (i := 0) h0
    obtain ⟨b, off, rfl, hb, g1, g2⟩ := hpb2.cell 0 h0
    simp only [Nat.zero_mul, Nat.add_zero] at g1
    have l1 : (0 : Int) < (bs.length : Int) := by omega
    have HV := Lib.hid (And.intro hV (And.intro hm (And.intro hpb2 hpe2)))
    clear hv hV hm g2 hpb2 hpe2 hpb1 hpe1 hb1
    go_wp2
    go_region_held3 (fun w' => w'.cell? ⟨w.heap.size, 0, none⟩ = some (.slice (some ⟨b, off, none⟩) bs.length cb) ∧ w'.cell? ⟨w.heap.size, 1, none⟩ = some (.slice ae es.length ce) ∧ w'.cell? ⟨b, off, none⟩ = some (.string (nameAt bs 0)) ∧ Below w1.heap.size w1 w')
      (first
        | exact ⟨c0, c1, g1, (Below.refl _ _).drew⟩
        | (have hq := below_new (‹_ ∧ _ ∧ _ ∧ Below w1.heap.size w1 _›).2.2.2 hbN; exact ⟨(hq.cell (p := ⟨w.heap.size, 0, none⟩) hz1).trans c0, (hq.cell (p := ⟨w.heap.size, 1, none⟩) hz1).trans c1, (hq.cell (p := ⟨b, off, none⟩) hb).trans g1, hq⟩))
      (first
        | (go_at_call 20; refine (l2Short_any _ bs es _ _ _ _ (nameAt bs 0) HV.out.1 HV.out.2.1 ?_ ?_).mono ?_; (exact HV.out.2.2.1.below (‹_ ∧ _ ∧ _ ∧ Below w1.heap.size w1 _›).2.2.2); (exact HV.out.2.2.2.below (‹_ ∧ _ ∧ _ ∧ Below w1.heap.size w1 _›).2.2.2); rintro e wN ⟨rfl, hbN⟩))
    have hfin : Below w.heap.size w wN := hall.trans ((‹_ ∧ _ ∧ _ ∧ Below w1.heap.size w1 wN›).2.2.2.mono hz)
    go_wp2
    go_ret2
    exact ⟨by rw [HN.out]; rfl, hfin⟩
theorem ShortestRun_impl2 (w : World) (bs es : List Pr) (ab ae : Option Addr) (cb ce : Nat) (hpb : PairsAt w ab bs) (hpe : PairsAt w ae es) (hg : Errs w) :
    Calls Tryd.prog 9 #[.agg #[.slice ab bs.length cb, .slice ae es.length ce]] w fun e w' => e = .returned (shortV bs es) ∧ Below w.heap.size w w' :=
  (ShortestRun_impl w bs es ab ae cb ce hpb hpe hg).mono fun e w' ⟨h, hb⟩ => by
    refine ⟨?_, hb⟩
    rcases h with ⟨hv, t, rfl, hbest⟩ | ⟨hv, rfl⟩
    · rw [shortV_yes (show validB bs es = true by simpa [validB] using hv) hbest]
    · rw [shortV_no (show validB bs es = false by simpa [validB] using hv)]; rfl
end Go.Proofs.YtfmhcjhcmoniaaaDoor
