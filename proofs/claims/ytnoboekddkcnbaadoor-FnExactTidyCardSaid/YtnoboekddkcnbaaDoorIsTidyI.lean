/-
  IsTidy of the program. Conditions: at most 1048576 blocks and edges, each text at most as many bytes; the errors' variables hold errors.
-/
import Derived.Test.YtnoboekddkcnbaaDoorTidyI
import Derived.Test.YtnoboekddkcnbaaDoorTidyS
namespace Go.Proofs.YtnoboekddkcnbaaDoor
open Go.RowKit Go.Maps

theorem own_atT {w : World} {B : Nat} {e : TypeId} {a : Option Addr} {c n : Nat} {l : List Pr} (hn : n = l.length) (h : w.ownsRow B e 2 (.slice a n c) n (cellsOf l)) (hl : l.length ≤ 1048576) (hs : ∀ i, i < l.length → (nameAt l i).size ≤ 1048576 ∧ (restAt l i).size ≤ 1048576) : PairsAt w a l := by
  obtain ⟨a', c', e, hP⟩ := own_pairs hn h hl hs
  simp only [Value.slice.injEq] at e
  rw [e.1]; exact hP
theorem tidL_small {bs : List Pr} (h : ∀ i, i < bs.length → (nameAt bs i).size ≤ 1048576 ∧ (restAt bs i).size ≤ 1048576) : ∀ i, i < (tidL bs bs.length).length → (nameAt (tidL bs bs.length) i).size ≤ 1048576 ∧ (restAt (tidL bs bs.length) i).size ≤ 1048576 := by
  intro i hi
  rw [tidL_length] at hi
  rw [tidL_name hi, tidL_rest hi]
  exact ⟨(h i hi).1, Nat.le_trans (tidyA_size _ _ (Nat.le_refl _)) (h i hi).2⟩

set_option maxRecDepth 100000 in
set_option maxHeartbeats 1600000 in
theorem IsTidy_impl (w : World) (bs es : List Pr) (ab ae : Option Addr) (cb ce : Nat) (hpb : PairsAt w ab bs) (hpe : PairsAt w ae es) (hg : Errs w) :
    Calls Tryd.prog 19 #[.agg #[.slice ab bs.length cb, .slice ae es.length ce]] w fun e w' => e = .returned (.bool (isTidyV bs es)) ∧ Below w.heap.size w w' := by
  have h1 : Below w.heap.size w (w.alloc (.cells #[.slice ab bs.length cb, .slice ae es.length ce] 31)) := (Below.refl _ _).alloc (Nat.le_refl _) _
  have hpb1 := hpb.below h1
  have hpe1 := hpe.below h1
  have hg1 := hg.keep h1
  have hl9 := hpb.len
  have hP : Two (w.alloc (.cells #[.slice ab bs.length cb, .slice ae es.length ce] 31)) w.heap.size _ _ := heap_alloc_new _ _
  have H1 := Lib.hid (And.intro h1 hP); clear h1 hP
  go_enter Tryd.func19, Tryd.ntmps19
  go_wp2_with fail
  refine (Tidy_impl _ bs es _ _ _ _ hpb1 hpe1 hg1).mono ?_
  rintro e w1 ⟨hb1, hcase⟩
  have hall : Below w.heap.size w w1 := H1.out.1.trans (hb1.mono (by simp))
  have hz := hall.size
  have hz1 : w.heap.size < w1.heap.size := by have := hb1.size; simp at this; omega
  have hP1 : Two w1 w.heap.size _ _ := H1.out.2.of_cells (hb1.block _ (by simp))
  obtain ⟨c0, c1, _, _, _⟩ := hP1.cells
  rcases hcase with ⟨hv, v, ve, rfl, ho, hoe⟩ | ⟨hv, rfl⟩
  · obtain ⟨xa, xc, rfl⟩ := own_form ho
    obtain ⟨ya, yc, rfl⟩ := own_form hoe
    have hA : Below w1.heap.size w1 (w1.alloc (.cells #[.slice xa bs.length xc, .slice ya es.length yc] 31)) := (Below.refl _ _).alloc (Nat.le_refl _) _
    have hQ : Two (w1.alloc (.cells #[.slice xa bs.length xc, .slice ya es.length yc] 31)) w1.heap.size _ _ := heap_alloc_new _ _
    have c0' := (hA.cell (p := ⟨w.heap.size, 0, none⟩) hz1).trans c0
    have q0 := hQ.cells.1
    have hx := own_atT (tidL_length bs bs.length).symm (ownsRow_below ho hA) (by rw [tidL_length]; exact hl9) (tidL_small hpb.size)
    have hpb2 := (hpb.below hall).below hA
    have HE := Lib.hid (show (eqTo bs (tidL bs bs.length) bs.length) = isTidyV bs es by
      rw [eqTo_tidy bs bs.length bs.length (Nat.le_refl _)]
      unfold isTidyV
      rw [hv, Bool.and_true])
    have HX := Lib.hid (And.intro (hall.trans (hA.mono hz)) (And.intro hx hpb2))
    have hs1 : w.heap.size ≤ (w1.alloc (.cells #[.slice xa bs.length xc, .slice ya es.length yc] 31)).heap.size := by simp; omega
    clear hx hpb2 ho hoe hv hall hb1 hpb1 hpe1 hg1 hA hQ hP1
    have hEq := Equal_any (w1.alloc (.cells #[.slice xa bs.length xc, .slice ya es.length yc] 31)) bs (tidL bs bs.length) ab xa cb xc (tidL_length _ _) HX.out.2.2 HX.out.2.1
    rw [HE.out] at hEq
    have HEq := Lib.hid hEq; clear hEq
    cases hb : isTidyV bs es
    all_goals
      rw [hb] at HEq
      have HB := Lib.hid hb
      clear hb HE
      go_wp2_with fail
      refine HEq.out.mono ?_
      rintro e w3 ⟨rfl, hb3⟩
      have hfin := HX.out.1.trans (hb3.mono hs1)
      clear hb3
      go_wp2
      go_ret
      exact ⟨ret_bool HB.out.symm, hfin⟩
  · have HV := Lib.hid (show isTidyV bs es = false by unfold isTidyV; rw [hv, Bool.and_false])
    clear hv
    go_wp2
    go_ret
    exact ⟨ret_bool HV.out.symm, hall.alloc hz _⟩
end Go.Proofs.YtnoboekddkcnbaaDoor
