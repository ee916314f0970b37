/-
  EdgeOf, the program's and the model's: the index of an edge of a valid program, else -1. Conditions: at most 1048576 blocks and edges, each text at most as many bytes; the errors' variables hold errors.
-/
import Derived.Test.YtdepangkeeehpaaDoorPlan
namespace Go.Proofs.YtdepangkeeehpaaDoor
open Go.RowKit Go.Maps

noncomputable def edgeV (bs es : List Pr) (x y : ByteArray) : Int := if validB bs es = true then fndE es (x, y) else -1

set_option maxRecDepth 100000 in
theorem EdgeOf_spec (w : World) (bs es : List Pr) (ab ae : Option Addr) (cb ce : Nat) (x y : ByteArray) (hpb : PairsAt w ab bs) (hpe : PairsAt w ae es) :
    Calls Tryd.prog 33 #[.agg #[.slice ab bs.length cb, .slice ae es.length ce], .string x, .string y] w fun e w' => e = .returned (.int .i64 (edgeV bs es x y)) ∧ Below w.heap.size w w' := by
  have h1 : Below w.heap.size w (w.alloc (.cells #[.slice ab bs.length cb, .slice ae es.length ce] 30)) := (Below.refl _ _).alloc (Nat.le_refl _) _
  have hpb1 := hpb.below h1
  have hpe1 := hpe.below h1
  have H1 := Lib.hid h1; clear h1
  go_enter Tryd.func33, Tryd.ntmps33
  go_wp2_with fail
  refine (ProgValid_spec _ bs es _ _ _ _ hpb1 hpe1).mono ?_
  rintro e w1 ⟨rfl, hb1⟩
  have hall : Below w.heap.size w w1 := H1.out.trans (hb1.mono (by simp))
  have hpe2 := hpe1.below hb1
  have c0 := (hb1.cell (p := ⟨w.heap.size, 0, none⟩) (by simp)).trans (show _ = some (.slice ab bs.length cb) by go_simp)
  have c1 := (hb1.cell (p := ⟨w.heap.size, 1, none⟩) (by simp)).trans (show _ = some (.slice ae es.length ce) by go_simp)
  have hz := hall.size
  cases hv : validB bs es
  · have HV := Lib.hid hv
    clear hv
    go_wp2
    go_ret
    exact ⟨by unfold edgeV; rw [if_neg (by rw [HV.out]; simp)]; rfl, hall⟩
  · have HV := Lib.hid hv
    clear hv
    go_wp2_with fail
    refine (l1Edge_any x y _ es ae ce _ hpe2).mono ?_
    rintro e w2 ⟨rfl, hb2⟩
    go_wp2
    go_ret
    exact ⟨by unfold edgeV; rw [if_pos HV.out]; rfl, hall.trans (hb2.mono hz)⟩

set_option maxRecDepth 100000 in
theorem EdgeOf_impl (w : World) (bs es : List Pr) (ab ae : Option Addr) (cb ce : Nat) (x y : ByteArray) (hx : x.size ≤ 1048576) (hy : y.size ≤ 1048576) (hpb : PairsAt w ab bs) (hpe : PairsAt w ae es) (hg : Errs w) :
    Calls Tryd.prog 32 #[.agg #[.slice ab bs.length cb, .slice ae es.length ce], .string x, .string y] w fun e w' => e = .returned (.int .i64 (edgeV bs es x y)) ∧ Below w.heap.size w w' := by
  have h1 : Below w.heap.size w (w.alloc (.cells #[.slice ab bs.length cb, .slice ae es.length ce] 30)) := (Below.refl _ _).alloc (Nat.le_refl _) _
  have hpb1 := hpb.below h1
  have hpe1 := hpe.below h1
  have hg1 := hg.keep h1
  have H1 := Lib.hid h1; clear h1
  go_enter Tryd.func32, Tryd.ntmps32
  go_wp2_with fail
  refine (planOf_any _ bs es _ _ _ _ hpb1 hpe1 hg1).mono ?_
  rintro e w1 ⟨hb1, hcase⟩
  have hall : Below w.heap.size w w1 := H1.out.trans (hb1.mono (by simp))
  have hz := hall.size
  rcases hcase with ⟨hv, o, lo, li, rfl, hp⟩ | ⟨hv, t, z, rfl⟩
  · have HV := Lib.hid (show validB bs es = true by simpa [validB] using hv)
    clear hv
    obtain ⟨fp, F, hL, hfp⟩ := hp.out
    have hwa : Below w1.heap.size w1 (w1.alloc (.cells #[.map (some o), .map (some lo), .map (some li)] 84)) := (Below.refl _ _).alloc (Nat.le_refl _) _
    have l3 := (hL.map.below hwa hL.map.lt).look Tryd.underlying82 (zeroMap _) (mx hx)
    cases hFL : F x with
    | none =>
      rw [hFL] at l3
      have l4 := look_nil_ok (w := w1.alloc (.cells #[.map (some o), .map (some lo), .map (some li)] 84)) Tryd.underlying132 (zeroInt _) (mx hy)
      have hE : fndE es (x, y) = -1 := by unfold fndE; rw [(idx_eq_none_iff _ _).2 (hL.none_ x hFL y)]
      have HE := Lib.hid hE
      clear hE
      go_wp2
      go_ret
      exact ⟨by unfold edgeV; rw [if_pos HV.out, HE.out]; rfl, hall.alloc hz _⟩
    | some v =>
      obtain ⟨bi, rfl, hbi, hmi, _⟩ := hL.some_ x v hFL
      rw [hFL] at l3
      have l4 := (hmi.below hwa (hfp bi hbi)).look_ok Tryd.underlying132 (zeroInt _) (mx hy)
      unfold inner at l4
      cases hi : idx es (x, y) with
      | none =>
        rw [hi] at l4
        have HE := Lib.hid (show fndE es (x, y) = -1 by unfold fndE; rw [hi])
        clear hi
        go_wp2
        go_ret
        exact ⟨by unfold edgeV; rw [if_pos HV.out, HE.out]; rfl, hall.alloc hz _⟩
      | some k =>
        rw [hi] at l4
        have HE := Lib.hid (show fndE es (x, y) = (k : Int) by unfold fndE; rw [hi])
        clear hi
        go_wp2
        go_ret
        exact ⟨by unfold edgeV; rw [if_pos HV.out, HE.out]; rfl, hall.alloc hz _⟩
  · have HV := Lib.hid (show validB bs es = false by simpa [validB] using hv)
    clear hv
    go_wp2
    go_ret
    exact ⟨by unfold edgeV; rw [if_neg (by rw [HV.out]; simp)]; rfl, hall.alloc hz _⟩
end Go.Proofs.YtdepangkeeehpaaDoor
