/-
  The program's ShortestRun. Conditions: none but what the law's program gives.
-/
import Derived.Test.YtfmhcjhcmoniaaaDoorFinish
namespace Go.Proofs.YtfmhcjhcmoniaaaDoor
open Go.RowKit Go.Maps

theorem ch_uno {x : ByteArray} (h : x.size = 1) : ch x 0 = x := by
  unfold ch
  rw [show 0 + 1 = x.size by omega]
  exact ByteArray.extract_zero_size
/-- what ShortestRun gives -/
def ShortPost (bs es : List Pr) (e : Ending) : Prop :=
  (Valid bs es ∧ ∃ t, e = .returned (.tuple #[.string t, .bool true]) ∧ Best es (nameAt bs 0) (lastN bs) t) ∨ (¬ Valid bs es ∧ e = .returned (.tuple #[.string ⟨#[]⟩, .bool false]))
set_option maxRecDepth 100000 in
theorem ShortestRun_impl (w : World) (bs es : List Pr) (ab ae : Option Addr) (cb ce : Nat) (hpb : PairsAt w ab bs) (hpe : PairsAt w ae es) (hg : Errs w) :
    Calls Tryd.prog 9 #[.agg #[.slice ab bs.length cb, .slice ae es.length ce]] w fun e w' => ShortPost bs es e ∧ Below w.heap.size w w' := by
  have h1 : Below w.heap.size w (w.alloc (.cells #[.slice ab bs.length cb, .slice ae es.length ce] 32)) := (Below.refl _ _).alloc (Nat.le_refl _) _
  have hpb1 := hpb.below h1
  have hpe1 := hpe.below h1
  have hg1 := hg.keep h1
  have H1 := Lib.hid h1; clear h1
  go_enter Tryd.func9, Tryd.ntmps9
  go_wp2_with fail
  refine (courseOf_any _ bs es _ _ _ _ hpb1 hpe1 hg1).mono ?_
  rintro e w1 ⟨hb1, hcase⟩
  have hall : Below w.heap.size w w1 := H1.out.trans (hb1.mono (by simp))
  have hz := hall.size
  rcases hcase with ⟨hv, o, lo, li, vn, f, D, rfl, hp⟩ | ⟨hv, rfl⟩
  · have hwa : Below w1.heap.size w1 (w1.alloc (.cells #[.map (some o), .map (some lo), .map (some li), vn, .map (some f)] 62)) := (Below.refl _ _).alloc (Nat.le_refl _) _
    obtain ⟨n, hn⟩ : ∃ n, bs.length = n + 1 := ⟨bs.length - 1, by have := hv.b.lo; omega⟩
    have hpA := hp.keep hwa
    have hkA : (w1.alloc (.cells #[.map (some o), .map (some lo), .map (some li), vn, .map (some f)] 62)).heap[w1.heap.size]? = some (.cells #[.map (some o), .map (some lo), .map (some li), vn, .map (some f)] 62 (0, 0)) := heap_alloc_new w1 _
    obtain ⟨⟨x0, x1, x2, x3, x4⟩, xa⟩ := block5 hkA
    obtain ⟨g, cap, rfl, hgw, hcells⟩ := names_cells hpA.names hn
    have q0 := hcells 0 (by omega)
    have N1 : (0 : Int) < (n : Int) + 1 := by omega
    obtain ⟨p0, hp0, he0⟩ := List.mem_map.1 (nameAt_mem (l := bs) (i := 0) (by omega))
    have hs1 : (nameAt bs 0).size = 1 := hv.name_size (List.mem_map.2 ⟨p0, hp0, he0⟩)
    obtain ⟨k, hk⟩ := hpA.least.reach (show Reach (flip es) (lastN bs) (nameAt bs 0) by have := hv.rz p0 hp0; rw [he0] at this; exact this)
    have HH := Lib.hid (And.intro hv (And.intro hpA (And.intro hall (And.intro hs1 hk))))
    have HW := Lib.hid hwa
    clear hv hp hpA hkA hall hs1 hk hwa hcells he0 hp0 hn
    have hwz : w1.heap.size < (w1.alloc (.cells #[.map (some o), .map (some lo), .map (some li), .slice (some ⟨g, 0, none⟩) (n + 1) cap, .map (some f)] 62)).heap.size := by simp
    go_wp2
    generalize (w1.alloc (.cells #[.map (some o), .map (some lo), .map (some li), .slice (some ⟨g, 0, none⟩) (n + 1) cap, .map (some f)] 62)) = wA at *
    go_region_held3 (fun w' => w'.cell? ⟨w1.heap.size, 0, none⟩ = some (.map (some o)) ∧ w'.cell? ⟨w1.heap.size, 1, none⟩ = some (.map (some lo)) ∧ w'.cell? ⟨w1.heap.size, 2, none⟩ = some (.map (some li)) ∧ w'.cell? ⟨w1.heap.size, 3, none⟩ = some (.slice (some ⟨g, 0, none⟩) (n + 1) cap) ∧ w'.cell? ⟨w1.heap.size, 4, none⟩ = some (.map (some f)) ∧ w'.cell? ⟨g, 0, none⟩ = some (.string (nameAt bs 0)) ∧ Below wA.heap.size wA w')
      (first
        | exact ⟨x0, x1, x2, x3, x4, q0, (Below.refl _ _).drew⟩
        | (have hq := below_new (‹_ ∧ _ ∧ _ ∧ _ ∧ _ ∧ _ ∧ Below wA.heap.size wA _›).2.2.2.2.2.2 hbN; exact ⟨(hq.cell (p := ⟨w1.heap.size, 0, none⟩) hwz).trans x0, (hq.cell (p := ⟨w1.heap.size, 1, none⟩) hwz).trans x1, (hq.cell (p := ⟨w1.heap.size, 2, none⟩) hwz).trans x2, (hq.cell (p := ⟨w1.heap.size, 3, none⟩) hwz).trans x3, (hq.cell (p := ⟨w1.heap.size, 4, none⟩) hwz).trans x4, (hq.cell (p := ⟨g, 0, none⟩) hgw).trans q0, hq⟩))
      (first
        | (go_at_call 24; refine (finish_any _ o lo li f k 0 _ bs es D (nameAt bs 0) (nameAt bs 0) HH.out.2.2.2.1 (by rw [HH.out.2.2.2.1]; decide) (ch_uno HH.out.2.2.2.1) HH.out.2.2.2.2 HH.out.1 ?_).mono ?_; (have hcc := HH.out.2.1.keep (‹_ ∧ _ ∧ _ ∧ _ ∧ _ ∧ _ ∧ Below wA.heap.size wA _›).2.2.2.2.2.2; exact hcc); rintro e wN ⟨⟨l, rfl, hgr⟩, hbN⟩))
    have hq := (‹_ ∧ _ ∧ _ ∧ _ ∧ _ ∧ _ ∧ Below wA.heap.size wA _›).2.2.2.2.2.2
    have hfin : Below w.heap.size w wN := HH.out.2.2.1.trans ((HW.out.trans (hq.mono HW.out.size)).mono hz)
    have hbest : Best es (nameAt bs 0) (lastN bs) (nameAt bs 0 ++ cat l) := by
      rw [← cat_cons]
      exact hgr.best HH.out.2.1.least fun e he => HH.out.1.name_size (HH.out.1.e.to _ he)
    go_wp2
    go_ret2
    exact ⟨.inl ⟨HH.out.1, _, rfl, hbest⟩, hfin⟩
  · have HN := Lib.hid hv
    clear hv
    go_wp2
    go_ret2
    exact ⟨.inr ⟨HN.out, rfl⟩, hall.alloc hz _⟩
end Go.Proofs.YtfmhcjhcmoniaaaDoor
