/-
  The model's l1Link. Conditions: at most 1000 blocks and edges, names of at most one byte.
-/
import Derived.Test.YtfmhcjhcmoniaaaDoorDrawB
namespace Go.Proofs.YtfmhcjhcmoniaaaDoor
open Go.RowKit Go.Maps

/-- edges whose ends have at most one byte -/
def Ed1 (es : List Pr) : Prop := ∀ i, i < es.length → (nameAt es i).size ≤ 1 ∧ (restAt es i).size ≤ 1
theorem Ed1.snoc {es : List Pr} {p : Pr} (h : Ed1 es) (h1 : p.1.size ≤ 1) (h2 : p.2.size ≤ 1) : Ed1 (es ++ [p]) := by
  intro i hi
  simp only [List.length_append, List.length_cons, List.length_nil] at hi
  unfold nameAt restAt
  by_cases e : i < es.length
  · rw [List.getD_eq_getElem?_getD, List.getElem?_append_left e, ← List.getD_eq_getElem?_getD]; exact h i e
  · obtain rfl : i = es.length := by omega
    simp [List.getD_eq_getElem?_getD, h1, h2]
theorem Ed1.small {es : List Pr} (h : Ed1 es) : ∀ i, i < es.length → (nameAt es i).size ≤ 1048576 ∧ (restAt es i).size ≤ 1048576 := fun i hi => by have := h i hi; omega
theorem Turns.setNew {S : Nat → Prop} {a b : World} (h : Turns S a b) {p : Addr} (hp : a.heap.size ≤ p.block) (u : Value) : Turns S a (b.setCell p u) :=
  h.then_ (S' := fun k => k = p.block) ⟨rfl, rfl, rfl, by simp [World.setCell], fun j _ hj => Below.heap_setCell _ _ _ _ hj⟩ (fun _ _ h => h) (fun i hi e => by omega)
theorem own_far {w : World} {base : Nat} {e : TypeId} {size n : Nat} {v : Value} {xs : List Value} (h : w.ownsRow base e size v n xs) {p : Addr} (hp : v.ownBlock ≠ some p.block) (u : Value) : (w.setCell p u).ownsRow base e size v n xs :=
  h.kept (row := some p.block) ⟨rfl, rfl, rfl, by simp [World.setCell], fun j _ hj => Below.heap_setCell _ _ _ _ (fun e => hj (by simp [e]))⟩ (Or.inr hp)
/-- what l1Link leaves -/
def LinkPost (w : World) (vb : Value) (ae : Option Addr) (ce : Nat) (es : List Pr) (base : Nat) (e : Ending) (w' : World) : Prop :=
  ∃ ae' ce' es', e = .returned (.agg #[vb, .slice ae' (List.length es') ce']) ∧ w'.ownsRow base 81 2 (.slice ae' es'.length ce') es'.length (cellsOf es') ∧ Turns (fun b => some b = (Value.slice ae es.length ce).ownBlock) w w' ∧
    (∀ b, (Value.slice ae' es'.length ce').ownBlock = some b → (Value.slice ae es.length ce).ownBlock = some b ∨ w.heap.size ≤ b) ∧ es'.length ≤ es.length + 1 ∧ Ed1 es'

set_option maxRecDepth 100000 in
set_option maxHeartbeats 6400000 in
theorem l1Link_any (w : World) (bs es : List Pr) (ab ae : Option Addr) (cb ce : Nat) (base i j : Nat) (hi : i < bs.length) (hj : j < bs.length) (hpb : PairsAt w ab bs) (hn : ∀ k, k < bs.length → (nameAt bs k).size ≤ 1) (hbase : base ≤ w.heap.size)
    (ho : w.ownsRow base 81 2 (.slice ae es.length ce) es.length (cellsOf es)) (hl : es.length ≤ 1000) (h1 : Ed1 es) :
    Calls Tryd.prog 72 #[.agg #[.slice ab bs.length cb, .slice ae es.length ce], .int .i64 (i : Int), .int .i64 (j : Int)] w (LinkPost w (.slice ab bs.length cb) ae ce es base) := by
  obtain ⟨i0, hi0, hz0, hz1, hz2⟩ := info_parts Tryd.infoEdge
  have hbl := hpb.len
  have hA : Below w.heap.size w ((w.alloc (.cells #[.slice ab bs.length cb, .slice ae es.length ce] 32)).alloc (.cells #[.slice none 0 0, .slice none 0 0] 32)) := ((Below.refl _ _).alloc (Nat.le_refl _) _).alloc (by simp) _
  have hP : Two ((w.alloc (.cells #[.slice ab bs.length cb, .slice ae es.length ce] 32)).alloc (.cells #[.slice none 0 0, .slice none 0 0] 32)) w.heap.size (.slice ab bs.length cb) (.slice ae es.length ce) := (Below.heap_alloc _ _ _ (by simp)).trans (heap_alloc_new _ _)
  have hR : Two ((w.alloc (.cells #[.slice ab bs.length cb, .slice ae es.length ce] 32)).alloc (.cells #[.slice none 0 0, .slice none 0 0] 32)) (w.heap.size + 1) (.slice none 0 0) (.slice none 0 0) := by
    rw [show w.heap.size + 1 = (w.alloc (.cells #[.slice ab bs.length cb, .slice ae es.length ce] 32)).heap.size by simp]; exact heap_alloc_new _ _
  have hsA : ((w.alloc (.cells #[.slice ab bs.length cb, .slice ae es.length ce] 32)).alloc (.cells #[.slice none 0 0, .slice none 0 0] 32)).heap.size = w.heap.size + 2 := by simp
  have hoA := ownsRow_below ho hA
  have hpA := hpb.below hA
  obtain ⟨b, off, rfl, hb, g1, _⟩ := hpA.cell i hi
  obtain ⟨b', off', e', hb', g2, _⟩ := hpA.cell j hj
  cases e'
  have c0 := hP.cells.1
  have hlA := hP.cells.2.2.2.2
  have x1 : (0 : Int) ≤ (i : Int) := by omega
  have x2 : (i : Int) < (bs.length : Int) := by omega
  have x3 : (0 : Int) ≤ (j : Int) := by omega
  have x4 : (j : Int) < (bs.length : Int) := by omega
  have HA := Lib.hid (And.intro hA (And.intro hP (And.intro hR (And.intro hsA (And.intro hoA (And.intro hpA h1))))))
  have HN := Lib.hid (And.intro (hn i hi) (hn j hj))
  clear hA hP hR hsA hoA hpA h1 hn ho hpb
  go_enter Tryd.func72, Tryd.ntmps72
  go_wp2
  generalize (w.alloc (.cells #[.slice (some ⟨b, off, none⟩) bs.length cb, .slice ae es.length ce] 32)).alloc (.cells #[.slice none 0 0, .slice none 0 0] 32) = wA at *
  go_region_held3 (fun w' => w'.cell? ⟨w.heap.size, 0, none⟩ = some (.slice (some ⟨b, off, none⟩) bs.length cb) ∧ w'.cell? ⟨b, off + i * 2, none⟩ = some (.string (nameAt bs i)) ∧ w'.cell? ⟨b, off + j * 2, none⟩ = some (.string (nameAt bs j)))
    (first
      | exact ⟨c0, g1, g2⟩
      | exact ⟨(World.cell?_alloc_lt wA _ ⟨w.heap.size, 0, none⟩ hlA).trans c0, (World.cell?_alloc_lt wA _ ⟨b, off + i * 2, none⟩ hb).trans g1, (World.cell?_alloc_lt wA _ ⟨b, off + j * 2, none⟩ hb).trans g2⟩)
    (fail)
  have hbw : Below wA.heap.size wA (wA.alloc (.cells #[.string (nameAt bs i), .string (nameAt bs j)] 81)).drew := ((Below.refl _ _).alloc (Nat.le_refl _) _).drew
  have hP2 : Two (wA.alloc (.cells #[.string (nameAt bs i), .string (nameAt bs j)] 81)).drew w.heap.size _ _ := HA.out.2.1.of_cells (hbw.block _ hlA)
  have hE2 : (wA.alloc (.cells #[.string (nameAt bs i), .string (nameAt bs j)] 81)).drew.heap[wA.heap.size]? = some (.cells #[.string (nameAt bs i), .string (nameAt bs j)] 81 (0, 0)) := heap_alloc_new _ _
  have hz2' : (wA.alloc (.cells #[.string (nameAt bs i), .string (nameAt bs j)] 81)).drew.heap.size = wA.heap.size + 1 := by simp [World.drew]
  have HB := Lib.hid (And.intro hbw (And.intro hP2 (And.intro hE2 hz2')))
  clear hbw
  generalize (wA.alloc (.cells #[.string (nameAt bs i), .string (nameAt bs j)] 81)).drew = wB at *
  obtain ⟨d0, d1, _, _, _⟩ := hP2.cells
  have d2 : wB.cell? ⟨wA.heap.size, 0, none⟩ = some (.string (nameAt bs i)) := by rw [cell_of_row wB _ 0 _ _ (0, 0) hE2]; rfl
  have d3 : wB.cell? ⟨wA.heap.size, 1, none⟩ = some (.string (nameAt bs j)) := by rw [cell_of_row wB _ 1 _ _ (0, 0) hE2]; rfl
  clear hP2 hE2 hz2' c0 g1 g2
  go_wp2_with fail
  refine (l1Edge_any (nameAt bs i) (nameAt bs j) _ es _ _ _ (own_at rfl (ownsRow_below HA.out.2.2.2.2.1 HB.out.1) (by omega) HA.out.2.2.2.2.2.2.small)).mono ?_
  rintro e w1 ⟨rfl, hb1⟩
  have hsB : wB.heap.size = wA.heap.size + 1 := HB.out.2.2.2
  have hsA : wA.heap.size = w.heap.size + 2 := HA.out.2.2.2.1
  have hz9 := hb1.size
  have hP1 : Two w1 w.heap.size _ _ := HB.out.2.1.of_cells (hb1.block _ (by omega))
  have hR1 : Two w1 (w.heap.size + 1) _ _ := HA.out.2.2.1.of_cells ((hb1.block _ (by omega)).trans (HB.out.1.block _ (by omega)))
  have hE1 := (hb1.block wA.heap.size (by omega)).trans HB.out.2.2.1
  have hO1 := ownsRow_below (ownsRow_below HA.out.2.2.2.2.1 HB.out.1) hb1
  have hbw1 : Below w.heap.size w w1 := HA.out.1.trans ((HB.out.1.mono (by omega)).trans (hb1.mono (by omega)))
  have hdb := fndE_bd es (nameAt bs i, nameAt bs j)
  obtain ⟨c0, c1, f0, f1, hl0⟩ := hP1.cells
  obtain ⟨r0, r1, t0, t1, hl1⟩ := hR1.cells
  have d2 : w1.cell? ⟨wA.heap.size, 0, none⟩ = some (.string (nameAt bs i)) := by rw [cell_of_row w1 _ 0 _ _ (0, 0) hE1]; rfl
  have d3 : w1.cell? ⟨wA.heap.size, 1, none⟩ = some (.string (nameAt bs j)) := by rw [cell_of_row w1 _ 1 _ _ (0, 0) hE1]; rfl
  have HC := Lib.hid (And.intro hP1 (And.intro hR1 (And.intro hO1 hbw1)))
  have HZ := Lib.hid (And.intro hsA hsB)
  clear hP1 hR1 hE1 hO1 hbw1 hb1 hsA hsB d0 d1
  by_cases hneg : fndE es (nameAt bs i, nameAt bs j) < 0
  · go_wp2_with (at_builtin; refine wpList_append_lies _ rfl _ _ 30 rfl base 81 i0 (.agg #[.string ⟨#[]⟩, .string ⟨#[]⟩]) 2 32 Tryd.underlying30 hi0 hz0 hz1 hz2 rfl (by decide) _ es.length (cellsOf es) rfl (HC.out.2.2.1.alloc _) ⟨w1.heap.size, 0, none⟩ 1 1 [.string (nameAt bs i), .string (nameAt bs j)] rfl rfl (cell_two_new _ _ _ _) (two_one _ _ rfl rfl) (by decide) (by unfold maxLen; omega) (by omega) (by simp; omega) _ rfl ?_; intro g' cap' w4 hown4 hgrow4 hlies4 _; have hP4 : Two w4 w.heap.size _ _ := HC.out.1.of_cells ((hgrow4.block _ (by simp; omega) (fun e => own_neK HC.out.2.2.1 HC.out.1 (by decide) e.symm)).trans (Lib.alloc_old w1 _ _ hl0)); have hR4 : Two w4 (w.heap.size + 1) _ _ := HC.out.2.1.of_cells ((hgrow4.block _ (by simp; omega) (fun e => own_neK HC.out.2.2.1 HC.out.2.1 (by decide) e.symm)).trans (Lib.alloc_old w1 _ _ hl1)); obtain ⟨p0, p1, u0, u1, _⟩ := hP4.cells; obtain ⟨q0, q1, v0, v1, _⟩ := hR4.cells)
    have hT4 : Turns (fun b => some b = (Value.slice ae es.length ce).ownBlock) w w4 := ((Turns.of_below HC.out.2.2.2).trans (Turns.alloc w1 _)).trans (Turns.of_grown hgrow4)
    have hn1 := own_neK hown4 hP4 (by decide)
    have hn2 := own_neK hown4 hR4 (by decide)
    have HX := Lib.hid (And.intro hT4 (And.intro hown4 (And.intro hlies4 (And.intro hn1 hn2))))
    clear hT4 hown4 hlies4 hgrow4 hP4 hR4 hn1 hn2
    go_wp2
    refine bodyPost_ret (v := .agg #[.slice (some ⟨b, off, none⟩) bs.length cb, .slice (some ⟨g', 0, none⟩) (es.length + 1) cap']) (by simp [results, Tryd.results72, go_sem, q0, q1]) rfl ?_
    refine ⟨some ⟨g', 0, none⟩, cap', es ++ [(nameAt bs i, nameAt bs j)], by simp, ?_, ?_, ?_, by simp, HA.out.2.2.2.2.2.2.snoc HN.out.1 HN.out.2⟩
    · rw [cellsOf_snoc, List.length_append]
      exact own_far (own_far (own_far HX.out.2.1 HX.out.2.2.2.1 _) HX.out.2.2.2.2 _) HX.out.2.2.2.2 _
    · exact ((HX.out.1.setNew (Nat.le_refl _) _).setNew (by simp) _).setNew (by simp) _
    · intro b2 hb2
      simp only [Value.ownBlock, Option.some.injEq] at hb2
      subst hb2
      rcases HX.out.2.2.1 with h9 | h9
      · exact .inl h9
      · exact .inr (by simp at h9; omega)
  · have HT := Lib.hid (show Turns (fun b => some b = (Value.slice ae es.length ce).ownBlock) w w1 from .of_below HC.out.2.2.2)
    have hn2 := own_neK HC.out.2.2.1 HC.out.2.1 (by decide)
    have HX := Lib.hid hn2
    clear hn2
    go_wp2
    refine bodyPost_ret (v := .agg #[.slice (some ⟨b, off, none⟩) bs.length cb, .slice ae es.length ce]) (by simp [results, Tryd.results72, go_sem, r0, r1]) rfl ?_
    exact ⟨ae, ce, es, rfl, own_far (own_far HC.out.2.2.1 HX.out _) HX.out _, (HT.out.setNew (by simp) _).setNew (by simp) _, fun b h => .inl h, by omega, HA.out.2.2.2.2.2.2⟩
end Go.Proofs.YtfmhcjhcmoniaaaDoor
