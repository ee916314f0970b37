/-
  ParseProg of the program. Conditions: at most 1048576 bytes; the errors' variables hold errors; bytealg's MaxLen holds a number.
-/
import Derived.Test.YtngcmjfkeageiaaDoorReadP
namespace Go.Proofs.YtngcmjfkeageiaaDoor
open Go.RowKit Go.Maps

set_option maxRecDepth 100000 in
set_option maxHeartbeats 1600000 in
theorem ParseProg_impl (w : World) (text : ByteArray) (hs : text.size ≤ 1048576) (hg : Errs w) (hc : ErrAt w 2) (hm : MaxAt w) :
    Calls Tryd.prog 29 #[.string text] w (ParsePost w text) := by
  have hA : Below w.heap.size w (w.alloc (.cells #[.slice none 0 0, .slice none 0 0] 32)) := (Below.refl _ _).alloc (Nat.le_refl _) _
  have hR : Two (w.alloc (.cells #[.slice none 0 0, .slice none 0 0] 32)) w.heap.size (.slice none 0 0) (.slice none 0 0) := heap_alloc_new _ _
  have hzA : w.heap.size < (w.alloc (.cells #[.slice none 0 0, .slice none 0 0] 32)).heap.size := by simp
  have hgA := hg.keep hA
  have hcA := hc.keep hA
  have hmA := hm.keep hA
  go_enter Tryd.func29, Tryd.ntmps29
  go_wp2_with fail
  generalize w.alloc (.cells #[.slice none 0 0, .slice none 0 0] 32) = wA at *
  refine (readProg_any wA text hs hgA hcA hmA).mono ?_
  rintro e w1 ⟨hb1, hcase⟩
  have hall : Below w.heap.size w w1 := hA.trans (hb1.mono hA.size)
  have hR1 : Two w1 w.heap.size _ _ := hR.of_cells (hb1.block _ hzA)
  have hzw : w.heap.size < w1.heap.size := Nat.lt_of_lt_of_le hzA hb1.size
  rcases hcase with ⟨hr, v, ve, rfl, ho, hoe⟩ | ⟨hr, ty, z, rfl⟩
  · obtain ⟨a, c, rfl⟩ := own_form ho
    obtain ⟨a', c', rfl⟩ := own_form hoe
    have hlt : w.heap.size < wA.heap.size := hzA
    have HY := Lib.hid (And.intro ((read_iff text).1 hr) (And.intro hall (And.intro ho hoe)))
    have G := hR1.reads (.slice a (bsOf text).length c) (.slice a' (esOf text).length c') (.cells #[.slice a (bsOf text).length c, .slice a' (esOf text).length c'] 32)
    obtain ⟨r0, r1, t0, t1, _⟩ := hR1.cells
    clear hr ho hoe hall hR1 hA hR hgA hcA hmA hb1 hg hc hm
    go_wp2
    refine bodyPost_ret (v := .tuple #[.agg #[.slice a (bsOf text).length c, .slice a' (esOf text).length c'], .bool true]) (by simp [results, Tryd.results29, go_sem, G.1, G.2]) rfl ?_
    have hb' := (own_setCell (a := ⟨w.heap.size, 1, none⟩) (u := .slice a' (esOf text).length c') (own_setCell (a := ⟨w.heap.size, 0, none⟩) (u := .slice a (bsOf text).length c) HY.out.2.2.1 (by simpa using hlt)) (by simpa using hlt)).alloc (.cells #[.slice a (bsOf text).length c, .slice a' (esOf text).length c'] 32)
    have he' := (own_setCell (a := ⟨w.heap.size, 1, none⟩) (u := .slice a' (esOf text).length c') (own_setCell (a := ⟨w.heap.size, 0, none⟩) (u := .slice a (bsOf text).length c) HY.out.2.2.2 (by simpa using hlt)) (by simpa using hlt)).alloc (.cells #[.slice a (bsOf text).length c, .slice a' (esOf text).length c'] 32)
    have hfb := below_res0 HY.out.2.1 (Nat.le_refl _) (.slice a (bsOf text).length c) (.slice a' (esOf text).length c')
    exact ⟨hfb.alloc hfb.size _, .inl ⟨HY.out.1.1, HY.out.1.2, _, _, rfl, own_base hb' (Nat.le_of_lt hlt), own_base he' (Nat.le_of_lt hlt)⟩⟩
  · have HY := Lib.hid (And.intro (show ¬ (partsB text = true ∧ Valid (bsOf text) (esOf text)) from fun h => hr ((read_iff text).2 h)) hall)
    have G := hR1.reads (.slice none 0 0) (.slice none 0 0) (.cells #[.slice none 0 0, .slice none 0 0] 32)
    obtain ⟨r0, r1, t0, t1, _⟩ := hR1.cells
    clear hr hall hR1 hA hR hgA hcA hmA hb1 hg hc hm
    go_wp2
    refine bodyPost_ret (v := .tuple #[.agg #[.slice none 0 0, .slice none 0 0], .bool false]) (by simp [results, Tryd.results29, go_sem, G.1, G.2]) rfl ?_
    have hfb := below_res0 HY.out.2 (Nat.le_refl _) (.slice none 0 0) (.slice none 0 0)
    exact ⟨hfb.alloc hfb.size _, .inr ⟨HY.out.1, rfl⟩⟩
/-- whether a text tells a program, and what its rows are -/
noncomputable def parOk (text : ByteArray) : Bool := partsB text && validB (bsOf text) (esOf text)
theorem parOk_iff (text : ByteArray) : parOk text = true ↔ (partsB text = true ∧ Valid (bsOf text) (esOf text)) := by simp [parOk, validB]
noncomputable def parL (text : ByteArray) : List Pr := if parOk text = true then bsOf text else []
noncomputable def parE (text : ByteArray) : List Pr := if parOk text = true then esOf text else []
theorem ParsePost.res {w w' : World} {text : ByteArray} {e : Ending} (h : ParsePost w text e w') : ProgRes w (parOk text) (parL text) (parE text) e w' := by
  obtain ⟨hb, ⟨h1, h2, v, ve, rfl, ho, hoe⟩ | ⟨hn, rfl⟩⟩ := h
  · have hk : parOk text = true := (parOk_iff text).2 ⟨h1, h2⟩
    unfold parL parE
    rw [hk, if_pos rfl, if_pos rfl]
    obtain ⟨a, c, rfl⟩ := own_form ho
    obtain ⟨a', c', rfl⟩ := own_form hoe
    exact ⟨hb, a, c, a', c', rfl, ho, hoe, fun g hg => (ho.lt g hg).2, fun g hg => (hoe.lt g hg).2⟩
  · have hk : parOk text = false := by cases hk : parOk text with | false => rfl | true => exact absurd ((parOk_iff text).1 hk) hn
    unfold parL parE
    rw [hk, if_neg (by decide), if_neg (by decide)]
    exact ⟨hb, none, 0, none, 0, rfl, World.ownsRow_nil _ _ _ _, World.ownsRow_nil _ _ _ _, fun g hg => by simp [Value.ownBlock] at hg, fun g hg => by simp [Value.ownBlock] at hg⟩
theorem par_small {text : ByteArray} (hs : text.size ≤ 1048576) : ((parL text).length ≤ 1048576 ∧ ∀ i, i < (parL text).length → (nameAt (parL text) i).size ≤ 1048576 ∧ (restAt (parL text) i).size ≤ 1048576) ∧ ((parE text).length ≤ 1048576 ∧ ∀ i, i < (parE text).length → (nameAt (parE text) i).size ≤ 1048576 ∧ (restAt (parE text) i).size ≤ 1048576) := by
  unfold parL parE
  cases hk : parOk text
  · rw [if_neg (by decide), if_neg (by decide)]
    exact ⟨⟨Nat.zero_le _, fun i hi => absurd hi (Nat.not_lt_zero _)⟩, ⟨Nat.zero_le _, fun i hi => absurd hi (Nat.not_lt_zero _)⟩⟩
  · rw [if_pos rfl, if_pos rfl]
    obtain ⟨_, hV⟩ : partsB text = true ∧ Valid (bsOf text) (esOf text) := (parOk_iff text).1 hk
    have hb9 := hV.b.hi
    have he14 := hV.e.hi
    exact ⟨⟨by omega, blks_sizes hs (L := partAt text 0) (fun s h => partAt_size h)⟩, ⟨by omega, blks_sizes hs (L := partAt text 1) (fun s h => partAt_size h)⟩⟩
end Go.Proofs.YtngcmjfkeageiaaDoor
