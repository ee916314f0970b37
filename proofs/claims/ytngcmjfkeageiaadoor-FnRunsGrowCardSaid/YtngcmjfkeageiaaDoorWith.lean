/-
  planWith and l1Has: a valid program that has a block of a name. Conditions: at most 1048576 blocks and edges, each text at most as many bytes; the errors' variables hold errors.
-/
import Derived.Test.YtngcmjfkeageiaaDoorPlan
namespace Go.Proofs.YtngcmjfkeageiaaDoor
open Go.RowKit Go.Maps

open Classical in
noncomputable def hasB (bs es : List Pr) (x : ByteArray) : Bool := validB bs es && decide (x ∈ names bs)
theorem hasB_iff {bs es : List Pr} {x : ByteArray} : hasB bs es x = true ↔ validB bs es = true ∧ x ∈ names bs := by simp [hasB]
theorem hasB_no1 {bs es : List Pr} {x : ByteArray} (h : validB bs es = false) : hasB bs es x = false := by simp [hasB, h]
theorem hasB_no2 {bs es : List Pr} {x : ByteArray} (h : x ∉ names bs) : hasB bs es x = false := by simp [hasB, h]
theorem fnd_neg {l : List Pr} {x : ByteArray} (h : x ∉ names l) : fnd l x = -1 := by unfold fnd; rw [(idx_eq_none_iff _ _).2 h]
theorem fnd_pos {l : List Pr} {x : ByteArray} (h : x ∈ names l) : ∃ k, k < l.length ∧ fnd l x = (k : Int) ∧ nameAt l k = x := by
  cases hi : idx (names l) x with
  | none => exact absurd h ((idx_eq_none_iff _ _).1 hi)
  | some k =>
    obtain ⟨h1, _⟩ := idx_some _ _ _ hi
    obtain ⟨hk, e⟩ := List.getElem?_eq_some_iff.1 h1
    have hk' : k < l.length := by simpa [names] using hk
    refine ⟨k, hk', by unfold fnd; rw [hi], ?_⟩
    unfold nameAt
    rw [List.getD_eq_getElem?_getD, List.getElem?_eq_getElem hk']
    simpa [names] using e

set_option maxRecDepth 100000 in
theorem l1Has_any (w : World) (bs es : List Pr) (ab ae : Option Addr) (cb ce : Nat) (x : ByteArray) (hpb : PairsAt w ab bs) (hpe : PairsAt w ae es) :
    Calls Tryd.prog 79 #[.agg #[.slice ab bs.length cb, .slice ae es.length ce], .string x] w fun e w' => e = .returned (.bool (hasB bs es x)) ∧ Below w.heap.size w w' := by
  have h1 : Below w.heap.size w (w.alloc (.cells #[.slice ab bs.length cb, .slice ae es.length ce] 32)) := (Below.refl _ _).alloc (Nat.le_refl _) _
  have hpb1 := hpb.below h1
  have hpe1 := hpe.below h1
  have H1 := Lib.hid h1; clear h1
  go_enter Tryd.func79, Tryd.ntmps79
  go_wp2_with fail
  refine (ProgValid_spec _ bs es _ _ _ _ hpb1 hpe1).mono ?_
  rintro e w1 ⟨rfl, hb1⟩
  have hall : Below w.heap.size w w1 := H1.out.trans (hb1.mono (by simp))
  have hpb2 := hpb1.below hb1
  have c0 := (hb1.cell (p := ⟨w.heap.size, 0, none⟩) (by simp)).trans (show _ = some (.slice ab bs.length cb) by go_simp)
  have c1 := (hb1.cell (p := ⟨w.heap.size, 1, none⟩) (by simp)).trans (show _ = some (.slice ae es.length ce) by go_simp)
  have hz := hall.size
  cases hv : validB bs es
  · have HV := Lib.hid (hasB_no1 (x := x) hv)
    clear hv
    go_wp2
    go_ret
    exact ⟨ret_bool (by rw [HV.out]), hall⟩
  · have HV := Lib.hid hv
    clear hv
    go_wp2_with fail
    refine (l1Find_any x _ bs ab cb _ hpb2).mono ?_
    rintro e w2 ⟨rfl, hb2⟩
    by_cases hn : x ∈ names bs
    · obtain ⟨k, _, hk, _⟩ := fnd_pos hn
      have HN := Lib.hid (hasB_iff.2 ⟨HV.out, hn⟩)
      clear hn
      rw [hk]
      go_wp2
      all_goals go_ret
      all_goals exact ⟨ret_bool (by rw [HN.out]), hall.trans (hb2.mono hz)⟩
    · rw [fnd_neg hn]
      have HN := Lib.hid (hasB_no2 (es := es) hn)
      clear hn
      go_wp2
      go_ret
      exact ⟨ret_bool (by rw [HN.out]), hall.trans (hb2.mono hz)⟩

theorem PlanAt.keep {w w' : World} {o lo li : Nat} {bs es : List Pr} (h : PlanAt w o lo li bs es) (hb : Below w.heap.size w w') : PlanAt w' o lo li bs es := by
  obtain ⟨⟨F, hO⟩, ⟨fp, G, hG, hf⟩, ⟨fq, K, hK, hk⟩⟩ := h
  exact ⟨⟨F, hO.below hb⟩, ⟨fp, G, hG.below_ hb hf, fun k h => Nat.lt_of_lt_of_le (hf k h) hb.size⟩, ⟨fq, K, hK.below_ hb hk, fun k h => Nat.lt_of_lt_of_le (hk k h) hb.size⟩⟩
open Classical in
theorem Links.res {w w' : World} {b R : Nat} {fp : List Nat} {E : List Pr} {F : ByteArray → Option Value} {cs : Array Value} {t : TypeId} {fr : Nat × Nat} (h : Links w b fp E F) (hR : w.heap[R]? = some (.cells cs t fr)) (hk : ∀ k, k ≠ R → w'.heap[k]? = w.heap[k]?) :
    Links w' b (fp.filter (fun k => decide (k ≠ R))) E F := by
  have hm : ∀ {k n f}, MapV w k n f → k ≠ R := fun hm e => by
    obtain ⟨es, c, h⟩ := hm.block
    rw [e, hR] at h; cases h
  refine ⟨h.map.same (hk _ (hm h.map)), fun hb => h.apart ((List.mem_filter.1 hb).1), h.none_, fun x v hx => ?_, h.inj⟩
  obtain ⟨bi, e, hf, hv, hy⟩ := h.some_ x v hx
  exact ⟨bi, e, List.mem_filter.2 ⟨hf, by simpa using hm hv⟩, hv.same (hk _ (hm hv)), hy⟩
theorem PlanAt.res {w w' : World} {o lo li R : Nat} {bs es : List Pr} {cs : Array Value} {fr : Nat × Nat} (h : PlanAt w o lo li bs es) (hR : w.heap[R]? = some (.cells cs 83 fr)) (hk : ∀ k, k ≠ R → w'.heap[k]? = w.heap[k]?) (hz : w'.heap.size = w.heap.size) : PlanAt w' o lo li bs es := by
  obtain ⟨⟨F, hO⟩, ⟨fp, G, hG, hf⟩, ⟨fq, K, hK, hq⟩⟩ := h
  have hm : ∀ {k n f}, MapV w k n f → k ≠ R := fun hm e => by
    obtain ⟨es, c, h⟩ := hm.block
    rw [e, hR] at h; cases h
  refine ⟨⟨F, hO.map.same (hk _ (hm hO.map)), hO.none_, fun p hp => ?_⟩, ⟨_, G, hG.res hR hk, fun k h => by rw [hz]; exact hf k (List.mem_filter.1 h).1⟩, ⟨_, K, hK.res hR hk, fun k h => by rw [hz]; exact hq k (List.mem_filter.1 h).1⟩⟩
  obtain ⟨v, hv, h1, h2⟩ := hO.row p hp
  refine ⟨v, hv, h1, ?_⟩
  rcases h2 with h2 | ⟨g, cap, cur, e1, e2, e3, e4⟩
  · exact .inl h2
  · refine .inr ⟨g, cap, cur, e1, e2, (hk g (fun e => ?_)).trans e3, e4⟩
    rw [e, hR] at e3
    simp at e3
theorem PlanAt.set3 {w : World} {o lo li R : Nat} {bs es : List Pr} {cs : Array Value} {fr : Nat × Nat} {a b c : Value} (h : PlanAt w o lo li bs es) (hR : w.heap[R]? = some (.cells cs 83 fr)) : PlanAt (((w.setCell ⟨R, 0, none⟩ a).setCell ⟨R, 1, none⟩ b).setCell ⟨R, 2, none⟩ c) o lo li bs es :=
  h.res hR (fun k hk => by rw [Below.heap_setCell _ _ _ _ hk, Below.heap_setCell _ _ _ _ hk, Below.heap_setCell _ _ _ _ hk]) (by simp [World.setCell])

theorem set3_reads {w : World} {R : Nat} {a b c x y z : Value} (o : Obj) (hR : R < w.heap.size) (h0 : w.cell? ⟨R, 0, none⟩ = some x) (h1 : w.cell? ⟨R, 1, none⟩ = some y) (h2 : w.cell? ⟨R, 2, none⟩ = some z) :
    ((((w.setCell ⟨R, 0, none⟩ a).setCell ⟨R, 1, none⟩ b).setCell ⟨R, 2, none⟩ c).alloc o).cell? ⟨R, 0, none⟩ = some a ∧ ((((w.setCell ⟨R, 0, none⟩ a).setCell ⟨R, 1, none⟩ b).setCell ⟨R, 2, none⟩ c).alloc o).cell? ⟨R, 1, none⟩ = some b ∧
      ((((w.setCell ⟨R, 0, none⟩ a).setCell ⟨R, 1, none⟩ b).setCell ⟨R, 2, none⟩ c).alloc o).cell? ⟨R, 2, none⟩ = some c := by
  have hb : Below (((w.setCell ⟨R, 0, none⟩ a).setCell ⟨R, 1, none⟩ b).setCell ⟨R, 2, none⟩ c).heap.size (((w.setCell ⟨R, 0, none⟩ a).setCell ⟨R, 1, none⟩ b).setCell ⟨R, 2, none⟩ c) ((((w.setCell ⟨R, 0, none⟩ a).setCell ⟨R, 1, none⟩ b).setCell ⟨R, 2, none⟩ c).alloc o) := (Below.refl _ _).alloc (Nat.le_refl _) _
  have hs : R < (((w.setCell ⟨R, 0, none⟩ a).setCell ⟨R, 1, none⟩ b).setCell ⟨R, 2, none⟩ c).heap.size := by simpa [World.setCell] using hR
  refine ⟨(hb.cell (p := ⟨R, 0, none⟩) hs).trans ?_, (hb.cell (p := ⟨R, 1, none⟩) hs).trans ?_, (hb.cell (p := ⟨R, 2, none⟩) hs).trans ?_⟩ <;> simp [go_sem, h0, h1, h2]

def WithPost (w : World) (bs es : List Pr) (x : ByteArray) (e : Ending) (w' : World) : Prop :=
  Below w.heap.size w w' ∧ ((hasB bs es x = true ∧ ∃ o lo li, e = .returned (.tuple #[.agg #[.map (some o), .map (some lo), .map (some li)], .bool true]) ∧ PlanAt w' o lo li bs es) ∨
    (hasB bs es x = false ∧ e = .returned (.tuple #[.agg #[.map none, .map none, .map none], .bool false])))

set_option maxRecDepth 100000 in
theorem planWith_any (w : World) (bs es : List Pr) (ab ae : Option Addr) (cb ce : Nat) (x : ByteArray) (hx : x.size ≤ 1048576) (hpb : PairsAt w ab bs) (hpe : PairsAt w ae es) (hg : Errs w) :
    Calls Tryd.prog 70 #[.agg #[.slice ab bs.length cb, .slice ae es.length ce], .string x] w (WithPost w bs es x) := by
  have h1 : Below w.heap.size w ((w.alloc (.cells #[.slice ab bs.length cb, .slice ae es.length ce] 32)).alloc (.cells #[.map none, .map none, .map none] 83)) := ((Below.refl _ _).alloc (Nat.le_refl _) _).alloc (by simp) _
  have hpb1 := hpb.below h1
  have hpe1 := hpe.below h1
  have hg1 := hg.keep h1
  have H1 := Lib.hid h1; clear h1
  go_enter Tryd.func70, Tryd.ntmps70
  go_wp2_with fail
  refine (planOf_any _ bs es _ _ _ _ hpb1 hpe1 hg1).mono ?_
  rintro e w1 ⟨hb1, hcase⟩
  have hall : Below w.heap.size w w1 := H1.out.trans (hb1.mono (by simp; omega))
  have hz := hall.size
  have hz1 : w.heap.size + 1 < w1.heap.size := by have := hb1.size; simp at this; omega
  obtain ⟨q1, q2⟩ := bcell hb1
  have r0 := (q1 (w.heap.size + 1) 0 (by simp)).trans (show _ = some (.map none) by go_simp)
  have r1 := (q1 (w.heap.size + 1) 1 (by simp)).trans (show _ = some (.map none) by go_simp)
  have r2 := (q1 (w.heap.size + 1) 2 (by simp)).trans (show _ = some (.map none) by go_simp)
  have z0 := (q2 (w.heap.size + 1) 0 (by simp)).trans (show _ = false by go_simp)
  have z1 := (q2 (w.heap.size + 1) 1 (by simp)).trans (show _ = false by go_simp)
  have z2 := (q2 (w.heap.size + 1) 2 (by simp)).trans (show _ = false by go_simp)
  clear q1 q2
  have G1 := fun a b c o => set3_reads (a := a) (b := b) (c := c) o hz1 r0 r1 r2
  have HG := Lib.hid G1; clear G1
  have HR := Lib.hid ((hb1.block (w.heap.size + 1) (by simp)).trans (show _ = some (Obj.cells #[.map none, .map none, .map none] 83 (0, 0)) by rw [show w.heap.size + 1 = (w.alloc (.cells #[.slice ab bs.length cb, .slice ae es.length ce] 32)).heap.size from by simp]; exact heap_alloc_new _ _))
  rcases hcase with ⟨hv, o, lo, li, rfl, hp⟩ | ⟨hv, t, z, rfl⟩
  · have HV := Lib.hid (show validB bs es = true by simpa [validB] using hv)
    clear hv
    obtain ⟨F, hO⟩ := hp.ops
    have hwa : Below w1.heap.size w1 (w1.alloc (.cells #[.map (some o), .map (some lo), .map (some li)] 83)) := (Below.refl _ _).alloc (Nat.le_refl _) _
    have l1 := (hO.below hwa).map.look_ok Tryd.underlying79 (zeroOps _) (mx hx)
    by_cases hn : x ∈ names bs
    · have HN := Lib.hid (hasB_iff.2 ⟨HV.out, hn⟩)
      cases hF : F x with
      | none => exact absurd hn ((hO.none_ x).1 hF)
      | some v =>
        rw [hF] at l1
        clear hn
        go_wp2
        refine bodyPost_ret (v := .tuple #[.agg #[.map (some o), .map (some lo), .map (some li)], .bool true]) (by simp [results, Tryd.results70, go_sem, (HG.out _ _ _ _).1, (HG.out _ _ _ _).2.1, (HG.out _ _ _ _).2.2]) rfl ?_
        refine ⟨(below_res hall _ _ _).alloc (by simp [World.setCell]; omega) _, .inl ⟨HN.out, o, lo, li, rfl, ?_⟩⟩
        exact (hp.set3 HR.out).keep ((Below.refl _ _).alloc (Nat.le_refl _) _)
    · have hF := (hO.none_ x).2 hn
      have HN := Lib.hid (hasB_no2 (es := es) hn)
      rw [hF] at l1
      clear hn
      go_wp2
      refine bodyPost_ret (v := .tuple #[.agg #[.map none, .map none, .map none], .bool false]) (by simp [results, Tryd.results70, go_sem, (HG.out _ _ _ _).1, (HG.out _ _ _ _).2.1, (HG.out _ _ _ _).2.2]) rfl ?_
      exact ⟨(below_res hall _ _ _).alloc (by simp [World.setCell]; omega) _, .inr ⟨HN.out, rfl⟩⟩
  · have HV := Lib.hid (hasB_no1 (x := x) (show validB bs es = false by simpa [validB] using hv))
    clear hv
    go_wp2
    refine bodyPost_ret (v := .tuple #[.agg #[.map none, .map none, .map none], .bool false]) (by simp [results, Tryd.results70, go_sem, (HG.out _ _ _ _).1, (HG.out _ _ _ _).2.1, (HG.out _ _ _ _).2.2]) rfl ?_
    exact ⟨(below_res hall _ _ _).alloc (by simp [World.setCell]; omega) _, .inr ⟨HV.out, rfl⟩⟩
end Go.Proofs.YtngcmjfkeageiaaDoor
