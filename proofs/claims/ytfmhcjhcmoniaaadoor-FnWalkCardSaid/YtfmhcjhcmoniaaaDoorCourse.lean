/-
  The program's chapter 2: courseOf: the plan of a valid program with its blocks' names and their distances to the exit. Conditions: at most 1048576 blocks and edges, each text at most as many bytes; the errors' variables hold errors.
-/
import Derived.Test.YtfmhcjhcmoniaaaDoorFar
import Derived.Test.YtfmhcjhcmoniaaaDoorRuns
namespace Go.Proofs.YtfmhcjhcmoniaaaDoor
open Go.RowKit Go.Maps

/-- the names of the blocks, as values -/
def nameVs (bs : List Pr) (k : Nat) : List Value := (List.range k).map fun i => Value.string (nameAt bs i)
theorem nameVs_length (bs : List Pr) (k : Nat) : (nameVs bs k).length = k := by simp [nameVs]
theorem nameVs_succ (bs : List Pr) (k : Nat) : nameVs bs (k + 1) = nameVs bs k ++ [.string (nameAt bs k)] := by simp [nameVs, List.range_succ]
theorem nameVs_at {bs : List Pr} {k i : Nat} (h : i < k) : (nameVs bs k)[i]? = some (.string (nameAt bs i)) := by simp [nameVs, h]
/-- a course in memory -/
structure CourseAt (w : World) (o lo li : Nat) (vn : Value) (f : Nat) (bs es : List Pr) (D : ByteArray → Option Nat) : Prop where
  plan : PlanAt w o lo li bs es
  names : w.ownsRow 0 9 1 vn bs.length (nameVs bs bs.length)
  far : ∃ n, MapV w f n (fun s => dV (D s))
  least : Far (flip es) (lastN bs) D
  bound : ∀ s k, D s = some k → k ≤ es.length + 1
def CoursePost (w : World) (bs es : List Pr) (e : Ending) (w' : World) : Prop :=
  Below w.heap.size w w' ∧ ((Valid bs es ∧ ∃ o lo li vn f D, e = .returned (.tuple #[.agg #[.map (some o), .map (some lo), .map (some li), vn, .map (some f)], .bool true]) ∧ CourseAt w' o lo li vn f bs es D) ∨
    (¬ Valid bs es ∧ e = .returned (.tuple #[.agg #[.map none, .map none, .map none, .slice none 0 0, .map none], .bool false])))
theorem ownsRow_below {w w' : World} {base : Nat} {e : TypeId} {size n : Nat} {v : Value} {xs : List Value} (h : w.ownsRow base e size v n xs) (hb : Below w.heap.size w w') : w'.ownsRow base e size v n xs := by
  obtain ⟨h1, h2⟩ := h
  refine ⟨h1, ?_⟩
  rcases h2 with h2 | ⟨g, cap, cur, e1, e2, e3, e4⟩
  · exact .inl h2
  · exact .inr ⟨g, cap, cur, e1, e2, (hb.block g (Array.getElem?_eq_some_iff.1 e3).1).trans e3, e4⟩
theorem CourseAt.keep {w w' : World} {o lo li f : Nat} {vn : Value} {bs es : List Pr} {D : ByteArray → Option Nat} (h : CourseAt w o lo li vn f bs es D) (hb : Below w.heap.size w w') : CourseAt w' o lo li vn f bs es D := by
  obtain ⟨h1, h2, ⟨n, h3⟩, h4, h5⟩ := h
  exact ⟨h1.keep hb, ownsRow_below h2 hb, ⟨n, h3.below hb h3.lt⟩, h4, h5⟩
open Classical in
/-- 'm[x][y]', with 'ok' -/
theorem Links.look2 {w : World} {lo : Nat} {fp : List Nat} {E : List Pr} {F : ByteArray → Option Value} (hL : Links w lo fp E F) (x y : ByteArray) (hx : x.size ≤ 1048576) (hy : y.size ≤ 1048576) :
    ∃ r v, (Instr.lookup 56 (.map (some lo)) (.string x) false).run Tryd.prog w = .ok (.map r) w ∧ (Instr.lookup 60 (.map r) (.string y) true).run Tryd.prog w = .ok (.tuple #[v, .bool (decide ((x, y) ∈ E))]) w := by
  have l3 := hL.map.look Tryd.underlying56 (zeroMap _) (mx hx)
  cases hFL : F x with
  | none =>
    rw [hFL] at l3
    have hE : decide ((x, y) ∈ E) = false := by simpa using hL.none_ x hFL y
    have l4 := look_nil_ok (w := w) Tryd.underlying60 (zeroInt _) (mx hy)
    rw [hE]
    exact ⟨_, _, l3, l4⟩
  | some v =>
    obtain ⟨bi, rfl, hbi, hmi, _⟩ := hL.some_ x v hFL
    rw [hFL] at l3
    have l4 := hmi.look_ok Tryd.underlying60 (zeroInt _) (mx hy)
    have hE : (inner E x y).isSome = decide ((x, y) ∈ E) := by
      have := inner_isSome E x y
      by_cases h : (x, y) ∈ E
      · simp [h, this.2 h]
      · simp [h]
        cases hi : (inner E x y).isSome
        · simpa using hi
        · exact absurd (this.1 hi) h
    rw [hE] at l4
    exact ⟨_, _, l3, l4⟩
theorem own_setCell {w : World} {base : Nat} {e : TypeId} {size n : Nat} {v : Value} {xs : List Value} {a : Addr} {u : Value} (h : w.ownsRow base e size v n xs) (hb : a.block < base) : (w.setCell a u).ownsRow base e size v n xs := by
  obtain ⟨h1, h2⟩ := h
  refine ⟨h1, ?_⟩
  rcases h2 with h2 | ⟨g, cap, cur, e1, e2, e3, e4⟩
  · exact .inl h2
  · exact .inr ⟨g, cap, cur, e1, e2, (Below.heap_setCell _ _ _ _ (by omega)).trans e3, e4⟩
theorem PlanAt.turn {w w' : World} {o lo li : Nat} {bs es : List Pr} (h : PlanAt w o lo li bs es) (hb : Below w.heap.size w w') : PlanAt w' o lo li bs es := h.keep hb

open Classical in
theorem PlanAt.resT {w w' : World} {o lo li R : Nat} {bs es : List Pr} {cs : Array Value} {t : TypeId} {fr : Nat × Nat} (h : PlanAt w o lo li bs es) (hR : w.heap[R]? = some (.cells cs t fr)) (ht : t ≠ 191) (hk : ∀ k, k ≠ R → w'.heap[k]? = w.heap[k]?) (hz : w'.heap.size = w.heap.size) : PlanAt w' o lo li bs es := by
  obtain ⟨⟨F, hO⟩, ⟨fp, G, hG, hf⟩, ⟨fq, K, hK, hq⟩⟩ := h
  have hm : ∀ {k n f}, MapV w k n f → k ≠ R := fun hm e => by
    obtain ⟨es, c, h⟩ := hm.block
    rw [e, hR] at h; cases h
  have hres : ∀ {b : Nat} {fp : List Nat} {E : List Pr} {F : ByteArray → Option Value}, Links w b fp E F → Links w' b (fp.filter (fun k => decide (k ≠ R))) E F := fun {b fp E F} h => by
    refine ⟨h.map.same (hk _ (hm h.map)), fun hb => h.apart ((List.mem_filter.1 hb).1), h.none_, fun x v hx => ?_, h.inj⟩
    obtain ⟨bi, e, hf, hv, hy⟩ := h.some_ x v hx
    exact ⟨bi, e, List.mem_filter.2 ⟨hf, by simpa using hm hv⟩, hv.same (hk _ (hm hv)), hy⟩
  refine ⟨⟨F, hO.map.same (hk _ (hm hO.map)), hO.none_, fun p hp => ?_⟩, ⟨_, G, hres hG, fun k h => by rw [hz]; exact hf k (List.mem_filter.1 h).1⟩, ⟨_, K, hres hK, fun k h => by rw [hz]; exact hq k (List.mem_filter.1 h).1⟩⟩
  obtain ⟨v, hv, h1, h2⟩ := hO.row p hp
  refine ⟨v, hv, h1, ?_⟩
  rcases h2 with h2 | ⟨g, cap, cur, e1, e2, e3, e4⟩
  · exact .inl h2
  · refine .inr ⟨g, cap, cur, e1, e2, (hk g (fun e => ?_)).trans e3, e4⟩
    rw [e, hR] at e3
    exact ht (Obj.cells.inj (Option.some.inj e3)).2.1
theorem heap_setCell_at {w : World} {R : Nat} {cs : Array Value} {t : TypeId} {fr : Nat × Nat} (h : w.heap[R]? = some (.cells cs t fr)) (i : Nat) (u : Value) : (w.setCell ⟨R, i, none⟩ u).heap[R]? = some (.cells (cs.setIfInBounds i u) t fr) := by
  simp [World.setCell, Array.getElem?_modify, h]
theorem heap_set5 {w : World} {R : Nat} {x0 x1 x2 x3 x4 : Value} {t : TypeId} (h : w.heap[R]? = some (.cells #[x0, x1, x2, x3, x4] t (0, 0))) (a b c d e : Value) :
    (((((w.setCell ⟨R, 0, none⟩ a).setCell ⟨R, 1, none⟩ b).setCell ⟨R, 2, none⟩ c).setCell ⟨R, 3, none⟩ d).setCell ⟨R, 4, none⟩ e).heap[R]? = some (.cells #[a, b, c, d, e] t (0, 0)) := by
  have h1 := heap_setCell_at h 0 a
  have h2 := heap_setCell_at h1 1 b
  have h3 := heap_setCell_at h2 2 c
  have h4 := heap_setCell_at h3 3 d
  have h5 := heap_setCell_at h4 4 e
  simpa using h5
theorem block5 {w : World} {R : Nat} {x0 x1 x2 x3 x4 : Value} {t : TypeId} (h : w.heap[R]? = some (.cells #[x0, x1, x2, x3, x4] t (0, 0))) :
    (w.cell? ⟨R, 0, none⟩ = some x0 ∧ w.cell? ⟨R, 1, none⟩ = some x1 ∧ w.cell? ⟨R, 2, none⟩ = some x2 ∧ w.cell? ⟨R, 3, none⟩ = some x3 ∧ w.cell? ⟨R, 4, none⟩ = some x4) ∧ ∀ i, w.frozen? ⟨R, i, none⟩ = false :=
  ⟨⟨by rw [cell_of_row w R 0 _ _ (0, 0) h]; rfl, by rw [cell_of_row w R 1 _ _ (0, 0) h]; rfl, by rw [cell_of_row w R 2 _ _ (0, 0) h]; rfl, by rw [cell_of_row w R 3 _ _ (0, 0) h]; rfl, by rw [cell_of_row w R 4 _ _ (0, 0) h]; rfl⟩, fun i => by simp [World.frozen?, h]⟩
theorem below_set5 {w : World} {B R : Nat} {w0 : World} (h : Below B w0 w) (hR : B ≤ R) (a b c d e : Value) : Below B w0 (((((w.setCell ⟨R, 0, none⟩ a).setCell ⟨R, 1, none⟩ b).setCell ⟨R, 2, none⟩ c).setCell ⟨R, 3, none⟩ d).setCell ⟨R, 4, none⟩ e) :=
  ((((h.setCell (p := ⟨R, 0, none⟩) hR _).setCell (p := ⟨R, 1, none⟩) hR _).setCell (p := ⟨R, 2, none⟩) hR _).setCell (p := ⟨R, 3, none⟩) hR _).setCell (p := ⟨R, 4, none⟩) hR _
theorem one_new2 (w : World) (o : Obj) (x : Value) (t : TypeId) : ∀ j u, [x][j]? = some u → ((w.alloc o).alloc (.cells #[x] t)).cell? ((⟨w.heap.size + 1, 0, none⟩ : Addr).add j) = some u := by
  have := cell_one_new (w.alloc o) x t
  simpa using this
/-- a store into a block that holds neither map nor letters -/
theorem PlanAt.setC {w : World} {o lo li : Nat} {bs es : List Pr} {cs : Array Value} {t : TypeId} {fr : Nat × Nat} {a : Addr} {u : Value} (h : PlanAt w o lo li bs es) (hR : w.heap[a.block]? = some (.cells cs t fr)) (ht : t ≠ 191) : PlanAt (w.setCell a u) o lo li bs es :=
  h.resT hR ht (fun k hk => Below.heap_setCell _ _ _ _ hk) (by simp [World.setCell])
theorem CourseAt.setC {w : World} {o lo li f : Nat} {vn : Value} {bs es : List Pr} {D : ByteArray → Option Nat} {cs : Array Value} {t : TypeId} {fr : Nat × Nat} {a : Addr} {u : Value} (h : CourseAt w o lo li vn f bs es D) (hR : w.heap[a.block]? = some (.cells cs t fr)) (ht : t ≠ 191) (hs : t ≠ 9) : CourseAt (w.setCell a u) o lo li vn f bs es D := by
  obtain ⟨h1, ⟨h2, h6⟩, ⟨n, h3⟩, h4, h5⟩ := h
  refine ⟨h1.setC hR ht, ⟨h2, ?_⟩, ⟨n, h3.setCell (fun e => ?_) u⟩, h4, h5⟩
  · rcases h6 with h6 | ⟨g, cap, cur, e1, e2, e3, e4⟩
    · exact .inl h6
    · refine .inr ⟨g, cap, cur, e1, e2, (Below.heap_setCell _ _ _ _ (fun e => ?_)).trans e3, e4⟩
      rw [e, hR] at e3
      exact hs (Obj.cells.inj (Option.some.inj e3)).2.1
  · obtain ⟨es, c, hh⟩ := h3.block
    rw [e, hR] at hh; cases hh

theorem own_turns {w w' : World} {base R : Nat} {e : TypeId} {size n : Nat} {v : Value} {xs : List Value} (h : w.ownsRow base e size v n xs) (hR : R < base) (hT : Turns (fun k => k = R) w w') : w'.ownsRow base e size v n xs := by
  obtain ⟨h1, h2⟩ := h
  refine ⟨h1, ?_⟩
  rcases h2 with h2 | ⟨g, cap, cur, e1, e2, e3, e4⟩
  · exact .inl h2
  · exact .inr ⟨g, cap, cur, e1, e2, (hT.block g (Array.getElem?_eq_some_iff.1 e3).1 (by omega)).trans e3, e4⟩
theorem CourseAt.set5 {w : World} {o lo li f R : Nat} {vn x0 x1 x2 x3 x4 : Value} {bs es : List Pr} {D : ByteArray → Option Nat} (h : CourseAt w o lo li vn f bs es D) (hR : w.heap[R]? = some (.cells #[x0, x1, x2, x3, x4] 62 (0, 0))) (a b c d e : Value) :
    CourseAt (((((w.setCell ⟨R, 0, none⟩ a).setCell ⟨R, 1, none⟩ b).setCell ⟨R, 2, none⟩ c).setCell ⟨R, 3, none⟩ d).setCell ⟨R, 4, none⟩ e) o lo li vn f bs es D := by
  have h1 := heap_setCell_at hR 0 a
  have h2 := heap_setCell_at h1 1 b
  have h3 := heap_setCell_at h2 2 c
  have h4 := heap_setCell_at h3 3 d
  exact ((((h.setC (a := ⟨R, 0, none⟩) hR (by decide) (by decide)).setC (a := ⟨R, 1, none⟩) h1 (by decide) (by decide)).setC (a := ⟨R, 2, none⟩) h2 (by decide) (by decide)).setC (a := ⟨R, 3, none⟩) h3 (by decide) (by decide)).setC (a := ⟨R, 4, none⟩) h4 (by decide) (by decide)
/-- what a cell holds, whatever it is -/
def cellOr (w : World) (b i : Nat) : Value := (w.cell? ⟨b, i, none⟩).getD undef
theorem cellOr_eq {w : World} {b i : Nat} {v : Value} (h : w.cell? ⟨b, i, none⟩ = some v) : w.cell? ⟨b, i, none⟩ = some (cellOr w b i) := by unfold cellOr; rw [h]; rfl
/-- what holds while 'c.far' is found and stored -/
abbrev SC (wr : World) (H li g n cap o lo : Nat) (s : ByteArray) (w' : World) : Prop :=
  w'.cell? ⟨H, 2, none⟩ = some (.map (some li)) ∧ w'.cell? ⟨H + 1, 3, none⟩ = some (.slice (some ⟨g, 0, none⟩) (n + 1) cap) ∧ w'.cell? ⟨g, n, none⟩ = some (.string s) ∧ w'.cell? ⟨H + 1, 4, none⟩ = some (cellOr w' (H + 1) 4) ∧ w'.frozen? ⟨H + 1, 4, none⟩ = false ∧ Turns (fun k => k = H + 1) wr w' ∧
    ∃ u, w'.heap[H + 1]? = some (.cells #[.map (some o), .map (some lo), .map (some li), .slice (some ⟨g, 0, none⟩) (n + 1) cap, u] 62 (0, 0))
theorem SC.call {wr W wN : World} {H li g n cap o lo : Nat} {s : ByteArray} (h : SC wr H li g n cap o lo s W) (hb : Below W.heap.size W wN) (hH : H + 1 < wr.heap.size) (hg : g < wr.heap.size) : SC wr H li g n cap o lo s wN := by
  obtain ⟨h1, h2, h3, h4, h5, h6, u, h7⟩ := h
  have hs := h6.size
  refine ⟨(hb.cell (p := ⟨H, 2, none⟩) (by simp; omega)).trans h1, (hb.cell (p := ⟨H + 1, 3, none⟩) (by simp; omega)).trans h2, (hb.cell (p := ⟨g, n, none⟩) (by simp; omega)).trans h3, ?_, (hb.frozen (p := ⟨H + 1, 4, none⟩) (by simp; omega)).trans h5, ?_, u, (hb.block _ (by omega)).trans h7⟩
  · exact cellOr_eq ((hb.cell (p := ⟨H + 1, 4, none⟩) (by simp; omega)).trans h4)
  · exact h6.trans (Turns.of_below hb)
theorem SC.store {wr wN : World} {H li g n cap o lo : Nat} {s : ByteArray} (h : SC wr H li g n cap o lo s wN) (hg : H + 2 ≤ g) (v : Value) : SC wr H li g n cap o lo s (wN.setCell ⟨H + 1, 4, none⟩ v) := by
  obtain ⟨h1, h2, h3, h4, h5, h6, u, h7⟩ := h
  have h8 : (wN.setCell ⟨H + 1, 4, none⟩ v).heap[H + 1]? = some (.cells #[.map (some o), .map (some lo), .map (some li), .slice (some ⟨g, 0, none⟩) (n + 1) cap, v] 62 (0, 0)) := by simpa using heap_setCell_at h7 4 v
  obtain ⟨⟨_, _, _, b3, b4⟩, bf⟩ := block5 h8
  refine ⟨(World.cell?_of_block (Below.heap_setCell _ _ _ _ (by simp))).trans h1, b3, (World.cell?_of_block (Below.heap_setCell _ _ _ _ (by simp; omega))).trans h3, cellOr_eq b4, bf 4, ?_, v, h8⟩
  exact ⟨h6.os, h6.tape, h6.output, by simpa [World.setCell] using h6.size, fun k hk hn => (Below.heap_setCell _ _ _ _ hn).trans (h6.block k hk hn)⟩
theorem PlanAt.turnsC {w w' : World} {o lo li R : Nat} {bs es : List Pr} {cs : Array Value} {t : TypeId} {fr : Nat × Nat} (h : PlanAt w o lo li bs es) (hR : w.heap[R]? = some (.cells cs t fr)) (ht : t ≠ 191) (hT : Turns (fun k => k = R) w w') : PlanAt w' o lo li bs es := by
  obtain ⟨⟨F, hO⟩, ⟨fp, G, hG, hf⟩, ⟨fq, K, hK, hq⟩⟩ := h
  have hm : ∀ {k n f}, MapV w k n f → k ≠ R := fun hm e => by
    obtain ⟨es, c, h⟩ := hm.block
    rw [e, hR] at h; cases h
  have hres : ∀ {b : Nat} {fp : List Nat} {E : List Pr} {F : ByteArray → Option Value}, Links w b fp E F → Links w' b (fp.filter (fun k => decide (k ≠ R))) E F := fun {b fp E F} h => by
    refine ⟨h.map.same (hT.block _ h.map.lt (hm h.map)), fun hb => h.apart ((List.mem_filter.1 hb).1), h.none_, fun x v hx => ?_, h.inj⟩
    obtain ⟨bi, e, hf, hv, hy⟩ := h.some_ x v hx
    exact ⟨bi, e, List.mem_filter.2 ⟨hf, by simpa using hm hv⟩, hv.same (hT.block _ hv.lt (hm hv)), hy⟩
  refine ⟨⟨F, hO.map.same (hT.block _ hO.map.lt (hm hO.map)), hO.none_, fun p hp => ?_⟩, ⟨_, G, hres hG, fun k h => Nat.lt_of_lt_of_le (hf k (List.mem_filter.1 h).1) hT.size⟩, ⟨_, K, hres hK, fun k h => Nat.lt_of_lt_of_le (hq k (List.mem_filter.1 h).1) hT.size⟩⟩
  obtain ⟨v, hv, h1, h2⟩ := hO.row p hp
  refine ⟨v, hv, h1, ?_⟩
  rcases h2 with h2 | ⟨g, cap, cur, e1, e2, e3, e4⟩
  · exact .inl h2
  · refine .inr ⟨g, cap, cur, e1, e2, (hT.block g (Array.getElem?_eq_some_iff.1 e3).1 (fun e => ?_)).trans e3, e4⟩
    rw [e, hR] at e3
    exact ht (Obj.cells.inj (Option.some.inj e3)).2.1

set_option maxRecDepth 100000 in
set_option maxHeartbeats 3200000 in
theorem courseOf_any (w : World) (bs es : List Pr) (ab ae : Option Addr) (cb ce : Nat) (hpb : PairsAt w ab bs) (hpe : PairsAt w ae es) (hg : Errs w) :
    Calls Tryd.prog 23 #[.agg #[.slice ab bs.length cb, .slice ae es.length ce]] w (CoursePost w bs es) := by
  have h1 : Below w.heap.size w ((w.alloc (.cells #[.slice ab bs.length cb, .slice ae es.length ce] 32)).alloc (.cells #[.map none, .map none, .map none, .slice none 0 0, .map none] 62)) := ((Below.refl _ _).alloc (Nat.le_refl _) _).alloc (by simp) _
  have hpb1 := hpb.below h1
  have hpe1 := hpe.below h1
  have hg1 := hg.keep h1
  have H1 := Lib.hid h1; clear h1
  obtain ⟨i0, hi, hz0, hz1, hz2⟩ := info_parts Tryd.infoStr
  go_enter Tryd.func23, Tryd.ntmps23
  go_wp2_with fail
  refine (planOf_any _ bs es _ _ _ _ hpb1 hpe1 hg1).mono ?_
  rintro e w1 ⟨hb1, hcase⟩
  have hall : Below w.heap.size w w1 := H1.out.trans (hb1.mono (by simp; omega))
  have hpb2 := hpb1.below hb1
  have c0 := (hb1.cell (p := ⟨w.heap.size, 0, none⟩) (by simp; omega)).trans (show _ = some (.slice ab bs.length cb) by go_simp)
  have c1 := (hb1.cell (p := ⟨w.heap.size, 1, none⟩) (by simp; omega)).trans (show _ = some (.slice ae es.length ce) by go_simp)
  have hs1 : w.heap.size + 1 < w1.heap.size := by have := hb1.size; simp at this; omega
  have hR := (hb1.block (w.heap.size + 1) (by simp)).trans (show _ = some (Obj.cells #[.map none, .map none, .map none, .slice none 0 0, .map none] 62 (0, 0)) by rw [show w.heap.size + 1 = (w.alloc (.cells #[.slice ab bs.length cb, .slice ae es.length ce] 32)).heap.size from by simp]; exact heap_alloc_new _ _)
  obtain ⟨⟨r0, r1, r2, r3, r4⟩, rz⟩ := block5 hR
  have z0 := rz 0
  have z1 := rz 1
  have z2 := rz 2
  have z3 := rz 3
  have z4 := rz 4
  have HR := Lib.hid hR; clear hR rz
  have hs0 : w.heap.size < w1.heap.size := by omega
  clear hb1 hpb1 hpe1 hg1
  have hz := hall.size
  rcases hcase with ⟨hv, o, lo, li, rfl, hp⟩ | ⟨hv, t, x, rfl⟩
  · have HV := Lib.hid hv
    have HP := Lib.hid hp
    clear hv hp
    have hwA : Below w1.heap.size w1 ((w1.alloc (.cells #[.map (some o), .map (some lo), .map (some li)] 58)).alloc (.cells #[.map (some o), .map (some lo), .map (some li), .slice none 0 0, .map none] 62)) := ((Below.refl _ _).alloc (Nat.le_refl _) _).alloc (by simp) _
    go_wp2
    obtain ⟨H, hH⟩ : ∃ H, H = w1.heap.size := ⟨_, rfl⟩
    have p2 : ((w1.alloc (.cells #[.map (some o), .map (some lo), .map (some li)] 58)).alloc (.cells #[.map (some o), .map (some lo), .map (some li), .slice none 0 0, .map none] 62)).cell? ⟨w1.heap.size, 2, none⟩ = some (.map (some li)) := by go_simp
    have k0 : ((w1.alloc (.cells #[.map (some o), .map (some lo), .map (some li)] 58)).alloc (.cells #[.map (some o), .map (some lo), .map (some li), .slice none 0 0, .map none] 62)).heap[w1.heap.size + 1]? = some (.cells #[.map (some o), .map (some lo), .map (some li), .slice none 0 0, .map none] 62 (0, 0)) := by
      have := heap_alloc_new (w1.alloc (.cells #[.map (some o), .map (some lo), .map (some li)] 58)) (.cells #[.map (some o), .map (some lo), .map (some li), .slice none 0 0, .map none] 62)
      rwa [World.size_alloc] at this
    have hsA : ((w1.alloc (.cells #[.map (some o), .map (some lo), .map (some li)] 58)).alloc (.cells #[.map (some o), .map (some lo), .map (some li), .slice none 0 0, .map none] 62)).heap.size = w1.heap.size + 2 := by simp
    generalize (w1.alloc (.cells #[.map (some o), .map (some lo), .map (some li)] 58)).alloc (.cells #[.map (some o), .map (some lo), .map (some li), .slice none 0 0, .map none] 62) = wA at *
    have HwA := Lib.hid hwA; clear hwA
    have HK0 := Lib.hid k0; clear k0
    have HsA := Lib.hid hsA; clear hsA
    have Hp2 := Lib.hid p2; clear p2
    have HH := Lib.hid hH; clear hH
    go_loopw [22] (fun i wr => ∃ (k : Nat) (v : Value), k ≤ bs.length ∧ i = .int .i64 k ∧ Below (w1.heap.size + 1) wA wr ∧ w1.heap.size + 2 ≤ wr.heap.size ∧ wr.heap[w1.heap.size + 1]? = some (.cells #[.map (some o), .map (some lo), .map (some li), v, .map none] 62 (0, 0)) ∧ wr.ownsRow (w1.heap.size + 2) 9 1 v k (nameVs bs k)) (fun i _ => bs.length - (intOf i).toNat)
    case atStart => exact ⟨0, _, Nat.zero_le _, rfl, Below.refl _ _, by rw [HsA.out]; exact Nat.le_refl _, HK0.out, World.ownsRow_nil _ _ _ _⟩
    case round =>
      obtain ⟨k, v, hk, rfl, hbl, hsr, hblk, hown⟩ := hrel
      have hallr : Below w1.heap.size w1 wr := HwA.out.trans (hbl.mono (by omega))
      by_cases hlt : k < bs.length
      · obtain ⟨b, off, rfl, hb, g1, g2⟩ := hpb2.cell k hlt
        have d1 := (hallr.cell (p := ⟨b, off + k * 2, none⟩) hb).trans g1
        have d2 := (hallr.cell (p := ⟨b, off + k * 2 + 1, none⟩) hb).trans g2
        have e3 : wr.cell? ⟨w1.heap.size + 1, 3, none⟩ = some v := by rw [cell_of_row wr _ 3 _ _ (0, 0) hblk]; rfl
        have hlb := hpb.len
        have hn1 : w1.heap.size + 1 < wr.heap.size := by omega
        have hn2 : w1.heap.size + 1 < wr.heap.size + 1 := by omega
        have hblk2 : ((wr.alloc (.cells #[.string (nameAt bs k), .string (restAt bs k)] 51)).alloc (.cells #[.string (nameAt bs k)] 9)).heap[w1.heap.size + 1]? = some (.cells #[.map (some o), .map (some lo), .map (some li), v, .map none] 62 (0, 0)) :=
          ((Below.heap_alloc _ _ _ (by simp; omega)).trans (Below.heap_alloc _ _ _ (by omega))).trans hblk
        have Hblk2 := Lib.hid hblk2; clear hblk2
        have hne : some (w1.heap.size + 1) ≠ v.ownBlock := fun e => by have := (hown.lt _ e.symm).1; omega
        have Hne := Lib.hid hne; clear hne
        clear g1 g2
        go_wp2_with (at_builtin; refine wpList_append_lies _ rfl _ _ 59 rfl (w1.heap.size + 2) 9 i0 (.string ⟨#[]⟩) 1 16 Tryd.underlying59 hi hz0 hz1 hz2 rfl (by decide) _ _ _ rfl ((hown.alloc _).alloc _) ⟨wr.heap.size + 1, 0, none⟩ 1 1 [.string (nameAt bs k)] rfl rfl (one_new2 _ _ _ _) (one_one _ rfl) (by decide) (by unfold maxLen; omega) (by omega) (by simp; omega) _ rfl ?_; intro g' cap' w3 hown3 hgrow3 _ _; have hb3 := (hgrow3.block (w1.heap.size + 1) (by simp; omega) Hne.out).trans Hblk2.out; have d3 : w3.cell? ⟨w1.heap.size + 1, 3, none⟩ = some v := (by rw [cell_of_row w3 _ 3 _ _ (0, 0) hb3]; rfl); have f3 : w3.frozen? ⟨w1.heap.size + 1, 3, none⟩ = false := (by simp [World.frozen?, hb3]); have Hb3 := Lib.hid hb3; clear hb3)
        have hs3 := hgrow3.size
        have hown4 := own_setCell (a := ⟨w1.heap.size + 1, 3, none⟩) (u := .slice (some ⟨g', 0, none⟩) (k + 1) cap') hown3 (by simp)
        have hbl4 : Below (w1.heap.size + 1) wA (w3.setCell ⟨w1.heap.size + 1, 3, none⟩ (.slice (some ⟨g', 0, none⟩) (k + 1) cap')) := (((hbl.alloc (by omega) _).alloc (by simp; omega) _).grown hgrow3 (by simp; omega) (fun j hj => by have := (hown.lt j hj).1; omega)).setCell (p := ⟨w1.heap.size + 1, 3, none⟩) (by simp) _
        have hblk4 := heap_setCell_at Hb3.out 3 (.slice (some ⟨g', 0, none⟩) (k + 1) cap')
        go_roundw
        case rel => exact ⟨k + 1, _, by omega, by go_num, hbl4, by simp [World.setCell]; simp at hs3; omega, hblk4, by rw [nameVs_succ]; exact hown4⟩
        case measure => simp [intOf]; omega
      · have hk' : k = bs.length := by omega
        subst hk'
        obtain ⟨n, hn⟩ : ∃ n, bs.length = n + 1 := ⟨bs.length - 1, by have := HV.out.b.lo; omega⟩
        have hown' : wr.ownsRow (w1.heap.size + 2) 9 1 v (n + 1) (nameVs bs (n + 1)) := by rw [← hn]; exact hown
        obtain ⟨g, cap, rfl, hgb, hgw, hcap, hcm, hcells⟩ := own_last hown'
        have hlast := hcells n (.string (lastN bs)) (by rw [nameVs_at (by omega)]; unfold lastN; rw [hn]; rfl)
        have Hn := Lib.hid hn; clear hn
        have HO := Lib.hid hown; clear hown hown' hcells
        have p2r := (hbl.cell (p := ⟨w1.heap.size, 2, none⟩) (by simp)).trans Hp2.out
        obtain ⟨⟨_, _, _, e3, e4⟩, ez⟩ := block5 hblk
        have f4 := ez 4
        have l1 : (0 : Int) ≤ (n : Int) := by omega
        have l2 : (n : Int) < (n : Int) + 1 := by omega
        have hb9 := HV.out.b.hi
        have hn9 := Hn.out
        have l3 : IntKind.i64.wrap (n : Int) = (n : Int) := IntWalk.i64_in _ (by omega)
        have hPr := HP.out.keep hallr
        obtain ⟨fq, K, hK, hq⟩ := hPr.in_
        have HPr := Lib.hid hPr; clear hPr
        have hlsz : (lastN bs).size ≤ 1048576 := (hpb.size (bs.length - 1) (by omega)).1
        have hfl : (flip es).length ≤ 1000 := by rw [flip_length]; have := HV.out.e.hi; omega
        have hn1 : w1.heap.size < wr.heap.size := by omega
        have hn2 : w1.heap.size + 1 < wr.heap.size := by omega
        have Hblk := Lib.hid hblk; clear hblk ez
        have hRr := (hallr.block _ hs1).trans HR.out
        have HRr := Lib.hid hRr; clear hRr
        clear hn9
        go_wp2
        have es4 : wr.cell? ⟨w1.heap.size + 1, 4, none⟩ = some (cellOr wr.drew (w1.heap.size + 1) 4) := cellOr_eq (w := wr.drew) e4
        have hS0 : SC wr w1.heap.size li g n cap o lo (lastN bs) wr.drew := ⟨p2r, e3, hlast, es4, f4, ⟨rfl, rfl, rfl, Nat.le_refl _, fun _ _ _ => rfl⟩, _, Hblk.out⟩
        have HS0 := Lib.hid hS0; clear hS0
        go_region_held3 (fun w' => w'.cell? ⟨w1.heap.size, 2, none⟩ = some (.map (some li)) ∧ w'.cell? ⟨w1.heap.size + 1, 3, none⟩ = some (.slice (some ⟨g, 0, none⟩) (n + 1) cap) ∧ w'.cell? ⟨g, n, none⟩ = some (.string (lastN bs)) ∧ w'.cell? ⟨w1.heap.size + 1, 4, none⟩ = some (cellOr w' (w1.heap.size + 1) 4) ∧ w'.frozen? ⟨w1.heap.size + 1, 4, none⟩ = false ∧ Turns (fun k => k = w1.heap.size + 1) wr w' ∧
            ∃ u, w'.heap[w1.heap.size + 1]? = some (.cells #[.map (some o), .map (some lo), .map (some li), .slice (some ⟨g, 0, none⟩) (n + 1) cap, u] 62 (0, 0)))
          (first
            | exact HS0.out
            | exact SC.call (by assumption) hbN hn2 hgw
            | exact SC.store (by assumption) hgb _)
          (first
            | (go_at_call 47; refine (distances_any _ li fq (flip es) K (lastN bs) ?_ ?_ hlsz hfl).mono ?_; (exact hK.below_ (Below.refl _ _).drew hq); (exact hq); rintro e wN ⟨hbN, f, nF, D, rfl, hfb, hM, hF, hbd⟩))
        have hSN : SC wr w1.heap.size li g n cap o lo (lastN bs) wN := SC.call HS0.out hbN hn2 hgw
        have hSN' := hSN
        obtain ⟨_, _, _, _, _, hT, u, hbN'⟩ := hSN
        obtain ⟨_, _, _, _, _, hT4, _, _⟩ := SC.store hSN' hgb (.map (some f))
        have h8 : (wN.setCell ⟨w1.heap.size + 1, 4, none⟩ (.map (some f))).heap[w1.heap.size + 1]? = some (.cells #[.map (some o), .map (some lo), .map (some li), .slice (some ⟨g, 0, none⟩) (n + 1) cap, .map (some f)] 62 (0, 0)) := by simpa using heap_setCell_at hbN' 4 (.map (some f))
        have hR4 : (wN.setCell ⟨w1.heap.size + 1, 4, none⟩ (.map (some f))).heap[w.heap.size + 1]? = some (.cells #[.map none, .map none, .map none, .slice none 0 0, .map none] 62 (0, 0)) := (hT4.block _ (by omega) (by omega)).trans HRr.out
        have hfb' : wr.heap.size ≤ f := hfb
        have hC4 : CourseAt (wN.setCell ⟨w1.heap.size + 1, 4, none⟩ (.map (some f))) o lo li (.slice (some ⟨g, 0, none⟩) (n + 1) cap) f bs es D := by
          refine ⟨HPr.out.turnsC Hblk.out (by decide) hT4, own_base (own_turns HO.out (by omega) hT4) (Nat.zero_le _), ⟨nF, hM.setCell (by simp; omega) _⟩, hF, fun s k h => ?_⟩
          have := hbd s k h
          rwa [flip_length] at this
        have hW4 : Below w.heap.size w (wN.setCell ⟨w1.heap.size + 1, 4, none⟩ (.map (some f))) := (hall.trans (hallr.mono hz)).trans (hT4.below (by omega) (fun k e => by rw [e]; omega))
        have HC := Lib.hid (And.intro hC4 hW4)
        have HR4 := Lib.hid hR4
        have hm := heap_set5 hR4 (.map (some o)) (.map (some lo)) (.map (some li)) (.slice (some ⟨g, 0, none⟩) (n + 1) cap) (.map (some f))
        obtain ⟨⟨m0, m1, m2, m3, m4⟩, _⟩ := block5 hm
        have HM := Lib.hid (And.intro m0 (And.intro m1 (And.intro m2 (And.intro m3 m4))))
        obtain ⟨⟨b0, b1, b2, b3, b4⟩, bf⟩ := block5 h8
        obtain ⟨⟨t0, t1, t2, t3, t4⟩, tf⟩ := block5 hR4
        have f0 := tf 0
        have f1 := tf 1
        have f2 := tf 2
        have f3 := tf 3
        have f4' := tf 4
        have hnn : w.heap.size + 1 ≠ w1.heap.size + 1 := by omega
        clear hC4 hW4 hR4 hm m0 m1 m2 m3 m4 bf tf h8 hbN' hT hT4 hSN' hM hF hbd hfb hfb' hbN
        clear e3 e4 f4 es4 p2r hlast r0 r1 r2 r3 r4 z0 z1 z2 z3 z4
        generalize wN.setCell ⟨w1.heap.size + 1, 4, none⟩ (.map (some f)) = wZ at *
        have hcl : cellOr wZ (w1.heap.size + 1) 4 = .map (some f) := by unfold cellOr; rw [b4]; rfl
        simp only [hcl] at *
        go_wp2
        refine bodyPost_ret (v := .tuple #[.agg #[.map (some o), .map (some lo), .map (some li), .slice (some ⟨g, 0, none⟩) (n + 1) cap, .map (some f)], .bool true]) (by simp [results, Tryd.results23, go_sem, HM.out.1, HM.out.2.1, HM.out.2.2.1, HM.out.2.2.2.1, HM.out.2.2.2.2]) rfl ?_
        exact ⟨below_set5 HC.out.2 (by omega) _ _ _ _ _, .inl ⟨HV.out, o, lo, li, _, f, D, rfl, HC.out.1.set5 HR4.out _ _ _ _ _⟩⟩
  · have HV := Lib.hid hv
    clear hv
    have hm := (Below.heap_alloc (((((w1.setCell ⟨w.heap.size + 1, 0, none⟩ (.map none)).setCell ⟨w.heap.size + 1, 1, none⟩ (.map none)).setCell ⟨w.heap.size + 1, 2, none⟩ (.map none)).setCell ⟨w.heap.size + 1, 3, none⟩ (.slice none 0 0)).setCell ⟨w.heap.size + 1, 4, none⟩ (.map none)) (.cells #[.map none, .map none, .map none] 58) (w.heap.size + 1) (by simp [World.setCell]; omega)).trans (heap_set5 HR.out (.map none) (.map none) (.map none) (.slice none 0 0) (.map none))
    obtain ⟨⟨m0, m1, m2, m3, m4⟩, _⟩ := block5 hm
    have HM := Lib.hid (And.intro m0 (And.intro m1 (And.intro m2 (And.intro m3 m4))))
    clear hm m0 m1 m2 m3 m4
    go_wp2
    refine bodyPost_ret (v := .tuple #[.agg #[.map none, .map none, .map none, .slice none 0 0, .map none], .bool false]) (by simp [results, Tryd.results23, go_sem, HM.out.1, HM.out.2.1, HM.out.2.2.1, HM.out.2.2.2.1, HM.out.2.2.2.2]) rfl ?_
    exact ⟨(below_set5 hall (by omega) _ _ _ _ _).alloc (by simp [World.setCell]; omega) _, .inr ⟨HV.out, rfl⟩⟩
end Go.Proofs.YtfmhcjhcmoniaaaDoor
