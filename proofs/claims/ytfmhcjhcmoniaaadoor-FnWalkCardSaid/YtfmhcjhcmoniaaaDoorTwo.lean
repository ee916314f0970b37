/-
  A program in a block of its own: two cells; rows of pairs appended to; texts' first letters. Conditions: none.
-/
import Derived.Test.YtfmhcjhcmoniaaaDoorTidyC
import Derived.Test.YtfmhcjhcmoniaaaDoorRows4
import Derived.Lib.OwnKind
namespace Go.Proofs.YtfmhcjhcmoniaaaDoor
open Go.RowKit Go.Maps

/-- a program's block -/
abbrev Two (w : World) (R : Nat) (x y : Value) : Prop := w.heap[R]? = some (.cells #[x, y] 32 (0, 0))
theorem Two.cells {w : World} {R : Nat} {x y : Value} (h : Two w R x y) : w.cell? ⟨R, 0, none⟩ = some x ∧ w.cell? ⟨R, 1, none⟩ = some y ∧ w.frozen? ⟨R, 0, none⟩ = false ∧ w.frozen? ⟨R, 1, none⟩ = false ∧ R < w.heap.size :=
  ⟨by simp [World.cell?, h], by simp [World.cell?, h], by simp [World.frozen?, h], by simp [World.frozen?, h], (Array.getElem?_eq_some_iff.1 h).1⟩
theorem Two.set0 {w : World} {R : Nat} {x y : Value} (h : Two w R x y) (q : Value) : Two (w.setCell ⟨R, 0, none⟩ q) R q y := by
  unfold Two at h ⊢; simp [World.setCell, Array.getElem?_modify, h]
theorem Two.set1 {w : World} {R : Nat} {x y : Value} (h : Two w R x y) (q : Value) : Two (w.setCell ⟨R, 1, none⟩ q) R x q := by
  unfold Two at h ⊢; simp [World.setCell, Array.getElem?_modify, h]
theorem Two.far {w : World} {R : Nat} {x y : Value} (h : Two w R x y) {p : Addr} (hp : R ≠ p.block) (u : Value) : Two (w.setCell p u) R x y := (Below.heap_setCell w p u R hp).trans h
theorem Two.of_cells {w : World} {R : Nat} {x y : Value} (h : Two w R x y) {w' : World} (e : w'.heap[R]? = w.heap[R]?) : Two w' R x y := e.trans h
theorem Two.reads {w : World} {R : Nat} {x y : Value} (h : Two w R x y) (a b : Value) (q : Obj) : (((w.setCell ⟨R, 0, none⟩ a).setCell ⟨R, 1, none⟩ b).alloc q).cell? ⟨R, 0, none⟩ = some a ∧ (((w.setCell ⟨R, 0, none⟩ a).setCell ⟨R, 1, none⟩ b).alloc q).cell? ⟨R, 1, none⟩ = some b := by
  have h2 : Two ((w.setCell ⟨R, 0, none⟩ a).setCell ⟨R, 1, none⟩ b) R a b := (h.set0 a).set1 b
  have h3 : Two (((w.setCell ⟨R, 0, none⟩ a).setCell ⟨R, 1, none⟩ b).alloc q) R a b := (Below.heap_alloc _ _ _ h2.cells.2.2.2.2).trans h2
  exact ⟨h3.cells.1, h3.cells.2.1⟩
/-- a row's block is no block of another kind -/
theorem own_neK {w : World} {B : Nat} {e t : TypeId} {size n : Nat} {v : Value} {xs : List Value} (h : w.ownsRow B e size v n xs) {R : Nat} {c : Array Value} {fz : Nat × Nat} (hR : w.heap[R]? = some (.cells c t fz)) (hne : t ≠ e) : v.ownBlock ≠ some R := by
  intro he
  obtain ⟨c', fz', hh⟩ := Lib.ownsRow_kind h R he
  rw [hR] at hh
  simp only [Option.some.injEq, Obj.cells.injEq] at hh
  exact hne hh.2.1
theorem two_one (a b : Value) (ha : a.oneCell' = true) (hb : b.oneCell' = true) : ∀ u ∈ [a, b], u.oneCell' = true := by
  intro u hu
  simp only [List.mem_cons, List.not_mem_nil, or_false] at hu
  rcases hu with rfl | rfl <;> assumption
theorem cell_two_new (w : World) (a b : Value) (t : TypeId) : ∀ j u, [a, b][j]? = some u → (w.alloc (.cells #[a, b] t)).cell? ((⟨w.heap.size, 0, none⟩ : Addr).add j) = some u := by
  intro j u hu
  have hj : j < 2 := (List.getElem?_eq_some_iff.1 hu).1
  have hh := heap_alloc_new w (.cells #[a, b] t)
  have hadd : (⟨w.heap.size, 0, none⟩ : Addr).add j = ⟨w.heap.size, j, none⟩ := by unfold Addr.add; split <;> simp_all
  rw [hadd]
  simp only [World.cell?, hh]
  match j, hj with
  | 0, _ => simpa using hu
  | 1, _ => simpa using hu
theorem alloc3_old (w : World) (b i : Nat) (o1 o2 o3 : Obj) (h : b < w.heap.size) : (((w.alloc o1).alloc o2).alloc o3).cell? ⟨b, i, none⟩ = w.cell? ⟨b, i, none⟩ ∧ (((w.alloc o1).alloc o2).alloc o3).frozen? ⟨b, i, none⟩ = w.frozen? ⟨b, i, none⟩ := by
  have hb : Below w.heap.size w (((w.alloc o1).alloc o2).alloc o3) := (((Below.refl _ _).alloc (Nat.le_refl _) _).alloc (by simp) _).alloc (by simp; omega) _
  exact ⟨hb.cell (p := ⟨b, i, none⟩) h, hb.frozen (p := ⟨b, i, none⟩) h⟩
/-- 's[:1]', 's[1:]' -/
theorem run_head (s : ByteArray) (hs : 0 < s.size) (W : World) : (Instr.slice 9 (.string s) none (some (.int .i64 1)) none).run Tryd.prog W = .ok (.string (s.extract 0 1)) W := by
  have h1 : ¬ ((s.size : Int) < 1) := by omega
  simp [Instr.slice, Instr.sliceBounds, Instr.sliceBound, run_underlying Tryd.underlying9, asIntOf, h1]
theorem run_tail (s : ByteArray) (hs : 0 < s.size) (W : World) : (Instr.slice 9 (.string s) (some (.int .i64 1)) none none).run Tryd.prog W = .ok (.string (s.extract 1 s.size)) W := by
  have h1 : ¬ ((s.size : Int) < 1) := by omega
  simp [Instr.slice, Instr.sliceBounds, Instr.sliceBound, run_underlying Tryd.underlying9, asIntOf, h1]
theorem cellsOf_snoc (l : List Pr) (p : Pr) : cellsOf (l ++ [p]) = cellsOf l ++ [.string p.1, .string p.2] := by
  induction l with
  | nil => rfl
  | cons x r ih => simp only [List.cons_append, cellsOf, ih]
/-- a row of pairs, read -/
theorem own_pairs {w : World} {B : Nat} {e : TypeId} {v : Value} {l : List Pr} {n : Nat} (hn : n = l.length) (h : w.ownsRow B e 2 v n (cellsOf l)) (hl : l.length ≤ 1048576) (hs : ∀ i, i < l.length → (nameAt l i).size ≤ 1048576 ∧ (restAt l i).size ≤ 1048576) :
    ∃ a c, v = .slice a l.length c ∧ PairsAt w a l := by
  subst hn
  obtain ⟨h1, ⟨rfl, h0⟩ | ⟨g, cap, cur, rfl, hg, hh, hc, hm, hcs, ht⟩⟩ := h
  · exact ⟨none, 0, by rw [h0], ⟨hl, hs, fun i hi => by omega⟩⟩
  · refine ⟨_, _, rfl, hl, hs, fun i hi => ⟨g, 0, rfl, (Array.getElem?_eq_some_iff.1 hh).1, ?_, ?_⟩⟩
    · have := cellsOf_even l i hi
      rw [← ht, List.getElem?_take, if_pos (by omega)] at this
      rw [Nat.zero_add, cell_of_row w g _ _ _ (0, 0) hh]
      simpa using this
    · have := cellsOf_odd l i hi
      rw [← ht, List.getElem?_take, if_pos (by omega)] at this
      rw [Nat.zero_add, cell_of_row w g _ _ _ (0, 0) hh]
      simpa using this
end Go.Proofs.YtfmhcjhcmoniaaaDoor
