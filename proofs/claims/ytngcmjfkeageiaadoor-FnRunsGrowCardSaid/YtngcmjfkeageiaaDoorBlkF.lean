/-
  The program's chapter 3: a block folded by its letters, and termBlockOf. Conditions: at most 1048576 blocks and edges, each text at most as many bytes; the errors' variables hold errors.
-/
import Derived.Test.YtngcmjfkeageiaaDoorBlkI
import Derived.Test.YtngcmjfkeageiaaDoorBlkT
namespace Go.Proofs.YtngcmjfkeageiaaDoor
open Go.RowKit Go.Maps

theorem row_cell3 {w : World} {v : Value} {xs : List Value} (h : RowAt w v xs) {k : Nat} (hk : k < xs.length) : ∃ g cap, v = .slice (some ⟨g, 0, none⟩) xs.length cap ∧ g < w.heap.size ∧ w.cell? ⟨g, k, none⟩ = xs[k]? := by
  obtain ⟨h1, ⟨_, h0⟩ | ⟨g, cap, cur, e1, _, e3, _, _, e6, e7⟩⟩ := h
  · omega
  · refine ⟨g, cap, e1, (Array.getElem?_eq_some_iff.1 e3).1, ?_⟩
    have hx : (cur.toList.take (xs.length * 1))[k]? = xs[k]? := by rw [e7]
    rw [List.getElem?_take, if_pos (by omega)] at hx
    rw [← hx]
    simp [World.cell?, e3]
theorem row_len3 {w : World} {v : Value} {xs : List Value} (h : RowAt w v xs) : ∃ a cap, v = .slice a xs.length cap := by
  obtain ⟨h1, ⟨e, h0⟩ | ⟨g, cap, cur, e1, _⟩⟩ := h
  · exact ⟨none, 0, by rw [e, h0]⟩
  · exact ⟨_, cap, e1⟩
theorem opVals_at3 {s : ByteArray} {k : Nat} (hk : k < s.size) : (opVals s s.size)[k]? = some (opVal (byteAt s k)) := by simp [opVals, hk]

set_option maxRecDepth 100000 in
theorem emptyBlock_any (x : ByteArray) (t : Int) (w : World) : Calls Tryd.prog 148 #[.string x, .int .u8 t] w fun e w' => e = .returned (.agg #[.int .u8 4, .string x, .int .u8 t, .int .i64 0]) ∧ Below w.heap.size w w' := by
  go_enter Tryd.func148, Tryd.ntmps148
  go_wp2
  refine bodyPost_ret (v := .agg #[.int .u8 4, .string x, .int .u8 t, .int .i64 0]) (by simp [results, Tryd.results148, go_sem]) rfl ?_
  exact ⟨rfl, (Below.refl _ _).alloc (Nat.le_refl _) _⟩

theorem block4 {w : World} {R : Nat} {x0 x1 x2 x3 : Value} {t : TypeId} (h : w.heap[R]? = some (.cells #[x0, x1, x2, x3] t (0, 0))) :
    (w.cell? ⟨R, 0, none⟩ = some x0 ∧ w.cell? ⟨R, 1, none⟩ = some x1 ∧ w.cell? ⟨R, 2, none⟩ = some x2 ∧ w.cell? ⟨R, 3, none⟩ = some x3) ∧ w.frozen? ⟨R, 0, none⟩ = false ∧ w.frozen? ⟨R, 1, none⟩ = false ∧ w.frozen? ⟨R, 2, none⟩ = false ∧ w.frozen? ⟨R, 3, none⟩ = false :=
  ⟨⟨by rw [cell_of_row w R 0 _ _ (0, 0) h]; rfl, by rw [cell_of_row w R 1 _ _ (0, 0) h]; rfl, by rw [cell_of_row w R 2 _ _ (0, 0) h]; rfl, by rw [cell_of_row w R 3 _ _ (0, 0) h]; rfl⟩, by simp [World.frozen?, h], by simp [World.frozen?, h], by simp [World.frozen?, h], by simp [World.frozen?, h]⟩
theorem heap_setCell_at4 {w : World} {R : Nat} {cs : Array Value} {t : TypeId} {fr : Nat × Nat} (h : w.heap[R]? = some (.cells cs t fr)) (i : Nat) (u : Value) : (w.setCell ⟨R, i, none⟩ u).heap[R]? = some (.cells (cs.setIfInBounds i u) t fr) := by
  simp [World.setCell, Array.getElem?_modify, h]
theorem heap_set4 {w : World} {R : Nat} {x0 x1 x2 x3 : Value} {t : TypeId} (h : w.heap[R]? = some (.cells #[x0, x1, x2, x3] t (0, 0))) (a b c d : Value) :
    ((((w.setCell ⟨R, 0, none⟩ a).setCell ⟨R, 1, none⟩ b).setCell ⟨R, 2, none⟩ c).setCell ⟨R, 3, none⟩ d).heap[R]? = some (.cells #[a, b, c, d] t (0, 0)) := by
  have h1 := heap_setCell_at4 h 0 a
  have h2 := heap_setCell_at4 h1 1 b
  have h3 := heap_setCell_at4 h2 2 c
  have h4 := heap_setCell_at4 h3 3 d
  rw [h4]; rfl
theorem heap_set4_ne {w : World} {R k : Nat} (hk : k ≠ R) (a b c d : Value) : ((((w.setCell ⟨R, 0, none⟩ a).setCell ⟨R, 1, none⟩ b).setCell ⟨R, 2, none⟩ c).setCell ⟨R, 3, none⟩ d).heap[k]? = w.heap[k]? := by
  rw [Below.heap_setCell _ _ _ _ hk, Below.heap_setCell _ _ _ _ hk, Below.heap_setCell _ _ _ _ hk, Below.heap_setCell _ _ _ _ hk]
theorem below_set4 {w : World} {B R : Nat} {w0 : World} (h : Below B w0 w) (hR : B ≤ R) (a b c d : Value) : Below B w0 ((((w.setCell ⟨R, 0, none⟩ a).setCell ⟨R, 1, none⟩ b).setCell ⟨R, 2, none⟩ c).setCell ⟨R, 3, none⟩ d) :=
  (((h.setCell (p := ⟨R, 0, none⟩) hR _).setCell (p := ⟨R, 1, none⟩) hR _).setCell (p := ⟨R, 2, none⟩) hR _).setCell (p := ⟨R, 3, none⟩) hR _

set_option maxRecDepth 100000 in
set_option maxHeartbeats 1600000 in
theorem fold_any (w : World) (v : Value) (s x : ByteArray) (t : Nat) (ht : 120 ≤ t ∧ t ≤ 122) (hs : s.size ≤ 1000) (hop : ∀ i, i < s.size → opB (byteAt s i) = true) (hr : RowAt w v (opVals s s.size)) :
    Calls Tryd.prog 173 #[v, .agg #[.int .u8 4, .string x, .int .u8 (t : Int), .int .i64 0], .func (.func 174) #[] #[]] w fun e w' => e = .returned (.agg #[.int .u8 (fv (fsA s t s.size)), .string x, .int .u8 (t : Int), .int .i64 ((fsA s t s.size).n : Int)]) ∧ Below w.heap.size w w' := by
  obtain ⟨a, cap, rfl⟩ := row_len3 hr
  have hl := opVals_length s s.size
  rw [hl] at hr ⊢
  have HR := Lib.hid hr; clear hr
  have HO := Lib.hid (And.intro ht hop); clear ht hop
  have hA0 : ((w.alloc (.cells #[.int .u8 4, .string x, .int .u8 (t : Int), .int .i64 0] 129)).alloc (.cells #[.int .u8 0, .string ⟨#[]⟩, .int .u8 0, .int .i64 0] 129)).heap[w.heap.size]? = some (.cells #[.int .u8 (fv (fsA s t 0)), .string x, .int .u8 (t : Int), .int .i64 ((fsA s t 0).n : Int)] 129 (0, 0)) := by
    rw [((Below.refl _ _).alloc (Nat.le_refl _) _ : Below (w.alloc (.cells #[.int .u8 4, .string x, .int .u8 (t : Int), .int .i64 0] 129)).heap.size (w.alloc (.cells #[.int .u8 4, .string x, .int .u8 (t : Int), .int .i64 0] 129)) _).block w.heap.size (by simp)]
    exact heap_alloc_new w _
  have hA1 : ((w.alloc (.cells #[.int .u8 4, .string x, .int .u8 (t : Int), .int .i64 0] 129)).alloc (.cells #[.int .u8 0, .string ⟨#[]⟩, .int .u8 0, .int .i64 0] 129)).heap[w.heap.size + 1]? = some (.cells #[.int .u8 0, .string ⟨#[]⟩, .int .u8 0, .int .i64 0] 129 (0, 0)) := by
    have := heap_alloc_new (w.alloc (.cells #[.int .u8 4, .string x, .int .u8 (t : Int), .int .i64 0] 129)) (.cells #[.int .u8 0, .string ⟨#[]⟩, .int .u8 0, .int .i64 0] 129)
    simpa using this
  have HA := Lib.hid (And.intro hA0 hA1); clear hA0 hA1
  go_enter Tryd.func173, Tryd.ntmps173
  go_wp2
  go_loopw [11] (fun i wr => ∃ k : Nat, k ≤ s.size ∧ i = .int .i64 k ∧ wr.heap[w.heap.size]? = some (.cells #[.int .u8 (fv (fsA s t k)), .string x, .int .u8 (t : Int), .int .i64 ((fsA s t k).n : Int)] 129 (0, 0)) ∧ wr.heap[w.heap.size + 1]? = some (.cells #[.int .u8 0, .string ⟨#[]⟩, .int .u8 0, .int .i64 0] 129 (0, 0)) ∧ Below w.heap.size w wr) (fun i _ => s.size - (intOf i).toNat)
  case atStart => exact ⟨0, Nat.zero_le _, rfl, HA.out.1, HA.out.2, ((Below.refl _ _).alloc (Nat.le_refl _) _).alloc (by simp) _⟩
  case round =>
    obtain ⟨k, hk, rfl, hb0, hb1, hbl⟩ := hrel
    have hsz := hbl.size
    have hz1 := (Array.getElem?_eq_some_iff.1 hb1).1
    obtain ⟨⟨x0, x1, x2, x3⟩, f0, f1, f2, f3⟩ := block4 hb0
    have HB := Lib.hid (And.intro hb0 (And.intro hb1 (And.intro hbl hz1))); clear hb0
    by_cases hlt : k < s.size
    · obtain ⟨g, cap', e, hg, hc⟩ := row_cell3 HR.out (k := k) (by omega)
      rw [hl] at e
      simp only [Value.slice.injEq, true_and] at e
      obtain ⟨rfl, rfl⟩ := e
      rw [opVals_at3 hlt] at hc
      have d1 := (hbl.cell (p := ⟨g, k, none⟩) hg).trans hc
      clear hc hb1 hbl f0 f1 f2 f3
      have hkn := fsA_n s t k
      go_wp2_with fail
      refine (take_any (fsA s t k) x t (byteAt s k) HO.out.1 (HO.out.2 k hlt) (by omega) _).mono ?_
      rintro e w2 ⟨rfl, hb2⟩
      rw [← fsA_succ]
      have hc0 := (hb2.block w.heap.size (by have := HB.out.2.2.2; omega)).trans HB.out.1
      have hc1 := (hb2.block (w.heap.size + 1) (by have := HB.out.2.2.2; omega)).trans HB.out.2.1
      obtain ⟨⟨y0, y1, y2, y3⟩, f0, f1, f2, f3⟩ := block4 hc0
      have hbl2 := HB.out.2.2.1.trans (hb2.mono hsz)
      have HC := Lib.hid (And.intro (heap_set4 hc0 (.int .u8 (fv (fsA s t (k + 1)))) (.string x) (.int .u8 (t : Int)) (.int .i64 ((fsA s t (k + 1)).n : Int))) (And.intro ((heap_set4_ne (R := w.heap.size) (k := w.heap.size + 1) (by omega) (.int .u8 (fv (fsA s t (k + 1)))) (.string x) (.int .u8 (t : Int)) (.int .i64 ((fsA s t (k + 1)).n : Int))).trans hc1) (below_set4 hbl2 (Nat.le_refl _) (.int .u8 (fv (fsA s t (k + 1)))) (.string x) (.int .u8 (t : Int)) (.int .i64 ((fsA s t (k + 1)).n : Int)))))
      clear hc0 hc1 hbl2 hb2 d1 x0 x1 x2 x3
      go_wp2
      go_roundw
      case rel => exact ⟨k + 1, by omega, by go_num, HC.out.1, HC.out.2.1, HC.out.2.2⟩
      case measure => simp [intOf]; omega
    · obtain rfl : k = s.size := by omega
      obtain ⟨⟨r0, r1, r2, r3⟩, q0, q1, q2, q3⟩ := block4 hb1
      clear hb1 hbl f0 f1 f2 f3
      go_wp2
      refine bodyPost_ret (v := .agg #[.int .u8 (fv (fsA s t s.size)), .string x, .int .u8 (t : Int), .int .i64 ((fsA s t s.size).n : Int)]) (by simp [results, Tryd.results173, go_sem, r0, r1, r2, r3]) rfl ?_
      exact ⟨rfl, below_set4 HB.out.2.2.1 (by omega) _ _ _ _⟩
end Go.Proofs.YtngcmjfkeageiaaDoor
