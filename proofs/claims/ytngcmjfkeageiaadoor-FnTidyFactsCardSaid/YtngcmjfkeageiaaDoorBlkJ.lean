/-
  The program's chapter 3: seenBlock, isTerm and termBlockOf. Conditions: at most 1048576 blocks and edges, each text at most as many bytes; the errors' variables hold errors.
-/
import Derived.Test.YtngcmjfkeageiaaDoorBlkF
import Derived.StillTailTactics
namespace Go.Proofs.YtngcmjfkeageiaaDoor
open Go.RowKit Go.Maps

theorem RowAt.keepB {w w' : World} {v : Value} {xs : List Value} (h : RowAt w v xs) (hb : Below w.heap.size w w') : RowAt w' v xs :=
  h.same fun k _ _ _ hk => hb.block k (Array.getElem?_eq_some_iff.1 hk).1

set_option maxRecDepth 100000 in
theorem seenBlock_any (w : World) (v : Value) (s x : ByteArray) (t : Nat) (ht : 120 ≤ t ∧ t ≤ 122) (hs : s.size ≤ 1000) (hop : ∀ i, i < s.size → opB (byteAt s i) = true) (hr : RowAt w v (opVals s s.size)) :
    Calls Tryd.prog 144 #[.string x, v, .int .u8 (t : Int)] w fun e w' => e = .returned (.agg #[.int .u8 (fv (fsA s t s.size)), .string x, .int .u8 (t : Int), .int .i64 ((fsA s t s.size).n : Int)]) ∧ Below w.heap.size w w' := by
  obtain ⟨a, cap, rfl⟩ := row_len3 hr
  have H1 := Lib.hid (show Below w.heap.size w (w.alloc (.cells #[.int .u8 0, .string ⟨#[]⟩, .int .u8 0, .int .i64 0] 129)) from (Below.refl _ _).alloc (Nat.le_refl _) _)
  have HR := Lib.hid hr; clear hr
  have HO := Lib.hid hop; clear hop
  have HH := Lib.hid (show (w.alloc (.cells #[.int .u8 0, .string ⟨#[]⟩, .int .u8 0, .int .i64 0] 129)).heap[w.heap.size]? = some (.cells #[.int .u8 0, .string ⟨#[]⟩, .int .u8 0, .int .i64 0] 129 (0, 0)) from heap_alloc_new w _)
  go_enter Tryd.func144, Tryd.ntmps144
  go_wp2_with fail
  refine (emptyBlock_any x (t : Int) _).mono ?_
  rintro e w1 ⟨rfl, hb1⟩
  go_wp2_with fail
  refine (fold_any w1 _ s x t ht hs HO.out (RowAt.keepB HR.out (H1.out.trans (hb1.mono (by simp))))).mono ?_
  rintro e w2 ⟨rfl, hb2⟩
  have hz1 := hb1.size
  have hz : w.heap.size < w1.heap.size := by simp at hz1; omega
  have hblk := (hb2.block w.heap.size hz).trans ((hb1.block w.heap.size (by simp)).trans HH.out)
  obtain ⟨⟨r0, r1, r2, r3⟩, q0, q1, q2, q3⟩ := block4 hblk
  have HZ := Lib.hid (show Below w.heap.size w w2 from (H1.out.trans (hb1.mono (by simp))).trans (hb2.mono (by omega)))
  clear hb1 hb2 hblk
  go_wp2
  refine bodyPost_ret (v := .agg #[.int .u8 (fv (fsA s t s.size)), .string x, .int .u8 (t : Int), .int .i64 ((fsA s t s.size).n : Int)]) (by simp [results, Tryd.results144, go_sem, r0, r1, r2, r3]) rfl ?_
  exact ⟨rfl, below_set4 HZ.out (Nat.le_refl _) _ _ _ _⟩

set_option maxRecDepth 100000 in
theorem isTerm_any (s : ByteArray) (w : World) :
    Calls Tryd.prog 73 #[.string s] w fun e w' => e = .returned (.bool (isTm s)) ∧ w = w' := by
  cases h : isTm s
  · have hx : (s.toList == [120]) = false := by
      rw [show ([120] : List UInt8) = (⟨#[120]⟩ : ByteArray).toList from by rw [ByteArray.toList_eq], toList_eq_iff]
      exact decide_eq_false fun e => by rw [isTm_iff.2 (.inl e)] at h; cases h
    have hy : (s.toList == [121]) = false := by
      rw [show ([121] : List UInt8) = (⟨#[121]⟩ : ByteArray).toList from by rw [ByteArray.toList_eq], toList_eq_iff]
      exact decide_eq_false fun e => by rw [isTm_iff.2 (.inr (.inl e))] at h; cases h
    have hz : (s.toList == [122]) = false := by
      rw [show ([122] : List UInt8) = (⟨#[122]⟩ : ByteArray).toList from by rw [ByteArray.toList_eq], toList_eq_iff]
      exact decide_eq_false fun e => by rw [isTm_iff.2 (.inr (.inr e))] at h; cases h
    clear h
    go_enter Tryd.func73, Tryd.ntmps73
    go_wp2
    go_ret
    exact ⟨rfl, rfl⟩
  · rcases isTm_iff.1 h with rfl | rfl | rfl
    all_goals
      clear h
      go_enter Tryd.func73, Tryd.ntmps73
      go_wp2
      go_ret
      exact ⟨rfl, rfl⟩
theorem isTerm_lit (s : ByteArray) (b : Bool) (h : isTm s = b) (w : World) :
    Calls Tryd.prog 73 #[.string s] w fun e w' => e = .returned (.bool b) ∧ w = w' :=
  (isTerm_any s w).mono fun e w' k => ⟨by rw [k.1, h], k.2⟩
theorem set4_reads {w : World} {R : Nat} {x0 x1 x2 x3 : Value} {t : TypeId} (h : w.heap[R]? = some (.cells #[x0, x1, x2, x3] t (0, 0))) (a b c d : Value) (o : Obj) :
    (((((w.setCell ⟨R, 0, none⟩ a).setCell ⟨R, 1, none⟩ b).setCell ⟨R, 2, none⟩ c).setCell ⟨R, 3, none⟩ d).alloc o).cell? ⟨R, 0, none⟩ = some a ∧ (((((w.setCell ⟨R, 0, none⟩ a).setCell ⟨R, 1, none⟩ b).setCell ⟨R, 2, none⟩ c).setCell ⟨R, 3, none⟩ d).alloc o).cell? ⟨R, 1, none⟩ = some b ∧
      (((((w.setCell ⟨R, 0, none⟩ a).setCell ⟨R, 1, none⟩ b).setCell ⟨R, 2, none⟩ c).setCell ⟨R, 3, none⟩ d).alloc o).cell? ⟨R, 2, none⟩ = some c ∧ (((((w.setCell ⟨R, 0, none⟩ a).setCell ⟨R, 1, none⟩ b).setCell ⟨R, 2, none⟩ c).setCell ⟨R, 3, none⟩ d).alloc o).cell? ⟨R, 3, none⟩ = some d := by
  have h4 := heap_set4 h a b c d
  have hb : Below ((((w.setCell ⟨R, 0, none⟩ a).setCell ⟨R, 1, none⟩ b).setCell ⟨R, 2, none⟩ c).setCell ⟨R, 3, none⟩ d).heap.size ((((w.setCell ⟨R, 0, none⟩ a).setCell ⟨R, 1, none⟩ b).setCell ⟨R, 2, none⟩ c).setCell ⟨R, 3, none⟩ d) (((((w.setCell ⟨R, 0, none⟩ a).setCell ⟨R, 1, none⟩ b).setCell ⟨R, 2, none⟩ c).setCell ⟨R, 3, none⟩ d).alloc o) := (Below.refl _ _).alloc (Nat.le_refl _) _
  exact (block4 ((hb.block R (Array.getElem?_eq_some_iff.1 h4).1).trans h4)).1

end Go.Proofs.YtngcmjfkeageiaaDoor
