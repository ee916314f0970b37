/-
  finish: the shortest way to the exit behind a way. Conditions: a course of a valid program.
-/
import Derived.Test.YtfmhcjhcmoniaaaDoorNearer
namespace Go.Proofs.YtfmhcjhcmoniaaaDoor
open Go.RowKit Go.Maps

/-- m steps behind a way that ends at x, from which the exit is k steps off -/
structure FinAt (es : List Pr) (D : ByteArray → Option Nat) (way x : ByteArray) (k m : Nat) (t : ByteArray) : Prop where
  le : m ≤ k
  size : t.size = way.size + m
  ex : ∃ l, t = way ++ cat l ∧ Ch es D x l (ch t (way.size + m - 1)) ∧ D (ch t (way.size + m - 1)) = some (k - m)
theorem cat_app (a b : List ByteArray) : cat (a ++ b) = cat a ++ cat b := by
  apply bytes_ext2
  rw [cat_flat, ByteArray.data_append, Array.toList_append, cat_flat, cat_flat]
  simp
theorem ch_app_last {t y : ByteArray} {n : Nat} (ht : t.size = n) (hy : y.size = 1) : ch (t ++ y) n = y := by
  apply bytes_ext2
  have h1 : t.data.toList.length = n := by simpa using ht
  have h2 : y.data.toList.length = 1 := by simpa using hy
  unfold ch
  rw [ByteArray.data_extract, Array.toList_extract, ByteArray.data_append, Array.toList_append]
  simp [← h1]
  exact List.take_of_length_le (by omega)
theorem FinAt.start {es : List Pr} {D : ByteArray → Option Nat} {way x : ByteArray} {k n : Nat} (hw : way.size = n + 1) (hx : ch way n = x) (hd : D x = some k) : FinAt es D way x k 0 way where
  le := Nat.zero_le _
  size := rfl
  ex := ⟨[], by apply bytes_ext2; rw [ByteArray.data_append, Array.toList_append, cat_flat]; simp, by rw [hw]; exact hx.symm, by rw [hw]; show D (ch way n) = _; rw [hx]; simpa using hd⟩
theorem FinAt.next {es : List Pr} {D : ByteArray → Option Nat} {z way x t y : ByteArray} {k m n : Nat} (hw : way.size = n + 1) (hF : Far (flip es) z D) (h : FinAt es D way x k m t) (hm : m < k) (hy : y.size = 1) (hN : Near es D (ch t (n + m)) y) : FinAt es D way x k (m + 1) (t ++ y) where
  le := hm
  size := by rw [ByteArray.size_append, h.size, hy]; omega
  ex := by
    obtain ⟨l, e, hc, hd⟩ := h.ex
    have e1 : way.size + m - 1 = n + m := by omega
    have e2 : way.size + (m + 1) - 1 = way.size + m := by omega
    rw [e1] at hc hd
    rw [e2, ch_app_last h.size hy]
    exact ⟨l ++ [y], by rw [e, cat_app, ByteArray.append_assoc]; congr 2, hc.snoc _ _ _ _ hN, by rw [hN.dist hF (k := k - (m + 1)) (by rw [hd]; congr 1; omega)]⟩
theorem FinAt.done {es : List Pr} {D : ByteArray → Option Nat} {way x t : ByteArray} {k : Nat} (h : FinAt es D way x k k t) : ∃ l, t = way ++ cat l ∧ Gr es D x l := by
  obtain ⟨l, e, hc, hd⟩ := h.ex
  exact ⟨l, e, hc.gr _ _ _ (by rw [hd]; simp)⟩

set_option maxRecDepth 100000 in
set_option maxHeartbeats 1600000 in
theorem finish_any (w : World) (o lo li f k n : Nat) (vn : Value) (bs es : List Pr) (D : ByteArray → Option Nat) (way x : ByteArray) (hw : way.size = n + 1) (hws : way.size ≤ 1000) (hx : ch way n = x) (hd : D x = some k) (hV : Valid bs es) (hC : CourseAt w o lo li vn f bs es D) :
    Calls Tryd.prog 24 #[.agg #[.map (some o), .map (some lo), .map (some li), vn, .map (some f)], .string way] w fun e w' => (∃ l, e = .returned (.string (way ++ cat l)) ∧ Gr es D x l) ∧ Below w.heap.size w w' := by
  obtain ⟨ga, gc, rfl⟩ := own_form hC.names
  have h1 : Below w.heap.size w (w.alloc (.cells #[.map (some o), .map (some lo), .map (some li), .slice ga bs.length gc, .map (some f)] 62)) := (Below.refl _ _).alloc (Nat.le_refl _) _
  have hC1 := hC.keep h1
  have hk1 : (w.alloc (.cells #[.map (some o), .map (some lo), .map (some li), .slice ga bs.length gc, .map (some f)] 62)).heap[w.heap.size]? = some (.cells #[.map (some o), .map (some lo), .map (some li), .slice ga bs.length gc, .map (some f)] 62 (0, 0)) := heap_alloc_new w _
  obtain ⟨nf, hmf⟩ := hC1.far
  have hxs : x.size ≤ 1048576 := by rw [← hx, ch_size (by omega)]; decide
  have hk15 := hC.bound x _ hd
  have hk14 := hV.e.hi
  have hLook : ∀ q, (Instr.lookup 60 (.map (some f)) (.string (ch way n)) false).run Tryd.prog ((w.alloc (.cells #[.map (some o), .map (some lo), .map (some li), .slice ga bs.length gc, .map (some f)] 62)).drewN q) = .ok (.int .i64 (k : Int)) ((w.alloc (.cells #[.map (some o), .map (some lo), .map (some li), .slice ga bs.length gc, .map (some f)] 62)).drewN q) := fun q => by
    have hq : MapV ((w.alloc (.cells #[.map (some o), .map (some lo), .map (some li), .slice ga bs.length gc, .map (some f)] 62)).drewN q) f nf (fun s => dV (D s)) := hmf.same rfl
    have lk := hq.look Tryd.underlying60 (zeroInt _) (mx (show (ch way n).size ≤ 1048576 by rw [hx]; exact hxs))
    rw [hx] at lk ⊢
    rw [hd] at lk
    exact lk
  have HK := Lib.hid (And.intro hC1 (And.intro hk1 (And.intro hC (And.intro hV (And.intro h1 hx)))))
  have Hw := Lib.hid hw
  clear hC1 hk1 hC hV h1 hmf hx
  go_enter Tryd.func24, Tryd.ntmps24
  go_wp2
  go_quiet (exact Calls.quiet_of_same (lastOf_any way n Hw.out (by omega) _))
  go_wp2
  have hwA := below_drewN HK.out.2.2.2.2.1 nq
  have hkA : ((w.alloc (.cells #[.map (some o), .map (some lo), .map (some li), .slice ga bs.length gc, .map (some f)] 62)).drewN nq).heap[w.heap.size]? = some (.cells #[.map (some o), .map (some lo), .map (some li), .slice ga bs.length gc, .map (some f)] 62 (0, 0)) := heap_alloc_new w _
  have HA := Lib.hid (And.intro hwA (And.intro hkA (And.intro HK.out.2.2.1 (And.intro HK.out.2.2.2.1 HK.out.2.2.2.2.2)))); clear hwA hkA HK
  clear hLook
  generalize (w.alloc (.cells #[.map (some o), .map (some lo), .map (some li), .slice ga bs.length gc, .map (some f)] 62)).drewN nq = wA at *
  go_loopw [10, 1] (fun i v wr => ∃ (m : Nat) (t : ByteArray), i = .int .i64 m ∧ v = .string t ∧ Below wA.heap.size wA wr ∧ FinAt es D way x k m t) (fun i _ _ => k - (intOf i).toNat)
  case atStart => exact ⟨0, way, rfl, rfl, Below.refl _ _, FinAt.start Hw.out HA.out.2.2.2.2 hd⟩
  case round =>
    obtain ⟨m, t, rfl, rfl, hbl, hfin⟩ := hrel
    have hzA : w.heap.size < wA.heap.size := (Array.getElem?_eq_some_iff.1 HA.out.2.1).1
    have hkr := (hbl.block w.heap.size hzA).trans HA.out.2.1
    obtain ⟨⟨x0, x1, x2, x3, x4⟩, xa⟩ := block5 hkr
    have hall : Below w.heap.size w wr := HA.out.1.trans (hbl.mono (by omega))
    have hm := hfin.le
    have ht := hfin.size
    have HF := Lib.hid (And.intro hfin (And.intro hbl (And.intro hall hkr))); clear hfin hbl hall hkr
    by_cases hlt : (m : Int) < (k : Int)
    · have w1 : IntKind.i64.wrap ((m : Int) + 1) = (m : Int) + 1 := IntWalk.i64_in _ (by omega)
      obtain ⟨j, hj⟩ : ∃ j, k - m = j + 1 := ⟨k - m - 1, by omega⟩
      have hsz : t.size = n + m + 1 := by rw [ht, Hw.out]; omega
      have hdy : D (ch t (n + m)) = some (j + 1) := by
        obtain ⟨l, _, _, h3⟩ := HF.out.1.ex
        rw [show way.size + m - 1 = n + m by have := Hw.out; omega, hj] at h3
        exact h3
      have hys : (ch t (n + m)).size ≤ 1048576 := by rw [ch_size (by omega)]; decide
      have hts : t.size ≤ 1048576 := by omega
      have n1 : w.heap.size < wr.heap.size := by have := HF.out.2.1.size; omega
      have HS := Lib.hid (And.intro hsz (And.intro hk14 hk15)); have hn9 : n + 1 ≤ 1000 := by omega
      clear ht hw hws
      clear hsz
      go_wp2
      go_region_held3 (fun w' => w'.cell? ⟨w.heap.size, 0, none⟩ = some (.map (some o)) ∧ w'.cell? ⟨w.heap.size, 1, none⟩ = some (.map (some lo)) ∧ w'.cell? ⟨w.heap.size, 2, none⟩ = some (.map (some li)) ∧ w'.cell? ⟨w.heap.size, 3, none⟩ = some (.slice ga bs.length gc) ∧ w'.cell? ⟨w.heap.size, 4, none⟩ = some (.map (some f)) ∧ Below wr.heap.size wr w')
        (first
          | exact ⟨x0, x1, x2, x3, x4, (Below.refl _ _).drew⟩
          | exact ⟨x0, x1, x2, x3, x4, Below.refl _ _⟩
          | (subst_vars; assumption)
          | (have hq := below_new (‹_ ∧ _ ∧ _ ∧ _ ∧ _ ∧ Below wr.heap.size wr _›).2.2.2.2.2 hbN; exact ⟨(hq.cell (p := ⟨w.heap.size, 0, none⟩) n1).trans x0, (hq.cell (p := ⟨w.heap.size, 1, none⟩) n1).trans x1, (hq.cell (p := ⟨w.heap.size, 2, none⟩) n1).trans x2, (hq.cell (p := ⟨w.heap.size, 3, none⟩) n1).trans x3, (hq.cell (p := ⟨w.heap.size, 4, none⟩) n1).trans x4, hq⟩))
        (first
          | (go_at_call 30; refine (lastOf_any t (n + m) HS.out.1 hts _).mono ?_; rintro e wM ⟨rfl, rfl⟩)
          | (go_at_call 48; refine (nearer_any _ o lo li f j _ bs es D (ch t (n + m)) hys hdy HA.out.2.2.2.1 (HA.out.2.2.1.keep (HF.out.2.2.1.trans ((‹_ ∧ _ ∧ _ ∧ _ ∧ _ ∧ Below wr.heap.size wr _›).2.2.2.2.2.mono (by omega))))).mono ?_; rintro e wN ⟨⟨y, rfl, hy⟩, hbN⟩; have hno : ¬ (t.size + y.size > 9223372036854775807) := (by have hy1 : y.size = 1 := HA.out.2.2.2.1.name_size (HA.out.2.2.2.1.e.to _ hy.1); have := HS.out; omega)))
      have hq := (‹_ ∧ _ ∧ _ ∧ _ ∧ _ ∧ Below wr.heap.size wr _›).2.2.2.2.2
      have hy1 : y.size = 1 := HA.out.2.2.2.1.name_size (HA.out.2.2.2.1.e.to _ hy.1)
      have hA2 : Below wA.heap.size wA wN := HF.out.2.1.trans (hq.mono HF.out.2.1.size)
      have hnx := HF.out.1.next Hw.out HA.out.2.2.1.least (by omega) hy1 hy
      have HQ := Lib.hid (And.intro hA2 hnx); clear hA2 hnx hy1 hq
      go_wp2
      go_roundw
      case rel => exact ⟨m + 1, t ++ y, by go_num, rfl, HQ.out.1, HQ.out.2⟩
      case measure => simp [intOf]; omega
    · obtain rfl : m = k := by omega
      go_wp2
      go_ret
      obtain ⟨l, rfl, hg⟩ := HF.out.1.done
      exact ⟨⟨l, rfl, hg⟩, HF.out.2.2.1⟩
end Go.Proofs.YtfmhcjhcmoniaaaDoor
