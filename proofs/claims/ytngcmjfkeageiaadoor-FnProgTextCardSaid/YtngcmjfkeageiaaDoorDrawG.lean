/-
  The model's draws of a program alone, off bytes. Conditions: none but what bytes that came in are.
-/
import Derived.Test.YtngcmjfkeageiaaDoorFsC
namespace Go.Proofs.YtngcmjfkeageiaaDoor
open Go.RowKit Go.Maps

set_option maxRecDepth 100000 in
set_option maxHeartbeats 1600000 in
theorem DrawFormatProg_any (w : World) (a : Option Addr) (n cap : Nat) (h : BytesRaw w a n cap) :
    Calls Tryd.prog 27 #[.slice a n cap] w (DrawB0 w) := by
  have hA : Below w.heap.size w (w.alloc (.cells #[.slice none 0 0, .slice none 0 0] 32)) := (Below.refl _ _).alloc (Nat.le_refl _) _
  have hR : Two (w.alloc (.cells #[.slice none 0 0, .slice none 0 0] 32)) w.heap.size (.slice none 0 0) (.slice none 0 0) := heap_alloc_new _ _
  have hbA := h.below hA
  have H0 := Lib.hid (And.intro hA hR)
  clear h hA hR
  go_enter Tryd.func27, Tryd.ntmps27
  go_wp2_with fail
  refine (l15Open_any _ a n cap hbA).mono ?_
  rintro e w1 ⟨m, rfl, hrd, hb1⟩
  have hz : (w.alloc (.cells #[.slice none 0 0, .slice none 0 0] 32)).heap.size = w.heap.size + 1 := by simp
  rw [hz] at hrd ⊢
  have hR1 : Two w1 w.heap.size _ _ := H0.out.2.of_cells (hb1.block _ (by omega))
  have hall : Below w.heap.size w w1 := H0.out.1.trans (hb1.mono (by omega))
  have H1 := Lib.hid (And.intro hR1 hall)
  have hg1 := hrd.lt
  clear hR1 hall hb1 hbA
  go_wp2_with fail
  refine (l1Some_any w1 (w.heap.size + 1) a m cap 0 (by omega) hrd).mono ?_
  rintro e w2 ⟨bs, es, ab, ae, cb, ce, rfl, hSb, hSe, hPb, hPe, p1, hp1, hrd2, htu⟩
  have hR2 : Two w2 w.heap.size _ _ := htu.two H1.out.1 (by omega)
  have hn : ∀ s, Value.slice none 0 0 ≠ .string s := fun s h => by cases h
  obtain ⟨r0, r1, t0, t1, _⟩ := hR2.cells
  have hb := (hPb.setZ r0 hn (u := .slice ab bs.length cb)).setZ (p := ⟨w.heap.size, 1, none⟩) (u := .slice ae es.length ce) (Two.set0 hR2 (.slice ab bs.length cb)).cells.2.1 hn
  have he := (hPe.setZ r0 hn (u := .slice ab bs.length cb)).setZ (p := ⟨w.heap.size, 1, none⟩) (u := .slice ae es.length ce) (Two.set0 hR2 (.slice ab bs.length cb)).cells.2.1 hn
  have hbw : Below w.heap.size w w2 := H1.out.2.trans (htu.below H1.out.2.size (fun k hk => by omega))
  have hfin := (hbw.setCell (p := ⟨w.heap.size, 0, none⟩) (Nat.le_refl _) (.slice ab bs.length cb)).setCell (p := ⟨w.heap.size, 1, none⟩) (Nat.le_refl _) (.slice ae es.length ce)
  have HX := Lib.hid (And.intro hSb (And.intro hSe (And.intro hb (And.intro he hfin))))
  clear hPb hPe hb he hbw hfin hSb hSe htu hR2 hn hrd hrd2
  go_wp2
  refine bodyPost_ret (v := .agg #[.slice ab bs.length cb, .slice ae es.length ce]) (by simp [results, Tryd.results27, go_sem, r0, r1]) rfl ?_
  exact ⟨bs, es, ab, ae, cb, ce, rfl, HX.out.1, HX.out.2.1, HX.out.2.2.1, HX.out.2.2.2.1, HX.out.2.2.2.2⟩
set_option maxRecDepth 100000 in
set_option maxHeartbeats 1600000 in
theorem DrawProgValid_any (w : World) (a : Option Addr) (n cap : Nat) (h : BytesRaw w a n cap) :
    Calls Tryd.prog 30 #[.slice a n cap] w (DrawB0 w) := by
  have hA : Below w.heap.size w (w.alloc (.cells #[.slice none 0 0, .slice none 0 0] 32)) := (Below.refl _ _).alloc (Nat.le_refl _) _
  have hR : Two (w.alloc (.cells #[.slice none 0 0, .slice none 0 0] 32)) w.heap.size (.slice none 0 0) (.slice none 0 0) := heap_alloc_new _ _
  have hbA := h.below hA
  have H0 := Lib.hid (And.intro hA hR)
  clear h hA hR
  go_enter Tryd.func30, Tryd.ntmps30
  go_wp2_with fail
  refine (l15Open_any _ a n cap hbA).mono ?_
  rintro e w1 ⟨m, rfl, hrd, hb1⟩
  have hz : (w.alloc (.cells #[.slice none 0 0, .slice none 0 0] 32)).heap.size = w.heap.size + 1 := by simp
  rw [hz] at hrd ⊢
  have hR1 : Two w1 w.heap.size _ _ := H0.out.2.of_cells (hb1.block _ (by omega))
  have hall : Below w.heap.size w w1 := H0.out.1.trans (hb1.mono (by omega))
  have H1 := Lib.hid (And.intro hR1 hall)
  have hg1 := hrd.lt
  clear hR1 hall hb1 hbA
  go_wp2_with fail
  refine (l1Some_any w1 (w.heap.size + 1) a m cap 0 (by omega) hrd).mono ?_
  rintro e w2 ⟨bs, es, ab, ae, cb, ce, rfl, hSb, hSe, hPb, hPe, p1, hp1, hrd2, htu⟩
  have hR2 : Two w2 w.heap.size _ _ := htu.two H1.out.1 (by omega)
  have hn : ∀ s, Value.slice none 0 0 ≠ .string s := fun s h => by cases h
  obtain ⟨r0, r1, t0, t1, _⟩ := hR2.cells
  have hb := (hPb.setZ r0 hn (u := .slice ab bs.length cb)).setZ (p := ⟨w.heap.size, 1, none⟩) (u := .slice ae es.length ce) (Two.set0 hR2 (.slice ab bs.length cb)).cells.2.1 hn
  have he := (hPe.setZ r0 hn (u := .slice ab bs.length cb)).setZ (p := ⟨w.heap.size, 1, none⟩) (u := .slice ae es.length ce) (Two.set0 hR2 (.slice ab bs.length cb)).cells.2.1 hn
  have hbw : Below w.heap.size w w2 := H1.out.2.trans (htu.below H1.out.2.size (fun k hk => by omega))
  have hfin := (hbw.setCell (p := ⟨w.heap.size, 0, none⟩) (Nat.le_refl _) (.slice ab bs.length cb)).setCell (p := ⟨w.heap.size, 1, none⟩) (Nat.le_refl _) (.slice ae es.length ce)
  have HX := Lib.hid (And.intro hSb (And.intro hSe (And.intro hb (And.intro he hfin))))
  clear hPb hPe hb he hbw hfin hSb hSe htu hR2 hn hrd hrd2
  go_wp2
  refine bodyPost_ret (v := .agg #[.slice ab bs.length cb, .slice ae es.length ce]) (by simp [results, Tryd.results30, go_sem, r0, r1]) rfl ?_
  exact ⟨bs, es, ab, ae, cb, ce, rfl, HX.out.1, HX.out.2.1, HX.out.2.2.1, HX.out.2.2.2.1, HX.out.2.2.2.2⟩
end Go.Proofs.YtngcmjfkeageiaaDoor
