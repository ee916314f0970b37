/-
  The model's source: an element of a list of texts, of numbers; a source opened over bytes. Conditions: at most 1000000 numbers drawn before.
-/
import Derived.Test.YtfmhcjhcmoniaaaDoorPick
import Derived.Test.YtfmhcjhcmoniaaaDoorParseS
namespace Go.Proofs.YtfmhcjhcmoniaaaDoor
open Go.RowKit Go.Maps

theorem RdAt.below {w w' : World} {g : Nat} {a : Option Addr} {n cap p : Nat} (h : RdAt w g a n cap p) (hb : Below w.heap.size w w') : RdAt w' g a n cap p where
  here := (hb.block g (Array.getElem?_eq_some_iff.1 h.here).1).trans h.here
  few := h.few
  byte i hi := by
    obtain ⟨b, off, v, e, h1, h2, h3, h4, h5⟩ := h.byte i hi
    exact ⟨b, off, v, e, h1, Nat.lt_of_lt_of_le h2 hb.size, h3, h4, (hb.cell (p := ⟨b, off + i, none⟩) h2).trans h5⟩
theorem RdAt.lt {w : World} {g : Nat} {a : Option Addr} {n cap p : Nat} (h : RdAt w g a n cap p) : g < w.heap.size := (Array.getElem?_eq_some_iff.1 h.here).1
/-- what a draw leaves: at most m numbers more are drawn, and only the source is written -/
def Drawn (w w' : World) (g : Nat) (a : Option Addr) (n cap p m : Nat) : Prop := ∃ p', p' ≤ p + m ∧ RdAt w' g a n cap p' ∧ Turns (fun k => k = g) w w'
def OfPost (w : World) (g : Nat) (a : Option Addr) (n cap p : Nat) (L : List ByteArray) (e : Ending) (w' : World) : Prop := ∃ x, x ∈ L ∧ e = .returned (.string x) ∧ RdAt w' g a n cap (p + 1) ∧ Turns (fun k => k = g) w w'
def NumPost (w : World) (g : Nat) (a : Option Addr) (n cap p : Nat) (L : List Int) (e : Ending) (w' : World) : Prop := ∃ x, x ∈ L ∧ e = .returned (.int .i64 x) ∧ RdAt w' g a n cap (p + 1) ∧ Turns (fun k => k = g) w w'

set_option maxRecDepth 100000 in
set_option maxHeartbeats 1600000 in
theorem of_any (w : World) (g : Nat) (a : Option Addr) (n cap p : Nat) (gl : Nat) (L : List ByteArray) (hp : p ≤ 1000000) (h : RdAt w g a n cap p) (hgl : gl ≠ g) (hL : w.heap[gl]? = some (.cells (L.map Value.string).toArray 9 (0, 0))) (h1 : 1 ≤ L.length) (h2 : L.length ≤ 1000) :
    Calls Tryd.prog 56 #[.pointer (some ⟨g, 0, none⟩), .slice (some ⟨gl, 0, none⟩) L.length L.length] w (OfPost w g a n cap p L) := by
  have HL := Lib.hid hL; clear hL
  go_enter Tryd.func56, Tryd.ntmps56
  go_wp2_with fail
  refine (pick_any _ g a n cap p _ (by omega) (by omega) hp h).mono ?_
  rintro e w1 ⟨r, rfl, hr0, hr1, hrd, htu⟩
  have hr2 := hr1 (by omega)
  obtain ⟨k, rfl⟩ := Int.eq_ofNat_of_zero_le hr0
  have hk : k < L.length := by omega
  have hc : w1.cell? ⟨gl, k, none⟩ = some (.string L[k]) := by
    have h3 : w1.heap[gl]? = some (.cells (L.map Value.string).toArray 9 (0, 0)) := (htu.block gl (Array.getElem?_eq_some_iff.1 HL.out).1 hgl).trans HL.out
    rw [cell_of_row w1 gl k _ _ (0, 0) h3]
    simp [hk]
  have HX := Lib.hid (And.intro hrd htu)
  clear hrd htu hr1
  go_wp2
  go_ret
  exact ⟨L[k], List.getElem_mem hk, rfl, HX.out.1, HX.out.2⟩

set_option maxRecDepth 100000 in
set_option maxHeartbeats 1600000 in
theorem num_any (w : World) (g : Nat) (a : Option Addr) (n cap p : Nat) (gl : Nat) (L : List Int) (hp : p ≤ 1000000) (h : RdAt w g a n cap p) (hgl : gl ≠ g) (hL : w.heap[gl]? = some (.cells (L.map (Value.int .i64)).toArray 3 (0, 0))) (h1 : 1 ≤ L.length) (h2 : L.length ≤ 1000) :
    Calls Tryd.prog 35 #[.pointer (some ⟨g, 0, none⟩), .slice (some ⟨gl, 0, none⟩) L.length L.length] w (NumPost w g a n cap p L) := by
  have HL := Lib.hid hL; clear hL
  go_enter Tryd.func35, Tryd.ntmps35
  go_wp2_with fail
  refine (pick_any _ g a n cap p _ (by omega) (by omega) hp h).mono ?_
  rintro e w1 ⟨r, rfl, hr0, hr1, hrd, htu⟩
  have hr2 := hr1 (by omega)
  obtain ⟨k, rfl⟩ := Int.eq_ofNat_of_zero_le hr0
  have hk : k < L.length := by omega
  have hc : w1.cell? ⟨gl, k, none⟩ = some (.int .i64 L[k]) := by
    have h3 : w1.heap[gl]? = some (.cells (L.map (Value.int .i64)).toArray 3 (0, 0)) := (htu.block gl (Array.getElem?_eq_some_iff.1 HL.out).1 hgl).trans HL.out
    rw [cell_of_row w1 gl k _ _ (0, 0) h3]
    simp [hk]
  have HX := Lib.hid (And.intro hrd htu)
  clear hrd htu hr1
  go_wp2
  go_ret
  exact ⟨L[k], List.getElem_mem hk, rfl, HX.out.1, HX.out.2⟩
/-- a list of texts laid by the text: an element of it -/
theorem of_new (w : World) (g : Nat) (a : Option Addr) (n cap p : Nat) (L : List ByteArray) (hp : p ≤ 1000000) (h : RdAt w g a n cap p) (h1 : 1 ≤ L.length) (h2 : L.length ≤ 1000) :
    Calls Tryd.prog 56 #[.pointer (some ⟨g, 0, none⟩), .slice (some ⟨w.heap.size, 0, none⟩) L.length L.length] (w.alloc (.cells (L.map Value.string).toArray 9)) (OfPost w g a n cap p L) :=
  (of_any _ g a n cap p w.heap.size L hp (h.below ((Below.refl _ _).alloc (Nat.le_refl _) _)) (fun e => by have := h.lt; omega) (heap_alloc_new _ _) h1 h2).mono fun e w' ⟨x, hx, he, hr, ht⟩ => ⟨x, hx, he, hr, (Turns.alloc _ _).trans ht⟩
theorem num_new (w : World) (g : Nat) (a : Option Addr) (n cap p : Nat) (L : List Int) (hp : p ≤ 1000000) (h : RdAt w g a n cap p) (h1 : 1 ≤ L.length) (h2 : L.length ≤ 1000) :
    Calls Tryd.prog 35 #[.pointer (some ⟨g, 0, none⟩), .slice (some ⟨w.heap.size, 0, none⟩) L.length L.length] (w.alloc (.cells (L.map (Value.int .i64)).toArray 3)) (NumPost w g a n cap p L) :=
  (num_any _ g a n cap p w.heap.size L hp (h.below ((Below.refl _ _).alloc (Nat.le_refl _) _)) (fun e => by have := h.lt; omega) (heap_alloc_new _ _) h1 h2).mono fun e w' ⟨x, hx, he, hr, ht⟩ => ⟨x, hx, he, hr, (Turns.alloc _ _).trans ht⟩
end Go.Proofs.YtfmhcjhcmoniaaaDoor
