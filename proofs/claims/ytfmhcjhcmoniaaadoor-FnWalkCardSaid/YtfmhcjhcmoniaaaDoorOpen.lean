/-
  The model's l15Open: a source of numbers over bytes that came in. Conditions: none but what bytes that came in are.
-/
import Derived.Test.YtfmhcjhcmoniaaaDoorPick
namespace Go.Proofs.YtfmhcjhcmoniaaaDoor
open Go.RowKit Go.Maps

/-- bytes that came in -/
structure BytesRaw (w : World) (a : Option Addr) (n cap : Nat) : Prop where
  le : n ≤ cap
  most : cap ≤ maxLen
  byte : ∀ i, i < n → ∃ b off, ∃ v : Int, a = some ⟨b, off, none⟩ ∧ b < w.heap.size ∧ 0 ≤ v ∧ v ≤ 255 ∧ w.cell? ⟨b, off + i, none⟩ = some (.int .u8 v)
theorem BytesRaw.below {w w' : World} {a : Option Addr} {n cap : Nat} (h : BytesRaw w a n cap) (hb : Below w.heap.size w w') : BytesRaw w' a n cap :=
  ⟨h.le, h.most, fun i hi => by
    obtain ⟨b, off, v, e, h2, h3, h4, h5⟩ := h.byte i hi
    exact ⟨b, off, v, e, Nat.lt_of_lt_of_le h2 hb.size, h3, h4, (hb.cell (p := ⟨b, off + i, none⟩) h2).trans h5⟩⟩
theorem BytesRaw.rd {w : World} {a : Option Addr} {n m cap : Nat} (h : BytesRaw w a n cap) (hm : m ≤ n) (h2 : m ≤ 2000) : RdAt (w.alloc (.cells #[.slice a m cap, .int .i64 0] 103)) w.heap.size a m cap 0 :=
  ⟨by simpa using heap_alloc_new w (.cells #[.slice a m cap, .int .i64 0] 103), h2, fun i hi => by
    obtain ⟨b, off, v, e, g2, g3, g4, g5⟩ := h.byte i (by omega)
    have hb : Below w.heap.size w (w.alloc (.cells #[.slice a m cap, .int .i64 0] 103)) := (Below.refl _ _).alloc (Nat.le_refl _) _
    exact ⟨b, off, v, e, by omega, Nat.lt_of_lt_of_le g2 hb.size, g3, g4, (hb.cell (p := ⟨b, off + i, none⟩) g2).trans g5⟩⟩
/-- what l15Open returns -/
def OpenPost (w : World) (a : Option Addr) (cap : Nat) (e : Ending) (w' : World) : Prop := ∃ m, e = .returned (.pointer (some ⟨w.heap.size, 0, none⟩)) ∧ RdAt w' w.heap.size a m cap 0 ∧ Below w.heap.size w w'

set_option maxRecDepth 100000 in
theorem l15Open_any (w : World) (a : Option Addr) (n cap : Nat) (h : BytesRaw w a n cap) :
    Calls Tryd.prog 31 #[.slice a n cap] w (OpenPost w a cap) := by
  have hle := h.le
  have hmo := h.most
  unfold maxLen at hmo
  by_cases hn : 2000 < n
  · obtain ⟨b, off, v, rfl, _⟩ := h.byte 0 (by omega)
    have HB := Lib.hid h; clear h
    have x1 : (2000 : Int) ≤ (n : Int) := by omega
    have x2 : (2000 : Int) ≤ (cap : Int) := by omega
    go_enter Tryd.func31, Tryd.ntmps31
    go_wp2
    go_ret
    exact ⟨2000, rfl, HB.out.rd (by omega) (by omega), (Below.refl _ _).alloc (Nat.le_refl _) _⟩
  · have HB := Lib.hid h; clear h
    go_enter Tryd.func31, Tryd.ntmps31
    go_wp2
    go_ret
    exact ⟨n, rfl, HB.out.rd (Nat.le_refl _) (by omega), (Below.refl _ _).alloc (Nat.le_refl _) _⟩
end Go.Proofs.YtfmhcjhcmoniaaaDoor
