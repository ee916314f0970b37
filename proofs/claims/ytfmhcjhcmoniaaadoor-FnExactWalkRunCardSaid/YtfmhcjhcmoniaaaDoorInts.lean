/-
  Lists of numbers in memory, and the laws' toIntS and eqIntS. Conditions: at most 1048576 numbers.
-/
import Derived.Test.YtfmhcjhcmoniaaaDoorTo
import Derived.BigQuiet
import Derived.Deep.QuietTactic
namespace Go.Proofs.YtfmhcjhcmoniaaaDoor
open Go.RowKit

def numAt (ns : List Int) (i : Nat) : Int := ns.getD i 0
/-- the slice with its head at a holds the numbers ns -/
structure IntsAt (w : World) (a : Option Addr) (ns : List Int) : Prop where
  len : ns.length ≤ 1048576
  cell : ∀ i, i < ns.length → ∃ b off, a = some ⟨b, off, none⟩ ∧ b < w.heap.size ∧ w.cell? ⟨b, off + i, none⟩ = some (.int .i64 (numAt ns i))
theorem IntsAt.below {w w' : World} {a : Option Addr} {ns : List Int} (h : IntsAt w a ns) (hb : Below w.heap.size w w') : IntsAt w' a ns :=
  ⟨h.len, fun i hi => by
    obtain ⟨b, off, e, hbl, hc⟩ := h.cell i hi
    exact ⟨b, off, e, Nat.lt_of_lt_of_le hbl hb.size, (hb.cell (p := ⟨b, off + i, none⟩) hbl).trans hc⟩⟩
/-- block g holds just the numbers ns -/
def IB (w : World) (g : Nat) (ns : List Int) : Prop := w.heap[g]? = some (.cells (ns.map (Value.int .i64)).toArray 3 (0, 0))
theorem IB.lt {w : World} {g : Nat} {ns : List Int} (h : IB w g ns) : g < w.heap.size := (Array.getElem?_eq_some_iff.1 h).1
theorem IB.cell {w : World} {g : Nat} {ns : List Int} (h : IB w g ns) {i : Nat} (hi : i < ns.length) : w.cell? ⟨g, i, none⟩ = some (.int .i64 (numAt ns i)) := by
  rw [cell_of_row w g _ _ _ (0, 0) h]
  simp [numAt, hi]
theorem IB.frozen {w : World} {g : Nat} {ns : List Int} (h : IB w g ns) (i : Nat) : w.frozen? ⟨g, i, none⟩ = false := by
  unfold IB at h
  simp [World.frozen?, h]
theorem IB.set {w : World} {g : Nat} {ns : List Int} (h : IB w g ns) (i : Nat) (n : Int) : IB (w.setCell ⟨g, i, none⟩ (.int .i64 n)) g (ns.set i n) := by
  unfold IB at h ⊢
  simp [World.setCell, Array.getElem?_modify, h]
theorem IB.keep {w w' : World} {g : Nat} {ns : List Int} (h : IB w g ns) (hb : Below w.heap.size w w') : IB w' g ns := (hb.block g h.lt).trans h
theorem IB.ints {w : World} {g : Nat} {ns : List Int} (h : IB w g ns) (hl : ns.length ≤ 1048576) : IntsAt w (some ⟨g, 0, none⟩) ns :=
  ⟨hl, fun i hi => ⟨g, 0, rfl, h.lt, by rw [Nat.zero_add]; exact h.cell hi⟩⟩
theorem IB.of_own {w : World} {g base n : Nat} {ns : List Int} (h : w.ownsRow base 3 1 (.slice (some ⟨g, 0, none⟩) n n) n (ns.map (Value.int .i64))) : IB w g ns := by
  obtain ⟨hl, h | ⟨g', cap, cur, hv, hg, hh, hn, hc, hs, ht⟩⟩ := h
  · simp at h
  · simp only [Value.slice.injEq, Option.some.injEq, Addr.mk.injEq] at hv
    obtain ⟨⟨rfl, _⟩, _, rfl⟩ := hv
    unfold IB
    rw [hh]
    have : cur = (ns.map (Value.int .i64)).toArray := by rw [← ht, List.take_of_length_le (by simp [hs])]
    rw [this]
theorem made_ints (n : Nat) : (madeCells (Value.int .i64 0).cells (n * 1)).toList = (List.replicate n (0 : Int)).map (Value.int .i64) := by
  apply List.ext_getElem?
  intro i
  by_cases hi : i < n
  · simp [madeCells, Value.cells, hi, Nat.mod_one]
  · rw [List.getElem?_eq_none (by simp [size_madeCells]; omega), List.getElem?_eq_none (by simp; omega)]
theorem Tryd.infoInt : (Tryd.prog.info? 3).map (fun i => (i.zero, i.size, i.bytes)) = some (some (.int .i64 0), 1, 8) := by kernel_rfl
def ToIntsPost (w : World) (ns : List Int) (e : Ending) (w' : World) : Prop := ∃ g, e = .returned (.slice (some ⟨g, 0, none⟩) ns.length ns.length) ∧ w.heap.size ≤ g ∧ IB w' g ns ∧ Below w.heap.size w w'
theorem numAt_set (ns : List Int) (i j : Nat) (n : Int) (hi : i < ns.length) : numAt (ns.set i n) j = if j = i then n else numAt ns j := by
  unfold numAt
  by_cases e : j = i
  · subst e; simp [hi]
  · simp [List.getD_eq_getElem?_getD, e, Ne.symm e]
theorem ints_ext {l l' : List Int} (hl : l.length = l'.length) (h : ∀ i, i < l.length → numAt l i = numAt l' i) : l = l' := by
  apply List.ext_getElem hl
  intro i h1 h2
  have := h i h1
  unfold numAt at this
  simpa [List.getD_eq_getElem?_getD, h1, h2] using this

set_option maxRecDepth 100000 in
set_option maxHeartbeats 1600000 in
theorem toIntS_any (ns : List Int) (a : Option Addr) (cap : Nat) (w : World) (hp : IntsAt w a ns) :
    Calls Tryd.prog 12 #[.slice a ns.length cap] w (ToIntsPost w ns) := by
  have hl := hp.len
  obtain ⟨i0, hi, hz0, hz1, hz2⟩ := info_parts Tryd.infoInt
  go_enter Tryd.func12, Tryd.ntmps12
  go_wp2_with (at_make; refine wpList_make_full _ rfl _ _ _ rfl w.heap.size 3 i0 (.int .i64 0) 1 Tryd.underlying36 hi hz0 hz1 .i64 .i64 ns.length ns.length ns.length rfl rfl rfl rfl (by rw [hz2]; omega) (by unfold maxLen; omega) (by simp) ?_; intro w1 hown1 hg1)
  have B1 : IB w1 w.heap.size (List.replicate ns.length 0) := IB.of_own (by rw [← made_ints]; exact hown1)
  have hb1 : Below w.heap.size w w1 := (Below.refl _ _).grown hg1 (Nat.le_refl _) (fun k h => by cases h)
  clear hown1 hg1 hi hz0 hz1 hz2
  go_loopw [4] (fun i wr => ∃ (k : Nat) (L : List Int), k ≤ ns.length ∧ i = .int .i64 k ∧ L.length = ns.length ∧ IB wr w.heap.size L ∧ Below w.heap.size w wr ∧ ∀ j, j < k → numAt L j = numAt ns j) (fun i _ => ns.length - (intOf i).toNat)
  case atStart => exact ⟨0, _, Nat.zero_le _, rfl, by simp, B1, hb1, fun j hj => absurd hj (Nat.not_lt_zero _)⟩
  case round =>
    obtain ⟨k, L, hk, rfl, hLl, BL, hbl, hno⟩ := hrel
    have Hno := Lib.hid (And.intro hno hLl); clear hno hLl
    by_cases hlt : k < ns.length
    · obtain ⟨b, off, rfl, hb, h1⟩ := hp.cell k hlt
      have d1 := (hbl.cell (p := ⟨b, off + k, none⟩) hb).trans h1
      have hkL : k < L.length := by rw [Hno.out.2]; exact hlt
      have q0 := BL.cell hkL
      have f0 := BL.frozen k
      have HB := Lib.hid (And.intro (BL.set k (numAt ns k)) (And.intro hkL ((hbl.setCell (p := ⟨w.heap.size, k, none⟩) (Nat.le_refl _) (.int .i64 (numAt ns k))))))
      clear h1 hkL BL hbl
      go_wp2
      go_roundw
      case rel =>
        refine ⟨k + 1, _, by omega, by go_num, by simp [Hno.out.2], HB.out.1, HB.out.2.2, fun j hj => ?_⟩
        rw [numAt_set _ _ _ _ HB.out.2.1]
        by_cases e : j = k
        · subst e; simp
        · rw [if_neg e]; exact Hno.out.1 j (by omega)
      case measure => simp [intOf]; omega
    · have hE : L = ns := ints_ext Hno.out.2 (fun i hi => Hno.out.1 i (by rw [Hno.out.2] at hi; omega))
      rw [hE] at BL
      clear hE
      go_wp2
      refine bodyPost_ret (v := .slice (some ⟨w.heap.size, 0, none⟩) ns.length ns.length) (by simp [results, go_sem]) rfl ?_
      exact ⟨w.heap.size, rfl, Nat.le_refl _, BL, hbl⟩

set_option maxRecDepth 100000 in
set_option maxHeartbeats 1600000 in
theorem eqIntS_same (ns : List Int) (a a' : Option Addr) (cap cap' : Nat) (w : World) (hp : IntsAt w a ns) (hp' : IntsAt w a' ns) :
    Calls Tryd.prog 14 #[.slice a ns.length cap, .slice a' ns.length cap'] w fun e w' => e = .returned (.bool true) ∧ Below w.heap.size w w' := by
  have hl := hp.len
  go_enter Tryd.func14, Tryd.ntmps14
  go_wp2
  go_loopw [5] (fun i wr => ∃ k : Nat, k ≤ ns.length ∧ i = .int .i64 k ∧ Below w.heap.size w wr) (fun i _ => ns.length - (intOf i).toNat)
  case atStart => exact ⟨0, Nat.zero_le _, rfl, Below.refl _ _⟩
  case round =>
    obtain ⟨k, hk, rfl, hbl⟩ := hrel
    by_cases hlt : k < ns.length
    · obtain ⟨b, off, rfl, hb, h1⟩ := hp.cell k hlt
      obtain ⟨b', off', rfl, hb', h1'⟩ := hp'.cell k hlt
      have d1 := (hbl.cell (p := ⟨b, off + k, none⟩) hb).trans h1
      have d2 := (hbl.cell (p := ⟨b', off' + k, none⟩) hb').trans h1'
      have l1 : (0 : Int) ≤ (k : Int) := by omega
      have l2 : (k : Int) < (ns.length : Int) := by omega
      clear h1 h1'
      go_wp2
      go_quiet (fail)
      go_wp2
      go_roundw
      case rel => exact ⟨k + 1, by omega, by go_num, below_drewN hbl _⟩
      case measure => simp [intOf]; omega
    · obtain rfl : k = ns.length := by omega
      go_wp2
      go_ret
      exact ⟨rfl, hbl⟩
end Go.Proofs.YtfmhcjhcmoniaaaDoor
