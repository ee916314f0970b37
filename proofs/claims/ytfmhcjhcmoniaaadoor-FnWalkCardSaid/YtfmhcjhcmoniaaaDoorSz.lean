/-
  The laws' szProg and what it calls: a number that is not negative only if what came in is small. Conditions: each length is one that Go bears.
-/
import Derived.Test.YtfmhcjhcmoniaaaDoorWords
namespace Go.Proofs.YtfmhcjhcmoniaaaDoor
open Go.RowKit

/-- the slice with its head at a holds the pairs l, however long -/
structure PairsRaw (w : World) (a : Option Addr) (l : List Pr) : Prop where
  len : l.length ≤ maxLen
  size : ∀ i, i < l.length → (nameAt l i).size ≤ maxLen ∧ (restAt l i).size ≤ maxLen
  cell : ∀ i, i < l.length → ∃ b off, a = some ⟨b, off, none⟩ ∧ b < w.heap.size ∧ w.cell? ⟨b, off + i * 2, none⟩ = some (.string (nameAt l i)) ∧ w.cell? ⟨b, off + i * 2 + 1, none⟩ = some (.string (restAt l i))
theorem PairsRaw.below {w w' : World} {a : Option Addr} {l : List Pr} (h : PairsRaw w a l) (hb : Below w.heap.size w w') : PairsRaw w' a l :=
  ⟨h.len, h.size, fun i hi => by
    obtain ⟨b, off, e, hb', h1, h2⟩ := h.cell i hi
    exact ⟨b, off, e, Nat.lt_of_lt_of_le hb' hb.size, ((bcell hb).1 _ _ hb').trans h1, ((bcell hb).1 _ _ hb').trans h2⟩⟩
/-- no text is longer than n, nor the list -/
def Small (n : Int) (l : List Pr) : Prop := (l.length : Int) ≤ n ∧ ∀ i, i < l.length → ((nameAt l i).size : Int) ≤ n ∧ ((restAt l i).size : Int) ≤ n
theorem PairsRaw.small {w : World} {a : Option Addr} {l : List Pr} (h : PairsRaw w a l) (hs : Small 1048576 l) : PairsAt w a l :=
  ⟨by have := hs.1; omega, fun i hi => by have := hs.2 i hi; omega, h.cell⟩
/-- what a sz function leaves: a number of at most n; where it is not negative, need holds -/
def SzPost (w : World) (n : Int) (need : Prop) (e : Ending) (w' : World) : Prop := ∃ r : Int, e = .returned (.int .i64 r) ∧ -1 ≤ r ∧ r ≤ n ∧ Below w.heap.size w w' ∧ (0 ≤ r → need)

set_option maxRecDepth 100000 in
set_option maxHeartbeats 800000 in
theorem szBlock_any (s t : ByteArray) (n : Int) (w : World) (h0 : 0 ≤ n) (h1 : n ≤ 1048576) (hs : s.size ≤ maxLen) (ht : t.size ≤ maxLen) :
    Calls Tryd.prog 37 #[.agg #[.string s, .string t], .int .i64 n] w (SzPost w n ((s.size : Int) ≤ n ∧ (t.size : Int) ≤ n)) := by
  unfold maxLen at hs ht
  by_cases c1 : n - (s.size : Int) < 0
  · go_enter Tryd.func37, Tryd.ntmps37
    go_wp2
    go_ret
    exact ⟨-1, rfl, by omega, by omega, (Below.refl _ _).alloc (Nat.le_refl _) _, fun h => by omega⟩
  · by_cases c2 : n - (s.size : Int) - (t.size : Int) < 0
    · go_enter Tryd.func37, Tryd.ntmps37
      go_wp2
      go_ret
      exact ⟨-1, rfl, by omega, by omega, (Below.refl _ _).alloc (Nat.le_refl _) _, fun h => by omega⟩
    · go_enter Tryd.func37, Tryd.ntmps37
      go_wp2
      go_ret
      exact ⟨n - (s.size : Int) - (t.size : Int), rfl, by omega, by omega, (Below.refl _ _).alloc (Nat.le_refl _) _, fun _ => ⟨by omega, by omega⟩⟩

set_option maxRecDepth 100000 in
set_option maxHeartbeats 800000 in
theorem szBlockS_any (l : List Pr) (a : Option Addr) (cap : Nat) (n : Int) (w : World) (h0 : 0 ≤ n) (h1 : n ≤ 1048576) (hp : PairsRaw w a l) :
    Calls Tryd.prog 17 #[.slice a l.length cap, .int .i64 n] w (SzPost w n (Small n l)) := by
  have hl := hp.len
  unfold maxLen at hl
  by_cases c1 : n - (l.length : Int) < 0
  · go_enter Tryd.func17, Tryd.ntmps17
    go_wp2
    go_ret
    exact ⟨-1, rfl, by omega, by omega, Below.refl _ _, fun h => by omega⟩
  · have hl2 : (l.length : Int) ≤ 1048576 := by omega
    clear hl
    go_enter Tryd.func17, Tryd.ntmps17
    go_wp2
    go_loopw [1, 5] (fun m i wr => ∃ (k : Nat) (r : Int), k ≤ l.length ∧ i = .int .i64 k ∧ m = .int .i64 r ∧ 0 ≤ r ∧ r ≤ n ∧ Below w.heap.size w wr ∧ ∀ j, j < k → ((nameAt l j).size : Int) ≤ n ∧ ((restAt l j).size : Int) ≤ n) (fun _ i _ => l.length - (intOf i).toNat)
    case atStart => exact ⟨0, n - (l.length : Int), Nat.zero_le _, rfl, rfl, by omega, by omega, Below.refl _ _, all_zero⟩
    case round =>
      obtain ⟨k, r, hk, rfl, rfl, hr0, hrn, hbl, hno⟩ := hrel
      have Hno := Lib.hid hno; clear hno
      by_cases hlt : k < l.length
      · have hsz := Lib.hid (hp.size k hlt)
        obtain ⟨b, off, rfl, hb, h1, h2⟩ := hp.cell k hlt
        have d1 := (hbl.cell (p := ⟨b, off + k * 2, none⟩) hb).trans h1
        have d2 := (hbl.cell (p := ⟨b, off + k * 2 + 1, none⟩) hb).trans h2
        clear h1 h2
        go_wp2_with fail
        refine (szBlock_any _ _ r _ hr0 (by omega) hsz.out.1 hsz.out.2).mono ?_
        rintro e w1 ⟨r1, rfl, hm1, hr1, hb1, hne⟩
        have hb2 := hbl.trans (hb1.mono hbl.size)
        by_cases c2 : r1 < 0
        · go_wp2
          go_ret
          exact ⟨-1, rfl, by omega, by omega, hb2, fun h => by omega⟩
        · have H' := Lib.hid (hne (by omega)); clear hne
          have hr1' : 0 ≤ r1 := by omega
          go_wp2
          go_roundw
          case rel => exact ⟨k + 1, r1, by omega, by go_num, rfl, hr1', by omega, hb2, all_step Hno.out ⟨by have := H'.out.1; omega, by have := H'.out.2; omega⟩⟩
          case measure => simp [intOf]; omega
      · go_wp2
        go_ret
        exact ⟨r, rfl, by omega, by omega, hbl, fun _ => ⟨by omega, fun i hi => Hno.out i (by omega)⟩⟩


set_option maxRecDepth 100000 in
set_option maxHeartbeats 800000 in
theorem szEdge_any (s t : ByteArray) (n : Int) (w : World) (h0 : 0 ≤ n) (h1 : n ≤ 1048576) (hs : s.size ≤ maxLen) (ht : t.size ≤ maxLen) :
    Calls Tryd.prog 38 #[.agg #[.string s, .string t], .int .i64 n] w (SzPost w n ((s.size : Int) ≤ n ∧ (t.size : Int) ≤ n)) := by
  unfold maxLen at hs ht
  by_cases c1 : n - (s.size : Int) < 0
  · go_enter Tryd.func38, Tryd.ntmps38
    go_wp2
    go_ret
    exact ⟨-1, rfl, by omega, by omega, (Below.refl _ _).alloc (Nat.le_refl _) _, fun h => by omega⟩
  · by_cases c2 : n - (s.size : Int) - (t.size : Int) < 0
    · go_enter Tryd.func38, Tryd.ntmps38
      go_wp2
      go_ret
      exact ⟨-1, rfl, by omega, by omega, (Below.refl _ _).alloc (Nat.le_refl _) _, fun h => by omega⟩
    · go_enter Tryd.func38, Tryd.ntmps38
      go_wp2
      go_ret
      exact ⟨n - (s.size : Int) - (t.size : Int), rfl, by omega, by omega, (Below.refl _ _).alloc (Nat.le_refl _) _, fun _ => ⟨by omega, by omega⟩⟩

set_option maxRecDepth 100000 in
set_option maxHeartbeats 800000 in
theorem szEdgeS_any (l : List Pr) (a : Option Addr) (cap : Nat) (n : Int) (w : World) (h0 : 0 ≤ n) (h1 : n ≤ 1048576) (hp : PairsRaw w a l) :
    Calls Tryd.prog 18 #[.slice a l.length cap, .int .i64 n] w (SzPost w n (Small n l)) := by
  have hl := hp.len
  unfold maxLen at hl
  by_cases c1 : n - (l.length : Int) < 0
  · go_enter Tryd.func18, Tryd.ntmps18
    go_wp2
    go_ret
    exact ⟨-1, rfl, by omega, by omega, Below.refl _ _, fun h => by omega⟩
  · have hl2 : (l.length : Int) ≤ 1048576 := by omega
    clear hl
    go_enter Tryd.func18, Tryd.ntmps18
    go_wp2
    go_loopw [1, 5] (fun m i wr => ∃ (k : Nat) (r : Int), k ≤ l.length ∧ i = .int .i64 k ∧ m = .int .i64 r ∧ 0 ≤ r ∧ r ≤ n ∧ Below w.heap.size w wr ∧ ∀ j, j < k → ((nameAt l j).size : Int) ≤ n ∧ ((restAt l j).size : Int) ≤ n) (fun _ i _ => l.length - (intOf i).toNat)
    case atStart => exact ⟨0, n - (l.length : Int), Nat.zero_le _, rfl, rfl, by omega, by omega, Below.refl _ _, all_zero⟩
    case round =>
      obtain ⟨k, r, hk, rfl, rfl, hr0, hrn, hbl, hno⟩ := hrel
      have Hno := Lib.hid hno; clear hno
      by_cases hlt : k < l.length
      · have hsz := Lib.hid (hp.size k hlt)
        obtain ⟨b, off, rfl, hb, h1, h2⟩ := hp.cell k hlt
        have d1 := (hbl.cell (p := ⟨b, off + k * 2, none⟩) hb).trans h1
        have d2 := (hbl.cell (p := ⟨b, off + k * 2 + 1, none⟩) hb).trans h2
        clear h1 h2
        go_wp2_with fail
        refine (szEdge_any _ _ r _ hr0 (by omega) hsz.out.1 hsz.out.2).mono ?_
        rintro e w1 ⟨r1, rfl, hm1, hr1, hb1, hne⟩
        have hb2 := hbl.trans (hb1.mono hbl.size)
        by_cases c2 : r1 < 0
        · go_wp2
          go_ret
          exact ⟨-1, rfl, by omega, by omega, hb2, fun h => by omega⟩
        · have H' := Lib.hid (hne (by omega)); clear hne
          have hr1' : 0 ≤ r1 := by omega
          go_wp2
          go_roundw
          case rel => exact ⟨k + 1, r1, by omega, by go_num, rfl, hr1', by omega, hb2, all_step Hno.out ⟨by have := H'.out.1; omega, by have := H'.out.2; omega⟩⟩
          case measure => simp [intOf]; omega
      · go_wp2
        go_ret
        exact ⟨r, rfl, by omega, by omega, hbl, fun _ => ⟨by omega, fun i hi => Hno.out i (by omega)⟩⟩

set_option maxRecDepth 100000 in
set_option maxHeartbeats 800000 in
theorem szProg_any (w : World) (bs es : List Pr) (ab ae : Option Addr) (cb ce : Nat) (n : Int) (h0 : 0 ≤ n) (h1 : n ≤ 1048576) (hpb : PairsRaw w ab bs) (hpe : PairsRaw w ae es) :
    Calls Tryd.prog 6 #[.agg #[.slice ab bs.length cb, .slice ae es.length ce], .int .i64 n] w (SzPost w n (Small n bs ∧ Small n es)) := by
  have hw : Below w.heap.size w (w.alloc (.cells #[.slice ab bs.length cb, .slice ae es.length ce] 25)) := (Below.refl _ _).alloc (Nat.le_refl _) _
  have hpb1 := hpb.below hw
  have HW := Lib.hid hw
  clear hw
  go_enter Tryd.func6, Tryd.ntmps6
  go_wp2_with fail
  refine (szBlockS_any bs _ _ n _ h0 h1 hpb1).mono ?_
  rintro e w1 ⟨r1, rfl, hm1, hr1, hb1, hne1⟩
  have hall : Below w.heap.size w w1 := HW.out.trans (hb1.mono (by simp))
  by_cases c1 : r1 < 0
  · go_wp2
    go_ret
    exact ⟨-1, rfl, by omega, by omega, hall, fun h => by omega⟩
  · have hpe1 := hpe.below hall
    have x1 := (hb1.cell (p := ⟨w.heap.size, 1, none⟩) (by simp)).trans (show _ = some (.slice ae es.length ce) by go_simp)
    have hs1 : w.heap.size < w1.heap.size := by have := hb1.size; simp at this; omega
    have H1 := Lib.hid (hne1 (by omega)); clear hne1
    go_wp2_with fail
    refine (szEdgeS_any es _ _ r1 _ (by omega) (by omega) hpe1).mono ?_
    rintro e w2 ⟨r2, rfl, hm2, hr2, hb2, hne2⟩
    have hall2 : Below w.heap.size w w2 := hall.trans (hb2.mono (by omega))
    by_cases c2 : r2 < 0
    · go_wp2
      go_ret
      exact ⟨-1, rfl, by omega, by omega, hall2, fun h => by omega⟩
    · have H2 := Lib.hid (hne2 (by omega)); clear hne2
      go_wp2
      go_ret
      exact ⟨r2, rfl, by omega, by omega, hall2, fun _ => ⟨H1.out, by have := H2.out.1; omega, fun i hi => by have := H2.out.2 i hi; omega⟩⟩
end Go.Proofs.YtfmhcjhcmoniaaaDoor
