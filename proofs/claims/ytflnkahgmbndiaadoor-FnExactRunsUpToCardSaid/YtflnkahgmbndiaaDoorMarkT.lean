/-
  The laws' marks in a row of texts: markStringS, heldStringS, and eqStringS of two rows that tell the same. Conditions: at most 1048576 texts, numbers of at most 100000000.
-/
import Derived.Test.YtflnkahgmbndiaaDoorMark
import Derived.Test.YtflnkahgmbndiaaDoorEq
namespace Go.Proofs.YtflnkahgmbndiaaDoor
open Go.RowKit Go.Maps

/-- the marks from number k on -/
def mkTs (k : Nat) : Nat → List ByteArray
  | 0 => []
  | n + 1 => mkV k :: mkTs (k + 1) n
theorem mkTs_length : ∀ (n k : Nat), (mkTs k n).length = n
  | 0, _ => rfl
  | n + 1, k => by simp [mkTs, mkTs_length n]
theorem mkTs_get : ∀ (n k i : Nat), i < n → (mkTs k n)[i]? = some (mkV (k + i))
  | 0, _, _, h => absurd h (Nat.not_lt_zero _)
  | n + 1, k, 0, _ => rfl
  | n + 1, k, i + 1, h => by
    have := mkTs_get n (k + 1) i (by omega)
    rw [show k + (i + 1) = k + 1 + i by omega, ← this]; rfl
/-- a row of texts in a block of a call's own -/
def RowT (w : World) (B : Nat) (a : Option Addr) (n c : Nat) (L : List ByteArray) : Prop := n = L.length ∧ w.ownsRow B 9 1 (.slice a n c) n (L.map Value.string)
section
variable {w w' : World} {B n c : Nat} {a : Option Addr} {L : List ByteArray}
theorem RowT.at_ (h : RowT w B a n c L) {i : Nat} {x : ByteArray} (hi : L[i]? = some x) :
    ∃ g, a = some ⟨g, 0, none⟩ ∧ B ≤ g ∧ g < w.heap.size ∧ w.cell? ⟨g, i, none⟩ = some (.string x) ∧ w.frozen? ⟨g, i, none⟩ = false := by
  obtain ⟨rfl, h1, ⟨_, h0⟩ | ⟨g, cap, cur, hv, hg, hh, hc, hm, hcs, ht⟩⟩ := h
  · have := (List.getElem?_eq_some_iff.1 hi).1
    omega
  · simp only [Value.slice.injEq] at hv
    have hl := (List.getElem?_eq_some_iff.1 hi).1
    refine ⟨g, hv.1, hg, (Array.getElem?_eq_some_iff.1 hh).1, ?_, by simp [World.frozen?, hh]⟩
    have : (L.map Value.string)[i]? = some (.string x) := by rw [List.getElem?_map, hi]; rfl
    rw [← ht, List.getElem?_take, if_pos (by omega)] at this
    rw [cell_of_row w g _ _ _ (0, 0) hh]
    simpa using this
theorem RowT.below (h : RowT w B a n c L) (hb : Below w.heap.size w w') : RowT w' B a n c L := ⟨h.1, ownsRow_below h.2 hb⟩
theorem RowT.turns {S : Nat → Prop} (h : RowT w B a n c L) (ht : Turns S w w') (hS : ∀ g, B ≤ g → g < w.heap.size → ¬ S g) : RowT w' B a n c L := ⟨h.1, ht.row h.2 fun g hg => hS g (h.2.lt g hg).1 (h.2.lt g hg).2⟩
theorem RowT.lt (h : RowT w B a n c L) (g : Nat) (hg : (Value.slice a n c).ownBlock = some g) : B ≤ g ∧ g < w.heap.size := h.2.lt g hg
end
theorem RowT.set {w : World} {B n c g : Nat} {L : List ByteArray} (h : RowT w B (some ⟨g, 0, none⟩) n c L) {i : Nat} (hi : i < n) (s : ByteArray) :
    RowT (w.setCell ⟨g, i, none⟩ (.string s)) B (some ⟨g, 0, none⟩) n c (L.set i s) := by
  obtain ⟨rfl, h1, ⟨hv, h0⟩ | ⟨g', cap, cur, hv, hg, hh, hc, hm, hcs, ht⟩⟩ := h
  · omega
  · simp only [Value.slice.injEq, Option.some.injEq, Addr.mk.injEq] at hv
    obtain ⟨⟨rfl, _⟩, _, rfl⟩ := hv
    refine ⟨by simp, by simp, .inr ⟨g, c, cur.setIfInBounds i (.string s), rfl, hg, by simp [World.setCell, Array.getElem?_modify, hh], hc, hm, by simp [hcs], ?_⟩⟩
    rw [List.map_set, ← ht, Array.toList_setIfInBounds, List.take_set]
theorem RowT.same {w : World} {B n c : Nat} {a : Option Addr} {L L' : List ByteArray} (h : RowT w B a n c L) (e : L = L') : RowT w B a n c L' := e ▸ h
/-- what markStringS leaves -/
def MarkTP (w : World) (a : Option Addr) (n c B k : Nat) (e : Ending) (w' : World) : Prop := e = .returned (.int .i64 ((k + n : Nat) : Int)) ∧ RowT w' B a n c (mkTs k n) ∧ Turns (fun b => some b = (Value.slice a n c).ownBlock) w w'

set_option maxRecDepth 100000 in
set_option maxHeartbeats 3200000 in
theorem markStringS_any (w : World) (L : List ByteArray) (a : Option Addr) (n c B k : Nat) (ho : RowT w B a n c L) (hl : n ≤ 1048576) (hk : k + n ≤ 100000000) :
    Calls Tryd.prog 13 #[.slice a n c, .int .i64 (k : Int)] w (MarkTP w a n c B k) := by
  have HO := Lib.hid ho; clear ho
  go_enter Tryd.func13, Tryd.ntmps13
  go_wp2
  go_loopw [5, 1] (fun i m wr => ∃ (j : Nat) (M : List ByteArray), j ≤ n ∧ i = .int .i64 j ∧ m = .int .i64 ((k + j : Nat) : Int) ∧ RowT wr B a n c M ∧ Turns (fun b => some b = (Value.slice a n c).ownBlock) w wr ∧ ∀ q, q < j → M[q]? = some (mkV (k + q))) (fun i _ _ => n - (intOf i).toNat)
  case atStart => exact ⟨0, L, Nat.zero_le _, rfl, by simp, HO.out, Turns.refl _ _, fun q h => absurd h (Nat.not_lt_zero _)⟩
  case round =>
    obtain ⟨j, M, hj, rfl, rfl, hM, htu, hno⟩ := hrel
    have HN := Lib.hid hno; clear hno
    by_cases hlt : j < n
    · obtain ⟨x, hx⟩ : ∃ x, M[j]? = some x := ⟨_, List.getElem?_eq_getElem (by rw [← hM.1]; exact hlt)⟩
      obtain ⟨g, rfl, hBg, hgl, c0, f0⟩ := hM.at_ hx
      have HT := Lib.hid (And.intro hM htu)
      have w1' : IntKind.i64.wrap (((k + j : Nat) : Int) + 1) = ((k + (j + 1) : Nat) : Int) := by rw [show ((k + j : Nat) : Int) + 1 = ((k + (j + 1) : Nat) : Int) by omega]; exact IntWalk.i64_in _ (by omega)
      obtain ⟨K0, hK0⟩ : ∃ K0, K0 = k + j := ⟨_, rfl⟩
      rw [← hK0] at w1'
      rw [← hK0]
      have HK := Lib.hid hK0
      have hKb : K0 ≤ 100000000 := by omega
      have x1 : (0 : Int) ≤ (j : Int) := by omega
      have x2 : (j : Int) < (n : Int) := by omega
      clear hM htu hK0
      go_wp2_with fail
      refine (markText_any K0 _ hKb).mono ?_
      rintro e wa ⟨rfl, hba⟩
      have hoa := HT.out.1.below hba
      obtain ⟨g', e', _, _, d0, u0⟩ := hoa.at_ hx
      cases e'
      have HA := Lib.hid (And.intro (hoa.set hlt (mkV K0)) ((HT.out.2.trans (Turns.of_below hba)).trans (⟨rfl, rfl, rfl, by simp [World.setCell], fun q _ hq => Below.heap_setCell _ _ _ _ (fun e => hq (by subst e; rfl))⟩ : Turns (fun b => some b = (Value.slice (some ⟨g, 0, none⟩) n c).ownBlock) wa (wa.setCell ⟨g, j, none⟩ (.string (mkV K0))))))
      have HX := Lib.hid hx
      have hjM : j < M.length := (List.getElem?_eq_some_iff.1 hx).1
      clear hba hoa c0 f0 hx
      go_wp2
      go_roundw
      case rel =>
        refine ⟨j + 1, _, by omega, by go_num, rfl, HA.out.1, HA.out.2, fun q hq => ?_⟩
        by_cases e : q = j
        · subst e; rw [List.getElem?_set_self hjM, HK.out]
        · rw [List.getElem?_set_ne (by omega)]; exact HN.out q (by omega)
      case measure => simp [intOf]; omega
    · obtain rfl : j = n := by omega
      have hE : M = mkTs k j := List.ext_getElem? fun i => by
        by_cases hi : i < j
        · rw [HN.out i hi, mkTs_get j k i hi]
        · rw [List.getElem?_eq_none (by have := hM.1; omega), List.getElem?_eq_none (by rw [mkTs_length]; omega)]
      have HX := Lib.hid (And.intro (hM.same hE) htu)
      clear hM htu hE
      go_wp2
      go_ret
      exact ⟨rfl, HX.out.1, HX.out.2⟩

set_option maxRecDepth 100000 in
set_option maxHeartbeats 3200000 in
theorem heldStringS_any (w : World) (a : Option Addr) (n c B k : Nat) (ho : RowT w B a n c (mkTs k n)) (hl : n ≤ 1048576) (hk : k + n ≤ 100000000) :
    Calls Tryd.prog 14 #[.slice a n c, .int .i64 (k : Int)] w fun e w' => e = .returned (.int .i64 ((k + n : Nat) : Int)) ∧ Below w.heap.size w w' := by
  have HO := Lib.hid ho; clear ho
  go_enter Tryd.func14, Tryd.ntmps14
  go_wp2
  go_loopw [5, 1] (fun i m wr => ∃ j : Nat, j ≤ n ∧ i = .int .i64 j ∧ m = .int .i64 ((k + j : Nat) : Int) ∧ Below w.heap.size w wr) (fun i _ _ => n - (intOf i).toNat)
  case atStart => exact ⟨0, Nat.zero_le _, rfl, by simp, Below.refl _ _⟩
  case round =>
    obtain ⟨j, hj, rfl, rfl, hbl⟩ := hrel
    have hsz := hbl.size
    by_cases hlt : j < n
    · obtain ⟨g, rfl, hBg, hgl, c0, _⟩ := (HO.out.below hbl).at_ (mkTs_get n k j hlt)
      have w1' : IntKind.i64.wrap (((k + j : Nat) : Int) + 1) = ((k + (j + 1) : Nat) : Int) := by rw [show ((k + j : Nat) : Int) + 1 = ((k + (j + 1) : Nat) : Int) by omega]; exact IntWalk.i64_in _ (by omega)
      obtain ⟨K0, hK0⟩ : ∃ K0, K0 = k + j := ⟨_, rfl⟩
      rw [← hK0] at w1' c0
      rw [← hK0]
      have HK := Lib.hid hK0
      have hKb : K0 ≤ 100000000 := by omega
      have x1 : (0 : Int) ≤ (j : Int) := by omega
      have x2 : (j : Int) < (n : Int) := by omega
      obtain ⟨A0, hA0⟩ : ∃ A0, A0 = mkV K0 := ⟨_, rfl⟩
      rw [← hA0] at c0
      have HA := Lib.hid hA0
      have q0 : (A0.toList != A0.toList) = false := by simp
      clear hK0 hA0
      go_wp2
      go_region_held3 (fun w' => w'.cell? ⟨g, j, none⟩ = some (.string A0) ∧ Below wr.heap.size wr w')
        (first
          | exact ⟨c0, (Below.refl _ _).drew⟩
          | (have hq := below_new (‹_ ∧ Below wr.heap.size wr _›).2 hbN; exact ⟨(hq.cell (p := ⟨g, j, none⟩) hgl).trans c0, hq⟩))
        (first
          | (go_at_call 37; refine (markText_any K0 _ hKb).mono ?_; rw [← HA.out]; rintro e wN ⟨rfl, hbN⟩))
      have hB1 := (‹_ ∧ Below wr.heap.size wr wN›).2
      have HB := Lib.hid (hbl.trans (hB1.mono hsz))
      clear hB1 hbN
      go_wp2
      go_roundw
      case rel => exact ⟨j + 1, by omega, by go_num, rfl, HB.out⟩
      case measure => simp [intOf]; omega
    · obtain rfl : j = n := by omega
      go_wp2
      go_ret
      exact ⟨rfl, hbl⟩

set_option maxRecDepth 100000 in
set_option maxHeartbeats 1600000 in
theorem eqStringS_same (w : World) (L : List ByteArray) (a a' : Option Addr) (n c c' B B' : Nat) (h : RowT w B a n c L) (h' : RowT w B' a' n c' L) (hl : n ≤ 1048576) :
    Calls Tryd.prog 10 #[.slice a n c, .slice a' n c'] w fun e w' => e = .returned (.bool true) ∧ Below w.heap.size w w' := by
  have HO := Lib.hid (And.intro h h'); clear h h'
  go_enter Tryd.func10, Tryd.ntmps10
  go_wp2
  go_loopw [5] (fun i wr => ∃ k : Nat, k ≤ n ∧ i = .int .i64 k ∧ Below w.heap.size w wr) (fun i _ => n - (intOf i).toNat)
  case atStart => exact ⟨0, Nat.zero_le _, rfl, Below.refl _ _⟩
  case round =>
    obtain ⟨k, hk, rfl, hbl⟩ := hrel
    by_cases hlt : k < n
    · obtain ⟨x, hx⟩ : ∃ x, L[k]? = some x := ⟨_, List.getElem?_eq_getElem (by rw [← HO.out.1.1]; exact hlt)⟩
      obtain ⟨g, rfl, _, _, c0, _⟩ := (HO.out.1.below hbl).at_ hx
      obtain ⟨g', rfl, _, _, c1, _⟩ := (HO.out.2.below hbl).at_ hx
      have m0 : (0 : Int) ≤ (k : Int) := by omega
      have m1 : (k : Int) < (n : Int) := by omega
      have q0 : (x.toList != x.toList) = false := by simp
      clear hx
      go_wp2
      go_quiet (fail)
      go_wp2
      go_roundw
      case rel => exact ⟨k + 1, by omega, by go_num, below_drewN hbl _⟩
      case measure => simp [intOf]; omega
    · obtain rfl : k = n := by omega
      go_wp2
      go_ret
      exact ⟨rfl, hbl⟩
end Go.Proofs.YtflnkahgmbndiaaDoor
