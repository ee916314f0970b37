/-
  The laws' marks: what markText yields, marks laid into a row of pairs and found there, markProg and heldProg over a program's two rows. Conditions: at most 1048576 blocks and edges, numbers of at most 100000000.
-/
import Derived.Test.YtflnkahgmbndiaaDoorBlkS
import Derived.Test.YtflnkahgmbndiaaDoorTurn2
import Derived.Deep.RegionHeld3
namespace Go.Proofs.YtflnkahgmbndiaaDoor
open Go.RowKit Go.Maps

/-- the last digit of a number, as a letter -/
def digC (k : Nat) : UInt8 := UInt8.ofNat (48 + k % 10)
/-- the digits of k ahead of a text, at most f of them -/
def mkL : Nat → Nat → ByteArray → ByteArray
  | 0, _, o => o
  | f + 1, k, o => if k = 0 then o else mkL f (k / 10) (⟨#[digC k]⟩ ++ o)
theorem mkL_zero (o : ByteArray) : ∀ f, mkL f 0 o = o
  | 0 => rfl
  | f + 1 => by rw [mkL, if_pos rfl]
theorem mkL_step {f k : Nat} (h : k ≠ 0) (o : ByteArray) : mkL (f + 1) k o = mkL f (k / 10) (⟨#[digC k]⟩ ++ o) := by rw [mkL, if_neg h]
/-- the mark of number k -/
def mkV (k : Nat) : ByteArray := if k = 0 then ⟨#[109, 48]⟩ else ⟨#[109]⟩ ++ mkL k k e0
theorem mkL_size : ∀ (f k : Nat) (o : ByteArray), (mkL f k o).size ≤ f + o.size
  | 0, _, o => by simp [mkL]
  | f + 1, k, o => by
    by_cases h : k = 0
    · rw [h, mkL_zero]; omega
    · rw [mkL_step h]
      have := mkL_size f (k / 10) (⟨#[digC k]⟩ ++ o)
      rw [ByteArray.size_append] at this
      have h1 : (⟨#[digC k]⟩ : ByteArray).size = 1 := rfl
      omega
/-- the pairs of marks from number k on -/
def mkPs (k : Nat) : Nat → List Pr
  | 0 => []
  | n + 1 => (mkV k, mkV (k + 1)) :: mkPs (k + 2) n
theorem mkPs_length : ∀ (n k : Nat), (mkPs k n).length = n
  | 0, _ => rfl
  | n + 1, k => by simp [mkPs, mkPs_length n]
theorem mkPs_name : ∀ (n k i : Nat), i < n → nameAt (mkPs k n) i = mkV (k + 2 * i)
  | 0, _, _, h => absurd h (Nat.not_lt_zero _)
  | n + 1, k, 0, _ => rfl
  | n + 1, k, i + 1, h => by
    have := mkPs_name n (k + 2) i (by omega)
    rw [show k + 2 * (i + 1) = k + 2 + 2 * i by omega, ← this]; rfl
theorem mkPs_rest : ∀ (n k i : Nat), i < n → restAt (mkPs k n) i = mkV (k + 2 * i + 1)
  | 0, _, _, h => absurd h (Nat.not_lt_zero _)
  | n + 1, k, 0, _ => rfl
  | n + 1, k, i + 1, h => by
    have := mkPs_rest n (k + 2) i (by omega)
    rw [show k + 2 * (i + 1) + 1 = k + 2 + 2 * i + 1 by omega, ← this]; rfl

theorem dig_val (k : Nat) : 48 + ((k : Int) % 10) = ((digC k).toNat : Int) := by
  unfold digC
  have h1 : k % 10 < 10 := Nat.mod_lt _ (by decide)
  have h2 : (UInt8.ofNat (48 + k % 10)).toNat = 48 + k % 10 := by
    rw [UInt8.toNat_ofNat']; omega
  rw [h2]; omega

set_option maxRecDepth 100000 in
set_option maxHeartbeats 1600000 in
theorem markText_any (k : Nat) (w : World) (hk : k ≤ 100000000) :
    Calls Tryd.prog 37 #[.int .i64 (k : Int)] w fun e w' => e = .returned (.string (mkV k)) ∧ Below w.heap.size w w' := by
  by_cases h0 : k = 0
  · subst h0
    go_enter Tryd.func37, Tryd.ntmps37
    go_wp2
    go_ret
    exact ⟨rfl, Below.refl _ _⟩
  · have hV := Lib.hid (show mkV k = ⟨#[109]⟩ ++ mkL k k e0 by unfold mkV; rw [if_neg h0])
    have h1 : (0 : Int) < (k : Int) := by omega
    go_enter Tryd.func37, Tryd.ntmps37
    go_wp2
    go_loopw [0, 3] (fun i o wr => ∃ (f q : Nat) (s : ByteArray), i = .int .i64 q ∧ o = .string s ∧ q ≤ f ∧ f ≤ k ∧ s.size + f ≤ k ∧ mkL f q s = mkL k k e0 ∧ Below w.heap.size w wr) (fun i _ _ => (intOf i).toNat)
    case atStart => exact ⟨k, k, e0, rfl, rfl, Nat.le_refl _, Nat.le_refl _, by show 0 + k ≤ k; omega, rfl, Below.refl _ _⟩
    case round =>
      obtain ⟨f, q, s, rfl, rfl, hqf, hf, hs, hm, hbl⟩ := hrel
      have hsz := hbl.size
      by_cases hq : 0 < q
      · obtain ⟨f', rfl⟩ : ∃ f', f = f' + 1 := ⟨f - 1, by omega⟩
        have HM := Lib.hid ((mkL_step (f := f') (show q ≠ 0 by omega) s).symm.trans hm)
        have hdv := dig_val q
        have hb1 : 0 ≤ (q : Int) % 10 := by omega
        have hb2 : (q : Int) % 10 ≤ 9 := by omega
        have kc := conv_one wr _ _ hdv
        have HD := Lib.hid hdv
        have t0 : ¬ 9223372036854775807 < (⟨#[digC q]⟩ : ByteArray).size + s.size := by show ¬ 9223372036854775807 < 1 + s.size; omega
        have t1 : ¬ 9223372036854775807 < 1 + s.size := by omega
        have HZ := Lib.hid (show ((⟨#[digC q]⟩ : ByteArray) ++ s).size + f' ≤ k by rw [ByteArray.size_append]; show 1 + s.size + f' ≤ k; omega)
        clear hm hdv
        go_wp2
        go_roundw
        case rel => exact ⟨f', q / 10, _, by go_num, rfl, by omega, by omega, HZ.out, HM.out, hbl.alloc hsz _⟩
        case measure => simp [intOf]; omega
      · have HM := Lib.hid (show s = mkL k k e0 by obtain rfl : q = 0 := (by omega); exact (mkL_zero s f).symm.trans hm)
        have hq' : ¬ ((0 : Int) < (q : Int)) := by omega
        have t1 : ¬ 9223372036854775807 < 1 + s.size := by omega
        have t0 : ¬ 9223372036854775807 < (⟨#[109]⟩ : ByteArray).size + s.size := t1
        clear hm
        go_wp2
        go_ret
        exact ⟨by rw [hV.out, ← HM.out]; rfl, hbl⟩

theorem own_at2 {w : World} {B n c : Nat} {e : TypeId} {a : Option Addr} {l : List Pr} (hn : n = l.length) (h : w.ownsRow B e 2 (.slice a n c) n (cellsOf l)) {i : Nat} (hi : i < n) :
    ∃ g, a = some ⟨g, 0, none⟩ ∧ B ≤ g ∧ g < w.heap.size ∧ w.cell? ⟨g, i * 2, none⟩ = some (.string (nameAt l i)) ∧ w.cell? ⟨g, i * 2 + 1, none⟩ = some (.string (restAt l i)) ∧ w.frozen? ⟨g, i * 2, none⟩ = false ∧ w.frozen? ⟨g, i * 2 + 1, none⟩ = false := by
  subst hn
  obtain ⟨h1, ⟨_, h0⟩ | ⟨g, cap, cur, hv, hg, hh, hc, hm, hcs, ht⟩⟩ := h
  · omega
  · simp only [Value.slice.injEq] at hv
    refine ⟨g, hv.1, hg, (Array.getElem?_eq_some_iff.1 hh).1, ?_, ?_, by simp [World.frozen?, hh], by simp [World.frozen?, hh]⟩
    · have := cellsOf_even l i hi
      rw [← ht, List.getElem?_take, if_pos (by omega)] at this
      rw [cell_of_row w g _ _ _ (0, 0) hh]
      simpa using this
    · have := cellsOf_odd l i hi
      rw [← ht, List.getElem?_take, if_pos (by omega)] at this
      rw [cell_of_row w g _ _ _ (0, 0) hh]
      simpa using this
theorem own_set {w : World} {B n c g : Nat} {e : TypeId} {l : List Pr} (hn : n = l.length) (h : w.ownsRow B e 2 (.slice (some ⟨g, 0, none⟩) n c) n (cellsOf l)) {i : Nat} (hi : i < n) (s : ByteArray) :
    (w.setCell ⟨g, i * 2, none⟩ (.string s)).ownsRow B e 2 (.slice (some ⟨g, 0, none⟩) n c) n (cellsOf (l.set i (s, restAt l i))) ∧ (w.setCell ⟨g, i * 2 + 1, none⟩ (.string s)).ownsRow B e 2 (.slice (some ⟨g, 0, none⟩) n c) n (cellsOf (l.set i (nameAt l i, s))) := by
  subst hn
  obtain ⟨h1, ⟨hv, h0⟩ | ⟨g', cap, cur, hv, hg, hh, hc, hm, hcs, ht⟩⟩ := h
  · omega
  · simp only [Value.slice.injEq, Option.some.injEq, Addr.mk.injEq] at hv
    obtain ⟨⟨rfl, _⟩, _, rfl⟩ := hv
    have key : ∀ (j : Nat) (u : Value) (l' : List Pr), j < l.length * 2 → l'.length = l.length → cellsOf l' = (cellsOf l).set j u → (w.setCell ⟨g, j, none⟩ u).ownsRow B e 2 (.slice (some ⟨g, 0, none⟩) l.length c) l.length (cellsOf l') := by
      intro j u l' hj hl' he
      refine ⟨by rw [cellsOf_length, hl'], .inr ⟨g, c, cur.setIfInBounds j u, rfl, hg, by simp [World.setCell, Array.getElem?_modify, hh], hc, hm, by simp [hcs], ?_⟩⟩
      rw [he, ← ht, Array.toList_setIfInBounds, List.take_set]
    exact ⟨key _ _ _ (by omega) (by simp) (cellsOf_set_even l i s hi).symm, key _ _ _ (by omega) (by simp) (cellsOf_set_odd l i s hi).symm⟩
theorem own_same {w : World} {B n c : Nat} {e : TypeId} {a : Option Addr} {l l' : List Pr} (h : w.ownsRow B e 2 (.slice a n c) n (cellsOf l)) (hl : l = l') : w.ownsRow B e 2 (.slice a n c) n (cellsOf l') := by subst hl; exact h
/-- what a mark function leaves -/
def MarkPost (w : World) (a : Option Addr) (n c B k : Nat) (t : TypeId) (e : Ending) (w' : World) : Prop := e = .returned (.int .i64 ((k + 2 * n : Nat) : Int)) ∧ w'.ownsRow B t 2 (.slice a n c) n (cellsOf (mkPs k n)) ∧ Turns (fun b => some b = (Value.slice a n c).ownBlock) w w'

set_option maxRecDepth 100000 in
set_option maxHeartbeats 3200000 in
theorem markBlockS_any (w : World) (l : List Pr) (a : Option Addr) (n c B k : Nat) (hn : n = l.length) (ho : w.ownsRow B 61 2 (.slice a n c) n (cellsOf l)) (hl : n ≤ 1048576) (hk : k + 2 * n ≤ 100000000) :
    Calls Tryd.prog 35 #[.slice a n c, .int .i64 (k : Int)] w (MarkPost w a n c B k 61) := by
  have HO := Lib.hid (And.intro ho hn); clear ho hn
  go_enter Tryd.func35, Tryd.ntmps35
  go_wp2
  go_loopw [5, 1] (fun i m wr => ∃ (j : Nat) (L : List Pr), j ≤ n ∧ i = .int .i64 j ∧ m = .int .i64 ((k + 2 * j : Nat) : Int) ∧ L.length = n ∧ wr.ownsRow B 61 2 (.slice a n c) n (cellsOf L) ∧ Turns (fun b => some b = (Value.slice a n c).ownBlock) w wr ∧ ∀ q, q < j → nameAt L q = mkV (k + 2 * q) ∧ restAt L q = mkV (k + 2 * q + 1)) (fun i _ _ => n - (intOf i).toNat)
  case atStart => exact ⟨0, l, Nat.zero_le _, rfl, by simp, HO.out.2.symm, HO.out.1, Turns.refl _ _, fun q h => absurd h (Nat.not_lt_zero _)⟩
  case round =>
    obtain ⟨j, L, hj, rfl, rfl, hL, hown, htu, hno⟩ := hrel
    have HL := Lib.hid (And.intro hL hno); clear hL hno
    by_cases hlt : j < n
    · obtain ⟨g, rfl, hBg, hgl, c0, c1, f0, f1⟩ := own_at2 HL.out.1.symm hown hlt
      have HT := Lib.hid (And.intro hown htu)
      have w1' : IntKind.i64.wrap (((k + 2 * j : Nat) : Int) + 1) = ((k + 2 * j + 1 : Nat) : Int) := by rw [show ((k + 2 * j : Nat) : Int) + 1 = ((k + 2 * j + 1 : Nat) : Int) by omega]; exact IntWalk.i64_in _ (by omega)
      have w2' : IntKind.i64.wrap (((k + 2 * j + 1 : Nat) : Int) + 1) = ((k + 2 * j + 1 + 1 : Nat) : Int) := by rw [show ((k + 2 * j + 1 : Nat) : Int) + 1 = ((k + 2 * j + 1 + 1 : Nat) : Int) by omega]; exact IntWalk.i64_in _ (by omega)
      obtain ⟨K0, hK0⟩ : ∃ K0, K0 = k + 2 * j := ⟨_, rfl⟩
      rw [← hK0] at w1' w2'
      rw [← hK0]
      have HK := Lib.hid hK0
      have hKb : K0 + 2 ≤ 100000000 := by omega
      have x1 : (0 : Int) ≤ (j : Int) := by omega
      have x2 : (j : Int) < (n : Int) := by omega
      clear hown htu hK0
      go_wp2_with fail
      refine (markText_any K0 _ (by omega)).mono ?_
      rintro e wa ⟨rfl, hba⟩
      have hoa := ownsRow_below HT.out.1 hba
      obtain ⟨g', e', _, _, d0, d1, u0, u1⟩ := own_at2 HL.out.1.symm hoa hlt
      cases e'
      have HA := Lib.hid (And.intro (own_set HL.out.1.symm hoa hlt (mkV K0)).1 ((HT.out.2.trans (Turns.of_below hba)).trans (⟨rfl, rfl, rfl, by simp [World.setCell], fun q _ hq => Below.heap_setCell _ _ _ _ (fun e => hq (by subst e; rfl))⟩ : Turns (fun b => some b = (Value.slice (some ⟨g, 0, none⟩) n c).ownBlock) wa (wa.setCell ⟨g, j * 2, none⟩ (.string (mkV K0))))))
      clear hba hoa c0 c1 f0 f1
      go_wp2_with fail
      refine (markText_any (K0 + 1) _ (by omega)).mono ?_
      rintro e wb ⟨rfl, hbb⟩
      have hob := ownsRow_below HA.out.1 hbb
      have hLs : (L.set j (mkV K0, restAt L j)).length = n := by simp [HL.out.1]
      obtain ⟨g', e', _, _, d0', d1', u0', u1'⟩ := own_at2 hLs.symm hob hlt
      cases e'
      have HB := Lib.hid (And.intro (own_set hLs.symm hob hlt (mkV (K0 + 1))).2 ((HA.out.2.trans (Turns.of_below hbb)).trans (⟨rfl, rfl, rfl, by simp [World.setCell], fun q _ hq => Below.heap_setCell _ _ _ _ (fun e => hq (by subst e; rfl))⟩ : Turns (fun b => some b = (Value.slice (some ⟨g, 0, none⟩) n c).ownBlock) wb (wb.setCell ⟨g, j * 2 + 1, none⟩ (.string (mkV (K0 + 1)))))))
      clear hbb hob d0 d1 u0 u1 hLs
      go_wp2
      go_roundw
      case rel =>
        refine ⟨j + 1, _, by omega, by go_num, by rw [HK.out]; congr 2, ?_, HB.out.1, HB.out.2, fun q hq => ?_⟩
        · simp [HL.out.1]
        · have hjl : j < L.length := by rw [HL.out.1]; exact hlt
          have hjl' : j < (L.set j (mkV K0, restAt L j)).length := by simpa using hjl
          rw [nameAt_set _ _ _ _ hjl', restAt_set _ _ _ _ hjl', nameAt_set _ _ _ _ hjl, restAt_set _ _ _ _ hjl, nameAt_set _ _ _ _ hjl]
          by_cases e : q = j
          · subst e; simp [HK.out]
          · simp only [if_neg e]; exact HL.out.2 q (by omega)
      case measure => simp [intOf]; omega
    · obtain rfl : j = n := by omega
      have hE : L = mkPs k j := ext_at (by rw [HL.out.1, mkPs_length]) (fun i hi => by
        rw [HL.out.1] at hi
        rw [mkPs_name j k i hi, mkPs_rest j k i hi]; exact HL.out.2 i hi)
      have HX := Lib.hid (And.intro (own_same hown hE) htu)
      clear hown htu hE
      go_wp2
      go_ret
      exact ⟨rfl, HX.out.1, HX.out.2⟩

set_option maxRecDepth 100000 in
set_option maxHeartbeats 3200000 in
theorem markEdgeS_any (w : World) (l : List Pr) (a : Option Addr) (n c B k : Nat) (hn : n = l.length) (ho : w.ownsRow B 91 2 (.slice a n c) n (cellsOf l)) (hl : n ≤ 1048576) (hk : k + 2 * n ≤ 100000000) :
    Calls Tryd.prog 36 #[.slice a n c, .int .i64 (k : Int)] w (MarkPost w a n c B k 91) := by
  have HO := Lib.hid (And.intro ho hn); clear ho hn
  go_enter Tryd.func36, Tryd.ntmps36
  go_wp2
  go_loopw [5, 1] (fun i m wr => ∃ (j : Nat) (L : List Pr), j ≤ n ∧ i = .int .i64 j ∧ m = .int .i64 ((k + 2 * j : Nat) : Int) ∧ L.length = n ∧ wr.ownsRow B 91 2 (.slice a n c) n (cellsOf L) ∧ Turns (fun b => some b = (Value.slice a n c).ownBlock) w wr ∧ ∀ q, q < j → nameAt L q = mkV (k + 2 * q) ∧ restAt L q = mkV (k + 2 * q + 1)) (fun i _ _ => n - (intOf i).toNat)
  case atStart => exact ⟨0, l, Nat.zero_le _, rfl, by simp, HO.out.2.symm, HO.out.1, Turns.refl _ _, fun q h => absurd h (Nat.not_lt_zero _)⟩
  case round =>
    obtain ⟨j, L, hj, rfl, rfl, hL, hown, htu, hno⟩ := hrel
    have HL := Lib.hid (And.intro hL hno); clear hL hno
    by_cases hlt : j < n
    · obtain ⟨g, rfl, hBg, hgl, c0, c1, f0, f1⟩ := own_at2 HL.out.1.symm hown hlt
      have HT := Lib.hid (And.intro hown htu)
      have w1' : IntKind.i64.wrap (((k + 2 * j : Nat) : Int) + 1) = ((k + 2 * j + 1 : Nat) : Int) := by rw [show ((k + 2 * j : Nat) : Int) + 1 = ((k + 2 * j + 1 : Nat) : Int) by omega]; exact IntWalk.i64_in _ (by omega)
      have w2' : IntKind.i64.wrap (((k + 2 * j + 1 : Nat) : Int) + 1) = ((k + 2 * j + 1 + 1 : Nat) : Int) := by rw [show ((k + 2 * j + 1 : Nat) : Int) + 1 = ((k + 2 * j + 1 + 1 : Nat) : Int) by omega]; exact IntWalk.i64_in _ (by omega)
      obtain ⟨K0, hK0⟩ : ∃ K0, K0 = k + 2 * j := ⟨_, rfl⟩
      rw [← hK0] at w1' w2'
      rw [← hK0]
      have HK := Lib.hid hK0
      have hKb : K0 + 2 ≤ 100000000 := by omega
      have x1 : (0 : Int) ≤ (j : Int) := by omega
      have x2 : (j : Int) < (n : Int) := by omega
      clear hown htu hK0
      go_wp2_with fail
      refine (markText_any K0 _ (by omega)).mono ?_
      rintro e wa ⟨rfl, hba⟩
      have hoa := ownsRow_below HT.out.1 hba
      obtain ⟨g', e', _, _, d0, d1, u0, u1⟩ := own_at2 HL.out.1.symm hoa hlt
      cases e'
      have HA := Lib.hid (And.intro (own_set HL.out.1.symm hoa hlt (mkV K0)).1 ((HT.out.2.trans (Turns.of_below hba)).trans (⟨rfl, rfl, rfl, by simp [World.setCell], fun q _ hq => Below.heap_setCell _ _ _ _ (fun e => hq (by subst e; rfl))⟩ : Turns (fun b => some b = (Value.slice (some ⟨g, 0, none⟩) n c).ownBlock) wa (wa.setCell ⟨g, j * 2, none⟩ (.string (mkV K0))))))
      clear hba hoa c0 c1 f0 f1
      go_wp2_with fail
      refine (markText_any (K0 + 1) _ (by omega)).mono ?_
      rintro e wb ⟨rfl, hbb⟩
      have hob := ownsRow_below HA.out.1 hbb
      have hLs : (L.set j (mkV K0, restAt L j)).length = n := by simp [HL.out.1]
      obtain ⟨g', e', _, _, d0', d1', u0', u1'⟩ := own_at2 hLs.symm hob hlt
      cases e'
      have HB := Lib.hid (And.intro (own_set hLs.symm hob hlt (mkV (K0 + 1))).2 ((HA.out.2.trans (Turns.of_below hbb)).trans (⟨rfl, rfl, rfl, by simp [World.setCell], fun q _ hq => Below.heap_setCell _ _ _ _ (fun e => hq (by subst e; rfl))⟩ : Turns (fun b => some b = (Value.slice (some ⟨g, 0, none⟩) n c).ownBlock) wb (wb.setCell ⟨g, j * 2 + 1, none⟩ (.string (mkV (K0 + 1)))))))
      clear hbb hob d0 d1 u0 u1 hLs
      go_wp2
      go_roundw
      case rel =>
        refine ⟨j + 1, _, by omega, by go_num, by rw [HK.out]; congr 2, ?_, HB.out.1, HB.out.2, fun q hq => ?_⟩
        · simp [HL.out.1]
        · have hjl : j < L.length := by rw [HL.out.1]; exact hlt
          have hjl' : j < (L.set j (mkV K0, restAt L j)).length := by simpa using hjl
          rw [nameAt_set _ _ _ _ hjl', restAt_set _ _ _ _ hjl', nameAt_set _ _ _ _ hjl, restAt_set _ _ _ _ hjl, nameAt_set _ _ _ _ hjl]
          by_cases e : q = j
          · subst e; simp [HK.out]
          · simp only [if_neg e]; exact HL.out.2 q (by omega)
      case measure => simp [intOf]; omega
    · obtain rfl : j = n := by omega
      have hE : L = mkPs k j := ext_at (by rw [HL.out.1, mkPs_length]) (fun i hi => by
        rw [HL.out.1] at hi
        rw [mkPs_name j k i hi, mkPs_rest j k i hi]; exact HL.out.2 i hi)
      have HX := Lib.hid (And.intro (own_same hown hE) htu)
      clear hown htu hE
      go_wp2
      go_ret
      exact ⟨rfl, HX.out.1, HX.out.2⟩

/-- a program's two rows, in blocks from lo on, below hi -/
structure Rws (W : World) (lo hi : Nat) (a : Option Addr) (n c : Nat) (L : List Pr) (a' : Option Addr) (n' c' : Nat) (E : List Pr) : Prop where
  b : W.ownsRow lo 61 2 (.slice a n c) n (cellsOf L)
  e : W.ownsRow lo 91 2 (.slice a' n' c') n' (cellsOf E)
  bh : ∀ g, (Value.slice a n c).ownBlock = some g → g < hi
  eh : ∀ g, (Value.slice a' n' c').ownBlock = some g → g < hi
section
variable {W W' : World} {lo hi n n' c c' : Nat} {a a' : Option Addr} {L E : List Pr}
theorem Rws.turns {S : Nat → Prop} (h : Rws W lo hi a n c L a' n' c' E) (ht : Turns S W W') (hS : ∀ k, lo ≤ k → k < hi → ¬ S k) : Rws W' lo hi a n c L a' n' c' E :=
  ⟨ht.row h.b (fun g hg => hS g (h.b.lt g hg).1 (h.bh g hg)), ht.row h.e (fun g hg => hS g (h.e.lt g hg).1 (h.eh g hg)), h.bh, h.eh⟩
theorem Rws.below (h : Rws W lo hi a n c L a' n' c' E) (hb : Below W.heap.size W W') : Rws W' lo hi a n c L a' n' c' E := ⟨ownsRow_below h.b hb, ownsRow_below h.e hb, h.bh, h.eh⟩
theorem Rws.lenb (h : Rws W lo hi a n c L a' n' c' E) : n = L.length := by have := h.b.1; rw [cellsOf_length] at this; omega
theorem Rws.lene (h : Rws W lo hi a n c L a' n' c' E) : n' = E.length := by have := h.e.1; rw [cellsOf_length] at this; omega
end
def MarkPP (W : World) (lo hi : Nat) (a : Option Addr) (n c : Nat) (a' : Option Addr) (n' c' k : Nat) (e : Ending) (W' : World) : Prop :=
  e = .returned (.int .i64 ((k + 2 * n + 2 * n' : Nat) : Int)) ∧ Rws W' lo hi a n c (mkPs k n) a' n' c' (mkPs (k + 2 * n) n') ∧ Turns (fun b => lo ≤ b ∧ b < hi) W W'

set_option maxRecDepth 100000 in
set_option maxHeartbeats 1600000 in
theorem markProg_any (W : World) (lo hi : Nat) (a : Option Addr) (n c : Nat) (L : List Pr) (a' : Option Addr) (n' c' : Nat) (E : List Pr) (k : Nat) (h : Rws W lo hi a n c L a' n' c' E) (hn : n ≤ 1048576) (hn' : n' ≤ 1048576) (hk : k ≤ 1000) :
    Calls Tryd.prog 12 #[.agg #[.slice a n c, .slice a' n' c'], .int .i64 (k : Int)] W (MarkPP W lo hi a n c a' n' c' k) := by
  have hb1 : Below W.heap.size W (W.alloc (.cells #[.slice a n c, .slice a' n' c'] 33)) := (Below.refl _ _).alloc (Nat.le_refl _) _
  have hT : Two (W.alloc (.cells #[.slice a n c, .slice a' n' c'] 33)) W.heap.size _ _ := heap_alloc_new _ _
  have H := Lib.hid (And.intro h (And.intro (h.below hb1) (And.intro hb1 hT)))
  clear h hb1 hT
  go_enter Tryd.func12, Tryd.ntmps12
  go_wp2_with fail
  refine (markBlockS_any _ L a n c lo k H.out.2.1.lenb H.out.2.1.b hn (by omega)).mono ?_
  rintro e W1 ⟨rfl, hob, htu⟩
  have hne : ∀ g, (Value.slice a' n' c').ownBlock = some g → ¬ some g = (Value.slice a n c).ownBlock := fun g hg e => by
    obtain ⟨c9, z9, h9⟩ := Lib.ownsRow_kind H.out.2.1.e g hg
    exact own_neK H.out.2.1.b h9 (by decide) e.symm
  have hoe := htu.row H.out.2.1.e hne
  have hT1 : Two W1 W.heap.size _ _ := htu.two H.out.2.2.2 (fun e => own_neK H.out.2.1.b H.out.2.2.2 (by decide) e.symm)
  obtain ⟨c0, c1, _, _, hl⟩ := hT1.cells
  have HA := Lib.hid (And.intro hob (And.intro htu hoe))
  clear hob htu hoe hT1 hne
  go_wp2_with fail
  refine (markEdgeS_any _ E a' n' c' lo (k + 2 * n) H.out.2.1.lene HA.out.2.2 hn' (by omega)).mono ?_
  rintro e W2 ⟨rfl, hoe2, htu2⟩
  have hob2 := htu2.row HA.out.1 (fun g hg e => by
    obtain ⟨c9, z9, h9⟩ := Lib.ownsRow_kind HA.out.1 g hg
    exact own_neK HA.out.2.2 h9 (by decide) e.symm)
  have htf : Turns (fun b => lo ≤ b ∧ b < hi) W W2 := by
    refine ((Turns.of_below (S := fun b => lo ≤ b ∧ b < hi) H.out.2.2.1).then_ HA.out.2.1 (fun _ _ h => h) (fun i _ e => ⟨(H.out.2.1.b.lt i e.symm).1, H.out.1.bh i e.symm⟩)).then_ htu2 (fun _ _ h => h) (fun i _ e => ⟨(HA.out.2.2.lt i e.symm).1, H.out.1.eh i e.symm⟩)
  have HX := Lib.hid (And.intro hob2 (And.intro hoe2 htf))
  clear hob2 hoe2 htf htu2
  go_wp2
  go_ret
  exact ⟨rfl, ⟨HX.out.1, HX.out.2.1, H.out.1.bh, H.out.1.eh⟩, HX.out.2.2⟩

end Go.Proofs.YtflnkahgmbndiaaDoor
