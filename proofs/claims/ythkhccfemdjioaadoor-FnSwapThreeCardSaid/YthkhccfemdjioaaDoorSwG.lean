import Derived.Test.YthkhccfemdjioaaDoorWords
import Derived.Test.YthkhccfemdjioaaDoorBlkS
import Derived.Test.YthkhccfemdjioaaDoorTurn2
import Derived.Deep.RegionHeld3
import Derived.Test.YthkhccfemdjioaaDoorSpecD
section
/-
  Plain mathematics of chapter 1: terms swapped in a text. It names no program. Conditions: none.
-/
namespace Go.Proofs.YthkhccfemdjioaaDoor
open Go.RowKit

/-- t for u, u for t, any other number as it is -/
def othN (c t u : Nat) : Nat := if c = t then u else if c = u then t else c
/-- a letter, t and u swapped: small letters compute, great ones spoil -/
def swB (t u c : Nat) : Nat := if lowB c then othN c t u else othN (c + 32) t u - 32
def swC (t u c : Nat) : UInt8 := UInt8.ofNat (swB t u c)
def swT (s : ByteArray) (t u : Nat) : Nat → ByteArray
  | 0 => ⟨#[]⟩
  | k + 1 => swT s t u k ++ ⟨#[swC t u (byteAt s k)]⟩
theorem swT_succ (s : ByteArray) (t u k : Nat) : swT s t u (k + 1) = swT s t u k ++ ⟨#[swC t u (byteAt s k)]⟩ := rfl
theorem swT_size (s : ByteArray) (t u : Nat) : ∀ k, (swT s t u k).size = k
  | 0 => rfl
  | k + 1 => by rw [swT_succ, ByteArray.size_append, swT_size s t u k]; rfl
theorem swB_le {t u c : Nat} (ht : lowB t = true) (hu : lowB u = true) (hc : opB c = true) : swB t u c < 256 ∧ opB (swB t u c) = true ∧ (lowB (swB t u c) = lowB c) := by
  have h1 : t = 120 ∨ t = 121 ∨ t = 122 := by unfold lowB at ht; simp only [Bool.and_eq_true, decide_eq_true_eq] at ht; omega
  have h2 : u = 120 ∨ u = 121 ∨ u = 122 := by unfold lowB at hu; simp only [Bool.and_eq_true, decide_eq_true_eq] at hu; omega
  have h3 : c = 88 ∨ c = 89 ∨ c = 90 ∨ c = 120 ∨ c = 121 ∨ c = 122 := by unfold opB lowB upB at hc; simp only [Bool.or_eq_true, Bool.and_eq_true, decide_eq_true_eq] at hc; omega
  rcases h1 with rfl | rfl | rfl <;> rcases h2 with rfl | rfl | rfl <;> rcases h3 with rfl | rfl | rfl | rfl | rfl | rfl <;> decide
theorem swC_nat {t u c : Nat} (ht : lowB t = true) (hu : lowB u = true) (hc : opB c = true) : (swC t u c).toNat = swB t u c := by
  unfold swC
  rw [UInt8.toNat_ofNat']
  have := (swB_le ht hu hc).1
  omega
theorem swT_at (s : ByteArray) (t u : Nat) : ∀ k i, i < k → byteAt (swT s t u k) i = (swC t u (byteAt s i)).toNat
  | 0, i, h => absurd h (Nat.not_lt_zero _)
  | k + 1, i, h => by
    have hz := swT_size s t u k
    have hd : (swT s t u k).data.size = k := hz
    rw [swT_succ]
    unfold byteAt
    rw [ByteArray.data_append]
    by_cases e : i < k
    · have := swT_at s t u k i e
      unfold byteAt at this
      rw [Array.getD_eq_getD_getElem?, Array.getElem?_append_left (by omega), ← Array.getD_eq_getD_getElem?]
      exact this
    · obtain rfl : i = k := by omega
      rw [Array.getD_eq_getD_getElem?, Array.getElem?_append_right (by omega), hd, Nat.sub_self]
      rfl
end Go.Proofs.YthkhccfemdjioaaDoor
end

section
/-
  The laws' marks: what markText yields, marks laid into a row of pairs and found there, markProg and heldProg over a program's two rows. Conditions: at most 1048576 blocks and edges, numbers of at most 100000000.
-/
namespace Go.Proofs.YthkhccfemdjioaaDoor
open Go.RowKit Go.Maps

/-- the last digit of a number, as a letter -/
def digC (k : Nat) : UInt8 := UInt8.ofNat (48 + k % 10)
/-- the digits of k ahead of a text, at most f of them -/
def mkL : Nat → Nat → ByteArray → ByteArray
  | 0, _, o => o
  | f + 1, k, o => if k = 0 then o else mkL f (k / 10) (⟨#[digC k]⟩ ++ o)
theorem mkL_zero (o : ByteArray) : ∀ f, mkL f 0 o = o
  | 0 => rfl
  | f + 1 => by rw [mkL, if_pos rfl]
theorem mkL_step {f k : Nat} (h : k ≠ 0) (o : ByteArray) : mkL (f + 1) k o = mkL f (k / 10) (⟨#[digC k]⟩ ++ o) := by rw [mkL, if_neg h]
/-- the mark of number k -/
def mkV (k : Nat) : ByteArray := if k = 0 then ⟨#[109, 48]⟩ else ⟨#[109]⟩ ++ mkL k k e0
theorem mkL_size : ∀ (f k : Nat) (o : ByteArray), (mkL f k o).size ≤ f + o.size
  | 0, _, o => by simp [mkL]
  | f + 1, k, o => by
    by_cases h : k = 0
    · rw [h, mkL_zero]; omega
    · rw [mkL_step h]
      have := mkL_size f (k / 10) (⟨#[digC k]⟩ ++ o)
      rw [ByteArray.size_append] at this
      have h1 : (⟨#[digC k]⟩ : ByteArray).size = 1 := rfl
      omega
/-- the pairs of marks from number k on -/
def mkPs (k : Nat) : Nat → List Pr
  | 0 => []
  | n + 1 => (mkV k, mkV (k + 1)) :: mkPs (k + 2) n
theorem mkPs_length : ∀ (n k : Nat), (mkPs k n).length = n
  | 0, _ => rfl
  | n + 1, k => by simp [mkPs, mkPs_length n]
theorem mkPs_name : ∀ (n k i : Nat), i < n → nameAt (mkPs k n) i = mkV (k + 2 * i)
  | 0, _, _, h => absurd h (Nat.not_lt_zero _)
  | n + 1, k, 0, _ => rfl
  | n + 1, k, i + 1, h => by
    have := mkPs_name n (k + 2) i (by omega)
    rw [show k + 2 * (i + 1) = k + 2 + 2 * i by omega, ← this]; rfl
theorem mkPs_rest : ∀ (n k i : Nat), i < n → restAt (mkPs k n) i = mkV (k + 2 * i + 1)
  | 0, _, _, h => absurd h (Nat.not_lt_zero _)
  | n + 1, k, 0, _ => rfl
  | n + 1, k, i + 1, h => by
    have := mkPs_rest n (k + 2) i (by omega)
    rw [show k + 2 * (i + 1) + 1 = k + 2 + 2 * i + 1 by omega, ← this]; rfl

theorem dig_val (k : Nat) : 48 + ((k : Int) % 10) = ((digC k).toNat : Int) := by
  unfold digC
  have h1 : k % 10 < 10 := Nat.mod_lt _ (by decide)
  have h2 : (UInt8.ofNat (48 + k % 10)).toNat = 48 + k % 10 := by
    rw [UInt8.toNat_ofNat']; omega
  rw [h2]; omega

set_option maxRecDepth 100000 in
set_option maxHeartbeats 1600000 in
theorem markText_any (k : Nat) (w : World) (hk : k ≤ 100000000) :
    Calls Tryd.prog 131 #[.int .i64 (k : Int)] w fun e w' => e = .returned (.string (mkV k)) ∧ Below w.heap.size w w' := by
  by_cases h0 : k = 0
  · subst h0
    go_enter Tryd.func131, Tryd.ntmps131
    go_wp2
    go_ret
    exact ⟨rfl, Below.refl _ _⟩
  · have hV := Lib.hid (show mkV k = ⟨#[109]⟩ ++ mkL k k e0 by unfold mkV; rw [if_neg h0])
    have h1 : (0 : Int) < (k : Int) := by omega
    go_enter Tryd.func131, Tryd.ntmps131
    go_wp2
    go_loopw [0, 3] (fun i o wr => ∃ (f q : Nat) (s : ByteArray), i = .int .i64 q ∧ o = .string s ∧ q ≤ f ∧ f ≤ k ∧ s.size + f ≤ k ∧ mkL f q s = mkL k k e0 ∧ Below w.heap.size w wr) (fun i _ _ => (intOf i).toNat)
    case atStart => exact ⟨k, k, e0, rfl, rfl, Nat.le_refl _, Nat.le_refl _, by show 0 + k ≤ k; omega, rfl, Below.refl _ _⟩
    case round =>
      obtain ⟨f, q, s, rfl, rfl, hqf, hf, hs, hm, hbl⟩ := hrel
      have hsz := hbl.size
      by_cases hq : 0 < q
      · obtain ⟨f', rfl⟩ : ∃ f', f = f' + 1 := ⟨f - 1, by omega⟩
        have HM := Lib.hid ((mkL_step (f := f') (show q ≠ 0 by omega) s).symm.trans hm)
        have hdv := dig_val q
        have hb1 : 0 ≤ (q : Int) % 10 := by omega
        have hb2 : (q : Int) % 10 ≤ 9 := by omega
        have kc := conv_one wr _ _ hdv
        have HD := Lib.hid hdv
        have t0 : ¬ 9223372036854775807 < (⟨#[digC q]⟩ : ByteArray).size + s.size := by show ¬ 9223372036854775807 < 1 + s.size; omega
        have t1 : ¬ 9223372036854775807 < 1 + s.size := by omega
        have HZ := Lib.hid (show ((⟨#[digC q]⟩ : ByteArray) ++ s).size + f' ≤ k by rw [ByteArray.size_append]; show 1 + s.size + f' ≤ k; omega)
        clear hm hdv
        go_wp2
        go_roundw
        case rel => exact ⟨f', q / 10, _, by go_num, rfl, by omega, by omega, HZ.out, HM.out, hbl.alloc hsz _⟩
        case measure => simp [intOf]; omega
      · have HM := Lib.hid (show s = mkL k k e0 by obtain rfl : q = 0 := (by omega); exact (mkL_zero s f).symm.trans hm)
        have hq' : ¬ ((0 : Int) < (q : Int)) := by omega
        have t1 : ¬ 9223372036854775807 < 1 + s.size := by omega
        have t0 : ¬ 9223372036854775807 < (⟨#[109]⟩ : ByteArray).size + s.size := t1
        clear hm
        go_wp2
        go_ret
        exact ⟨by rw [hV.out, ← HM.out]; rfl, hbl⟩

theorem own_at2 {w : World} {B n c : Nat} {e : TypeId} {a : Option Addr} {l : List Pr} (hn : n = l.length) (h : w.ownsRow B e 2 (.slice a n c) n (cellsOf l)) {i : Nat} (hi : i < n) :
    ∃ g, a = some ⟨g, 0, none⟩ ∧ B ≤ g ∧ g < w.heap.size ∧ w.cell? ⟨g, i * 2, none⟩ = some (.string (nameAt l i)) ∧ w.cell? ⟨g, i * 2 + 1, none⟩ = some (.string (restAt l i)) ∧ w.frozen? ⟨g, i * 2, none⟩ = false ∧ w.frozen? ⟨g, i * 2 + 1, none⟩ = false := by
  subst hn
  obtain ⟨h1, ⟨_, h0⟩ | ⟨g, cap, cur, hv, hg, hh, hc, hm, hcs, ht⟩⟩ := h
  · omega
  · simp only [Value.slice.injEq] at hv
    refine ⟨g, hv.1, hg, (Array.getElem?_eq_some_iff.1 hh).1, ?_, ?_, by simp [World.frozen?, hh], by simp [World.frozen?, hh]⟩
    · have := cellsOf_even l i hi
      rw [← ht, List.getElem?_take, if_pos (by omega)] at this
      rw [cell_of_row w g _ _ _ (0, 0) hh]
      simpa using this
    · have := cellsOf_odd l i hi
      rw [← ht, List.getElem?_take, if_pos (by omega)] at this
      rw [cell_of_row w g _ _ _ (0, 0) hh]
      simpa using this
theorem own_set {w : World} {B n c g : Nat} {e : TypeId} {l : List Pr} (hn : n = l.length) (h : w.ownsRow B e 2 (.slice (some ⟨g, 0, none⟩) n c) n (cellsOf l)) {i : Nat} (hi : i < n) (s : ByteArray) :
    (w.setCell ⟨g, i * 2, none⟩ (.string s)).ownsRow B e 2 (.slice (some ⟨g, 0, none⟩) n c) n (cellsOf (l.set i (s, restAt l i))) ∧ (w.setCell ⟨g, i * 2 + 1, none⟩ (.string s)).ownsRow B e 2 (.slice (some ⟨g, 0, none⟩) n c) n (cellsOf (l.set i (nameAt l i, s))) := by
  subst hn
  obtain ⟨h1, ⟨hv, h0⟩ | ⟨g', cap, cur, hv, hg, hh, hc, hm, hcs, ht⟩⟩ := h
  · omega
  · simp only [Value.slice.injEq, Option.some.injEq, Addr.mk.injEq] at hv
    obtain ⟨⟨rfl, _⟩, _, rfl⟩ := hv
    have key : ∀ (j : Nat) (u : Value) (l' : List Pr), j < l.length * 2 → l'.length = l.length → cellsOf l' = (cellsOf l).set j u → (w.setCell ⟨g, j, none⟩ u).ownsRow B e 2 (.slice (some ⟨g, 0, none⟩) l.length c) l.length (cellsOf l') := by
      intro j u l' hj hl' he
      refine ⟨by rw [cellsOf_length, hl'], .inr ⟨g, c, cur.setIfInBounds j u, rfl, hg, by simp [World.setCell, Array.getElem?_modify, hh], hc, hm, by simp [hcs], ?_⟩⟩
      rw [he, ← ht, Array.toList_setIfInBounds, List.take_set]
    exact ⟨key _ _ _ (by omega) (by simp) (cellsOf_set_even l i s hi).symm, key _ _ _ (by omega) (by simp) (cellsOf_set_odd l i s hi).symm⟩
theorem own_same {w : World} {B n c : Nat} {e : TypeId} {a : Option Addr} {l l' : List Pr} (h : w.ownsRow B e 2 (.slice a n c) n (cellsOf l)) (hl : l = l') : w.ownsRow B e 2 (.slice a n c) n (cellsOf l') := by subst hl; exact h
/-- what a mark function leaves -/
def MarkPost (w : World) (a : Option Addr) (n c B k : Nat) (t : TypeId) (e : Ending) (w' : World) : Prop := e = .returned (.int .i64 ((k + 2 * n : Nat) : Int)) ∧ w'.ownsRow B t 2 (.slice a n c) n (cellsOf (mkPs k n)) ∧ Turns (fun b => some b = (Value.slice a n c).ownBlock) w w'

set_option maxRecDepth 100000 in
set_option maxHeartbeats 3200000 in
theorem markBlockS_any (w : World) (l : List Pr) (a : Option Addr) (n c B k : Nat) (hn : n = l.length) (ho : w.ownsRow B 52 2 (.slice a n c) n (cellsOf l)) (hl : n ≤ 1048576) (hk : k + 2 * n ≤ 100000000) :
    Calls Tryd.prog 67 #[.slice a n c, .int .i64 (k : Int)] w (MarkPost w a n c B k 52) := by
  have HO := Lib.hid (And.intro ho hn); clear ho hn
  go_enter Tryd.func67, Tryd.ntmps67
  go_wp2
  go_loopw [5, 1] (fun i m wr => ∃ (j : Nat) (L : List Pr), j ≤ n ∧ i = .int .i64 j ∧ m = .int .i64 ((k + 2 * j : Nat) : Int) ∧ L.length = n ∧ wr.ownsRow B 52 2 (.slice a n c) n (cellsOf L) ∧ Turns (fun b => some b = (Value.slice a n c).ownBlock) w wr ∧ ∀ q, q < j → nameAt L q = mkV (k + 2 * q) ∧ restAt L q = mkV (k + 2 * q + 1)) (fun i _ _ => n - (intOf i).toNat)
  case atStart => exact ⟨0, l, Nat.zero_le _, rfl, by simp, HO.out.2.symm, HO.out.1, Turns.refl _ _, fun q h => absurd h (Nat.not_lt_zero _)⟩
  case round =>
    obtain ⟨j, L, hj, rfl, rfl, hL, hown, htu, hno⟩ := hrel
    have HL := Lib.hid (And.intro hL hno); clear hL hno
    by_cases hlt : j < n
    · obtain ⟨g, rfl, hBg, hgl, c0, c1, f0, f1⟩ := own_at2 HL.out.1.symm hown hlt
      have HT := Lib.hid (And.intro hown htu)
      have w1' : IntKind.i64.wrap (((k + 2 * j : Nat) : Int) + 1) = ((k + 2 * j + 1 : Nat) : Int) := by rw [show ((k + 2 * j : Nat) : Int) + 1 = ((k + 2 * j + 1 : Nat) : Int) by omega]; exact IntWalk.i64_in _ (by omega)
      have w2' : IntKind.i64.wrap (((k + 2 * j + 1 : Nat) : Int) + 1) = ((k + 2 * j + 1 + 1 : Nat) : Int) := by rw [show ((k + 2 * j + 1 : Nat) : Int) + 1 = ((k + 2 * j + 1 + 1 : Nat) : Int) by omega]; exact IntWalk.i64_in _ (by omega)
      obtain ⟨K0, hK0⟩ : ∃ K0, K0 = k + 2 * j := ⟨_, rfl⟩
      rw [← hK0] at w1' w2'
      rw [← hK0]
      have HK := Lib.hid hK0
      have hKb : K0 + 2 ≤ 100000000 := by omega
      have x1 : (0 : Int) ≤ (j : Int) := by omega
      have x2 : (j : Int) < (n : Int) := by omega
      clear hown htu hK0
      go_wp2_with fail
      refine (markText_any K0 _ (by omega)).mono ?_
      rintro e wa ⟨rfl, hba⟩
      have hoa := ownsRow_below HT.out.1 hba
      obtain ⟨g', e', _, _, d0, d1, u0, u1⟩ := own_at2 HL.out.1.symm hoa hlt
      cases e'
      have HA := Lib.hid (And.intro (own_set HL.out.1.symm hoa hlt (mkV K0)).1 ((HT.out.2.trans (Turns.of_below hba)).trans (⟨rfl, rfl, rfl, by simp [World.setCell], fun q _ hq => Below.heap_setCell _ _ _ _ (fun e => hq (by subst e; rfl))⟩ : Turns (fun b => some b = (Value.slice (some ⟨g, 0, none⟩) n c).ownBlock) wa (wa.setCell ⟨g, j * 2, none⟩ (.string (mkV K0))))))
      clear hba hoa c0 c1 f0 f1
      go_wp2_with fail
      refine (markText_any (K0 + 1) _ (by omega)).mono ?_
      rintro e wb ⟨rfl, hbb⟩
      have hob := ownsRow_below HA.out.1 hbb
      have hLs : (L.set j (mkV K0, restAt L j)).length = n := by simp [HL.out.1]
      obtain ⟨g', e', _, _, d0', d1', u0', u1'⟩ := own_at2 hLs.symm hob hlt
      cases e'
      have HB := Lib.hid (And.intro (own_set hLs.symm hob hlt (mkV (K0 + 1))).2 ((HA.out.2.trans (Turns.of_below hbb)).trans (⟨rfl, rfl, rfl, by simp [World.setCell], fun q _ hq => Below.heap_setCell _ _ _ _ (fun e => hq (by subst e; rfl))⟩ : Turns (fun b => some b = (Value.slice (some ⟨g, 0, none⟩) n c).ownBlock) wb (wb.setCell ⟨g, j * 2 + 1, none⟩ (.string (mkV (K0 + 1)))))))
      clear hbb hob d0 d1 u0 u1 hLs
      go_wp2
      go_roundw
      case rel =>
        refine ⟨j + 1, _, by omega, by go_num, by rw [HK.out]; congr 2, ?_, HB.out.1, HB.out.2, fun q hq => ?_⟩
        · simp [HL.out.1]
        · have hjl : j < L.length := by rw [HL.out.1]; exact hlt
          have hjl' : j < (L.set j (mkV K0, restAt L j)).length := by simpa using hjl
          rw [nameAt_set _ _ _ _ hjl', restAt_set _ _ _ _ hjl', nameAt_set _ _ _ _ hjl, restAt_set _ _ _ _ hjl, nameAt_set _ _ _ _ hjl]
          by_cases e : q = j
          · subst e; simp [HK.out]
          · simp only [if_neg e]; exact HL.out.2 q (by omega)
      case measure => simp [intOf]; omega
    · obtain rfl : j = n := by omega
      have hE : L = mkPs k j := ext_at (by rw [HL.out.1, mkPs_length]) (fun i hi => by
        rw [HL.out.1] at hi
        rw [mkPs_name j k i hi, mkPs_rest j k i hi]; exact HL.out.2 i hi)
      have HX := Lib.hid (And.intro (own_same hown hE) htu)
      clear hown htu hE
      go_wp2
      go_ret
      exact ⟨rfl, HX.out.1, HX.out.2⟩

set_option maxRecDepth 100000 in
set_option maxHeartbeats 3200000 in
theorem heldBlockS_any (w : World) (a : Option Addr) (n c B k : Nat) (ho : w.ownsRow B 52 2 (.slice a n c) n (cellsOf (mkPs k n))) (hl : n ≤ 1048576) (hk : k + 2 * n ≤ 100000000) :
    Calls Tryd.prog 69 #[.slice a n c, .int .i64 (k : Int)] w fun e w' => e = .returned (.int .i64 ((k + 2 * n : Nat) : Int)) ∧ Below w.heap.size w w' := by
  have HO := Lib.hid ho; clear ho
  go_enter Tryd.func69, Tryd.ntmps69
  go_wp2
  go_loopw [5, 1] (fun i m wr => ∃ j : Nat, j ≤ n ∧ i = .int .i64 j ∧ m = .int .i64 ((k + 2 * j : Nat) : Int) ∧ Below w.heap.size w wr) (fun i _ _ => n - (intOf i).toNat)
  case atStart => exact ⟨0, Nat.zero_le _, rfl, by simp, Below.refl _ _⟩
  case round =>
    obtain ⟨j, hj, rfl, rfl, hbl⟩ := hrel
    have hsz := hbl.size
    by_cases hlt : j < n
    · obtain ⟨g, rfl, hBg, hgl, c0, c1, _, _⟩ := own_at2 (mkPs_length n k).symm (ownsRow_below HO.out hbl) hlt
      rw [mkPs_name n k j hlt] at c0
      rw [mkPs_rest n k j hlt] at c1
      have w1' : IntKind.i64.wrap (((k + 2 * j : Nat) : Int) + 1) = ((k + 2 * j + 1 : Nat) : Int) := by rw [show ((k + 2 * j : Nat) : Int) + 1 = ((k + 2 * j + 1 : Nat) : Int) by omega]; exact IntWalk.i64_in _ (by omega)
      have w2' : IntKind.i64.wrap (((k + 2 * j + 1 : Nat) : Int) + 1) = ((k + 2 * j + 1 + 1 : Nat) : Int) := by rw [show ((k + 2 * j + 1 : Nat) : Int) + 1 = ((k + 2 * j + 1 + 1 : Nat) : Int) by omega]; exact IntWalk.i64_in _ (by omega)
      obtain ⟨K0, hK0⟩ : ∃ K0, K0 = k + 2 * j := ⟨_, rfl⟩
      rw [← hK0] at w1' w2' c0 c1
      rw [← hK0]
      have HK := Lib.hid hK0
      have hKb : K0 + 2 ≤ 100000000 := by omega
      have x1 : (0 : Int) ≤ (j : Int) := by omega
      have x2 : (j : Int) < (n : Int) := by omega
      obtain ⟨A0, hA0⟩ : ∃ A0, A0 = mkV K0 := ⟨_, rfl⟩
      obtain ⟨A1, hA1⟩ : ∃ A1, A1 = mkV (K0 + 1) := ⟨_, rfl⟩
      rw [← hA0] at c0
      rw [← hA1] at c1
      have HA := Lib.hid (And.intro hA0 hA1)
      have q0 : (A0.toList != A0.toList) = false := by simp
      have q1 : (A1.toList != A1.toList) = false := by simp
      clear hK0 hA0 hA1
      go_wp2
      go_region_held3 (fun w' => w'.cell? ⟨g, j * 2, none⟩ = some (.string A0) ∧ Below wr.heap.size wr w')
        (first
          | exact ⟨c0, (Below.refl _ _).drew⟩
          | (have hq := below_new (‹_ ∧ Below wr.heap.size wr _›).2 hbN; exact ⟨(hq.cell (p := ⟨g, j * 2, none⟩) hgl).trans c0, hq⟩))
        (first
          | (go_at_call 131; refine (markText_any K0 _ (by omega)).mono ?_; rw [← HA.out.1]; rintro e wN ⟨rfl, hbN⟩))
      have hB1 := (‹_ ∧ Below wr.heap.size wr wN›).2
      have d1 := (hB1.cell (p := ⟨g, j * 2 + 1, none⟩) hgl).trans c1
      have hgl2 : g < wN.heap.size := Nat.lt_of_lt_of_le hgl hB1.size
      have HB := Lib.hid (hbl.trans (hB1.mono hsz))
      have hsz2 : w.heap.size ≤ wN.heap.size := Nat.le_trans hsz hB1.size
      clear hB1 hbN
      obtain ⟨wo, rfl⟩ : ∃ wo, wo = wN := ⟨_, rfl⟩
      go_wp2
      go_region_held3 (fun w' => w'.cell? ⟨g, j * 2 + 1, none⟩ = some (.string A1) ∧ Below wo.heap.size wo w')
        (first
          | exact ⟨d1, (Below.refl _ _).drew⟩
          | (have hq := below_new (‹_ ∧ Below wo.heap.size wo _›).2 hbM; exact ⟨(hq.cell (p := ⟨g, j * 2 + 1, none⟩) hgl2).trans d1, hq⟩))
        (first
          | (go_at_call 131; refine (markText_any (K0 + 1) _ (by omega)).mono ?_; rw [← HA.out.2]; rintro e wM ⟨rfl, hbM⟩))
      have hB2 := (‹_ ∧ Below wo.heap.size wo wM›).2
      have HC := Lib.hid (HB.out.trans (hB2.mono hsz2))
      clear hB2 hbM
      go_wp2
      go_roundw
      case rel => exact ⟨j + 1, by omega, by go_num, by rw [HK.out]; congr 2, HC.out⟩
      case measure => simp [intOf]; omega
    · obtain rfl : j = n := by omega
      go_wp2
      go_ret
      exact ⟨rfl, hbl⟩

set_option maxRecDepth 100000 in
set_option maxHeartbeats 3200000 in
theorem markEdgeS_any (w : World) (l : List Pr) (a : Option Addr) (n c B k : Nat) (hn : n = l.length) (ho : w.ownsRow B 93 2 (.slice a n c) n (cellsOf l)) (hl : n ≤ 1048576) (hk : k + 2 * n ≤ 100000000) :
    Calls Tryd.prog 68 #[.slice a n c, .int .i64 (k : Int)] w (MarkPost w a n c B k 93) := by
  have HO := Lib.hid (And.intro ho hn); clear ho hn
  go_enter Tryd.func68, Tryd.ntmps68
  go_wp2
  go_loopw [5, 1] (fun i m wr => ∃ (j : Nat) (L : List Pr), j ≤ n ∧ i = .int .i64 j ∧ m = .int .i64 ((k + 2 * j : Nat) : Int) ∧ L.length = n ∧ wr.ownsRow B 93 2 (.slice a n c) n (cellsOf L) ∧ Turns (fun b => some b = (Value.slice a n c).ownBlock) w wr ∧ ∀ q, q < j → nameAt L q = mkV (k + 2 * q) ∧ restAt L q = mkV (k + 2 * q + 1)) (fun i _ _ => n - (intOf i).toNat)
  case atStart => exact ⟨0, l, Nat.zero_le _, rfl, by simp, HO.out.2.symm, HO.out.1, Turns.refl _ _, fun q h => absurd h (Nat.not_lt_zero _)⟩
  case round =>
    obtain ⟨j, L, hj, rfl, rfl, hL, hown, htu, hno⟩ := hrel
    have HL := Lib.hid (And.intro hL hno); clear hL hno
    by_cases hlt : j < n
    · obtain ⟨g, rfl, hBg, hgl, c0, c1, f0, f1⟩ := own_at2 HL.out.1.symm hown hlt
      have HT := Lib.hid (And.intro hown htu)
      have w1' : IntKind.i64.wrap (((k + 2 * j : Nat) : Int) + 1) = ((k + 2 * j + 1 : Nat) : Int) := by rw [show ((k + 2 * j : Nat) : Int) + 1 = ((k + 2 * j + 1 : Nat) : Int) by omega]; exact IntWalk.i64_in _ (by omega)
      have w2' : IntKind.i64.wrap (((k + 2 * j + 1 : Nat) : Int) + 1) = ((k + 2 * j + 1 + 1 : Nat) : Int) := by rw [show ((k + 2 * j + 1 : Nat) : Int) + 1 = ((k + 2 * j + 1 + 1 : Nat) : Int) by omega]; exact IntWalk.i64_in _ (by omega)
      obtain ⟨K0, hK0⟩ : ∃ K0, K0 = k + 2 * j := ⟨_, rfl⟩
      rw [← hK0] at w1' w2'
      rw [← hK0]
      have HK := Lib.hid hK0
      have hKb : K0 + 2 ≤ 100000000 := by omega
      have x1 : (0 : Int) ≤ (j : Int) := by omega
      have x2 : (j : Int) < (n : Int) := by omega
      clear hown htu hK0
      go_wp2_with fail
      refine (markText_any K0 _ (by omega)).mono ?_
      rintro e wa ⟨rfl, hba⟩
      have hoa := ownsRow_below HT.out.1 hba
      obtain ⟨g', e', _, _, d0, d1, u0, u1⟩ := own_at2 HL.out.1.symm hoa hlt
      cases e'
      have HA := Lib.hid (And.intro (own_set HL.out.1.symm hoa hlt (mkV K0)).1 ((HT.out.2.trans (Turns.of_below hba)).trans (⟨rfl, rfl, rfl, by simp [World.setCell], fun q _ hq => Below.heap_setCell _ _ _ _ (fun e => hq (by subst e; rfl))⟩ : Turns (fun b => some b = (Value.slice (some ⟨g, 0, none⟩) n c).ownBlock) wa (wa.setCell ⟨g, j * 2, none⟩ (.string (mkV K0))))))
      clear hba hoa c0 c1 f0 f1
      go_wp2_with fail
      refine (markText_any (K0 + 1) _ (by omega)).mono ?_
      rintro e wb ⟨rfl, hbb⟩
      have hob := ownsRow_below HA.out.1 hbb
      have hLs : (L.set j (mkV K0, restAt L j)).length = n := by simp [HL.out.1]
      obtain ⟨g', e', _, _, d0', d1', u0', u1'⟩ := own_at2 hLs.symm hob hlt
      cases e'
      have HB := Lib.hid (And.intro (own_set hLs.symm hob hlt (mkV (K0 + 1))).2 ((HA.out.2.trans (Turns.of_below hbb)).trans (⟨rfl, rfl, rfl, by simp [World.setCell], fun q _ hq => Below.heap_setCell _ _ _ _ (fun e => hq (by subst e; rfl))⟩ : Turns (fun b => some b = (Value.slice (some ⟨g, 0, none⟩) n c).ownBlock) wb (wb.setCell ⟨g, j * 2 + 1, none⟩ (.string (mkV (K0 + 1)))))))
      clear hbb hob d0 d1 u0 u1 hLs
      go_wp2
      go_roundw
      case rel =>
        refine ⟨j + 1, _, by omega, by go_num, by rw [HK.out]; congr 2, ?_, HB.out.1, HB.out.2, fun q hq => ?_⟩
        · simp [HL.out.1]
        · have hjl : j < L.length := by rw [HL.out.1]; exact hlt
          have hjl' : j < (L.set j (mkV K0, restAt L j)).length := by simpa using hjl
          rw [nameAt_set _ _ _ _ hjl', restAt_set _ _ _ _ hjl', nameAt_set _ _ _ _ hjl, restAt_set _ _ _ _ hjl, nameAt_set _ _ _ _ hjl]
          by_cases e : q = j
          · subst e; simp [HK.out]
          · simp only [if_neg e]; exact HL.out.2 q (by omega)
      case measure => simp [intOf]; omega
    · obtain rfl : j = n := by omega
      have hE : L = mkPs k j := ext_at (by rw [HL.out.1, mkPs_length]) (fun i hi => by
        rw [HL.out.1] at hi
        rw [mkPs_name j k i hi, mkPs_rest j k i hi]; exact HL.out.2 i hi)
      have HX := Lib.hid (And.intro (own_same hown hE) htu)
      clear hown htu hE
      go_wp2
      go_ret
      exact ⟨rfl, HX.out.1, HX.out.2⟩

set_option maxRecDepth 100000 in
set_option maxHeartbeats 3200000 in
theorem heldEdgeS_any (w : World) (a : Option Addr) (n c B k : Nat) (ho : w.ownsRow B 93 2 (.slice a n c) n (cellsOf (mkPs k n))) (hl : n ≤ 1048576) (hk : k + 2 * n ≤ 100000000) :
    Calls Tryd.prog 70 #[.slice a n c, .int .i64 (k : Int)] w fun e w' => e = .returned (.int .i64 ((k + 2 * n : Nat) : Int)) ∧ Below w.heap.size w w' := by
  have HO := Lib.hid ho; clear ho
  go_enter Tryd.func70, Tryd.ntmps70
  go_wp2
  go_loopw [5, 1] (fun i m wr => ∃ j : Nat, j ≤ n ∧ i = .int .i64 j ∧ m = .int .i64 ((k + 2 * j : Nat) : Int) ∧ Below w.heap.size w wr) (fun i _ _ => n - (intOf i).toNat)
  case atStart => exact ⟨0, Nat.zero_le _, rfl, by simp, Below.refl _ _⟩
  case round =>
    obtain ⟨j, hj, rfl, rfl, hbl⟩ := hrel
    have hsz := hbl.size
    by_cases hlt : j < n
    · obtain ⟨g, rfl, hBg, hgl, c0, c1, _, _⟩ := own_at2 (mkPs_length n k).symm (ownsRow_below HO.out hbl) hlt
      rw [mkPs_name n k j hlt] at c0
      rw [mkPs_rest n k j hlt] at c1
      have w1' : IntKind.i64.wrap (((k + 2 * j : Nat) : Int) + 1) = ((k + 2 * j + 1 : Nat) : Int) := by rw [show ((k + 2 * j : Nat) : Int) + 1 = ((k + 2 * j + 1 : Nat) : Int) by omega]; exact IntWalk.i64_in _ (by omega)
      have w2' : IntKind.i64.wrap (((k + 2 * j + 1 : Nat) : Int) + 1) = ((k + 2 * j + 1 + 1 : Nat) : Int) := by rw [show ((k + 2 * j + 1 : Nat) : Int) + 1 = ((k + 2 * j + 1 + 1 : Nat) : Int) by omega]; exact IntWalk.i64_in _ (by omega)
      obtain ⟨K0, hK0⟩ : ∃ K0, K0 = k + 2 * j := ⟨_, rfl⟩
      rw [← hK0] at w1' w2' c0 c1
      rw [← hK0]
      have HK := Lib.hid hK0
      have hKb : K0 + 2 ≤ 100000000 := by omega
      have x1 : (0 : Int) ≤ (j : Int) := by omega
      have x2 : (j : Int) < (n : Int) := by omega
      obtain ⟨A0, hA0⟩ : ∃ A0, A0 = mkV K0 := ⟨_, rfl⟩
      obtain ⟨A1, hA1⟩ : ∃ A1, A1 = mkV (K0 + 1) := ⟨_, rfl⟩
      rw [← hA0] at c0
      rw [← hA1] at c1
      have HA := Lib.hid (And.intro hA0 hA1)
      have q0 : (A0.toList != A0.toList) = false := by simp
      have q1 : (A1.toList != A1.toList) = false := by simp
      clear hK0 hA0 hA1
      go_wp2
      go_region_held3 (fun w' => w'.cell? ⟨g, j * 2, none⟩ = some (.string A0) ∧ Below wr.heap.size wr w')
        (first
          | exact ⟨c0, (Below.refl _ _).drew⟩
          | (have hq := below_new (‹_ ∧ Below wr.heap.size wr _›).2 hbN; exact ⟨(hq.cell (p := ⟨g, j * 2, none⟩) hgl).trans c0, hq⟩))
        (first
          | (go_at_call 131; refine (markText_any K0 _ (by omega)).mono ?_; rw [← HA.out.1]; rintro e wN ⟨rfl, hbN⟩))
      have hB1 := (‹_ ∧ Below wr.heap.size wr wN›).2
      have d1 := (hB1.cell (p := ⟨g, j * 2 + 1, none⟩) hgl).trans c1
      have hgl2 : g < wN.heap.size := Nat.lt_of_lt_of_le hgl hB1.size
      have HB := Lib.hid (hbl.trans (hB1.mono hsz))
      have hsz2 : w.heap.size ≤ wN.heap.size := Nat.le_trans hsz hB1.size
      clear hB1 hbN
      obtain ⟨wo, rfl⟩ : ∃ wo, wo = wN := ⟨_, rfl⟩
      go_wp2
      go_region_held3 (fun w' => w'.cell? ⟨g, j * 2 + 1, none⟩ = some (.string A1) ∧ Below wo.heap.size wo w')
        (first
          | exact ⟨d1, (Below.refl _ _).drew⟩
          | (have hq := below_new (‹_ ∧ Below wo.heap.size wo _›).2 hbM; exact ⟨(hq.cell (p := ⟨g, j * 2 + 1, none⟩) hgl2).trans d1, hq⟩))
        (first
          | (go_at_call 131; refine (markText_any (K0 + 1) _ (by omega)).mono ?_; rw [← HA.out.2]; rintro e wM ⟨rfl, hbM⟩))
      have hB2 := (‹_ ∧ Below wo.heap.size wo wM›).2
      have HC := Lib.hid (HB.out.trans (hB2.mono hsz2))
      clear hB2 hbM
      go_wp2
      go_roundw
      case rel => exact ⟨j + 1, by omega, by go_num, by rw [HK.out]; congr 2, HC.out⟩
      case measure => simp [intOf]; omega
    · obtain rfl : j = n := by omega
      go_wp2
      go_ret
      exact ⟨rfl, hbl⟩

/-- a program's two rows, in blocks from lo on, below hi -/
structure Rws (W : World) (lo hi : Nat) (a : Option Addr) (n c : Nat) (L : List Pr) (a' : Option Addr) (n' c' : Nat) (E : List Pr) : Prop where
  b : W.ownsRow lo 52 2 (.slice a n c) n (cellsOf L)
  e : W.ownsRow lo 93 2 (.slice a' n' c') n' (cellsOf E)
  bh : ∀ g, (Value.slice a n c).ownBlock = some g → g < hi
  eh : ∀ g, (Value.slice a' n' c').ownBlock = some g → g < hi
section
variable {W W' : World} {lo hi n n' c c' : Nat} {a a' : Option Addr} {L E : List Pr}
theorem Rws.turns {S : Nat → Prop} (h : Rws W lo hi a n c L a' n' c' E) (ht : Turns S W W') (hS : ∀ k, lo ≤ k → k < hi → ¬ S k) : Rws W' lo hi a n c L a' n' c' E :=
  ⟨ht.row h.b (fun g hg => hS g (h.b.lt g hg).1 (h.bh g hg)), ht.row h.e (fun g hg => hS g (h.e.lt g hg).1 (h.eh g hg)), h.bh, h.eh⟩
theorem Rws.below (h : Rws W lo hi a n c L a' n' c' E) (hb : Below W.heap.size W W') : Rws W' lo hi a n c L a' n' c' E := ⟨ownsRow_below h.b hb, ownsRow_below h.e hb, h.bh, h.eh⟩
theorem Rws.lenb (h : Rws W lo hi a n c L a' n' c' E) : n = L.length := by have := h.b.1; rw [cellsOf_length] at this; omega
theorem Rws.lene (h : Rws W lo hi a n c L a' n' c' E) : n' = E.length := by have := h.e.1; rw [cellsOf_length] at this; omega
end
def MarkPP (W : World) (lo hi : Nat) (a : Option Addr) (n c : Nat) (a' : Option Addr) (n' c' k : Nat) (e : Ending) (W' : World) : Prop :=
  e = .returned (.int .i64 ((k + 2 * n + 2 * n' : Nat) : Int)) ∧ Rws W' lo hi a n c (mkPs k n) a' n' c' (mkPs (k + 2 * n) n') ∧ Turns (fun b => lo ≤ b ∧ b < hi) W W'

set_option maxRecDepth 100000 in
set_option maxHeartbeats 1600000 in
theorem markProg_any (W : World) (lo hi : Nat) (a : Option Addr) (n c : Nat) (L : List Pr) (a' : Option Addr) (n' c' : Nat) (E : List Pr) (k : Nat) (h : Rws W lo hi a n c L a' n' c' E) (hn : n ≤ 1048576) (hn' : n' ≤ 1048576) (hk : k ≤ 1000) :
    Calls Tryd.prog 20 #[.agg #[.slice a n c, .slice a' n' c'], .int .i64 (k : Int)] W (MarkPP W lo hi a n c a' n' c' k) := by
  have hb1 : Below W.heap.size W (W.alloc (.cells #[.slice a n c, .slice a' n' c'] 32)) := (Below.refl _ _).alloc (Nat.le_refl _) _
  have hT : Two (W.alloc (.cells #[.slice a n c, .slice a' n' c'] 32)) W.heap.size _ _ := heap_alloc_new _ _
  have H := Lib.hid (And.intro h (And.intro (h.below hb1) (And.intro hb1 hT)))
  clear h hb1 hT
  go_enter Tryd.func20, Tryd.ntmps20
  go_wp2_with fail
  refine (markBlockS_any _ L a n c lo k H.out.2.1.lenb H.out.2.1.b hn (by omega)).mono ?_
  rintro e W1 ⟨rfl, hob, htu⟩
  have hne : ∀ g, (Value.slice a' n' c').ownBlock = some g → ¬ some g = (Value.slice a n c).ownBlock := fun g hg e => by
    obtain ⟨c9, z9, h9⟩ := Lib.ownsRow_kind H.out.2.1.e g hg
    exact own_neK H.out.2.1.b h9 (by decide) e.symm
  have hoe := htu.row H.out.2.1.e hne
  have hT1 : Two W1 W.heap.size _ _ := htu.two H.out.2.2.2 (fun e => own_neK H.out.2.1.b H.out.2.2.2 (by decide) e.symm)
  obtain ⟨c0, c1, _, _, hl⟩ := hT1.cells
  have HA := Lib.hid (And.intro hob (And.intro htu hoe))
  clear hob htu hoe hT1 hne
  go_wp2_with fail
  refine (markEdgeS_any _ E a' n' c' lo (k + 2 * n) H.out.2.1.lene HA.out.2.2 hn' (by omega)).mono ?_
  rintro e W2 ⟨rfl, hoe2, htu2⟩
  have hob2 := htu2.row HA.out.1 (fun g hg e => by
    obtain ⟨c9, z9, h9⟩ := Lib.ownsRow_kind HA.out.1 g hg
    exact own_neK HA.out.2.2 h9 (by decide) e.symm)
  have htf : Turns (fun b => lo ≤ b ∧ b < hi) W W2 := by
    refine ((Turns.of_below (S := fun b => lo ≤ b ∧ b < hi) H.out.2.2.1).then_ HA.out.2.1 (fun _ _ h => h) (fun i _ e => ⟨(H.out.2.1.b.lt i e.symm).1, H.out.1.bh i e.symm⟩)).then_ htu2 (fun _ _ h => h) (fun i _ e => ⟨(HA.out.2.2.lt i e.symm).1, H.out.1.eh i e.symm⟩)
  have HX := Lib.hid (And.intro hob2 (And.intro hoe2 htf))
  clear hob2 hoe2 htf htu2
  go_wp2
  go_ret
  exact ⟨rfl, ⟨HX.out.1, HX.out.2.1, H.out.1.bh, H.out.1.eh⟩, HX.out.2.2⟩

set_option maxRecDepth 100000 in
set_option maxHeartbeats 1600000 in
theorem heldProg_any (W : World) (lo hi : Nat) (a : Option Addr) (n c : Nat) (a' : Option Addr) (n' c' k : Nat) (h : Rws W lo hi a n c (mkPs k n) a' n' c' (mkPs (k + 2 * n) n')) (hn : n ≤ 1048576) (hn' : n' ≤ 1048576) (hk : k ≤ 1000) :
    Calls Tryd.prog 21 #[.agg #[.slice a n c, .slice a' n' c'], .int .i64 (k : Int)] W fun e W' => e = .returned (.int .i64 ((k + 2 * n + 2 * n' : Nat) : Int)) ∧ Below W.heap.size W W' := by
  have hb1 : Below W.heap.size W (W.alloc (.cells #[.slice a n c, .slice a' n' c'] 32)) := (Below.refl _ _).alloc (Nat.le_refl _) _
  have hT : Two (W.alloc (.cells #[.slice a n c, .slice a' n' c'] 32)) W.heap.size _ _ := heap_alloc_new _ _
  have H := Lib.hid (And.intro (h.below hb1) (And.intro hb1 hT))
  have hsz : W.heap.size < (W.alloc (.cells #[.slice a n c, .slice a' n' c'] 32)).heap.size := by simp
  clear h hb1 hT
  go_enter Tryd.func21, Tryd.ntmps21
  go_wp2_with fail
  refine (heldBlockS_any _ a n c lo k H.out.1.b hn (by omega)).mono ?_
  rintro e W1 ⟨rfl, hb2⟩
  have hT1 : Two W1 W.heap.size _ _ := H.out.2.2.of_cells (hb2.block _ hsz)
  obtain ⟨c0, c1, _, _, hl⟩ := hT1.cells
  have hR1 := H.out.1.below hb2
  have x1 : (0 : Int) ≤ ((k + 2 * n : Nat) : Int) := by omega
  have x2 : ¬ (((k + 2 * n : Nat) : Int) < 0) := by omega
  have x3 : ¬ (((k + 2 * n + 2 * n' : Nat) : Int) < 0) := by omega
  have HA := Lib.hid (And.intro hR1 (H.out.2.1.trans (hb2.mono (Nat.le_of_lt hsz))))
  have hz9 : W.heap.size ≤ W1.heap.size := by omega
  clear hR1 hb2 hT1
  obtain ⟨K1, hK1⟩ : ∃ K1, K1 = k + 2 * n := ⟨_, rfl⟩
  rw [← hK1] at x1 x2 x3 ⊢
  have HK := Lib.hid hK1
  have hKb : K1 + 2 * n' ≤ 100000000 := by omega
  clear hK1
  go_wp2_with fail
  refine (heldEdgeS_any _ a' n' c' lo K1 (by rw [HK.out]; exact HA.out.1.e) hn' (by omega)).mono ?_
  rintro e W2 ⟨rfl, hb3⟩
  have hfin := HA.out.2.trans (hb3.mono hz9)
  clear hb3
  go_wp2
  go_ret
  exact ⟨ret_int (by have := HK.out; omega), hfin⟩
end Go.Proofs.YthkhccfemdjioaaDoor
end

section
/-
  A program in memory of its own, its rows in blocks of a range; a loop that fills a program's blocks; a function's answer that is a program. Conditions: none.
-/
namespace Go.Proofs.YthkhccfemdjioaaDoor
open Go.RowKit Go.Maps

theorem own_atT {w : World} {B : Nat} {e : TypeId} {a : Option Addr} {c n : Nat} {l : List Pr} (hn : n = l.length) (h : w.ownsRow B e 2 (.slice a n c) n (cellsOf l)) (hl : l.length ≤ 1048576) (hs : ∀ i, i < l.length → (nameAt l i).size ≤ 1048576 ∧ (restAt l i).size ≤ 1048576) : PairsAt w a l := by
  obtain ⟨a', c', e, hP⟩ := own_pairs hn h hl hs
  simp only [Value.slice.injEq] at e
  rw [e.1]; exact hP
/-- a program in a block of its own, its rows in blocks from lo on, below hi -/
structure Kp (W : World) (q lo hi : Nat) (a : Option Addr) (n c : Nat) (L : List Pr) (a' : Option Addr) (n' c' : Nat) (E : List Pr) : Prop where
  two : Two W q (.slice a n c) (.slice a' n' c')
  rows : Rws W lo hi a n c L a' n' c' E
section
variable {W W' : World} {q lo hi n n' c c' : Nat} {a a' : Option Addr} {L E : List Pr}
theorem Kp.below (h : Kp W q lo hi a n c L a' n' c' E) (hb : Below W.heap.size W W') : Kp W' q lo hi a n c L a' n' c' E := ⟨h.two.of_cells (hb.block _ h.two.cells.2.2.2.2), h.rows.below hb⟩
theorem Kp.turns {S : Nat → Prop} (h : Kp W q lo hi a n c L a' n' c' E) (ht : Turns S W W') (hq : ¬ S q) (hS : ∀ k, lo ≤ k → k < hi → ¬ S k) : Kp W' q lo hi a n c L a' n' c' E := ⟨ht.two h.two hq, h.rows.turns ht hS⟩
theorem Rws.pairs (h : Rws W lo hi a n c L a' n' c' E) (hl : L.length ≤ 1048576) (hs : ∀ i, i < L.length → (nameAt L i).size ≤ 1048576 ∧ (restAt L i).size ≤ 1048576) (hl' : E.length ≤ 1048576) (hs' : ∀ i, i < E.length → (nameAt E i).size ≤ 1048576 ∧ (restAt E i).size ≤ 1048576) : PairsAt W a L ∧ PairsAt W a' E :=
  ⟨own_atT h.lenb h.b hl hs, own_atT h.lene h.e hl' hs'⟩
theorem PB.rws {gb ge : Nat} {bs es : List Pr} (hb : PB W gb 52 bs) (he : PB W ge 93 es) (h1 : lo ≤ gb) (h2 : lo ≤ ge) (h3 : gb < hi) (h4 : ge < hi) (hl : bs.length ≤ 1048576) (hl' : es.length ≤ 1048576) : Rws W lo hi (some ⟨gb, 0, none⟩) bs.length bs.length bs (some ⟨ge, 0, none⟩) es.length es.length es :=
  ⟨⟨cellsOf_length bs, .inr ⟨gb, bs.length, (cellsOf bs).toArray, rfl, h1, hb, Nat.le_refl _, by unfold maxLen; omega, by simp [cellsOf_length], by rw [List.take_of_length_le (by simp [cellsOf_length])]⟩⟩,
   ⟨cellsOf_length es, .inr ⟨ge, es.length, (cellsOf es).toArray, rfl, h2, he, Nat.le_refl _, by unfold maxLen; omega, by simp [cellsOf_length], by rw [List.take_of_length_le (by simp [cellsOf_length])]⟩⟩,
   fun g hg => by simp [Value.ownBlock] at hg; omega, fun g hg => by simp [Value.ownBlock] at hg; omega⟩
end
/-- a function's answer: a program and whether there is one -/
def ProgRes (W : World) (ok : Bool) (L E : List Pr) (e : Ending) (W' : World) : Prop := Below W.heap.size W W' ∧ ∃ a c a' c', e = .returned (.tuple #[.agg #[.slice a L.length c, .slice a' E.length c'], .bool ok]) ∧ Rws W' W.heap.size W'.heap.size a L.length c L a' E.length c' E
theorem own_farT {w : World} {base : Nat} {e : TypeId} {size n : Nat} {v : Value} {xs : List Value} (h : w.ownsRow base e size v n xs) {p : Addr} (hp : v.ownBlock ≠ some p.block) (u : Value) : (w.setCell p u).ownsRow base e size v n xs :=
  h.kept (row := some p.block) ⟨rfl, rfl, rfl, by simp [World.setCell], fun j _ hj => Below.heap_setCell _ _ _ _ (fun e => hj (by simp [e]))⟩ (Or.inr hp)
/-- a loop that fills a program's blocks -/
structure TLoop (w wr : World) (R Q lo : Nat) (v ve : Value) (k m : Nat) (L E : List Pr) : Prop where
  two : Two wr Q v ve
  res : Two wr R (.slice none 0 0) (.slice none 0 0)
  ob : wr.ownsRow lo 52 2 v k (cellsOf L)
  oe : wr.ownsRow lo 93 2 ve m (cellsOf E)
  bw : Below w.heap.size w wr
section
variable {w wr w' : World} {R Q lo k m : Nat} {v ve : Value} {L E : List Pr}
theorem TLoop.below (h : TLoop w wr R Q lo v ve k m L E) (hb : Below wr.heap.size wr w') : TLoop w w' R Q lo v ve k m L E :=
  ⟨h.two.of_cells (hb.block _ h.two.cells.2.2.2.2), h.res.of_cells (hb.block _ h.res.cells.2.2.2.2), ownsRow_below h.ob hb, ownsRow_below h.oe hb, h.bw.trans (hb.mono h.bw.size)⟩
theorem TLoop.step (h : TLoop w wr R Q lo v ve k m L E) {wx w4 : World} {v' : Value} {k' : Nat} {L' : List Pr} (hx : Below wr.heap.size wr wx) (hg : wx.grownBy w4 v.ownBlock) (hown : w4.ownsRow lo 52 2 v' k' (cellsOf L')) (hlo : w.heap.size ≤ lo) (hQ : w.heap.size ≤ Q) (hRQ : R ≠ Q) :
    TLoop w (w4.setCell ⟨Q, 0, none⟩ v') R Q lo v' ve k' m L' E := by
  have ht : Turns (fun b => some b = v.ownBlock) wr w4 := (Turns.of_below hx).then_ (Turns.of_grown hg) (fun _ _ h => h) (fun _ _ h => h)
  have hR4 : Two w4 R _ _ := h.res.of_cells (ht.block R h.res.cells.2.2.2.2 (fun e => own_neK h.ob h.res (by decide) e.symm))
  have hQ4 : Two w4 Q _ _ := h.two.of_cells (ht.block Q h.two.cells.2.2.2.2 (fun e => own_neK h.ob h.two (by decide) e.symm))
  have hE4 := ht.row h.oe (fun b hb e => by
    obtain ⟨c9, z9, h9⟩ := Lib.ownsRow_kind h.oe b hb
    exact own_neK h.ob h9 (by decide) e.symm)
  have hb4 : Below w.heap.size w w4 := h.bw.trans (ht.below h.bw.size (fun b hb => Nat.le_trans hlo (h.ob.lt b hb.symm).1))
  exact ⟨hQ4.set0 _, hR4.far hRQ _, own_farT hown (own_neK hown hQ4 (by decide)) _, own_farT hE4 (own_neK hE4 hQ4 (by decide)) _, hb4.setCell hQ _⟩
end

end Go.Proofs.YthkhccfemdjioaaDoor
end

section
/-
  A program whose terms are swapped, as data: its blocks, what the two functions return. It names the program's types alone. Conditions: none.
-/
namespace Go.Proofs.YthkhccfemdjioaaDoor
open Go.RowKit Go.Maps

/-- the first blocks, two terms swapped -/
def swL (bs : List Pr) (t u : Nat) (k : Nat) : List Pr := (List.range k).map fun i => (nameAt bs i, swT (restAt bs i) t u (restAt bs i).size)
theorem swL_length (bs : List Pr) (t u k : Nat) : (swL bs t u k).length = k := by simp [swL]
theorem cellsOf_appendW : ∀ (a b : List Pr), cellsOf (a ++ b) = cellsOf a ++ cellsOf b
  | [], b => rfl
  | p :: r, b => by show _ :: _ :: cellsOf (r ++ b) = _; rw [cellsOf_appendW r b]; rfl
theorem swL_snoc (bs : List Pr) (t u k : Nat) : swL bs t u (k + 1) = swL bs t u k ++ [(nameAt bs k, swT (restAt bs k) t u (restAt bs k).size)] := by
  unfold swL
  rw [List.range_succ, List.map_append]; rfl
theorem swL_succ (bs : List Pr) (t u k : Nat) : cellsOf (swL bs t u (k + 1)) = cellsOf (swL bs t u k) ++ [.string (nameAt bs k), .string (swT (restAt bs k) t u (restAt bs k).size)] := by
  rw [swL_snoc, cellsOf_appendW]; rfl
theorem swL_get {bs : List Pr} {t u k i : Nat} (h : i < k) : (swL bs t u k).getD i (e0, e0) = (nameAt bs i, swT (restAt bs i) t u (restAt bs i).size) := by
  unfold swL
  rw [List.getD_eq_getElem?_getD]
  simp [h]
theorem swL_name {bs : List Pr} {t u k i : Nat} (h : i < k) : nameAt (swL bs t u k) i = nameAt bs i := by
  show ((swL bs t u k).getD i (e0, e0)).1 = _
  rw [swL_get h]
theorem swL_rest {bs : List Pr} {t u k i : Nat} (h : i < k) : restAt (swL bs t u k) i = swT (restAt bs i) t u (restAt bs i).size := by
  show ((swL bs t u k).getD i (e0, e0)).2 = _
  rw [swL_get h]
theorem swL_small {bs : List Pr} {t u : Nat} (h : ∀ i, i < bs.length → (nameAt bs i).size ≤ 1048576 ∧ (restAt bs i).size ≤ 1048576) : ∀ i, i < (swL bs t u bs.length).length → (nameAt (swL bs t u bs.length) i).size ≤ 1048576 ∧ (restAt (swL bs t u bs.length) i).size ≤ 1048576 := by
  intro i hi
  rw [swL_length] at hi
  rw [swL_name hi, swL_rest hi, swT_size]
  exact h i hi
/-- whether there is an answer -/
noncomputable def swOk (bs es : List Pr) (x y : ByteArray) : Bool := validB bs es && (isTm x && isTm y)
open Classical in
noncomputable def swRL (bs es : List Pr) (x y : ByteArray) : List Pr := if swOk bs es x y = true then swL bs (byteAt x 0) (byteAt y 0) bs.length else []
open Classical in
noncomputable def swRE (bs es : List Pr) (x y : ByteArray) : List Pr := if swOk bs es x y = true then es else []
theorem swRL_small {bs es : List Pr} {x y : ByteArray} (hl : bs.length ≤ 1048576) (h : ∀ i, i < bs.length → (nameAt bs i).size ≤ 1048576 ∧ (restAt bs i).size ≤ 1048576) : (swRL bs es x y).length ≤ 1048576 ∧ ∀ i, i < (swRL bs es x y).length → (nameAt (swRL bs es x y) i).size ≤ 1048576 ∧ (restAt (swRL bs es x y) i).size ≤ 1048576 := by
  unfold swRL
  split
  · exact ⟨by rw [swL_length]; exact hl, swL_small h⟩
  · exact ⟨Nat.zero_le _, fun i hi => absurd hi (Nat.not_lt_zero _)⟩
theorem swRE_small {bs es : List Pr} {x y : ByteArray} (hl : es.length ≤ 1048576) (h : ∀ i, i < es.length → (nameAt es i).size ≤ 1048576 ∧ (restAt es i).size ≤ 1048576) : (swRE bs es x y).length ≤ 1048576 ∧ ∀ i, i < (swRE bs es x y).length → (nameAt (swRE bs es x y) i).size ≤ 1048576 ∧ (restAt (swRE bs es x y) i).size ≤ 1048576 := by
  unfold swRE
  split
  · exact ⟨hl, h⟩
  · exact ⟨Nat.zero_le _, fun i hi => absurd hi (Nat.not_lt_zero _)⟩
theorem ProgRes.yes {W W' : World} {L E : List Pr} {v ve : Value} {n m : Nat} (hn : n = L.length) (hm : m = E.length) (hb : Below W.heap.size W W') (ho : W'.ownsRow W.heap.size 52 2 v n (cellsOf L)) (hoe : W'.ownsRow W.heap.size 93 2 ve m (cellsOf E)) :
    ProgRes W true L E (.returned (.tuple #[.agg #[v, ve], .bool true])) W' := by
  subst hn hm
  obtain ⟨a, c, rfl⟩ := own_form ho
  obtain ⟨a', c', rfl⟩ := own_form hoe
  exact ⟨hb, a, c, a', c', rfl, ho, hoe, fun g hg => (ho.lt g hg).2, fun g hg => (hoe.lt g hg).2⟩
theorem ProgRes.no {W W' : World} (hb : Below W.heap.size W W') : ProgRes W false [] [] (.returned (.tuple #[.agg #[.slice none 0 0, .slice none 0 0], .bool false])) W' :=
  ⟨hb, none, 0, none, 0, rfl, World.ownsRow_nil _ _ _ _, World.ownsRow_nil _ _ _ _, fun g hg => by simp [Value.ownBlock] at hg, fun g hg => by simp [Value.ownBlock] at hg⟩
theorem swNo {bs es : List Pr} {x y : ByteArray} (h : swOk bs es x y = false) : swRL bs es x y = [] ∧ swRE bs es x y = [] := by
  unfold swRL swRE; rw [if_neg (by rw [h]; simp), if_neg (by rw [h]; simp)]; exact ⟨rfl, rfl⟩
theorem swYes {bs es : List Pr} {x y : ByteArray} (h : swOk bs es x y = true) : swRL bs es x y = swL bs (byteAt x 0) (byteAt y 0) bs.length ∧ swRE bs es x y = es := by
  unfold swRL swRE; rw [if_pos h, if_pos h]; exact ⟨rfl, rfl⟩
theorem ProgRes.swNo {W W' : World} {bs es : List Pr} {x y : ByteArray} (h : swOk bs es x y = false) (hb : Below W.heap.size W W') : ProgRes W (swOk bs es x y) (swRL bs es x y) (swRE bs es x y) (.returned (.tuple #[.agg #[.slice none 0 0, .slice none 0 0], .bool false])) W' := by
  rw [(Go.Proofs.YthkhccfemdjioaaDoor.swNo h).1, (Go.Proofs.YthkhccfemdjioaaDoor.swNo h).2, h]; exact ProgRes.no hb
theorem ProgRes.swYes {W W' : World} {bs es : List Pr} {x y : ByteArray} {v ve : Value} (h : swOk bs es x y = true) (hb : Below W.heap.size W W') (ho : W'.ownsRow W.heap.size 52 2 v bs.length (cellsOf (swL bs (byteAt x 0) (byteAt y 0) bs.length))) (hoe : W'.ownsRow W.heap.size 93 2 ve es.length (cellsOf es)) :
    ProgRes W (swOk bs es x y) (swRL bs es x y) (swRE bs es x y) (.returned (.tuple #[.agg #[v, ve], .bool true])) W' := by
  rw [(Go.Proofs.YthkhccfemdjioaaDoor.swYes h).1, (Go.Proofs.YthkhccfemdjioaaDoor.swYes h).2, h]; exact ProgRes.yes (swL_length _ _ _ _).symm rfl hb ho hoe

/-- a text's one letter -/
def letC (t u c : Nat) : ByteArray := ⟨#[swC t u c]⟩
theorem one_of_size {c : ByteArray} (h : c.size = 1) (ho : opB (byteAt c 0) = true) : c = ⟨#[88]⟩ ∨ c = ⟨#[89]⟩ ∨ c = ⟨#[90]⟩ ∨ c = ⟨#[120]⟩ ∨ c = ⟨#[121]⟩ ∨ c = ⟨#[122]⟩ := by
  obtain ⟨⟨l⟩⟩ := c
  have hl : l.length = 1 := h
  match l, hl with
  | [b], _ =>
    have e : byteAt ⟨⟨[b]⟩⟩ 0 = b.toNat := rfl
    rw [e] at ho
    unfold opB lowB upB at ho
    simp only [Bool.or_eq_true, Bool.and_eq_true, decide_eq_true_eq] at ho
    have h6 : b.toNat = 88 ∨ b.toNat = 89 ∨ b.toNat = 90 ∨ b.toNat = 120 ∨ b.toNat = 121 ∨ b.toNat = 122 := by omega
    rcases h6 with h | h | h | h | h | h
    · obtain rfl : b = 88 := UInt8.toNat_inj.1 h; exact .inl rfl
    · obtain rfl : b = 89 := UInt8.toNat_inj.1 h; exact .inr (.inl rfl)
    · obtain rfl : b = 90 := UInt8.toNat_inj.1 h; exact .inr (.inr (.inl rfl))
    · obtain rfl : b = 120 := UInt8.toNat_inj.1 h; exact .inr (.inr (.inr (.inl rfl)))
    · obtain rfl : b = 121 := UInt8.toNat_inj.1 h; exact .inr (.inr (.inr (.inr (.inl rfl))))
    · obtain rfl : b = 122 := UInt8.toNat_inj.1 h; exact .inr (.inr (.inr (.inr (.inr rfl))))
/-- which of five ways a letter goes -/
theorem sw_pick {x y c : ByteArray} (hx : isTm x = true) (hy : isTm y = true) (h : c.size = 1) (ho : opB (byteAt c 0) = true) :
    (c = x → letC (byteAt x 0) (byteAt y 0) (byteAt c 0) = y) ∧ (c ≠ x → c = y → letC (byteAt x 0) (byteAt y 0) (byteAt c 0) = x) ∧ (c ≠ x → c ≠ y → c = spoilT x → letC (byteAt x 0) (byteAt y 0) (byteAt c 0) = spoilT y) ∧
    (c ≠ x → c ≠ y → c ≠ spoilT x → c = spoilT y → letC (byteAt x 0) (byteAt y 0) (byteAt c 0) = spoilT x) ∧ (c ≠ x → c ≠ y → c ≠ spoilT x → c ≠ spoilT y → letC (byteAt x 0) (byteAt y 0) (byteAt c 0) = c) := by
  rcases isTm_iff.1 hx with rfl | rfl | rfl <;> rcases isTm_iff.1 hy with rfl | rfl | rfl <;> rcases one_of_size h ho with rfl | rfl | rfl | rfl | rfl | rfl <;> refine ⟨?_, ?_, ?_, ?_, ?_⟩ <;> decide
theorem byteAt_one {s : ByteArray} {i : Nat} (h : i < s.size) : byteAt (s.extract i (i + 1)) 0 = byteAt s i := by
  unfold byteAt
  rw [ByteArray.data_extract]
  simp only [Array.getD_eq_getD_getElem?]
  rw [Array.getElem?_extract]
  have h2 : 0 < min (i + 1) s.size - i := by omega
  simp [h2]
theorem swT_step {s : ByteArray} {t u i : Nat} (h : i < s.size) : swT s t u (i + 1) = swT s t u i ++ letC t u (byteAt (s.extract i (i + 1)) 0) := by
  rw [byteAt_one h]; exact swT_succ _ _ _ _
end Go.Proofs.YthkhccfemdjioaaDoor
end

section
/-
  Plain mathematics of chapter 1: programs with swapped terms are valid; swaps one behind the other, a swap taken back, a term swapped with itself. It names the program's types alone. Conditions: none.
-/
namespace Go.Proofs.YthkhccfemdjioaaDoor
open Go.RowKit Go.Maps

theorem bytes_eqW {a b : ByteArray} (hs : a.size = b.size) (h : ∀ i, i < a.size → byteAt a i = byteAt b i) : a = b := by
  apply ByteArray.ext
  apply Array.ext hs
  intro i h1 h2
  have h3 := h i h1
  unfold byteAt at h3
  rw [Array.getD_eq_getD_getElem?, Array.getD_eq_getD_getElem?, Array.getElem?_eq_getElem h1, Array.getElem?_eq_getElem h2] at h3
  exact UInt8.toNat_inj.1 h3
/-- letters that tell something -/
def OpAll (s : ByteArray) : Prop := ∀ i, i < s.size → opB (byteAt s i) = true
theorem op_six {c : Nat} (hc : opB c = true) : c = 88 ∨ c = 89 ∨ c = 90 ∨ c = 120 ∨ c = 121 ∨ c = 122 := by unfold opB lowB upB at hc; simp only [Bool.or_eq_true, Bool.and_eq_true, decide_eq_true_eq] at hc; omega
theorem low_three {t : Nat} (ht : lowB t = true) : t = 120 ∨ t = 121 ∨ t = 122 := by unfold lowB at ht; simp only [Bool.and_eq_true, decide_eq_true_eq] at ht; omega
theorem sw_at {s : ByteArray} {t u : Nat} (ht : lowB t = true) (hu : lowB u = true) (ho : OpAll s) {i : Nat} (hi : i < s.size) : byteAt (swT s t u s.size) i = swB t u (byteAt s i) := by
  rw [swT_at s t u s.size i hi, swC_nat ht hu (ho i hi)]
theorem sw_op {s : ByteArray} {t u : Nat} (ht : lowB t = true) (hu : lowB u = true) (ho : OpAll s) : OpAll (swT s t u s.size) := by
  intro i hi
  rw [swT_size] at hi
  rw [sw_at ht hu ho hi]
  exact (swB_le ht hu (ho i hi)).2.1
theorem swB_self {t c : Nat} (ht : lowB t = true) (hc : opB c = true) : swB t t c = c := by
  rcases low_three ht with rfl | rfl | rfl <;> rcases op_six hc with rfl | rfl | rfl | rfl | rfl | rfl <;> decide
theorem swB_back {t u c : Nat} (ht : lowB t = true) (hu : lowB u = true) (hc : opB c = true) : swB u t (swB t u c) = c := by
  rcases low_three ht with rfl | rfl | rfl <;> rcases low_three hu with rfl | rfl | rfl <;> rcases op_six hc with rfl | rfl | rfl | rfl | rfl | rfl <;> decide
theorem swB_three {c : Nat} (hc : opB c = true) : swB 120 121 (swB 121 122 (swB 120 121 c)) = swB 120 122 c := by
  rcases op_six hc with rfl | rfl | rfl | rfl | rfl | rfl <;> decide
theorem swT_self {s : ByteArray} {t : Nat} (ht : lowB t = true) (ho : OpAll s) : swT s t t s.size = s :=
  bytes_eqW (swT_size _ _ _ _) fun i hi => by rw [swT_size] at hi; rw [sw_at ht ht ho hi, swB_self ht (ho i hi)]
theorem swT_back {s : ByteArray} {t u : Nat} (ht : lowB t = true) (hu : lowB u = true) (ho : OpAll s) : swT (swT s t u s.size) u t (swT s t u s.size).size = s :=
  bytes_eqW (by rw [swT_size, swT_size]) fun i hi => by
    rw [swT_size] at hi
    have h1 := hi
    rw [swT_size] at hi
    rw [sw_at hu ht (sw_op ht hu ho) h1, sw_at ht hu ho hi, swB_back ht hu (ho i hi)]
theorem swT_three {s : ByteArray} (ho : OpAll s) : swT (swT (swT s 120 121 s.size) 121 122 (swT s 120 121 s.size).size) 120 121 (swT (swT s 120 121 s.size) 121 122 (swT s 120 121 s.size).size).size = swT s 120 122 s.size :=
  bytes_eqW (by rw [swT_size, swT_size, swT_size, swT_size]) fun i hi => by
    have h0 : i < s.size := by rw [swT_size, swT_size, swT_size] at hi; exact hi
    have o1 := sw_op (s := s) (t := 120) (u := 121) (by decide) (by decide) ho
    have o2 := sw_op (t := 121) (u := 122) (by decide) (by decide) o1
    rw [sw_at (by decide) (by decide) o2 (by rw [swT_size, swT_size]; exact h0), sw_at (by decide) (by decide) o1 (by rw [swT_size]; exact h0), sw_at (by decide) (by decide) ho h0, sw_at (by decide) (by decide) ho h0, swB_three (ho i h0)]

/-- a whole program's blocks, two terms swapped -/
def swA (bs : List Pr) (t u : Nat) : List Pr := swL bs t u bs.length
theorem swA_length (bs : List Pr) (t u : Nat) : (swA bs t u).length = bs.length := swL_length _ _ _ _
theorem swA_name {bs : List Pr} {t u i : Nat} (h : i < bs.length) : nameAt (swA bs t u) i = nameAt bs i := swL_name h
theorem swA_rest {bs : List Pr} {t u i : Nat} (h : i < bs.length) : restAt (swA bs t u) i = swT (restAt bs i) t u (restAt bs i).size := swL_rest h
theorem swA_names (bs : List Pr) (t u : Nat) : names (swA bs t u) = names bs := by
  apply List.ext_getElem?
  intro i
  by_cases h : i < bs.length
  · rw [names_at (by rw [swA_length]; exact h), names_at h, swA_name h]
  · rw [List.getElem?_eq_none (by rw [names_length, swA_length]; omega), List.getElem?_eq_none (by rw [names_length]; omega)]
theorem valid_op {bs es : List Pr} (hV : Valid bs es) {i : Nat} (h : i < bs.length) : OpAll (restAt bs i) := (hV.b.op _ (pair_mem h)).2
theorem Valid.swap {bs es : List Pr} (hV : Valid bs es) {t u : Nat} (ht : lowB t = true) (hu : lowB u = true) : Valid (swA bs t u) es := by
  have hlen := swA_length bs t u
  have h2 := hV.b.lo
  have hn0 : nameAt (swA bs t u) 0 = nameAt bs 0 := swA_name (by omega)
  have hnl : nameAt (swA bs t u) ((swA bs t u).length - 1) = nameAt bs (bs.length - 1) := by rw [hlen]; exact swA_name (by omega)
  have hmem : ∀ p ∈ swA bs t u, ∃ i, i < bs.length ∧ p.1 = nameAt bs i ∧ p.2 = swT (restAt bs i) t u (restAt bs i).size := by
    intro p hp
    obtain ⟨i, hi, e1, e2⟩ := mem_at hp
    rw [hlen] at hi
    exact ⟨i, hi, by rw [← e1, swA_name hi], by rw [← e2, swA_rest hi]⟩
  refine ⟨⟨by omega, by have := hV.b.hi; omega, ?_, ?_, by rw [swA_names]; exact hV.b.nd, ?_⟩, ⟨hV.e.hi, ?_, ?_, hV.e.nd, by rw [hn0]; exact hV.e.ne, by rw [hnl]; exact hV.e.nx⟩, ?_, ?_⟩
  · intro p hp
    obtain ⟨i, hi, e1, _⟩ := hmem p hp
    rw [e1]; exact hV.b.nm _ (pair_mem hi)
  · intro p hp
    obtain ⟨i, hi, _, e2⟩ := hmem p hp
    rw [e2]
    exact ⟨by rw [swT_size]; exact (hV.b.op _ (pair_mem hi)).1, sw_op ht hu (valid_op hV hi)⟩
  · rw [swA_rest (by omega), hV.b.en]; rfl
  · rw [swA_names]; exact hV.e.fr
  · rw [swA_names]; exact hV.e.to
  · intro p hp
    obtain ⟨i, hi, e1, _⟩ := hmem p hp
    rw [e1, hn0]; exact hV.ra _ (pair_mem hi)
  · intro p hp
    obtain ⟨i, hi, e1, _⟩ := hmem p hp
    rw [e1, hnl]; exact hV.rz _ (pair_mem hi)
theorem swA_ext {bs l : List Pr} {t u : Nat} (hl : l.length = bs.length) (hn : ∀ i, i < bs.length → nameAt l i = nameAt bs i) (hr : ∀ i, i < bs.length → restAt l i = swT (restAt bs i) t u (restAt bs i).size) : l = swA bs t u :=
  ext_at (by rw [hl, swA_length]) fun i hi => by
    rw [hl] at hi
    rw [swA_name hi, swA_rest hi]
    exact ⟨hn i hi, hr i hi⟩
theorem swA_self {bs es : List Pr} (hV : Valid bs es) {t : Nat} (ht : lowB t = true) : swA bs t t = bs :=
  ext_at (swA_length _ _ _) fun i hi => by
    rw [swA_length] at hi
    rw [swA_name hi, swA_rest hi, swT_self ht (valid_op hV hi)]
    exact ⟨rfl, rfl⟩
theorem swA_back {bs es : List Pr} (hV : Valid bs es) {t u : Nat} (ht : lowB t = true) (hu : lowB u = true) : swA (swA bs t u) u t = bs :=
  ext_at (by rw [swA_length, swA_length]) fun i hi => by
    rw [swA_length, swA_length] at hi
    have h1 : i < (swA bs t u).length := by rw [swA_length]; exact hi
    rw [swA_name h1, swA_rest h1, swA_name hi, swA_rest hi, swT_back ht hu (valid_op hV hi)]
    exact ⟨rfl, rfl⟩
theorem swA_three {bs es : List Pr} (hV : Valid bs es) : swA (swA (swA bs 120 121) 121 122) 120 121 = swA bs 120 122 :=
  ext_at (by rw [swA_length, swA_length, swA_length, swA_length]) fun i hi => by
    rw [swA_length, swA_length, swA_length] at hi
    have h1 : i < (swA bs 120 121).length := by rw [swA_length]; exact hi
    have h2 : i < (swA (swA bs 120 121) 121 122).length := by rw [swA_length]; exact h1
    rw [swA_name h2, swA_rest h2, swA_name h1, swA_rest h1, swA_name hi, swA_rest hi, swA_name hi, swA_rest hi, swT_three (valid_op hV hi)]
    exact ⟨rfl, rfl⟩
def xT : ByteArray := ⟨#[120]⟩
def yT : ByteArray := ⟨#[121]⟩
def zT : ByteArray := ⟨#[122]⟩
theorem swOk_yes {bs es : List Pr} (hV : Valid bs es) {x y : ByteArray} (hx : isTm x = true) (hy : isTm y = true) : swOk bs es x y = true := by
  unfold swOk
  rw [hx, hy, show validB bs es = true by simpa [validB] using hV]; rfl
theorem swOk_no {bs es : List Pr} (hV : ¬ Valid bs es) (x y : ByteArray) : swOk bs es x y = false := by
  unfold swOk
  rw [show validB bs es = false by simpa [validB] using hV]; rfl
theorem swRL_yes {bs es : List Pr} (hV : Valid bs es) {x y : ByteArray} (hx : isTm x = true) (hy : isTm y = true) : swRL bs es x y = swA bs (byteAt x 0) (byteAt y 0) := (swYes (swOk_yes hV hx hy)).1
theorem swRE_yes {bs es : List Pr} (hV : Valid bs es) {x y : ByteArray} (hx : isTm x = true) (hy : isTm y = true) : swRE bs es x y = es := (swYes (swOk_yes hV hx hy)).2
end Go.Proofs.YthkhccfemdjioaaDoor
end
