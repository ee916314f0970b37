import Derived.Test.YtngcmjfkeageiaaDoorWords
import Derived.Test.YtngcmjfkeageiaaDoorBlkS
import Derived.Test.YtngcmjfkeageiaaDoorTurn2
import Derived.Deep.RegionHeld3
import Derived.Test.YtngcmjfkeageiaaDoorSpecD
import Derived.Laws.AppendOwnNone
import Derived.Deep.CutRange
import Derived.Test.YtngcmjfkeageiaaDoorBlkF
import Derived.StillTailTactics
import Derived.Test.YtngcmjfkeageiaaDoorRows4
import Derived.Test.YtngcmjfkeageiaaDoorTmH
section
/-
  Plain mathematics of chapter 1: terms swapped in a text. It names no program. Conditions: none.
-/
namespace Go.Proofs.YtngcmjfkeageiaaDoor
open Go.RowKit

/-- t for u, u for t, any other number as it is -/
def othN (c t u : Nat) : Nat := if c = t then u else if c = u then t else c
/-- a letter, t and u swapped: small letters compute, great ones spoil -/
def swB (t u c : Nat) : Nat := if lowB c then othN c t u else othN (c + 32) t u - 32
def swC (t u c : Nat) : UInt8 := UInt8.ofNat (swB t u c)
def swT (s : ByteArray) (t u : Nat) : Nat → ByteArray
  | 0 => ⟨#[]⟩
  | k + 1 => swT s t u k ++ ⟨#[swC t u (byteAt s k)]⟩
theorem swT_succ (s : ByteArray) (t u k : Nat) : swT s t u (k + 1) = swT s t u k ++ ⟨#[swC t u (byteAt s k)]⟩ := rfl
theorem swT_size (s : ByteArray) (t u : Nat) : ∀ k, (swT s t u k).size = k
  | 0 => rfl
  | k + 1 => by rw [swT_succ, ByteArray.size_append, swT_size s t u k]; rfl
theorem swB_le {t u c : Nat} (ht : lowB t = true) (hu : lowB u = true) (hc : opB c = true) : swB t u c < 256 ∧ opB (swB t u c) = true ∧ (lowB (swB t u c) = lowB c) := by
  have h1 : t = 120 ∨ t = 121 ∨ t = 122 := by unfold lowB at ht; simp only [Bool.and_eq_true, decide_eq_true_eq] at ht; omega
  have h2 : u = 120 ∨ u = 121 ∨ u = 122 := by unfold lowB at hu; simp only [Bool.and_eq_true, decide_eq_true_eq] at hu; omega
  have h3 : c = 88 ∨ c = 89 ∨ c = 90 ∨ c = 120 ∨ c = 121 ∨ c = 122 := by unfold opB lowB upB at hc; simp only [Bool.or_eq_true, Bool.and_eq_true, decide_eq_true_eq] at hc; omega
  rcases h1 with rfl | rfl | rfl <;> rcases h2 with rfl | rfl | rfl <;> rcases h3 with rfl | rfl | rfl | rfl | rfl | rfl <;> decide
theorem swC_nat {t u c : Nat} (ht : lowB t = true) (hu : lowB u = true) (hc : opB c = true) : (swC t u c).toNat = swB t u c := by
  unfold swC
  rw [UInt8.toNat_ofNat']
  have := (swB_le ht hu hc).1
  omega
theorem swT_at (s : ByteArray) (t u : Nat) : ∀ k i, i < k → byteAt (swT s t u k) i = (swC t u (byteAt s i)).toNat
  | 0, i, h => absurd h (Nat.not_lt_zero _)
  | k + 1, i, h => by
    have hz := swT_size s t u k
    have hd : (swT s t u k).data.size = k := hz
    rw [swT_succ]
    unfold byteAt
    rw [ByteArray.data_append]
    by_cases e : i < k
    · have := swT_at s t u k i e
      unfold byteAt at this
      rw [Array.getD_eq_getD_getElem?, Array.getElem?_append_left (by omega), ← Array.getD_eq_getD_getElem?]
      exact this
    · obtain rfl : i = k := by omega
      rw [Array.getD_eq_getD_getElem?, Array.getElem?_append_right (by omega), hd, Nat.sub_self]
      rfl
end Go.Proofs.YtngcmjfkeageiaaDoor
end

section
/-
  The laws' marks: what markText yields, marks laid into a row of pairs and found there, markProg and heldProg over a program's two rows. Conditions: at most 1048576 blocks and edges, numbers of at most 100000000.
-/
namespace Go.Proofs.YtngcmjfkeageiaaDoor
open Go.RowKit Go.Maps

/-- the last digit of a number, as a letter -/
def digC (k : Nat) : UInt8 := UInt8.ofNat (48 + k % 10)
/-- the digits of k ahead of a text, at most f of them -/
def mkL : Nat → Nat → ByteArray → ByteArray
  | 0, _, o => o
  | f + 1, k, o => if k = 0 then o else mkL f (k / 10) (⟨#[digC k]⟩ ++ o)
theorem mkL_zero (o : ByteArray) : ∀ f, mkL f 0 o = o
  | 0 => rfl
  | f + 1 => by rw [mkL, if_pos rfl]
theorem mkL_step {f k : Nat} (h : k ≠ 0) (o : ByteArray) : mkL (f + 1) k o = mkL f (k / 10) (⟨#[digC k]⟩ ++ o) := by rw [mkL, if_neg h]
/-- the mark of number k -/
def mkV (k : Nat) : ByteArray := if k = 0 then ⟨#[109, 48]⟩ else ⟨#[109]⟩ ++ mkL k k e0
theorem mkL_size : ∀ (f k : Nat) (o : ByteArray), (mkL f k o).size ≤ f + o.size
  | 0, _, o => by simp [mkL]
  | f + 1, k, o => by
    by_cases h : k = 0
    · rw [h, mkL_zero]; omega
    · rw [mkL_step h]
      have := mkL_size f (k / 10) (⟨#[digC k]⟩ ++ o)
      rw [ByteArray.size_append] at this
      have h1 : (⟨#[digC k]⟩ : ByteArray).size = 1 := rfl
      omega
/-- the pairs of marks from number k on -/
def mkPs (k : Nat) : Nat → List Pr
  | 0 => []
  | n + 1 => (mkV k, mkV (k + 1)) :: mkPs (k + 2) n
theorem mkPs_length : ∀ (n k : Nat), (mkPs k n).length = n
  | 0, _ => rfl
  | n + 1, k => by simp [mkPs, mkPs_length n]
theorem mkPs_name : ∀ (n k i : Nat), i < n → nameAt (mkPs k n) i = mkV (k + 2 * i)
  | 0, _, _, h => absurd h (Nat.not_lt_zero _)
  | n + 1, k, 0, _ => rfl
  | n + 1, k, i + 1, h => by
    have := mkPs_name n (k + 2) i (by omega)
    rw [show k + 2 * (i + 1) = k + 2 + 2 * i by omega, ← this]; rfl
theorem mkPs_rest : ∀ (n k i : Nat), i < n → restAt (mkPs k n) i = mkV (k + 2 * i + 1)
  | 0, _, _, h => absurd h (Nat.not_lt_zero _)
  | n + 1, k, 0, _ => rfl
  | n + 1, k, i + 1, h => by
    have := mkPs_rest n (k + 2) i (by omega)
    rw [show k + 2 * (i + 1) + 1 = k + 2 + 2 * i + 1 by omega, ← this]; rfl

theorem dig_val (k : Nat) : 48 + ((k : Int) % 10) = ((digC k).toNat : Int) := by
  unfold digC
  have h1 : k % 10 < 10 := Nat.mod_lt _ (by decide)
  have h2 : (UInt8.ofNat (48 + k % 10)).toNat = 48 + k % 10 := by
    rw [UInt8.toNat_ofNat']; omega
  rw [h2]; omega

set_option maxRecDepth 100000 in
set_option maxHeartbeats 1600000 in
theorem markText_any (k : Nat) (w : World) (hk : k ≤ 100000000) :
    Calls Tryd.prog 106 #[.int .i64 (k : Int)] w fun e w' => e = .returned (.string (mkV k)) ∧ Below w.heap.size w w' := by
  by_cases h0 : k = 0
  · subst h0
    go_enter Tryd.func106, Tryd.ntmps106
    go_wp2
    go_ret
    exact ⟨rfl, Below.refl _ _⟩
  · have hV := Lib.hid (show mkV k = ⟨#[109]⟩ ++ mkL k k e0 by unfold mkV; rw [if_neg h0])
    have h1 : (0 : Int) < (k : Int) := by omega
    go_enter Tryd.func106, Tryd.ntmps106
    go_wp2
    go_loopw [0, 3] (fun i o wr => ∃ (f q : Nat) (s : ByteArray), i = .int .i64 q ∧ o = .string s ∧ q ≤ f ∧ f ≤ k ∧ s.size + f ≤ k ∧ mkL f q s = mkL k k e0 ∧ Below w.heap.size w wr) (fun i _ _ => (intOf i).toNat)
    case atStart => exact ⟨k, k, e0, rfl, rfl, Nat.le_refl _, Nat.le_refl _, by show 0 + k ≤ k; omega, rfl, Below.refl _ _⟩
    case round =>
      obtain ⟨f, q, s, rfl, rfl, hqf, hf, hs, hm, hbl⟩ := hrel
      have hsz := hbl.size
      by_cases hq : 0 < q
      · obtain ⟨f', rfl⟩ : ∃ f', f = f' + 1 := ⟨f - 1, by omega⟩
        have HM := Lib.hid ((mkL_step (f := f') (show q ≠ 0 by omega) s).symm.trans hm)
        have hdv := dig_val q
        have hb1 : 0 ≤ (q : Int) % 10 := by omega
        have hb2 : (q : Int) % 10 ≤ 9 := by omega
        have kc := conv_one wr _ _ hdv
        have HD := Lib.hid hdv
        have t0 : ¬ 9223372036854775807 < (⟨#[digC q]⟩ : ByteArray).size + s.size := by show ¬ 9223372036854775807 < 1 + s.size; omega
        have t1 : ¬ 9223372036854775807 < 1 + s.size := by omega
        have HZ := Lib.hid (show ((⟨#[digC q]⟩ : ByteArray) ++ s).size + f' ≤ k by rw [ByteArray.size_append]; show 1 + s.size + f' ≤ k; omega)
        clear hm hdv
        go_wp2
        go_roundw
        case rel => exact ⟨f', q / 10, _, by go_num, rfl, by omega, by omega, HZ.out, HM.out, hbl.alloc hsz _⟩
        case measure => simp [intOf]; omega
      · have HM := Lib.hid (show s = mkL k k e0 by obtain rfl : q = 0 := (by omega); exact (mkL_zero s f).symm.trans hm)
        have hq' : ¬ ((0 : Int) < (q : Int)) := by omega
        have t1 : ¬ 9223372036854775807 < 1 + s.size := by omega
        have t0 : ¬ 9223372036854775807 < (⟨#[109]⟩ : ByteArray).size + s.size := t1
        clear hm
        go_wp2
        go_ret
        exact ⟨by rw [hV.out, ← HM.out]; rfl, hbl⟩

theorem own_at2 {w : World} {B n c : Nat} {e : TypeId} {a : Option Addr} {l : List Pr} (hn : n = l.length) (h : w.ownsRow B e 2 (.slice a n c) n (cellsOf l)) {i : Nat} (hi : i < n) :
    ∃ g, a = some ⟨g, 0, none⟩ ∧ B ≤ g ∧ g < w.heap.size ∧ w.cell? ⟨g, i * 2, none⟩ = some (.string (nameAt l i)) ∧ w.cell? ⟨g, i * 2 + 1, none⟩ = some (.string (restAt l i)) ∧ w.frozen? ⟨g, i * 2, none⟩ = false ∧ w.frozen? ⟨g, i * 2 + 1, none⟩ = false := by
  subst hn
  obtain ⟨h1, ⟨_, h0⟩ | ⟨g, cap, cur, hv, hg, hh, hc, hm, hcs, ht⟩⟩ := h
  · omega
  · simp only [Value.slice.injEq] at hv
    refine ⟨g, hv.1, hg, (Array.getElem?_eq_some_iff.1 hh).1, ?_, ?_, by simp [World.frozen?, hh], by simp [World.frozen?, hh]⟩
    · have := cellsOf_even l i hi
      rw [← ht, List.getElem?_take, if_pos (by omega)] at this
      rw [cell_of_row w g _ _ _ (0, 0) hh]
      simpa using this
    · have := cellsOf_odd l i hi
      rw [← ht, List.getElem?_take, if_pos (by omega)] at this
      rw [cell_of_row w g _ _ _ (0, 0) hh]
      simpa using this
theorem own_set {w : World} {B n c g : Nat} {e : TypeId} {l : List Pr} (hn : n = l.length) (h : w.ownsRow B e 2 (.slice (some ⟨g, 0, none⟩) n c) n (cellsOf l)) {i : Nat} (hi : i < n) (s : ByteArray) :
    (w.setCell ⟨g, i * 2, none⟩ (.string s)).ownsRow B e 2 (.slice (some ⟨g, 0, none⟩) n c) n (cellsOf (l.set i (s, restAt l i))) ∧ (w.setCell ⟨g, i * 2 + 1, none⟩ (.string s)).ownsRow B e 2 (.slice (some ⟨g, 0, none⟩) n c) n (cellsOf (l.set i (nameAt l i, s))) := by
  subst hn
  obtain ⟨h1, ⟨hv, h0⟩ | ⟨g', cap, cur, hv, hg, hh, hc, hm, hcs, ht⟩⟩ := h
  · omega
  · simp only [Value.slice.injEq, Option.some.injEq, Addr.mk.injEq] at hv
    obtain ⟨⟨rfl, _⟩, _, rfl⟩ := hv
    have key : ∀ (j : Nat) (u : Value) (l' : List Pr), j < l.length * 2 → l'.length = l.length → cellsOf l' = (cellsOf l).set j u → (w.setCell ⟨g, j, none⟩ u).ownsRow B e 2 (.slice (some ⟨g, 0, none⟩) l.length c) l.length (cellsOf l') := by
      intro j u l' hj hl' he
      refine ⟨by rw [cellsOf_length, hl'], .inr ⟨g, c, cur.setIfInBounds j u, rfl, hg, by simp [World.setCell, Array.getElem?_modify, hh], hc, hm, by simp [hcs], ?_⟩⟩
      rw [he, ← ht, Array.toList_setIfInBounds, List.take_set]
    exact ⟨key _ _ _ (by omega) (by simp) (cellsOf_set_even l i s hi).symm, key _ _ _ (by omega) (by simp) (cellsOf_set_odd l i s hi).symm⟩
theorem own_same {w : World} {B n c : Nat} {e : TypeId} {a : Option Addr} {l l' : List Pr} (h : w.ownsRow B e 2 (.slice a n c) n (cellsOf l)) (hl : l = l') : w.ownsRow B e 2 (.slice a n c) n (cellsOf l') := by subst hl; exact h
/-- what a mark function leaves -/
def MarkPost (w : World) (a : Option Addr) (n c B k : Nat) (t : TypeId) (e : Ending) (w' : World) : Prop := e = .returned (.int .i64 ((k + 2 * n : Nat) : Int)) ∧ w'.ownsRow B t 2 (.slice a n c) n (cellsOf (mkPs k n)) ∧ Turns (fun b => some b = (Value.slice a n c).ownBlock) w w'

set_option maxRecDepth 100000 in
set_option maxHeartbeats 3200000 in
theorem markBlockS_any (w : World) (l : List Pr) (a : Option Addr) (n c B k : Nat) (hn : n = l.length) (ho : w.ownsRow B 40 2 (.slice a n c) n (cellsOf l)) (hl : n ≤ 1048576) (hk : k + 2 * n ≤ 100000000) :
    Calls Tryd.prog 104 #[.slice a n c, .int .i64 (k : Int)] w (MarkPost w a n c B k 40) := by
  have HO := Lib.hid (And.intro ho hn); clear ho hn
  go_enter Tryd.func104, Tryd.ntmps104
  go_wp2
  go_loopw [5, 1] (fun i m wr => ∃ (j : Nat) (L : List Pr), j ≤ n ∧ i = .int .i64 j ∧ m = .int .i64 ((k + 2 * j : Nat) : Int) ∧ L.length = n ∧ wr.ownsRow B 40 2 (.slice a n c) n (cellsOf L) ∧ Turns (fun b => some b = (Value.slice a n c).ownBlock) w wr ∧ ∀ q, q < j → nameAt L q = mkV (k + 2 * q) ∧ restAt L q = mkV (k + 2 * q + 1)) (fun i _ _ => n - (intOf i).toNat)
  case atStart => exact ⟨0, l, Nat.zero_le _, rfl, by simp, HO.out.2.symm, HO.out.1, Turns.refl _ _, fun q h => absurd h (Nat.not_lt_zero _)⟩
  case round =>
    obtain ⟨j, L, hj, rfl, rfl, hL, hown, htu, hno⟩ := hrel
    have HL := Lib.hid (And.intro hL hno); clear hL hno
    by_cases hlt : j < n
    · obtain ⟨g, rfl, hBg, hgl, c0, c1, f0, f1⟩ := own_at2 HL.out.1.symm hown hlt
      have HT := Lib.hid (And.intro hown htu)
      have w1' : IntKind.i64.wrap (((k + 2 * j : Nat) : Int) + 1) = ((k + 2 * j + 1 : Nat) : Int) := by rw [show ((k + 2 * j : Nat) : Int) + 1 = ((k + 2 * j + 1 : Nat) : Int) by omega]; exact IntWalk.i64_in _ (by omega)
      have w2' : IntKind.i64.wrap (((k + 2 * j + 1 : Nat) : Int) + 1) = ((k + 2 * j + 1 + 1 : Nat) : Int) := by rw [show ((k + 2 * j + 1 : Nat) : Int) + 1 = ((k + 2 * j + 1 + 1 : Nat) : Int) by omega]; exact IntWalk.i64_in _ (by omega)
      obtain ⟨K0, hK0⟩ : ∃ K0, K0 = k + 2 * j := ⟨_, rfl⟩
      rw [← hK0] at w1' w2'
      rw [← hK0]
      have HK := Lib.hid hK0
      have hKb : K0 + 2 ≤ 100000000 := by omega
      have x1 : (0 : Int) ≤ (j : Int) := by omega
      have x2 : (j : Int) < (n : Int) := by omega
      clear hown htu hK0
      go_wp2_with fail
      refine (markText_any K0 _ (by omega)).mono ?_
      rintro e wa ⟨rfl, hba⟩
      have hoa := ownsRow_below HT.out.1 hba
      obtain ⟨g', e', _, _, d0, d1, u0, u1⟩ := own_at2 HL.out.1.symm hoa hlt
      cases e'
      have HA := Lib.hid (And.intro (own_set HL.out.1.symm hoa hlt (mkV K0)).1 ((HT.out.2.trans (Turns.of_below hba)).trans (⟨rfl, rfl, rfl, by simp [World.setCell], fun q _ hq => Below.heap_setCell _ _ _ _ (fun e => hq (by subst e; rfl))⟩ : Turns (fun b => some b = (Value.slice (some ⟨g, 0, none⟩) n c).ownBlock) wa (wa.setCell ⟨g, j * 2, none⟩ (.string (mkV K0))))))
      clear hba hoa c0 c1 f0 f1
      go_wp2_with fail
      refine (markText_any (K0 + 1) _ (by omega)).mono ?_
      rintro e wb ⟨rfl, hbb⟩
      have hob := ownsRow_below HA.out.1 hbb
      have hLs : (L.set j (mkV K0, restAt L j)).length = n := by simp [HL.out.1]
      obtain ⟨g', e', _, _, d0', d1', u0', u1'⟩ := own_at2 hLs.symm hob hlt
      cases e'
      have HB := Lib.hid (And.intro (own_set hLs.symm hob hlt (mkV (K0 + 1))).2 ((HA.out.2.trans (Turns.of_below hbb)).trans (⟨rfl, rfl, rfl, by simp [World.setCell], fun q _ hq => Below.heap_setCell _ _ _ _ (fun e => hq (by subst e; rfl))⟩ : Turns (fun b => some b = (Value.slice (some ⟨g, 0, none⟩) n c).ownBlock) wb (wb.setCell ⟨g, j * 2 + 1, none⟩ (.string (mkV (K0 + 1)))))))
      clear hbb hob d0 d1 u0 u1 hLs
      go_wp2
      go_roundw
      case rel =>
        refine ⟨j + 1, _, by omega, by go_num, by rw [HK.out]; congr 2, ?_, HB.out.1, HB.out.2, fun q hq => ?_⟩
        · simp [HL.out.1]
        · have hjl : j < L.length := by rw [HL.out.1]; exact hlt
          have hjl' : j < (L.set j (mkV K0, restAt L j)).length := by simpa using hjl
          rw [nameAt_set _ _ _ _ hjl', restAt_set _ _ _ _ hjl', nameAt_set _ _ _ _ hjl, restAt_set _ _ _ _ hjl, nameAt_set _ _ _ _ hjl]
          by_cases e : q = j
          · subst e; simp [HK.out]
          · simp only [if_neg e]; exact HL.out.2 q (by omega)
      case measure => simp [intOf]; omega
    · obtain rfl : j = n := by omega
      have hE : L = mkPs k j := ext_at (by rw [HL.out.1, mkPs_length]) (fun i hi => by
        rw [HL.out.1] at hi
        rw [mkPs_name j k i hi, mkPs_rest j k i hi]; exact HL.out.2 i hi)
      have HX := Lib.hid (And.intro (own_same hown hE) htu)
      clear hown htu hE
      go_wp2
      go_ret
      exact ⟨rfl, HX.out.1, HX.out.2⟩

set_option maxRecDepth 100000 in
set_option maxHeartbeats 3200000 in
theorem markEdgeS_any (w : World) (l : List Pr) (a : Option Addr) (n c B k : Nat) (hn : n = l.length) (ho : w.ownsRow B 111 2 (.slice a n c) n (cellsOf l)) (hl : n ≤ 1048576) (hk : k + 2 * n ≤ 100000000) :
    Calls Tryd.prog 105 #[.slice a n c, .int .i64 (k : Int)] w (MarkPost w a n c B k 111) := by
  have HO := Lib.hid (And.intro ho hn); clear ho hn
  go_enter Tryd.func105, Tryd.ntmps105
  go_wp2
  go_loopw [5, 1] (fun i m wr => ∃ (j : Nat) (L : List Pr), j ≤ n ∧ i = .int .i64 j ∧ m = .int .i64 ((k + 2 * j : Nat) : Int) ∧ L.length = n ∧ wr.ownsRow B 111 2 (.slice a n c) n (cellsOf L) ∧ Turns (fun b => some b = (Value.slice a n c).ownBlock) w wr ∧ ∀ q, q < j → nameAt L q = mkV (k + 2 * q) ∧ restAt L q = mkV (k + 2 * q + 1)) (fun i _ _ => n - (intOf i).toNat)
  case atStart => exact ⟨0, l, Nat.zero_le _, rfl, by simp, HO.out.2.symm, HO.out.1, Turns.refl _ _, fun q h => absurd h (Nat.not_lt_zero _)⟩
  case round =>
    obtain ⟨j, L, hj, rfl, rfl, hL, hown, htu, hno⟩ := hrel
    have HL := Lib.hid (And.intro hL hno); clear hL hno
    by_cases hlt : j < n
    · obtain ⟨g, rfl, hBg, hgl, c0, c1, f0, f1⟩ := own_at2 HL.out.1.symm hown hlt
      have HT := Lib.hid (And.intro hown htu)
      have w1' : IntKind.i64.wrap (((k + 2 * j : Nat) : Int) + 1) = ((k + 2 * j + 1 : Nat) : Int) := by rw [show ((k + 2 * j : Nat) : Int) + 1 = ((k + 2 * j + 1 : Nat) : Int) by omega]; exact IntWalk.i64_in _ (by omega)
      have w2' : IntKind.i64.wrap (((k + 2 * j + 1 : Nat) : Int) + 1) = ((k + 2 * j + 1 + 1 : Nat) : Int) := by rw [show ((k + 2 * j + 1 : Nat) : Int) + 1 = ((k + 2 * j + 1 + 1 : Nat) : Int) by omega]; exact IntWalk.i64_in _ (by omega)
      obtain ⟨K0, hK0⟩ : ∃ K0, K0 = k + 2 * j := ⟨_, rfl⟩
      rw [← hK0] at w1' w2'
      rw [← hK0]
      have HK := Lib.hid hK0
      have hKb : K0 + 2 ≤ 100000000 := by omega
      have x1 : (0 : Int) ≤ (j : Int) := by omega
      have x2 : (j : Int) < (n : Int) := by omega
      clear hown htu hK0
      go_wp2_with fail
      refine (markText_any K0 _ (by omega)).mono ?_
      rintro e wa ⟨rfl, hba⟩
      have hoa := ownsRow_below HT.out.1 hba
      obtain ⟨g', e', _, _, d0, d1, u0, u1⟩ := own_at2 HL.out.1.symm hoa hlt
      cases e'
      have HA := Lib.hid (And.intro (own_set HL.out.1.symm hoa hlt (mkV K0)).1 ((HT.out.2.trans (Turns.of_below hba)).trans (⟨rfl, rfl, rfl, by simp [World.setCell], fun q _ hq => Below.heap_setCell _ _ _ _ (fun e => hq (by subst e; rfl))⟩ : Turns (fun b => some b = (Value.slice (some ⟨g, 0, none⟩) n c).ownBlock) wa (wa.setCell ⟨g, j * 2, none⟩ (.string (mkV K0))))))
      clear hba hoa c0 c1 f0 f1
      go_wp2_with fail
      refine (markText_any (K0 + 1) _ (by omega)).mono ?_
      rintro e wb ⟨rfl, hbb⟩
      have hob := ownsRow_below HA.out.1 hbb
      have hLs : (L.set j (mkV K0, restAt L j)).length = n := by simp [HL.out.1]
      obtain ⟨g', e', _, _, d0', d1', u0', u1'⟩ := own_at2 hLs.symm hob hlt
      cases e'
      have HB := Lib.hid (And.intro (own_set hLs.symm hob hlt (mkV (K0 + 1))).2 ((HA.out.2.trans (Turns.of_below hbb)).trans (⟨rfl, rfl, rfl, by simp [World.setCell], fun q _ hq => Below.heap_setCell _ _ _ _ (fun e => hq (by subst e; rfl))⟩ : Turns (fun b => some b = (Value.slice (some ⟨g, 0, none⟩) n c).ownBlock) wb (wb.setCell ⟨g, j * 2 + 1, none⟩ (.string (mkV (K0 + 1)))))))
      clear hbb hob d0 d1 u0 u1 hLs
      go_wp2
      go_roundw
      case rel =>
        refine ⟨j + 1, _, by omega, by go_num, by rw [HK.out]; congr 2, ?_, HB.out.1, HB.out.2, fun q hq => ?_⟩
        · simp [HL.out.1]
        · have hjl : j < L.length := by rw [HL.out.1]; exact hlt
          have hjl' : j < (L.set j (mkV K0, restAt L j)).length := by simpa using hjl
          rw [nameAt_set _ _ _ _ hjl', restAt_set _ _ _ _ hjl', nameAt_set _ _ _ _ hjl, restAt_set _ _ _ _ hjl, nameAt_set _ _ _ _ hjl]
          by_cases e : q = j
          · subst e; simp [HK.out]
          · simp only [if_neg e]; exact HL.out.2 q (by omega)
      case measure => simp [intOf]; omega
    · obtain rfl : j = n := by omega
      have hE : L = mkPs k j := ext_at (by rw [HL.out.1, mkPs_length]) (fun i hi => by
        rw [HL.out.1] at hi
        rw [mkPs_name j k i hi, mkPs_rest j k i hi]; exact HL.out.2 i hi)
      have HX := Lib.hid (And.intro (own_same hown hE) htu)
      clear hown htu hE
      go_wp2
      go_ret
      exact ⟨rfl, HX.out.1, HX.out.2⟩

/-- a program's two rows, in blocks from lo on, below hi -/
structure Rws (W : World) (lo hi : Nat) (a : Option Addr) (n c : Nat) (L : List Pr) (a' : Option Addr) (n' c' : Nat) (E : List Pr) : Prop where
  b : W.ownsRow lo 40 2 (.slice a n c) n (cellsOf L)
  e : W.ownsRow lo 111 2 (.slice a' n' c') n' (cellsOf E)
  bh : ∀ g, (Value.slice a n c).ownBlock = some g → g < hi
  eh : ∀ g, (Value.slice a' n' c').ownBlock = some g → g < hi
section
variable {W W' : World} {lo hi n n' c c' : Nat} {a a' : Option Addr} {L E : List Pr}
theorem Rws.turns {S : Nat → Prop} (h : Rws W lo hi a n c L a' n' c' E) (ht : Turns S W W') (hS : ∀ k, lo ≤ k → k < hi → ¬ S k) : Rws W' lo hi a n c L a' n' c' E :=
  ⟨ht.row h.b (fun g hg => hS g (h.b.lt g hg).1 (h.bh g hg)), ht.row h.e (fun g hg => hS g (h.e.lt g hg).1 (h.eh g hg)), h.bh, h.eh⟩
theorem Rws.below (h : Rws W lo hi a n c L a' n' c' E) (hb : Below W.heap.size W W') : Rws W' lo hi a n c L a' n' c' E := ⟨ownsRow_below h.b hb, ownsRow_below h.e hb, h.bh, h.eh⟩
theorem Rws.lenb (h : Rws W lo hi a n c L a' n' c' E) : n = L.length := by have := h.b.1; rw [cellsOf_length] at this; omega
theorem Rws.lene (h : Rws W lo hi a n c L a' n' c' E) : n' = E.length := by have := h.e.1; rw [cellsOf_length] at this; omega
end
def MarkPP (W : World) (lo hi : Nat) (a : Option Addr) (n c : Nat) (a' : Option Addr) (n' c' k : Nat) (e : Ending) (W' : World) : Prop :=
  e = .returned (.int .i64 ((k + 2 * n + 2 * n' : Nat) : Int)) ∧ Rws W' lo hi a n c (mkPs k n) a' n' c' (mkPs (k + 2 * n) n') ∧ Turns (fun b => lo ≤ b ∧ b < hi) W W'

set_option maxRecDepth 100000 in
set_option maxHeartbeats 1600000 in
theorem markProg_any (W : World) (lo hi : Nat) (a : Option Addr) (n c : Nat) (L : List Pr) (a' : Option Addr) (n' c' : Nat) (E : List Pr) (k : Nat) (h : Rws W lo hi a n c L a' n' c' E) (hn : n ≤ 1048576) (hn' : n' ≤ 1048576) (hk : k ≤ 1000) :
    Calls Tryd.prog 45 #[.agg #[.slice a n c, .slice a' n' c'], .int .i64 (k : Int)] W (MarkPP W lo hi a n c a' n' c' k) := by
  have hb1 : Below W.heap.size W (W.alloc (.cells #[.slice a n c, .slice a' n' c'] 32)) := (Below.refl _ _).alloc (Nat.le_refl _) _
  have hT : Two (W.alloc (.cells #[.slice a n c, .slice a' n' c'] 32)) W.heap.size _ _ := heap_alloc_new _ _
  have H := Lib.hid (And.intro h (And.intro (h.below hb1) (And.intro hb1 hT)))
  clear h hb1 hT
  go_enter Tryd.func45, Tryd.ntmps45
  go_wp2_with fail
  refine (markBlockS_any _ L a n c lo k H.out.2.1.lenb H.out.2.1.b hn (by omega)).mono ?_
  rintro e W1 ⟨rfl, hob, htu⟩
  have hne : ∀ g, (Value.slice a' n' c').ownBlock = some g → ¬ some g = (Value.slice a n c).ownBlock := fun g hg e => by
    obtain ⟨c9, z9, h9⟩ := Lib.ownsRow_kind H.out.2.1.e g hg
    exact own_neK H.out.2.1.b h9 (by decide) e.symm
  have hoe := htu.row H.out.2.1.e hne
  have hT1 : Two W1 W.heap.size _ _ := htu.two H.out.2.2.2 (fun e => own_neK H.out.2.1.b H.out.2.2.2 (by decide) e.symm)
  obtain ⟨c0, c1, _, _, hl⟩ := hT1.cells
  have HA := Lib.hid (And.intro hob (And.intro htu hoe))
  clear hob htu hoe hT1 hne
  go_wp2_with fail
  refine (markEdgeS_any _ E a' n' c' lo (k + 2 * n) H.out.2.1.lene HA.out.2.2 hn' (by omega)).mono ?_
  rintro e W2 ⟨rfl, hoe2, htu2⟩
  have hob2 := htu2.row HA.out.1 (fun g hg e => by
    obtain ⟨c9, z9, h9⟩ := Lib.ownsRow_kind HA.out.1 g hg
    exact own_neK HA.out.2.2 h9 (by decide) e.symm)
  have htf : Turns (fun b => lo ≤ b ∧ b < hi) W W2 := by
    refine ((Turns.of_below (S := fun b => lo ≤ b ∧ b < hi) H.out.2.2.1).then_ HA.out.2.1 (fun _ _ h => h) (fun i _ e => ⟨(H.out.2.1.b.lt i e.symm).1, H.out.1.bh i e.symm⟩)).then_ htu2 (fun _ _ h => h) (fun i _ e => ⟨(HA.out.2.2.lt i e.symm).1, H.out.1.eh i e.symm⟩)
  have HX := Lib.hid (And.intro hob2 (And.intro hoe2 htf))
  clear hob2 hoe2 htf htu2
  go_wp2
  go_ret
  exact ⟨rfl, ⟨HX.out.1, HX.out.2.1, H.out.1.bh, H.out.1.eh⟩, HX.out.2.2⟩

end Go.Proofs.YtngcmjfkeageiaaDoor
end

section
/-
  A program in memory of its own, its rows in blocks of a range; a loop that fills a program's blocks; a function's answer that is a program. Conditions: none.
-/
namespace Go.Proofs.YtngcmjfkeageiaaDoor
open Go.RowKit Go.Maps

theorem own_atT {w : World} {B : Nat} {e : TypeId} {a : Option Addr} {c n : Nat} {l : List Pr} (hn : n = l.length) (h : w.ownsRow B e 2 (.slice a n c) n (cellsOf l)) (hl : l.length ≤ 1048576) (hs : ∀ i, i < l.length → (nameAt l i).size ≤ 1048576 ∧ (restAt l i).size ≤ 1048576) : PairsAt w a l := by
  obtain ⟨a', c', e, hP⟩ := own_pairs hn h hl hs
  simp only [Value.slice.injEq] at e
  rw [e.1]; exact hP
/-- a program in a block of its own, its rows in blocks from lo on, below hi -/
structure Kp (W : World) (q lo hi : Nat) (a : Option Addr) (n c : Nat) (L : List Pr) (a' : Option Addr) (n' c' : Nat) (E : List Pr) : Prop where
  two : Two W q (.slice a n c) (.slice a' n' c')
  rows : Rws W lo hi a n c L a' n' c' E
section
variable {W W' : World} {q lo hi n n' c c' : Nat} {a a' : Option Addr} {L E : List Pr}
theorem Kp.below (h : Kp W q lo hi a n c L a' n' c' E) (hb : Below W.heap.size W W') : Kp W' q lo hi a n c L a' n' c' E := ⟨h.two.of_cells (hb.block _ h.two.cells.2.2.2.2), h.rows.below hb⟩
theorem Kp.turns {S : Nat → Prop} (h : Kp W q lo hi a n c L a' n' c' E) (ht : Turns S W W') (hq : ¬ S q) (hS : ∀ k, lo ≤ k → k < hi → ¬ S k) : Kp W' q lo hi a n c L a' n' c' E := ⟨ht.two h.two hq, h.rows.turns ht hS⟩
theorem Rws.pairs (h : Rws W lo hi a n c L a' n' c' E) (hl : L.length ≤ 1048576) (hs : ∀ i, i < L.length → (nameAt L i).size ≤ 1048576 ∧ (restAt L i).size ≤ 1048576) (hl' : E.length ≤ 1048576) (hs' : ∀ i, i < E.length → (nameAt E i).size ≤ 1048576 ∧ (restAt E i).size ≤ 1048576) : PairsAt W a L ∧ PairsAt W a' E :=
  ⟨own_atT h.lenb h.b hl hs, own_atT h.lene h.e hl' hs'⟩
theorem PB.rws {gb ge : Nat} {bs es : List Pr} (hb : PB W gb 40 bs) (he : PB W ge 111 es) (h1 : lo ≤ gb) (h2 : lo ≤ ge) (h3 : gb < hi) (h4 : ge < hi) (hl : bs.length ≤ 1048576) (hl' : es.length ≤ 1048576) : Rws W lo hi (some ⟨gb, 0, none⟩) bs.length bs.length bs (some ⟨ge, 0, none⟩) es.length es.length es :=
  ⟨⟨cellsOf_length bs, .inr ⟨gb, bs.length, (cellsOf bs).toArray, rfl, h1, hb, Nat.le_refl _, by unfold maxLen; omega, by simp [cellsOf_length], by rw [List.take_of_length_le (by simp [cellsOf_length])]⟩⟩,
   ⟨cellsOf_length es, .inr ⟨ge, es.length, (cellsOf es).toArray, rfl, h2, he, Nat.le_refl _, by unfold maxLen; omega, by simp [cellsOf_length], by rw [List.take_of_length_le (by simp [cellsOf_length])]⟩⟩,
   fun g hg => by simp [Value.ownBlock] at hg; omega, fun g hg => by simp [Value.ownBlock] at hg; omega⟩
end
/-- a function's answer: a program and whether there is one -/
def ProgRes (W : World) (ok : Bool) (L E : List Pr) (e : Ending) (W' : World) : Prop := Below W.heap.size W W' ∧ ∃ a c a' c', e = .returned (.tuple #[.agg #[.slice a L.length c, .slice a' E.length c'], .bool ok]) ∧ Rws W' W.heap.size W'.heap.size a L.length c L a' E.length c' E
theorem own_farT {w : World} {base : Nat} {e : TypeId} {size n : Nat} {v : Value} {xs : List Value} (h : w.ownsRow base e size v n xs) {p : Addr} (hp : v.ownBlock ≠ some p.block) (u : Value) : (w.setCell p u).ownsRow base e size v n xs :=
  h.kept (row := some p.block) ⟨rfl, rfl, rfl, by simp [World.setCell], fun j _ hj => Below.heap_setCell _ _ _ _ (fun e => hj (by simp [e]))⟩ (Or.inr hp)
/-- a loop that fills a program's blocks -/
structure TLoop (w wr : World) (R Q lo : Nat) (v ve : Value) (k m : Nat) (L E : List Pr) : Prop where
  two : Two wr Q v ve
  res : Two wr R (.slice none 0 0) (.slice none 0 0)
  ob : wr.ownsRow lo 40 2 v k (cellsOf L)
  oe : wr.ownsRow lo 111 2 ve m (cellsOf E)
  bw : Below w.heap.size w wr
section
variable {w wr w' : World} {R Q lo k m : Nat} {v ve : Value} {L E : List Pr}
theorem TLoop.below (h : TLoop w wr R Q lo v ve k m L E) (hb : Below wr.heap.size wr w') : TLoop w w' R Q lo v ve k m L E :=
  ⟨h.two.of_cells (hb.block _ h.two.cells.2.2.2.2), h.res.of_cells (hb.block _ h.res.cells.2.2.2.2), ownsRow_below h.ob hb, ownsRow_below h.oe hb, h.bw.trans (hb.mono h.bw.size)⟩
theorem TLoop.step (h : TLoop w wr R Q lo v ve k m L E) {wx w4 : World} {v' : Value} {k' : Nat} {L' : List Pr} (hx : Below wr.heap.size wr wx) (hg : wx.grownBy w4 v.ownBlock) (hown : w4.ownsRow lo 40 2 v' k' (cellsOf L')) (hlo : w.heap.size ≤ lo) (hQ : w.heap.size ≤ Q) (hRQ : R ≠ Q) :
    TLoop w (w4.setCell ⟨Q, 0, none⟩ v') R Q lo v' ve k' m L' E := by
  have ht : Turns (fun b => some b = v.ownBlock) wr w4 := (Turns.of_below hx).then_ (Turns.of_grown hg) (fun _ _ h => h) (fun _ _ h => h)
  have hR4 : Two w4 R _ _ := h.res.of_cells (ht.block R h.res.cells.2.2.2.2 (fun e => own_neK h.ob h.res (by decide) e.symm))
  have hQ4 : Two w4 Q _ _ := h.two.of_cells (ht.block Q h.two.cells.2.2.2.2 (fun e => own_neK h.ob h.two (by decide) e.symm))
  have hE4 := ht.row h.oe (fun b hb e => by
    obtain ⟨c9, z9, h9⟩ := Lib.ownsRow_kind h.oe b hb
    exact own_neK h.ob h9 (by decide) e.symm)
  have hb4 : Below w.heap.size w w4 := h.bw.trans (ht.below h.bw.size (fun b hb => Nat.le_trans hlo (h.ob.lt b hb.symm).1))
  exact ⟨hQ4.set0 _, hR4.far hRQ _, own_farT hown (own_neK hown hQ4 (by decide)) _, own_farT hE4 (own_neK hE4 hQ4 (by decide)) _, hb4.setCell hQ _⟩
end

end Go.Proofs.YtngcmjfkeageiaaDoor
end

section
/-
  A program whose terms are swapped, as data: its blocks, what the two functions return. It names the program's types alone. Conditions: none.
-/
namespace Go.Proofs.YtngcmjfkeageiaaDoor
open Go.RowKit Go.Maps

/-- the first blocks, two terms swapped -/
def swL (bs : List Pr) (t u : Nat) (k : Nat) : List Pr := (List.range k).map fun i => (nameAt bs i, swT (restAt bs i) t u (restAt bs i).size)
theorem swL_length (bs : List Pr) (t u k : Nat) : (swL bs t u k).length = k := by simp [swL]
theorem cellsOf_appendW : ∀ (a b : List Pr), cellsOf (a ++ b) = cellsOf a ++ cellsOf b
  | [], b => rfl
  | p :: r, b => by show _ :: _ :: cellsOf (r ++ b) = _; rw [cellsOf_appendW r b]; rfl
theorem swL_snoc (bs : List Pr) (t u k : Nat) : swL bs t u (k + 1) = swL bs t u k ++ [(nameAt bs k, swT (restAt bs k) t u (restAt bs k).size)] := by
  unfold swL
  rw [List.range_succ, List.map_append]; rfl
theorem swL_succ (bs : List Pr) (t u k : Nat) : cellsOf (swL bs t u (k + 1)) = cellsOf (swL bs t u k) ++ [.string (nameAt bs k), .string (swT (restAt bs k) t u (restAt bs k).size)] := by
  rw [swL_snoc, cellsOf_appendW]; rfl
theorem swL_get {bs : List Pr} {t u k i : Nat} (h : i < k) : (swL bs t u k).getD i (e0, e0) = (nameAt bs i, swT (restAt bs i) t u (restAt bs i).size) := by
  unfold swL
  rw [List.getD_eq_getElem?_getD]
  simp [h]
theorem swL_name {bs : List Pr} {t u k i : Nat} (h : i < k) : nameAt (swL bs t u k) i = nameAt bs i := by
  show ((swL bs t u k).getD i (e0, e0)).1 = _
  rw [swL_get h]
theorem swL_rest {bs : List Pr} {t u k i : Nat} (h : i < k) : restAt (swL bs t u k) i = swT (restAt bs i) t u (restAt bs i).size := by
  show ((swL bs t u k).getD i (e0, e0)).2 = _
  rw [swL_get h]
theorem swL_small {bs : List Pr} {t u : Nat} (h : ∀ i, i < bs.length → (nameAt bs i).size ≤ 1048576 ∧ (restAt bs i).size ≤ 1048576) : ∀ i, i < (swL bs t u bs.length).length → (nameAt (swL bs t u bs.length) i).size ≤ 1048576 ∧ (restAt (swL bs t u bs.length) i).size ≤ 1048576 := by
  intro i hi
  rw [swL_length] at hi
  rw [swL_name hi, swL_rest hi, swT_size]
  exact h i hi
/-- whether there is an answer -/
noncomputable def swOk (bs es : List Pr) (x y : ByteArray) : Bool := validB bs es && (isTm x && isTm y)
open Classical in
noncomputable def swRL (bs es : List Pr) (x y : ByteArray) : List Pr := if swOk bs es x y = true then swL bs (byteAt x 0) (byteAt y 0) bs.length else []
open Classical in
noncomputable def swRE (bs es : List Pr) (x y : ByteArray) : List Pr := if swOk bs es x y = true then es else []
theorem swRL_small {bs es : List Pr} {x y : ByteArray} (hl : bs.length ≤ 1048576) (h : ∀ i, i < bs.length → (nameAt bs i).size ≤ 1048576 ∧ (restAt bs i).size ≤ 1048576) : (swRL bs es x y).length ≤ 1048576 ∧ ∀ i, i < (swRL bs es x y).length → (nameAt (swRL bs es x y) i).size ≤ 1048576 ∧ (restAt (swRL bs es x y) i).size ≤ 1048576 := by
  unfold swRL
  split
  · exact ⟨by rw [swL_length]; exact hl, swL_small h⟩
  · exact ⟨Nat.zero_le _, fun i hi => absurd hi (Nat.not_lt_zero _)⟩
theorem swRE_small {bs es : List Pr} {x y : ByteArray} (hl : es.length ≤ 1048576) (h : ∀ i, i < es.length → (nameAt es i).size ≤ 1048576 ∧ (restAt es i).size ≤ 1048576) : (swRE bs es x y).length ≤ 1048576 ∧ ∀ i, i < (swRE bs es x y).length → (nameAt (swRE bs es x y) i).size ≤ 1048576 ∧ (restAt (swRE bs es x y) i).size ≤ 1048576 := by
  unfold swRE
  split
  · exact ⟨hl, h⟩
  · exact ⟨Nat.zero_le _, fun i hi => absurd hi (Nat.not_lt_zero _)⟩
theorem ProgRes.yes {W W' : World} {L E : List Pr} {v ve : Value} {n m : Nat} (hn : n = L.length) (hm : m = E.length) (hb : Below W.heap.size W W') (ho : W'.ownsRow W.heap.size 40 2 v n (cellsOf L)) (hoe : W'.ownsRow W.heap.size 111 2 ve m (cellsOf E)) :
    ProgRes W true L E (.returned (.tuple #[.agg #[v, ve], .bool true])) W' := by
  subst hn hm
  obtain ⟨a, c, rfl⟩ := own_form ho
  obtain ⟨a', c', rfl⟩ := own_form hoe
  exact ⟨hb, a, c, a', c', rfl, ho, hoe, fun g hg => (ho.lt g hg).2, fun g hg => (hoe.lt g hg).2⟩
theorem ProgRes.no {W W' : World} (hb : Below W.heap.size W W') : ProgRes W false [] [] (.returned (.tuple #[.agg #[.slice none 0 0, .slice none 0 0], .bool false])) W' :=
  ⟨hb, none, 0, none, 0, rfl, World.ownsRow_nil _ _ _ _, World.ownsRow_nil _ _ _ _, fun g hg => by simp [Value.ownBlock] at hg, fun g hg => by simp [Value.ownBlock] at hg⟩
theorem swNo {bs es : List Pr} {x y : ByteArray} (h : swOk bs es x y = false) : swRL bs es x y = [] ∧ swRE bs es x y = [] := by
  unfold swRL swRE; rw [if_neg (by rw [h]; simp), if_neg (by rw [h]; simp)]; exact ⟨rfl, rfl⟩
theorem swYes {bs es : List Pr} {x y : ByteArray} (h : swOk bs es x y = true) : swRL bs es x y = swL bs (byteAt x 0) (byteAt y 0) bs.length ∧ swRE bs es x y = es := by
  unfold swRL swRE; rw [if_pos h, if_pos h]; exact ⟨rfl, rfl⟩
theorem ProgRes.swNo {W W' : World} {bs es : List Pr} {x y : ByteArray} (h : swOk bs es x y = false) (hb : Below W.heap.size W W') : ProgRes W (swOk bs es x y) (swRL bs es x y) (swRE bs es x y) (.returned (.tuple #[.agg #[.slice none 0 0, .slice none 0 0], .bool false])) W' := by
  rw [(Go.Proofs.YtngcmjfkeageiaaDoor.swNo h).1, (Go.Proofs.YtngcmjfkeageiaaDoor.swNo h).2, h]; exact ProgRes.no hb
theorem ProgRes.swYes {W W' : World} {bs es : List Pr} {x y : ByteArray} {v ve : Value} (h : swOk bs es x y = true) (hb : Below W.heap.size W W') (ho : W'.ownsRow W.heap.size 40 2 v bs.length (cellsOf (swL bs (byteAt x 0) (byteAt y 0) bs.length))) (hoe : W'.ownsRow W.heap.size 111 2 ve es.length (cellsOf es)) :
    ProgRes W (swOk bs es x y) (swRL bs es x y) (swRE bs es x y) (.returned (.tuple #[.agg #[v, ve], .bool true])) W' := by
  rw [(Go.Proofs.YtngcmjfkeageiaaDoor.swYes h).1, (Go.Proofs.YtngcmjfkeageiaaDoor.swYes h).2, h]; exact ProgRes.yes (swL_length _ _ _ _).symm rfl hb ho hoe

/-- a text's one letter -/
def letC (t u c : Nat) : ByteArray := ⟨#[swC t u c]⟩
theorem one_of_size {c : ByteArray} (h : c.size = 1) (ho : opB (byteAt c 0) = true) : c = ⟨#[88]⟩ ∨ c = ⟨#[89]⟩ ∨ c = ⟨#[90]⟩ ∨ c = ⟨#[120]⟩ ∨ c = ⟨#[121]⟩ ∨ c = ⟨#[122]⟩ := by
  obtain ⟨⟨l⟩⟩ := c
  have hl : l.length = 1 := h
  match l, hl with
  | [b], _ =>
    have e : byteAt ⟨⟨[b]⟩⟩ 0 = b.toNat := rfl
    rw [e] at ho
    unfold opB lowB upB at ho
    simp only [Bool.or_eq_true, Bool.and_eq_true, decide_eq_true_eq] at ho
    have h6 : b.toNat = 88 ∨ b.toNat = 89 ∨ b.toNat = 90 ∨ b.toNat = 120 ∨ b.toNat = 121 ∨ b.toNat = 122 := by omega
    rcases h6 with h | h | h | h | h | h
    · obtain rfl : b = 88 := UInt8.toNat_inj.1 h; exact .inl rfl
    · obtain rfl : b = 89 := UInt8.toNat_inj.1 h; exact .inr (.inl rfl)
    · obtain rfl : b = 90 := UInt8.toNat_inj.1 h; exact .inr (.inr (.inl rfl))
    · obtain rfl : b = 120 := UInt8.toNat_inj.1 h; exact .inr (.inr (.inr (.inl rfl)))
    · obtain rfl : b = 121 := UInt8.toNat_inj.1 h; exact .inr (.inr (.inr (.inr (.inl rfl))))
    · obtain rfl : b = 122 := UInt8.toNat_inj.1 h; exact .inr (.inr (.inr (.inr (.inr rfl))))
/-- which of five ways a letter goes -/
theorem sw_pick {x y c : ByteArray} (hx : isTm x = true) (hy : isTm y = true) (h : c.size = 1) (ho : opB (byteAt c 0) = true) :
    (c = x → letC (byteAt x 0) (byteAt y 0) (byteAt c 0) = y) ∧ (c ≠ x → c = y → letC (byteAt x 0) (byteAt y 0) (byteAt c 0) = x) ∧ (c ≠ x → c ≠ y → c = spoilT x → letC (byteAt x 0) (byteAt y 0) (byteAt c 0) = spoilT y) ∧
    (c ≠ x → c ≠ y → c ≠ spoilT x → c = spoilT y → letC (byteAt x 0) (byteAt y 0) (byteAt c 0) = spoilT x) ∧ (c ≠ x → c ≠ y → c ≠ spoilT x → c ≠ spoilT y → letC (byteAt x 0) (byteAt y 0) (byteAt c 0) = c) := by
  rcases isTm_iff.1 hx with rfl | rfl | rfl <;> rcases isTm_iff.1 hy with rfl | rfl | rfl <;> rcases one_of_size h ho with rfl | rfl | rfl | rfl | rfl | rfl <;> refine ⟨?_, ?_, ?_, ?_, ?_⟩ <;> decide
theorem byteAt_one {s : ByteArray} {i : Nat} (h : i < s.size) : byteAt (s.extract i (i + 1)) 0 = byteAt s i := by
  unfold byteAt
  rw [ByteArray.data_extract]
  simp only [Array.getD_eq_getD_getElem?]
  rw [Array.getElem?_extract]
  have h2 : 0 < min (i + 1) s.size - i := by omega
  simp [h2]
theorem swT_step {s : ByteArray} {t u i : Nat} (h : i < s.size) : swT s t u (i + 1) = swT s t u i ++ letC t u (byteAt (s.extract i (i + 1)) 0) := by
  rw [byteAt_one h]; exact swT_succ _ _ _ _
end Go.Proofs.YtngcmjfkeageiaaDoor
end

section
/-
  Plain mathematics of chapter 1: programs with swapped terms are valid; swaps one behind the other, a swap taken back, a term swapped with itself. It names the program's types alone. Conditions: none.
-/
namespace Go.Proofs.YtngcmjfkeageiaaDoor
open Go.RowKit Go.Maps

theorem bytes_eqW {a b : ByteArray} (hs : a.size = b.size) (h : ∀ i, i < a.size → byteAt a i = byteAt b i) : a = b := by
  apply ByteArray.ext
  apply Array.ext hs
  intro i h1 h2
  have h3 := h i h1
  unfold byteAt at h3
  rw [Array.getD_eq_getD_getElem?, Array.getD_eq_getD_getElem?, Array.getElem?_eq_getElem h1, Array.getElem?_eq_getElem h2] at h3
  exact UInt8.toNat_inj.1 h3
/-- letters that tell something -/
def OpAll (s : ByteArray) : Prop := ∀ i, i < s.size → opB (byteAt s i) = true
theorem op_six {c : Nat} (hc : opB c = true) : c = 88 ∨ c = 89 ∨ c = 90 ∨ c = 120 ∨ c = 121 ∨ c = 122 := by unfold opB lowB upB at hc; simp only [Bool.or_eq_true, Bool.and_eq_true, decide_eq_true_eq] at hc; omega
theorem low_three {t : Nat} (ht : lowB t = true) : t = 120 ∨ t = 121 ∨ t = 122 := by unfold lowB at ht; simp only [Bool.and_eq_true, decide_eq_true_eq] at ht; omega
theorem sw_at {s : ByteArray} {t u : Nat} (ht : lowB t = true) (hu : lowB u = true) (ho : OpAll s) {i : Nat} (hi : i < s.size) : byteAt (swT s t u s.size) i = swB t u (byteAt s i) := by
  rw [swT_at s t u s.size i hi, swC_nat ht hu (ho i hi)]
theorem sw_op {s : ByteArray} {t u : Nat} (ht : lowB t = true) (hu : lowB u = true) (ho : OpAll s) : OpAll (swT s t u s.size) := by
  intro i hi
  rw [swT_size] at hi
  rw [sw_at ht hu ho hi]
  exact (swB_le ht hu (ho i hi)).2.1
theorem swB_self {t c : Nat} (ht : lowB t = true) (hc : opB c = true) : swB t t c = c := by
  rcases low_three ht with rfl | rfl | rfl <;> rcases op_six hc with rfl | rfl | rfl | rfl | rfl | rfl <;> decide
theorem swB_back {t u c : Nat} (ht : lowB t = true) (hu : lowB u = true) (hc : opB c = true) : swB u t (swB t u c) = c := by
  rcases low_three ht with rfl | rfl | rfl <;> rcases low_three hu with rfl | rfl | rfl <;> rcases op_six hc with rfl | rfl | rfl | rfl | rfl | rfl <;> decide
theorem swB_three {c : Nat} (hc : opB c = true) : swB 120 121 (swB 121 122 (swB 120 121 c)) = swB 120 122 c := by
  rcases op_six hc with rfl | rfl | rfl | rfl | rfl | rfl <;> decide
theorem swT_self {s : ByteArray} {t : Nat} (ht : lowB t = true) (ho : OpAll s) : swT s t t s.size = s :=
  bytes_eqW (swT_size _ _ _ _) fun i hi => by rw [swT_size] at hi; rw [sw_at ht ht ho hi, swB_self ht (ho i hi)]
theorem swT_back {s : ByteArray} {t u : Nat} (ht : lowB t = true) (hu : lowB u = true) (ho : OpAll s) : swT (swT s t u s.size) u t (swT s t u s.size).size = s :=
  bytes_eqW (by rw [swT_size, swT_size]) fun i hi => by
    rw [swT_size] at hi
    have h1 := hi
    rw [swT_size] at hi
    rw [sw_at hu ht (sw_op ht hu ho) h1, sw_at ht hu ho hi, swB_back ht hu (ho i hi)]
theorem swT_three {s : ByteArray} (ho : OpAll s) : swT (swT (swT s 120 121 s.size) 121 122 (swT s 120 121 s.size).size) 120 121 (swT (swT s 120 121 s.size) 121 122 (swT s 120 121 s.size).size).size = swT s 120 122 s.size :=
  bytes_eqW (by rw [swT_size, swT_size, swT_size, swT_size]) fun i hi => by
    have h0 : i < s.size := by rw [swT_size, swT_size, swT_size] at hi; exact hi
    have o1 := sw_op (s := s) (t := 120) (u := 121) (by decide) (by decide) ho
    have o2 := sw_op (t := 121) (u := 122) (by decide) (by decide) o1
    rw [sw_at (by decide) (by decide) o2 (by rw [swT_size, swT_size]; exact h0), sw_at (by decide) (by decide) o1 (by rw [swT_size]; exact h0), sw_at (by decide) (by decide) ho h0, sw_at (by decide) (by decide) ho h0, swB_three (ho i h0)]

/-- a whole program's blocks, two terms swapped -/
def swA (bs : List Pr) (t u : Nat) : List Pr := swL bs t u bs.length
theorem swA_length (bs : List Pr) (t u : Nat) : (swA bs t u).length = bs.length := swL_length _ _ _ _
theorem swA_name {bs : List Pr} {t u i : Nat} (h : i < bs.length) : nameAt (swA bs t u) i = nameAt bs i := swL_name h
theorem swA_rest {bs : List Pr} {t u i : Nat} (h : i < bs.length) : restAt (swA bs t u) i = swT (restAt bs i) t u (restAt bs i).size := swL_rest h
theorem swA_names (bs : List Pr) (t u : Nat) : names (swA bs t u) = names bs := by
  apply List.ext_getElem?
  intro i
  by_cases h : i < bs.length
  · rw [names_at (by rw [swA_length]; exact h), names_at h, swA_name h]
  · rw [List.getElem?_eq_none (by rw [names_length, swA_length]; omega), List.getElem?_eq_none (by rw [names_length]; omega)]
theorem valid_op {bs es : List Pr} (hV : Valid bs es) {i : Nat} (h : i < bs.length) : OpAll (restAt bs i) := (hV.b.op _ (pair_mem h)).2
theorem Valid.swap {bs es : List Pr} (hV : Valid bs es) {t u : Nat} (ht : lowB t = true) (hu : lowB u = true) : Valid (swA bs t u) es := by
  have hlen := swA_length bs t u
  have h2 := hV.b.lo
  have hn0 : nameAt (swA bs t u) 0 = nameAt bs 0 := swA_name (by omega)
  have hnl : nameAt (swA bs t u) ((swA bs t u).length - 1) = nameAt bs (bs.length - 1) := by rw [hlen]; exact swA_name (by omega)
  have hmem : ∀ p ∈ swA bs t u, ∃ i, i < bs.length ∧ p.1 = nameAt bs i ∧ p.2 = swT (restAt bs i) t u (restAt bs i).size := by
    intro p hp
    obtain ⟨i, hi, e1, e2⟩ := mem_at hp
    rw [hlen] at hi
    exact ⟨i, hi, by rw [← e1, swA_name hi], by rw [← e2, swA_rest hi]⟩
  refine ⟨⟨by omega, by have := hV.b.hi; omega, ?_, ?_, by rw [swA_names]; exact hV.b.nd, ?_⟩, ⟨hV.e.hi, ?_, ?_, hV.e.nd, by rw [hn0]; exact hV.e.ne, by rw [hnl]; exact hV.e.nx⟩, ?_, ?_⟩
  · intro p hp
    obtain ⟨i, hi, e1, _⟩ := hmem p hp
    rw [e1]; exact hV.b.nm _ (pair_mem hi)
  · intro p hp
    obtain ⟨i, hi, _, e2⟩ := hmem p hp
    rw [e2]
    exact ⟨by rw [swT_size]; exact (hV.b.op _ (pair_mem hi)).1, sw_op ht hu (valid_op hV hi)⟩
  · rw [swA_rest (by omega), hV.b.en]; rfl
  · rw [swA_names]; exact hV.e.fr
  · rw [swA_names]; exact hV.e.to
  · intro p hp
    obtain ⟨i, hi, e1, _⟩ := hmem p hp
    rw [e1, hn0]; exact hV.ra _ (pair_mem hi)
  · intro p hp
    obtain ⟨i, hi, e1, _⟩ := hmem p hp
    rw [e1, hnl]; exact hV.rz _ (pair_mem hi)
theorem swA_ext {bs l : List Pr} {t u : Nat} (hl : l.length = bs.length) (hn : ∀ i, i < bs.length → nameAt l i = nameAt bs i) (hr : ∀ i, i < bs.length → restAt l i = swT (restAt bs i) t u (restAt bs i).size) : l = swA bs t u :=
  ext_at (by rw [hl, swA_length]) fun i hi => by
    rw [hl] at hi
    rw [swA_name hi, swA_rest hi]
    exact ⟨hn i hi, hr i hi⟩
theorem swA_self {bs es : List Pr} (hV : Valid bs es) {t : Nat} (ht : lowB t = true) : swA bs t t = bs :=
  ext_at (swA_length _ _ _) fun i hi => by
    rw [swA_length] at hi
    rw [swA_name hi, swA_rest hi, swT_self ht (valid_op hV hi)]
    exact ⟨rfl, rfl⟩
theorem swA_back {bs es : List Pr} (hV : Valid bs es) {t u : Nat} (ht : lowB t = true) (hu : lowB u = true) : swA (swA bs t u) u t = bs :=
  ext_at (by rw [swA_length, swA_length]) fun i hi => by
    rw [swA_length, swA_length] at hi
    have h1 : i < (swA bs t u).length := by rw [swA_length]; exact hi
    rw [swA_name h1, swA_rest h1, swA_name hi, swA_rest hi, swT_back ht hu (valid_op hV hi)]
    exact ⟨rfl, rfl⟩
theorem swA_three {bs es : List Pr} (hV : Valid bs es) : swA (swA (swA bs 120 121) 121 122) 120 121 = swA bs 120 122 :=
  ext_at (by rw [swA_length, swA_length, swA_length, swA_length]) fun i hi => by
    rw [swA_length, swA_length, swA_length] at hi
    have h1 : i < (swA bs 120 121).length := by rw [swA_length]; exact hi
    have h2 : i < (swA (swA bs 120 121) 121 122).length := by rw [swA_length]; exact h1
    rw [swA_name h2, swA_rest h2, swA_name h1, swA_rest h1, swA_name hi, swA_rest hi, swA_name hi, swA_rest hi, swT_three (valid_op hV hi)]
    exact ⟨rfl, rfl⟩
def xT : ByteArray := ⟨#[120]⟩
def yT : ByteArray := ⟨#[121]⟩
def zT : ByteArray := ⟨#[122]⟩
theorem swOk_yes {bs es : List Pr} (hV : Valid bs es) {x y : ByteArray} (hx : isTm x = true) (hy : isTm y = true) : swOk bs es x y = true := by
  unfold swOk
  rw [hx, hy, show validB bs es = true by simpa [validB] using hV]; rfl
theorem swOk_no {bs es : List Pr} (hV : ¬ Valid bs es) (x y : ByteArray) : swOk bs es x y = false := by
  unfold swOk
  rw [show validB bs es = false by simpa [validB] using hV]; rfl
theorem swRL_yes {bs es : List Pr} (hV : Valid bs es) {x y : ByteArray} (hx : isTm x = true) (hy : isTm y = true) : swRL bs es x y = swA bs (byteAt x 0) (byteAt y 0) := (swYes (swOk_yes hV hx hy)).1
theorem swRE_yes {bs es : List Pr} (hV : Valid bs es) {x y : ByteArray} (hx : isTm x = true) (hy : isTm y = true) : swRE bs es x y = es := (swYes (swOk_yes hV hx hy)).2
end Go.Proofs.YtngcmjfkeageiaaDoor
end

section
/-
  SwapTerms of the model. Conditions: at most 1048576 blocks and edges, each text at most as many bytes.
-/
namespace Go.Proofs.YtngcmjfkeageiaaDoor
open Go.RowKit Go.Maps

/-- the blocks that out stands in, ahead of the loop -/
structure SwA (w wr : World) (R Q q lo : Nat) (v ve : Value) (ab ae : Option Addr) (cb ce : Nat) (bs es : List Pr) : Prop where
  loop : TLoop w wr R Q lo v ve 0 es.length [] es
  p : Two wr q (.slice ab bs.length cb) (.slice ae es.length ce)
theorem SwA.below {w wr w' : World} {R Q q lo : Nat} {v ve : Value} {ab ae : Option Addr} {cb ce : Nat} {bs es : List Pr} (h : SwA w wr R Q q lo v ve ab ae cb ce bs es) (hb : Below wr.heap.size wr w') : SwA w w' R Q q lo v ve ab ae cb ce bs es :=
  ⟨h.loop.below hb, h.p.of_cells (hb.block _ h.p.cells.2.2.2.2)⟩
theorem Valid.es_pos {bs es : List Pr} (hV : Valid bs es) : 0 < es.length := by
  rcases Nat.eq_zero_or_pos es.length with h0 | h0
  · exfalso
    have he := List.length_eq_zero_iff.1 h0
    subst he
    have h2 := hV.b.lo
    have h3 := hV.ra _ (pair_mem (show bs.length - 1 < bs.length by omega))
    have h4 := h3.closed (S := fun x => x = nameAt bs 0) rfl (fun x y hm _ => by cases hm)
    have := names_inj hV.b.nd (show bs.length - 1 < bs.length by omega) (show 0 < bs.length by omega) h4
    omega
  · exact h0

set_option maxRecDepth 100000 in
set_option maxHeartbeats 6400000 in
theorem SwapTerms_spec (w : World) (bs es : List Pr) (ab ae : Option Addr) (cb ce : Nat) (x y : ByteArray) (hxs : x.size ≤ 1048576) (hys : y.size ≤ 1048576) (hpb : PairsAt w ab bs) (hpe : PairsAt w ae es) :
    Calls Tryd.prog 22 #[.agg #[.slice ab bs.length cb, .slice ae es.length ce], .string x, .string y] w (ProgRes w (swOk bs es x y) (swRL bs es x y) (swRE bs es x y)) := by
  have hA1 : Below w.heap.size w ((w.alloc (.cells #[.slice ab bs.length cb, .slice ae es.length ce] 32)).alloc (.cells #[.slice none 0 0, .slice none 0 0] 32)) := ((Below.refl _ _).alloc (Nat.le_refl _) _).alloc (by simp) _
  have hRA : Two ((w.alloc (.cells #[.slice ab bs.length cb, .slice ae es.length ce] 32)).alloc (.cells #[.slice none 0 0, .slice none 0 0] 32)) (w.heap.size + 1) (.slice none 0 0) (.slice none 0 0) := by
    rw [show w.heap.size + 1 = (w.alloc (.cells #[.slice ab bs.length cb, .slice ae es.length ce] 32)).heap.size by simp]; exact heap_alloc_new _ _
  have hPA : Two ((w.alloc (.cells #[.slice ab bs.length cb, .slice ae es.length ce] 32)).alloc (.cells #[.slice none 0 0, .slice none 0 0] 32)) w.heap.size (.slice ab bs.length cb) (.slice ae es.length ce) := (Below.heap_alloc _ _ _ (by simp)).trans (heap_alloc_new _ _)
  have hzA : ((w.alloc (.cells #[.slice ab bs.length cb, .slice ae es.length ce] 32)).alloc (.cells #[.slice none 0 0, .slice none 0 0] 32)).heap.size = w.heap.size + 2 := by simp
  have hl9 := hpb.len
  have hle := hpe.len
  obtain ⟨i0, hi, hz0, hz1, hz2⟩ := info_parts Tryd.infoBlock
  obtain ⟨j0, hj, yz0, yz1, yz2⟩ := info_parts Tryd.infoEdge
  go_enter Tryd.func22, Tryd.ntmps22
  have HT := Lib.hid (And.intro hxs hys)
  clear hxs hys
  rcases Nat.eq_zero_or_pos es.length with he0 | he0
  · obtain rfl := List.length_eq_zero_iff.1 he0
    have hno : validB bs [] = false := by
      cases hv : validB bs []
      · rfl
      · have hV : Valid bs [] := by simpa [validB] using hv
        exact absurd hV.es_pos (by simp)
    have HN := Lib.hid (show swOk bs [] x y = false by unfold swOk; rw [hno]; rfl)
    have HV := Lib.hid hno
    have HA := Lib.hid (And.intro hA1 (And.intro hRA (And.intro (hpb.below hA1) (hpe.below hA1))))
    have c1 := hPA.cells.2.1
    have c0 := hPA.cells.1
    have hwl := hPA.cells.2.2.2.2
    clear hno hA1 hRA hPA hpb hpe he0
    rcases ae with _ | ad
    all_goals
      go_wp2_with fail
      refine (ProgValid_spec _ bs [] _ _ _ _ (((HA.out.2.2.1.alloc _).alloc _).alloc _) (((HA.out.2.2.2.alloc _).alloc _).alloc _)).mono ?_
      rintro e w4 ⟨he, hb4⟩
      rw [HV.out] at he
      subst he
      have hz4 := hb4.size
      simp at hz4
      have hR4 : Two w4 (w.heap.size + 1) _ _ := HA.out.2.1.of_cells ((hb4.block _ (by simp <;> omega)).trans ((Below.heap_alloc _ _ _ (by simp)).trans ((Below.heap_alloc _ _ _ (by simp)).trans (Below.heap_alloc _ _ _ (by simp)))))
      have hB4 : Below w.heap.size w w4 := HA.out.1.trans (((((Below.refl _ _).alloc (by simp <;> omega) _).alloc (by simp <;> omega) _).alloc (by simp <;> omega) _).trans (hb4.mono (by simp <;> omega)))
      obtain ⟨r0, r1, t0, t1, _⟩ := hR4.cells
      have HB := Lib.hid hB4
      clear hb4 hR4 hB4 c0 c1
      go_wp2
      refine bodyPost_ret (v := .tuple #[.agg #[.slice none 0 0, .slice none 0 0], .bool false]) (by simp [results, Tryd.results22, go_sem, r0, r1]) rfl ?_
      exact ProgRes.swNo HN.out (by repeat (first | exact HB.out | refine Below.setCell ?_ (by simp <;> omega) _ | refine Below.alloc ?_ (by first | omega | (simp; omega)) _))
  · go_upto_region 1 with fail
    generalize hwA : (w.alloc (.cells #[.slice ab bs.length cb, .slice ae es.length ce] 32)).alloc (.cells #[.slice none 0 0, .slice none 0 0] 32) = wA at *
    have hA2 : Below wA.heap.size wA ((wA.alloc (.cells #[] 40)).alloc (.cells #[] 111)) := ((Below.refl _ _).alloc (Nat.le_refl _) _).alloc (by simp) _
    have hoB : ((wA.alloc (.cells #[] 40)).alloc (.cells #[] 111)).ownsRow (wA.heap.size) 40 2 (.slice (some ⟨wA.heap.size, 0, none⟩) 0 0) 0 [] := by
      have := (World.ownsRow_made wA (base := wA.heap.size) (e := 40) (size := 2) #[] 0 (Nat.le_refl _) (Nat.zero_le _) rfl).alloc (.cells #[] 111)
      exact this
    have hoE : ((wA.alloc (.cells #[] 40)).alloc (.cells #[] 111)).ownsRow (wA.heap.size + 1) 111 2 (.slice (some ⟨wA.heap.size + 1, 0, none⟩) 0 0) 0 [] := by
      have := World.ownsRow_made (wA.alloc (.cells #[] 40)) (base := wA.heap.size + 1) (e := 111) (size := 2) #[] 0 (by simp) (Nat.zero_le _) rfl
      simpa using this
    have hz3 : ((wA.alloc (.cells #[] 40)).alloc (.cells #[] 111)).heap.size = wA.heap.size + 2 := by simp
    have hpe3 := (hpe.below hA1).below hA2
    have hpb3 := (hpb.below hA1).below hA2
    obtain ⟨b1, o1, rfl, _⟩ := hpe3.cell 0 he0
    have hnews : ∀ j u, (cellsOf es)[j]? = some u → ((wA.alloc (.cells #[] 40)).alloc (.cells #[] 111)).cell? ((⟨b1, o1, none⟩ : Addr).add j) = some u := by
      intro j u hj
      obtain ⟨i, hi, ⟨rfl, rfl⟩ | ⟨rfl, rfl⟩⟩ := cellsOf_at hj
      · obtain ⟨b, off, e, hb, g1, g2⟩ := hpe3.cell i hi
        cases e
        rw [Addr.add_lit]; exact g1
      · obtain ⟨b, off, e, hb, g1, g2⟩ := hpe3.cell i hi
        cases e
        rw [Addr.add_lit]; exact g2
    have hR3 : Two ((wA.alloc (.cells #[] 40)).alloc (.cells #[] 111)) (w.heap.size + 1) _ _ := hRA.of_cells (hA2.block _ hRA.cells.2.2.2.2)
    have hP3 : Two ((wA.alloc (.cells #[] 40)).alloc (.cells #[] 111)) w.heap.size _ _ := hPA.of_cells (hA2.block _ hPA.cells.2.2.2.2)
    have c0 := hPA.cells.1
    have c1 := hPA.cells.2.1
    have hwl := hPA.cells.2.2.2.2
    have HA := Lib.hid (And.intro hoB (And.intro hoE (And.intro (hA1.trans (hA2.mono hA1.size)) (And.intro hR3 (And.intro hP3 (And.intro hpb3 (And.intro hpe3 (And.intro hnews (And.intro hz3 (And.intro hpb hpe))))))))))
    have HZA := Lib.hid hzA
    clear hzA hA1 hRA hPA hA2 hoB hoE hpe3 hpb3 hnews hR3 hP3 hz3 hpb hpe hwA
    go_wp2_with (at_builtin; refine wpList_append_lies _ rfl _ _ 30 rfl (wA.heap.size + 1) 111 j0 (.agg #[.string ⟨#[]⟩, .string ⟨#[]⟩]) 2 32 Tryd.underlying30 hj yz0 yz1 yz2 rfl (by decide) _ 0 [] rfl HA.out.2.1 ⟨b1, o1, none⟩ es.length ce (cellsOf es) rfl (cellsOf_length es) HA.out.2.2.2.2.2.2.2.1 (cellsOf_one es) (by omega) (by unfold maxLen; omega) (by omega) (by have := HA.out.2.2.2.2.2.2.2.2.1; omega) _ rfl ?_; intro ge cape w2 hown2 hgrow2 hlies2 _; have hP2 : Two w2 w.heap.size _ _ := HA.out.2.2.2.2.1.of_cells (hgrow2.block _ (by rw [HA.out.2.2.2.2.2.2.2.2.1]; omega) (fun e => own_neK HA.out.2.1 HA.out.2.2.2.2.1 (by decide) e.symm)); have kA := (fun q => (World.cell?_alloc_lt w2 q ⟨w.heap.size, 0, none⟩ hP2.cells.2.2.2.2).trans hP2.cells.1); have kB := (fun q => (World.cell?_alloc_lt w2 q ⟨w.heap.size, 1, none⟩ hP2.cells.2.2.2.2).trans hP2.cells.2.1); have HP2 := Lib.hid hP2; clear hP2)
    have hTL : SwA w (w2.alloc (.cells #[.slice (some ⟨wA.heap.size, 0, none⟩) 0 0, .slice (some ⟨ge, 0, none⟩) es.length cape] 32)) (w.heap.size + 1) w2.heap.size w.heap.size wA.heap.size (.slice (some ⟨wA.heap.size, 0, none⟩) 0 0) (.slice (some ⟨ge, 0, none⟩) es.length cape) ab (some ⟨b1, o1, none⟩) cb ce bs es := by
      have hb2 : Below w2.heap.size w2 (w2.alloc (.cells #[.slice (some ⟨wA.heap.size, 0, none⟩) 0 0, .slice (some ⟨ge, 0, none⟩) es.length cape] 32)) := (Below.refl _ _).alloc (Nat.le_refl _) _
      have hz9 := HA.out.2.2.2.2.2.2.2.2.1
      have hzA := HZA.out
      have hz2 := hgrow2.size
      have hR2 : Two w2 (w.heap.size + 1) _ _ := HA.out.2.2.2.1.of_cells (hgrow2.block _ (by omega) (fun e => own_neK HA.out.2.1 HA.out.2.2.2.1 (by decide) e.symm))
      have hob2 : w2.ownsRow wA.heap.size 40 2 (.slice (some ⟨wA.heap.size, 0, none⟩) 0 0) 0 [] := HA.out.1.kept (row := some (wA.heap.size + 1)) hgrow2 (Or.inr (by simp [Value.ownBlock]))
      have hbw : Below w.heap.size w w2 := HA.out.2.2.1.grown hgrow2 (by omega) (fun j hj => by have := (HA.out.2.1.lt j hj).1; omega)
      exact ⟨⟨heap_alloc_new _ _, hR2.of_cells (hb2.block _ (by omega)), ownsRow_below hob2 hb2, ownsRow_below (own_base (by simpa using hown2) (Nat.le_succ _)) hb2, hbw.trans (hb2.mono (by omega))⟩, HP2.out.of_cells (hb2.block _ (by omega))⟩
    have hzw2 : w.heap.size + 4 ≤ w2.heap.size := by have := hgrow2.size; rw [HA.out.2.2.2.2.2.2.2.2.1] at this; have := HZA.out; omega
    have hpbw := HA.out.2.2.2.2.2.2.2.2.2.1
    have hpew := HA.out.2.2.2.2.2.2.2.2.2.2
    have hlA : w.heap.size + 2 ≤ wA.heap.size := by have := HZA.out; omega
    have hAl : wA.heap.size < w2.heap.size := by have := hgrow2.size; rw [HA.out.2.2.2.2.2.2.2.2.1] at this; omega
    have HTL := Lib.hid hTL
    have HPB := Lib.hid (And.intro hpbw hpew)
    clear hTL hown2 hgrow2 hlies2 HP2 HA HZA kA kB hpbw hpew
    generalize hw3 : w2.alloc (.cells #[.slice (some ⟨wA.heap.size, 0, none⟩) 0 0, .slice (some ⟨ge, 0, none⟩) es.length cape] 32) = w3 at *
    have hz23 : w2.heap.size < w3.heap.size := by rw [← hw3]; simp
    generalize w2.heap.size = Q at *
    generalize wA.heap.size = lo at *
    clear hw3
    refine (ProgValid_spec w3 bs es _ _ _ _ (HPB.out.1.below HTL.out.loop.bw) (HPB.out.2.below HTL.out.loop.bw)).mono ?_
    rintro e w4 ⟨he, hb4⟩
    have HS4 := Lib.hid (HTL.out.below hb4)
    have HB := Lib.hid HS4.out.loop.bw
    obtain ⟨r0, r1, t0, t1, hrl⟩ := HS4.out.loop.res.cells
    obtain ⟨c0, c1, _, _, _⟩ := HS4.out.p.cells
    have hs4 := hb4.size
    clear hb4 HTL
    cases hv : validB bs es
    · have HN := Lib.hid (show swOk bs es x y = false by unfold swOk; rw [hv]; rfl)
      rw [hv] at he
      subst he
      clear hv
      go_wp2
      refine bodyPost_ret (v := .tuple #[.agg #[.slice none 0 0, .slice none 0 0], .bool false]) (by simp [results, Tryd.results22, go_sem, r0, r1]) rfl ?_
      exact ProgRes.swNo HN.out (by repeat (first | exact HB.out | refine Below.setCell ?_ (by simp <;> omega) _ | refine Below.alloc ?_ (by first | omega | (simp; omega)) _))
    rw [hv] at he
    subst he
    cases hx : isTm x
    · have HN := Lib.hid (show swOk bs es x y = false by unfold swOk; rw [hv, hx]; rfl)
      have HX := Lib.hid hx
      clear hv hx
      go_wp2_with fail
      refine (l1Term_any x _).mono ?_
      rintro e w5 ⟨he, rfl⟩
      rw [HX.out] at he
      subst he
      go_wp2
      refine bodyPost_ret (v := .tuple #[.agg #[.slice none 0 0, .slice none 0 0], .bool false]) (by simp [results, Tryd.results22, go_sem, r0, r1]) rfl ?_
      exact ProgRes.swNo HN.out (by repeat (first | exact HB.out | refine Below.setCell ?_ (by simp <;> omega) _ | refine Below.alloc ?_ (by first | omega | (simp; omega)) _))
    have HX := Lib.hid hx
    cases hy : isTm y
    · have HN := Lib.hid (show swOk bs es x y = false by unfold swOk; rw [hv, hx, hy]; rfl)
      have HY := Lib.hid hy
      clear hv hx hy
      go_wp2_with fail
      refine (l1Term_any x _).mono ?_
      rintro e w5 ⟨he, rfl⟩
      rw [HX.out] at he
      subst he
      go_wp2_with fail
      refine (l1Term_any y _).mono ?_
      rintro e w6 ⟨he, rfl⟩
      rw [HY.out] at he
      subst he
      go_wp2
      refine bodyPost_ret (v := .tuple #[.agg #[.slice none 0 0, .slice none 0 0], .bool false]) (by simp [results, Tryd.results22, go_sem, r0, r1]) rfl ?_
      exact ProgRes.swNo HN.out (by repeat (first | exact HB.out | refine Below.setCell ?_ (by simp <;> omega) _ | refine Below.alloc ?_ (by first | omega | (simp; omega)) _))
    have HY := Lib.hid hy
    have HV := Lib.hid (show swOk bs es x y = true by unfold swOk; rw [hv, hx, hy]; rfl)
    have HVal := Lib.hid (show Valid bs es by simpa [validB] using hv)
    have hx1 := isTm_size hx
    have hy1 := isTm_size hy
    clear hv hx hy
    go_wp2_with fail
    refine (l1Term_any x _).mono ?_
    rintro e w5 ⟨he, rfl⟩
    rw [HX.out] at he
    subst he
    go_wp2_with fail
    refine (l1Term_any y _).mono ?_
    rintro e w6 ⟨he, rfl⟩
    rw [HY.out] at he
    subst he
    clear r0 r1 t0 t1
    go_wp2
    go_loopw [36] (fun i wr => ∃ (k : Nat) (v : Value), k ≤ bs.length ∧ i = .int .i64 k ∧ TLoop w wr (w.heap.size + 1) Q lo v (.slice (some ⟨ge, 0, none⟩) es.length cape) k es.length (swL bs (byteAt x 0) (byteAt y 0) k) es) (fun i _ => bs.length - (intOf i).toNat)
    case atStart => exact ⟨0, _, Nat.zero_le _, rfl, HS4.out.loop⟩
    case round =>
      obtain ⟨k, v, hk, rfl, hT⟩ := hrel
      have hs3 := hT.bw.size
      obtain ⟨wa, wc, rfl⟩ := own_form hT.ob
      by_cases hlt : k < bs.length
      · obtain ⟨b, off, rfl, hb, g1, g2⟩ := HPB.out.1.cell k hlt
        have d1 := (hT.bw.cell (p := ⟨b, off + k * 2, none⟩) hb).trans g1
        have d2 := (hT.bw.cell (p := ⟨b, off + k * 2 + 1, none⟩) hb).trans g2
        have hok := HVal.out.b.op _ (pair_mem hlt)
        have hs6 : (restAt bs k).size ≤ 6 := hok.1
        have HOK := Lib.hid hok.2
        have hwB : Below wr.heap.size wr (wr.alloc (.cells #[.string (nameAt bs k), .string (restAt bs k)] 40)) := (Below.refl _ _).alloc (Nat.le_refl _) _
        have n0 : (wr.alloc (.cells #[.string (nameAt bs k), .string (restAt bs k)] 40)).cell? ⟨wr.heap.size, 0, none⟩ = some (.string (nameAt bs k)) := by go_simp
        have n1 : (wr.alloc (.cells #[.string (nameAt bs k), .string (restAt bs k)] 40)).cell? ⟨wr.heap.size, 1, none⟩ = some (.string (restAt bs k)) := by go_simp
        have hzb : (wr.alloc (.cells #[.string (nameAt bs k), .string (restAt bs k)] 40)).heap.size = wr.heap.size + 1 := by simp
        have HK := Lib.hid (And.intro (hT.below hwB) hzb)
        have HE := Lib.hid (swL_succ bs (byteAt x 0) (byteAt y 0) k)
        clear hT g1 g2 hwB hzb hok
        obtain ⟨wo, rfl⟩ : ∃ wo, wo = wr := ⟨_, rfl⟩
        go_wp2
        generalize hwB : wo.alloc (.cells #[.string (nameAt bs k), .string (restAt bs k)] 40) = wB at *
        have hlB : wo.heap.size < wB.heap.size := by rw [← hwB]; simp
        generalize wo.heap.size = ob at *
        generalize hsr : restAt bs k = s at *
        clear hwB hsr
        have hLt : ∀ c : Nat, c = 0 → True := fun _ _ => trivial
        go_loopw [43, 11] (fun i o wr => ∃ j : Nat, j ≤ s.size ∧ i = .int .i64 j ∧ o = .string (swT s (byteAt x 0) (byteAt y 0) j) ∧ Below wB.heap.size wB wr) (fun i _ _ => s.size - (intOf i).toNat)
        case atStart => exact ⟨0, Nat.zero_le _, rfl, rfl, Below.refl _ _⟩
        case round =>
          obtain ⟨j, hj, rfl, rfl, hbl⟩ := hrel
          have hbz := hbl.size
          have m1 := (hbl.cell (p := ⟨ob, 1, none⟩) hlB).trans n1
          by_cases hjl : j < s.size
          · have hw1 : IntKind.i64.wrap ((j : Int) + 1) = (j : Int) + 1 := IntWalk.i64_in _ (by omega)
            have hsl := run_slice_str s (j : Int) ((j : Int) + 1) j (j + 1) rfl (by omega) (by omega) (by omega)
            have hAz := swT_size s (byteAt x 0) (byteAt y 0) j
            have hst := swT_step (t := byteAt x 0) (u := byteAt y 0) hjl
            have hc1 : (s.extract j (j + 1)).size = 1 := by rw [ByteArray.size_extract]; omega
            have hpk := sw_pick HX.out HY.out hc1 (by rw [byteAt_one hjl]; exact HOK.out j hjl)
            generalize s.extract j (j + 1) = c at *
            generalize swT s (byteAt x 0) (byteAt y 0) j = A at *
            have HS := Lib.hid (And.intro hst (And.intro hpk hbl))
            have hA6 : A.size ≤ 6 := by omega
            have t1 : ¬ 9223372036854775807 < A.size + y.size := by omega
            have t2 : ¬ 9223372036854775807 < A.size + x.size := by omega
            have t3 : ¬ 9223372036854775807 < A.size + (spoilT y).size := by rw [spoilT_size]; omega
            have t4 : ¬ 9223372036854775807 < A.size + (spoilT x).size := by rw [spoilT_size]; omega
            have t5 : ¬ 9223372036854775807 < A.size + c.size := by omega
            have x1 : (0 : Int) ≤ (j : Int) := by omega
            clear hst hpk hbl hAz hc1
            obtain ⟨wi, rfl⟩ : ∃ wi, wi = wr := ⟨_, rfl⟩
            by_cases e1 : c = x
            · have d1 : (c.toList == x.toList) = true := by rw [toList_eq_iff]; exact decide_eq_true e1
              have HR := Lib.hid (HS.out.2.1.1 e1)
              clear e1
              go_wp2
              go_roundw
              case rel => exact ⟨j + 1, by omega, by go_num, by rw [HS.out.1, HR.out], HS.out.2.2⟩
              case measure => simp [intOf]; omega
            have d1 : (c.toList == x.toList) = false := by rw [toList_eq_iff]; exact decide_eq_false e1
            by_cases e2 : c = y
            · have d2 : (c.toList == y.toList) = true := by rw [toList_eq_iff]; exact decide_eq_true e2
              have HR := Lib.hid (HS.out.2.1.2.1 e1 e2)
              clear e1 e2
              go_wp2
              go_roundw
              case rel => exact ⟨j + 1, by omega, by go_num, by rw [HS.out.1, HR.out], HS.out.2.2⟩
              case measure => simp [intOf]; omega
            have d2 : (c.toList == y.toList) = false := by rw [toList_eq_iff]; exact decide_eq_false e2
            by_cases e3 : c = spoilT x
            · have d3 : (c.toList == (spoilT x).toList) = true := by rw [toList_eq_iff]; exact decide_eq_true e3
              have HR := Lib.hid (HS.out.2.1.2.2.1 e1 e2 e3)
              clear e1 e2 e3
              go_wp2_with fail
              refine (l1Spoil_any x _ HX.out).mono ?_
              rintro e w7 ⟨rfl, hb7⟩
              have h7 := below_new HS.out.2.2 hb7
              go_wp2_with fail
              refine (l1Spoil_any y _ HY.out).mono ?_
              rintro e w8 ⟨rfl, hb8⟩
              have H8 := Lib.hid (below_new h7 hb8)
              clear h7 hb7 hb8
              go_wp2
              go_roundw
              case rel => exact ⟨j + 1, by omega, by go_num, by rw [HS.out.1, HR.out], H8.out⟩
              case measure => simp [intOf]; omega
            have d3 : (c.toList == (spoilT x).toList) = false := by rw [toList_eq_iff]; exact decide_eq_false e3
            by_cases e4 : c = spoilT y
            · have d4 : (c.toList == (spoilT y).toList) = true := by rw [toList_eq_iff]; exact decide_eq_true e4
              have HR := Lib.hid (HS.out.2.1.2.2.2.1 e1 e2 e3 e4)
              clear e1 e2 e3 e4
              go_wp2_with fail
              refine (l1Spoil_any x _ HX.out).mono ?_
              rintro e w7 ⟨rfl, hb7⟩
              have h7 := below_new HS.out.2.2 hb7
              go_wp2_with fail
              refine (l1Spoil_any y _ HY.out).mono ?_
              rintro e w8 ⟨rfl, hb8⟩
              have h8 := below_new h7 hb8
              go_wp2_with fail
              refine (l1Spoil_any x _ HX.out).mono ?_
              rintro e w9 ⟨rfl, hb9⟩
              have H8 := Lib.hid (below_new h8 hb9)
              clear h7 h8 hb7 hb8 hb9
              go_wp2
              go_roundw
              case rel => exact ⟨j + 1, by omega, by go_num, by rw [HS.out.1, HR.out], H8.out⟩
              case measure => simp [intOf]; omega
            · have d4 : (c.toList == (spoilT y).toList) = false := by rw [toList_eq_iff]; exact decide_eq_false e4
              have HR := Lib.hid (HS.out.2.1.2.2.2.2 e1 e2 e3 e4)
              clear e1 e2 e3 e4
              go_wp2_with fail
              refine (l1Spoil_any x _ HX.out).mono ?_
              rintro e w7 ⟨rfl, hb7⟩
              have h7 := below_new HS.out.2.2 hb7
              go_wp2_with fail
              refine (l1Spoil_any y _ HY.out).mono ?_
              rintro e w8 ⟨rfl, hb8⟩
              have h8 := below_new h7 hb8
              have m1 := (h8.cell (p := ⟨ob, 1, none⟩) hlB).trans n1
              have H8 := Lib.hid h8
              clear h7 h8 hb7 hb8
              go_wp2
              go_roundw
              case rel => exact ⟨j + 1, by omega, by go_num, by rw [HS.out.1, HR.out], H8.out⟩
              case measure => simp [intOf]; omega
          · obtain rfl : j = s.size := by omega
            have hTi := HK.out.1.below hbl
            have m0 := (hbl.cell (p := ⟨ob, 0, none⟩) hlB).trans n0
            obtain ⟨q0, q1, _, _, hlt2⟩ := hTi.two.cells
            have HTI := Lib.hid hTi
            have hsw := swT_size s (byteAt x 0) (byteAt y 0) s.size
            generalize swT s (byteAt x 0) (byteAt y 0) s.size = A at *
            have HA := Lib.hid hsw
            have hszi := hTi.bw.size
            have hA6 : A.size ≤ 6 := by omega
            clear hTi hsw hbl n0 n1
            obtain ⟨wi, rfl⟩ : ∃ wi, wi = wr := ⟨_, rfl⟩
            go_wp2_with (at_builtin; refine wpList_append_lies _ rfl _ _ 29 rfl lo 40 i0 (.agg #[.string ⟨#[]⟩, .string ⟨#[]⟩]) 2 32 Tryd.underlying29 hi hz0 hz1 hz2 rfl (by decide) _ k (cellsOf (swL bs (byteAt x 0) (byteAt y 0) k)) rfl (HTI.out.ob.alloc _) ⟨wi.heap.size, 0, none⟩ 1 1 [.string (nameAt bs k), .string A] rfl rfl (cell_two_new _ _ _ _) (two_one _ _ rfl rfl) (by decide) (by unfold maxLen; omega) (by omega) (by simp <;> omega) _ rfl ?_; intro g' cap' w5 hown5 hgrow5 hlies5 _; have hT5 : Two w5 Q _ _ := HTI.out.two.of_cells ((hgrow5.block _ (by simp <;> omega) (fun e => own_neK HTI.out.ob HTI.out.two (by decide) e.symm)).trans (Lib.alloc_old wi _ _ hlt2)); have e5 := hT5.cells.1; have f5 := hT5.cells.2.2.1)
            have hTN := HTI.out.step (L' := swL bs (byteAt x 0) (byteAt y 0) (k + 1)) (v' := .slice (some ⟨g', 0, none⟩) (k + 1) cap') ((Below.refl _ _).alloc (Nat.le_refl _) _) hgrow5 (by rw [HE.out]; exact hown5) (by omega) (by omega) (by omega)
            have HX5 := Lib.hid hTN
            clear hTN hown5 hgrow5 hT5 e5 f5 hlies5
            go_wp2
            go_roundw
            case rel => exact ⟨k + 1, _, by omega, by go_num, HX5.out⟩
            case measure => simp [intOf]; omega
      · obtain rfl : k = bs.length := by omega
        obtain ⟨r0, r1, t0, t1, _⟩ := hT.res.cells
        obtain ⟨q0, q1, _, _, _⟩ := hT.two.cells
        have HXX := Lib.hid hT
        clear hT
        go_wp2
        refine bodyPost_ret (v := .tuple #[.agg #[.slice wa bs.length wc, .slice (some ⟨ge, 0, none⟩) es.length cape], .bool true]) (by simp [results, Tryd.results22, go_sem, r0, r1]) rfl ?_
        refine ProgRes.swYes HV.out (by repeat (first | exact HXX.out.bw | refine Below.setCell ?_ (by simp <;> omega) _ | refine Below.alloc ?_ (by first | omega | (simp; omega)) _)) ?_ ?_
        · exact own_base (own_farT (own_farT HXX.out.ob (own_neK HXX.out.ob HXX.out.res (by decide)) _) (own_neK HXX.out.ob HXX.out.res (by decide)) _) (by omega)
        · exact own_base (own_farT (own_farT HXX.out.oe (own_neK HXX.out.oe HXX.out.res (by decide)) _) (own_neK HXX.out.oe HXX.out.res (by decide)) _) (by omega)
end Go.Proofs.YtngcmjfkeageiaaDoor
end

section
/-
  The program's chapter 3: seenBlock, isTerm and termBlockOf. Conditions: at most 1048576 blocks and edges, each text at most as many bytes; the errors' variables hold errors.
-/
namespace Go.Proofs.YtngcmjfkeageiaaDoor
open Go.RowKit Go.Maps

theorem RowAt.keepB {w w' : World} {v : Value} {xs : List Value} (h : RowAt w v xs) (hb : Below w.heap.size w w') : RowAt w' v xs :=
  h.same fun k _ _ _ hk => hb.block k (Array.getElem?_eq_some_iff.1 hk).1

set_option maxRecDepth 100000 in
theorem seenBlock_any (w : World) (v : Value) (s x : ByteArray) (t : Nat) (ht : 120 ≤ t ∧ t ≤ 122) (hs : s.size ≤ 1000) (hop : ∀ i, i < s.size → opB (byteAt s i) = true) (hr : RowAt w v (opVals s s.size)) :
    Calls Tryd.prog 144 #[.string x, v, .int .u8 (t : Int)] w fun e w' => e = .returned (.agg #[.int .u8 (fv (fsA s t s.size)), .string x, .int .u8 (t : Int), .int .i64 ((fsA s t s.size).n : Int)]) ∧ Below w.heap.size w w' := by
  obtain ⟨a, cap, rfl⟩ := row_len3 hr
  have H1 := Lib.hid (show Below w.heap.size w (w.alloc (.cells #[.int .u8 0, .string ⟨#[]⟩, .int .u8 0, .int .i64 0] 129)) from (Below.refl _ _).alloc (Nat.le_refl _) _)
  have HR := Lib.hid hr; clear hr
  have HO := Lib.hid hop; clear hop
  have HH := Lib.hid (show (w.alloc (.cells #[.int .u8 0, .string ⟨#[]⟩, .int .u8 0, .int .i64 0] 129)).heap[w.heap.size]? = some (.cells #[.int .u8 0, .string ⟨#[]⟩, .int .u8 0, .int .i64 0] 129 (0, 0)) from heap_alloc_new w _)
  go_enter Tryd.func144, Tryd.ntmps144
  go_wp2_with fail
  refine (emptyBlock_any x (t : Int) _).mono ?_
  rintro e w1 ⟨rfl, hb1⟩
  go_wp2_with fail
  refine (fold_any w1 _ s x t ht hs HO.out (RowAt.keepB HR.out (H1.out.trans (hb1.mono (by simp))))).mono ?_
  rintro e w2 ⟨rfl, hb2⟩
  have hz1 := hb1.size
  have hz : w.heap.size < w1.heap.size := by simp at hz1; omega
  have hblk := (hb2.block w.heap.size hz).trans ((hb1.block w.heap.size (by simp)).trans HH.out)
  obtain ⟨⟨r0, r1, r2, r3⟩, q0, q1, q2, q3⟩ := block4 hblk
  have HZ := Lib.hid (show Below w.heap.size w w2 from (H1.out.trans (hb1.mono (by simp))).trans (hb2.mono (by omega)))
  clear hb1 hb2 hblk
  go_wp2
  refine bodyPost_ret (v := .agg #[.int .u8 (fv (fsA s t s.size)), .string x, .int .u8 (t : Int), .int .i64 ((fsA s t s.size).n : Int)]) (by simp [results, Tryd.results144, go_sem, r0, r1, r2, r3]) rfl ?_
  exact ⟨rfl, below_set4 HZ.out (Nat.le_refl _) _ _ _ _⟩

set_option maxRecDepth 100000 in
theorem isTerm_any (s : ByteArray) (w : World) :
    Calls Tryd.prog 73 #[.string s] w fun e w' => e = .returned (.bool (isTm s)) ∧ w = w' := by
  cases h : isTm s
  · have hx : (s.toList == [120]) = false := by
      rw [show ([120] : List UInt8) = (⟨#[120]⟩ : ByteArray).toList from by rw [ByteArray.toList_eq], toList_eq_iff]
      exact decide_eq_false fun e => by rw [isTm_iff.2 (.inl e)] at h; cases h
    have hy : (s.toList == [121]) = false := by
      rw [show ([121] : List UInt8) = (⟨#[121]⟩ : ByteArray).toList from by rw [ByteArray.toList_eq], toList_eq_iff]
      exact decide_eq_false fun e => by rw [isTm_iff.2 (.inr (.inl e))] at h; cases h
    have hz : (s.toList == [122]) = false := by
      rw [show ([122] : List UInt8) = (⟨#[122]⟩ : ByteArray).toList from by rw [ByteArray.toList_eq], toList_eq_iff]
      exact decide_eq_false fun e => by rw [isTm_iff.2 (.inr (.inr e))] at h; cases h
    clear h
    go_enter Tryd.func73, Tryd.ntmps73
    go_wp2
    go_ret
    exact ⟨rfl, rfl⟩
  · rcases isTm_iff.1 h with rfl | rfl | rfl
    all_goals
      clear h
      go_enter Tryd.func73, Tryd.ntmps73
      go_wp2
      go_ret
      exact ⟨rfl, rfl⟩
theorem isTerm_lit (s : ByteArray) (b : Bool) (h : isTm s = b) (w : World) :
    Calls Tryd.prog 73 #[.string s] w fun e w' => e = .returned (.bool b) ∧ w = w' :=
  (isTerm_any s w).mono fun e w' k => ⟨by rw [k.1, h], k.2⟩
theorem set4_reads {w : World} {R : Nat} {x0 x1 x2 x3 : Value} {t : TypeId} (h : w.heap[R]? = some (.cells #[x0, x1, x2, x3] t (0, 0))) (a b c d : Value) (o : Obj) :
    (((((w.setCell ⟨R, 0, none⟩ a).setCell ⟨R, 1, none⟩ b).setCell ⟨R, 2, none⟩ c).setCell ⟨R, 3, none⟩ d).alloc o).cell? ⟨R, 0, none⟩ = some a ∧ (((((w.setCell ⟨R, 0, none⟩ a).setCell ⟨R, 1, none⟩ b).setCell ⟨R, 2, none⟩ c).setCell ⟨R, 3, none⟩ d).alloc o).cell? ⟨R, 1, none⟩ = some b ∧
      (((((w.setCell ⟨R, 0, none⟩ a).setCell ⟨R, 1, none⟩ b).setCell ⟨R, 2, none⟩ c).setCell ⟨R, 3, none⟩ d).alloc o).cell? ⟨R, 2, none⟩ = some c ∧ (((((w.setCell ⟨R, 0, none⟩ a).setCell ⟨R, 1, none⟩ b).setCell ⟨R, 2, none⟩ c).setCell ⟨R, 3, none⟩ d).alloc o).cell? ⟨R, 3, none⟩ = some d := by
  have h4 := heap_set4 h a b c d
  have hb : Below ((((w.setCell ⟨R, 0, none⟩ a).setCell ⟨R, 1, none⟩ b).setCell ⟨R, 2, none⟩ c).setCell ⟨R, 3, none⟩ d).heap.size ((((w.setCell ⟨R, 0, none⟩ a).setCell ⟨R, 1, none⟩ b).setCell ⟨R, 2, none⟩ c).setCell ⟨R, 3, none⟩ d) (((((w.setCell ⟨R, 0, none⟩ a).setCell ⟨R, 1, none⟩ b).setCell ⟨R, 2, none⟩ c).setCell ⟨R, 3, none⟩ d).alloc o) := (Below.refl _ _).alloc (Nat.le_refl _) _
  exact (block4 ((hb.block R (Array.getElem?_eq_some_iff.1 h4).1).trans h4)).1

end Go.Proofs.YtngcmjfkeageiaaDoor
end

section
/-
  The program's otherTerm and swapIn. Conditions: at most 1000 letters, each a term or what spoils one.
-/
namespace Go.Proofs.YtngcmjfkeageiaaDoor
open Go.RowKit Go.Maps

theorem otherTerm_any (c t u : Nat) (w : World) :
    Calls Tryd.prog 133 #[.int .u8 (c : Int), .int .u8 (t : Int), .int .u8 (u : Int)] w fun e w' => e = .returned (.int .u8 (othN c t u : Int)) ∧ w = w' := by
  unfold othN
  by_cases h1 : c = t
  · rw [if_pos h1]
    subst h1
    go_enter Tryd.func133, Tryd.ntmps133
    go_wp2
    go_ret
    exact ⟨rfl, rfl⟩
  · have d1 : ((c : Int) == (t : Int)) = false := by simp; omega
    rw [if_neg h1]
    by_cases h2 : c = u
    · rw [if_pos h2]
      subst h2
      clear h1
      go_enter Tryd.func133, Tryd.ntmps133
      go_wp2
      go_ret
      exact ⟨rfl, rfl⟩
    · have d2 : ((c : Int) == (u : Int)) = false := by simp; omega
      rw [if_neg h2]
      clear h1 h2
      go_enter Tryd.func133, Tryd.ntmps133
      go_wp2
      go_ret
      exact ⟨rfl, rfl⟩
theorem opVal_swC {t u c : Nat} (ht : lowB t = true) (hu : lowB u = true) (hl : lowB c = true) : opVal (swC t u c).toNat = .iface 93 (.agg #[.int .u8 (othN c t u : Int)]) := by
  have hc : opB c = true := by unfold opB; rw [hl]; rfl
  rw [swC_nat ht hu hc]
  have h := (swB_le ht hu hc).2.2
  rw [hl] at h
  unfold opVal
  rw [if_pos h]
  unfold swB
  rw [if_pos hl]
theorem opVal_swS {t u c : Nat} (ht : lowB t = true) (hu : lowB u = true) (hl : lowB c = false) (hc : opB c = true) : opVal (swC t u c).toNat = .iface 94 (.agg #[.int .u8 (othN (c + 32) t u : Int)]) := by
  rw [swC_nat ht hu hc]
  have h := (swB_le ht hu hc).2.2
  rw [hl] at h
  unfold opVal
  rw [if_neg (by rw [h]; simp)]
  unfold swB
  rw [if_neg (by rw [hl]; simp)]
  have h1 : 120 ≤ othN (c + 32) t u := by
    unfold othN
    unfold opB lowB upB at *
    simp only [Bool.or_eq_true, Bool.and_eq_true, decide_eq_true_eq, Bool.and_eq_false_iff, decide_eq_false_iff_not] at *
    split
    · omega
    · split <;> omega
  rw [show (((othN (c + 32) t u - 32 : Nat) : Int) - 88 + 120) = (othN (c + 32) t u : Int) by omega]
theorem rowAt_cell {w : World} {v : Value} {xs : List Value} (h : RowAt w v xs) {i : Nat} (hi : i < xs.length) : ∃ g c, v = .slice (some ⟨g, 0, none⟩) xs.length c ∧ g < w.heap.size ∧ w.cell? ⟨g, i, none⟩ = xs[i]? := by
  obtain ⟨m, hm⟩ : ∃ m, xs.length = m + 1 := ⟨xs.length - 1, by omega⟩
  have h' : w.ownsRow 0 91 1 v (m + 1) xs := by rw [← hm]; exact h
  obtain ⟨g, cap, rfl, _, hg, _, _, hc⟩ := own_lastS h'
  exact ⟨g, cap, by rw [hm], hg, by rw [List.getElem?_eq_getElem hi]; exact hc i _ (List.getElem?_eq_getElem hi)⟩

set_option maxRecDepth 100000 in
set_option maxHeartbeats 3200000 in
theorem swapIn_any (w : World) (v : Value) (s : ByteArray) (t u : Nat) (ht : lowB t = true) (hu : lowB u = true) (hs : s.size ≤ 1000) (hop : ∀ i, i < s.size → opB (byteAt s i) = true) (hr : RowAt w v (opVals s s.size)) :
    Calls Tryd.prog 75 #[v, .int .u8 (t : Int), .int .u8 (u : Int)] w fun e w' => (∃ v', e = .returned v' ∧ w'.ownsRow w.heap.size 91 1 v' s.size (opVals (swT s t u s.size) s.size)) ∧ Below w.heap.size w w' := by
  have hCC := fun b w => Tryd.isCC b w
  have hSC := fun b w => Tryd.isSC b w
  have hSS := fun b w => Tryd.isSS b w
  obtain ⟨i0, hi, hz0, hz1, hz2⟩ := info_parts Tryd.infoOp
  obtain ⟨va, vc, rfl⟩ := row_len3 hr
  have HI := Lib.hid (And.intro hop (And.intro hr (opVals_length s s.size)))
  have HT := Lib.hid (And.intro ht hu)
  have HTb : t ≤ 122 ∧ u ≤ 122 := by unfold lowB at ht hu; simp only [Bool.and_eq_true, decide_eq_true_eq] at ht hu; omega
  obtain ⟨ht2, hu2⟩ := HTb
  rw [opVals_length]
  clear hop hr ht hu
  go_enter Tryd.func75, Tryd.ntmps75
  go_wp2
  go_loopw [14, 7] (fun i o wr => ∃ k : Nat, k ≤ s.size ∧ i = .int .i64 k ∧ wr.ownsRow w.heap.size 91 1 o k (opVals (swT s t u s.size) k) ∧ Below w.heap.size w wr) (fun i _ _ => s.size - (intOf i).toNat)
  case atStart => exact ⟨0, Nat.zero_le _, rfl, World.ownsRow_nil _ _ _ _, Below.refl _ _⟩
  case round =>
    obtain ⟨k, hk, rfl, hown, hbl⟩ := hrel
    have hsz := hbl.size
    by_cases hlt : k < s.size
    · obtain ⟨g, c, hv, hg, hcell⟩ := rowAt_cell HI.out.2.1 (i := k) (by rw [HI.out.2.2]; exact hlt)
      rw [HI.out.2.2] at hv
      simp only [Value.slice.injEq, true_and] at hv
      obtain ⟨rfl, rfl⟩ := hv
      have hcv : (opVals s s.size)[k]? = some (opVal (byteAt s k)) := by unfold opVals; simp [hlt]
      have d0 := (hbl.cell (p := ⟨g, k, none⟩) hg).trans (hcell.trans hcv)
      have HE := Lib.hid (opVals_succ (swT s t u s.size) k)
      have HA := Lib.hid (swT_at s t u s.size k hlt)
      have hopk := HI.out.1 k hlt
      have HO := Lib.hid (And.intro hown hbl)
      have x1 : (0 : Int) ≤ (k : Int) := by omega
      have x2 : (k : Int) < (s.size : Int) := by omega
      clear hcell hcv hown hbl
      cases hl : lowB (byteAt s k)
      · have HV := Lib.hid (opVal_swS HT.out.1 HT.out.2 hl hopk)
        rw [show opVal (byteAt s k) = .iface 94 (.agg #[.int .u8 (((byteAt s k + 32 : Nat)) : Int)]) by
          unfold opVal; rw [if_neg (by rw [hl]; simp)]
          unfold opB lowB upB at *
          simp only [Bool.or_eq_true, Bool.and_eq_true, decide_eq_true_eq, Bool.and_eq_false_iff, decide_eq_false_iff_not] at *
          rw [show ((byteAt s k : Int) - 88 + 120) = ((byteAt s k + 32 : Nat) : Int) by omega]] at d0
        generalize byteAt s k + 32 = b at *
        clear hl hopk
        go_wp2_with (first
          | (go_at_call 133; refine (otherTerm_any b t u _).mono ?_; rintro e w' ⟨rfl, rfl⟩)
          | (at_builtin; refine wpList_append_own _ rfl _ _ 89 rfl w.heap.size 91 i0 .nilIface 1 16 Tryd.underlying89 hi hz0 hz1 hz2 rfl (by decide) _ _ _ rfl ((HO.out.1.alloc _).alloc _) ⟨wr.heap.size + 1, 0, none⟩ 1 1 [.iface 94 (.agg #[.int .u8 (othN b t u : Int)])] rfl rfl (one_new2 _ _ _ _) (one_one _ rfl) (by unfold maxLen; omega) (by omega) (by simp; omega) ?_; intro v' w1 hown1 hgrow1 _))
        have hb1 : Below w.heap.size w w1 := ((HO.out.2.alloc hsz _).alloc (by simp; omega) _).grown hgrow1 (by simp; omega) (fun j hj => (HO.out.1.lt j hj).1)
        go_roundw
        case rel => exact ⟨k + 1, by omega, by go_num, by rw [HE.out, HA.out, HV.out]; exact hown1, hb1⟩
        case measure => simp [intOf]; omega
      · have HV := Lib.hid (opVal_swC HT.out.1 HT.out.2 hl)
        rw [show opVal (byteAt s k) = .iface 93 (.agg #[.int .u8 (byteAt s k : Int)]) by unfold opVal; rw [if_pos hl]] at d0
        generalize byteAt s k = b at *
        clear hl hopk
        go_wp2_with (first
          | (go_at_call 133; refine (otherTerm_any b t u _).mono ?_; rintro e w' ⟨rfl, rfl⟩)
          | (at_builtin; refine wpList_append_own _ rfl _ _ 89 rfl w.heap.size 91 i0 .nilIface 1 16 Tryd.underlying89 hi hz0 hz1 hz2 rfl (by decide) _ _ _ rfl ((HO.out.1.alloc _).alloc _) ⟨wr.heap.size + 1, 0, none⟩ 1 1 [.iface 93 (.agg #[.int .u8 (othN b t u : Int)])] rfl rfl (one_new2 _ _ _ _) (one_one _ rfl) (by unfold maxLen; omega) (by omega) (by simp; omega) ?_; intro v' w1 hown1 hgrow1 _))
        have hb1 : Below w.heap.size w w1 := ((HO.out.2.alloc hsz _).alloc (by simp; omega) _).grown hgrow1 (by simp; omega) (fun j hj => (HO.out.1.lt j hj).1)
        go_roundw
        case rel => exact ⟨k + 1, by omega, by go_num, by rw [HE.out, HA.out, HV.out]; exact hown1, hb1⟩
        case measure => simp [intOf]; omega
    · obtain rfl : k = s.size := by omega
      have HO := Lib.hid (And.intro hown hbl)
      clear hown hbl
      go_wp2
      go_ret
      exact ⟨⟨_, rfl, HO.out.1⟩, HO.out.2⟩
end Go.Proofs.YtngcmjfkeageiaaDoor
end

section
/-
  SwapTerms of the program. Conditions: at most 1048576 blocks and edges, each text at most as many bytes; the errors' variables hold errors.
-/
namespace Go.Proofs.YtngcmjfkeageiaaDoor
open Go.RowKit Go.Maps

theorem RowAt.ofOwn {w : World} {B n : Nat} {v : Value} {xs : List Value} (hn : n = xs.length) (h : w.ownsRow B 91 1 v n xs) : RowAt w v xs := by
  subst hn; exact own_base h (Nat.zero_le _)
theorem swT_okW {s : ByteArray} {t u : Nat} (ht : lowB t = true) (hu : lowB u = true) (h6 : s.size ≤ 6) (hop : ∀ i, i < s.size → opB (byteAt s i) = true) : (swT s t u s.size).size ≤ 1000 ∧ ∀ i, i < (swT s t u s.size).size → opB (byteAt (swT s t u s.size) i) = true := by
  rw [swT_size]
  refine ⟨by omega, fun i hi => ?_⟩
  rw [swT_at s t u s.size i hi, swC_nat ht hu (hop i hi)]
  exact (swB_le ht hu (hop i hi)).2.1
theorem below_zero {w w1 : World} (h : Below w.heap.size w w1) (o : Obj) : Below w.heap.size w (((w1.setCell ⟨w.heap.size + 1, 0, none⟩ (.slice none 0 0)).setCell ⟨w.heap.size + 1, 1, none⟩ (.slice none 0 0)).alloc o) :=
  ((h.setCell (p := ⟨w.heap.size + 1, 0, none⟩) (Nat.le_succ _) _).setCell (p := ⟨w.heap.size + 1, 1, none⟩) (Nat.le_succ _) _).alloc (by have := h.size; simp [World.setCell]; omega) o
theorem below_resS {w w1 : World} (h : Below w.heap.size w w1) (u v : Value) : Below w.heap.size w ((w1.setCell ⟨w.heap.size + 1, 0, none⟩ u).setCell ⟨w.heap.size + 1, 1, none⟩ v) :=
  (h.setCell (p := ⟨w.heap.size + 1, 0, none⟩) (Nat.le_succ _) _).setCell (p := ⟨w.heap.size + 1, 1, none⟩) (Nat.le_succ _) _
theorem isTm_low {t : ByteArray} (h : isTm t = true) : lowB (byteAt t 0) = true := by
  unfold isTm at h
  simp only [Bool.and_eq_true] at h
  exact h.2

set_option maxRecDepth 100000 in
set_option maxHeartbeats 6400000 in
theorem SwapTerms_impl (w : World) (bs es : List Pr) (ab ae : Option Addr) (cb ce : Nat) (x y : ByteArray) (_hxs : x.size ≤ 1048576) (_hys : y.size ≤ 1048576) (hpb : PairsAt w ab bs) (hpe : PairsAt w ae es) (hg : Errs w) :
    Calls Tryd.prog 21 #[.agg #[.slice ab bs.length cb, .slice ae es.length ce], .string x, .string y] w (ProgRes w (swOk bs es x y) (swRL bs es x y) (swRE bs es x y)) := by
  have h1 : Below w.heap.size w ((w.alloc (.cells #[.slice ab bs.length cb, .slice ae es.length ce] 32)).alloc (.cells #[.slice none 0 0, .slice none 0 0] 32)) := ((Below.refl _ _).alloc (Nat.le_refl _) _).alloc (by simp) _
  have hpb1 := hpb.below h1
  have hpe1 := hpe.below h1
  have hg1 := hg.keep h1
  have hRA : Two ((w.alloc (.cells #[.slice ab bs.length cb, .slice ae es.length ce] 32)).alloc (.cells #[.slice none 0 0, .slice none 0 0] 32)) (w.heap.size + 1) (.slice none 0 0) (.slice none 0 0) := by
    rw [show w.heap.size + 1 = (w.alloc (.cells #[.slice ab bs.length cb, .slice ae es.length ce] 32)).heap.size by simp]; exact heap_alloc_new _ _
  have hPA : Two ((w.alloc (.cells #[.slice ab bs.length cb, .slice ae es.length ce] 32)).alloc (.cells #[.slice none 0 0, .slice none 0 0] 32)) w.heap.size (.slice ab bs.length cb) (.slice ae es.length ce) := (Below.heap_alloc _ _ _ (by simp)).trans (heap_alloc_new _ _)
  have hl9 := hpb.len
  obtain ⟨i0, hi, hz0, hz1, hz2⟩ := info_parts Tryd.infoBlock
  have H1 := Lib.hid (And.intro h1 (And.intro hRA hPA)); clear h1 hRA hPA
  go_enter Tryd.func21, Tryd.ntmps21
  go_wp2_with fail
  refine (planOf_any _ bs es _ _ _ _ hpb1 hpe1 hg1).mono ?_
  rintro e w1 ⟨hb1, hcase⟩
  have hall : Below w.heap.size w w1 := H1.out.1.trans (hb1.mono (by simp; omega))
  have hz := hall.size
  have hR1 : Two w1 (w.heap.size + 1) _ _ := H1.out.2.1.of_cells (hb1.block _ (by simp))
  have hP1 : Two w1 w.heap.size _ _ := H1.out.2.2.of_cells (hb1.block _ (by simp; omega))
  obtain ⟨c0, c1, _, _, hzA⟩ := hP1.cells
  obtain ⟨r0, r1, t0, t1, hzB⟩ := hR1.cells
  rcases hcase with ⟨hv, o, lo, li, rfl, hp⟩ | ⟨hv, ty, z, rfl⟩
  · have hvb : validB bs es = true := by simpa [validB] using hv
    have G := fun a b q => hR1.reads a b q
    have HNo := Lib.hid (And.intro hall G)
    cases hx : isTm x
    · have HN := Lib.hid (show swOk bs es x y = false by unfold swOk; rw [hx]; simp)
      have HX := Lib.hid hx
      clear hx hvb hv hp hb1 hpb1 hpe1 hg1 hR1 hP1 G
      go_wp2_with (go_at_call 73; refine (isTerm_lit x _ HX.out _).mono ?_; rintro e w' ⟨rfl, rfl⟩)
      refine bodyPost_ret (v := .tuple #[.agg #[.slice none 0 0, .slice none 0 0], .bool false]) (by simp [results, Tryd.results21, go_sem, (HNo.out.2 _ _ _).1, (HNo.out.2 _ _ _).2]) rfl ?_
      exact ProgRes.swNo HN.out (below_zero HNo.out.1 _)
    cases hy : isTm y
    · have HN := Lib.hid (show swOk bs es x y = false by unfold swOk; rw [hy]; simp)
      have HX := Lib.hid (And.intro hx hy)
      clear hx hy hvb hv hp hb1 hpb1 hpe1 hg1 hR1 hP1 G
      go_wp2_with (first
        | (go_at_call 73; (with_reducible show Calls _ _ #[Value.string x] _ _); refine (isTerm_lit x _ HX.out.1 _).mono ?_; rintro e w' ⟨rfl, rfl⟩)
        | (go_at_call 73; (with_reducible show Calls _ _ #[Value.string y] _ _); refine (isTerm_lit y _ HX.out.2 _).mono ?_; rintro e w' ⟨rfl, rfl⟩))
      refine bodyPost_ret (v := .tuple #[.agg #[.slice none 0 0, .slice none 0 0], .bool false]) (by simp [results, Tryd.results21, go_sem, (HNo.out.2 _ _ _).1, (HNo.out.2 _ _ _).2]) rfl ?_
      exact ProgRes.swNo HN.out (below_zero HNo.out.1 _)
    have HV := Lib.hid (And.intro hv (show swOk bs es x y = true by unfold swOk; rw [hvb, hx, hy]; rfl))
    have HX := Lib.hid (And.intro hx hy)
    have hx0 : 0 < x.size := by rw [isTm_size hx]; decide
    have hy0 : 0 < y.size := by rw [isTm_size hy]; decide
    have HB0 := Lib.hid (And.intro (byteAt_get hx0) (byteAt_get hy0))
    have hxi : (0 : Int) < (x.size : Int) := by omega
    have hyi : (0 : Int) < (y.size : Int) := by omega
    have hwa : Below w1.heap.size w1 (w1.alloc (.cells #[.map (some o), .map (some lo), .map (some li)] 83)) := (Below.refl _ _).alloc (Nat.le_refl _) _
    obtain ⟨F, hO0⟩ := hp.ops
    have hO := hO0.below hwa
    have hpb2 := (hpb1.below hb1).below hwa
    have hpe2 := (hpe1.below hb1).below hwa
    have y0 : (w1.alloc (.cells #[.map (some o), .map (some lo), .map (some li)] 83)).cell? ⟨w1.heap.size, 0, none⟩ = some (.map (some o)) := by go_simp
    have hzW : w1.heap.size < (w1.alloc (.cells #[.map (some o), .map (some lo), .map (some li)] 83)).heap.size := by simp
    have HA := Lib.hid (And.intro hO (And.intro hpb2 (And.intro (hall.alloc hz (.cells #[.map (some o), .map (some lo), .map (some li)] 83)) (And.intro (hR1.of_cells (hwa.block _ hzB)) (hP1.of_cells (hwa.block _ hzA))))))
    clear hx hy hvb hv hO0 hO hpb2 hwa hp hpb1 hpe1 hg1 hb1 hall hR1 hP1 r0 r1 t0 t1 G HNo
    go_wp2_with (first
      | (go_at_call 73; (with_reducible show Calls _ _ #[Value.string x] _ _); refine (isTerm_lit x _ HX.out.1 _).mono ?_; rintro e w' ⟨rfl, rfl⟩)
      | (go_at_call 73; (with_reducible show Calls _ _ #[Value.string y] _ _); refine (isTerm_lit y _ HX.out.2 _).mono ?_; rintro e w' ⟨rfl, rfl⟩))
    refine (cloneE_any _ es _ _ hpe2).mono ?_
    rintro e w2 ⟨ve, rfl, hve, hb2⟩
    obtain ⟨xa, xc, rfl⟩ := own_form hve
    generalize w1.alloc (.cells #[.map (some o), .map (some lo), .map (some li)] 83) = w4 at *
    obtain ⟨hO, hpb4, hall4, hR4, hP4⟩ := HA.out
    have hs2 := hb2.size
    have hP2 : Two w2 w.heap.size _ _ := hP4.of_cells (hb2.block _ (by omega))
    have hR2 : Two w2 (w.heap.size + 1) _ _ := hR4.of_cells (hb2.block _ (by omega))
    have kA : ∀ q, (w2.alloc q).cell? ⟨w.heap.size, 0, none⟩ = some (.slice ab bs.length cb) := fun q => (World.cell?_alloc_lt _ _ _ (show w.heap.size < w2.heap.size by omega)).trans hP2.cells.1
    have y2 := (hb2.cell (p := ⟨w1.heap.size, 0, none⟩) hzW).trans y0
    have hbY : Below w2.heap.size w2 (w2.alloc (.cells #[.slice none 0 0, .slice xa es.length xc] 32)) := (Below.refl _ _).alloc (Nat.le_refl _) _
    have hTL : TLoop w (w2.alloc (.cells #[.slice none 0 0, .slice xa es.length xc] 32)) (w.heap.size + 1) w2.heap.size w4.heap.size (.slice none 0 0) (.slice xa es.length xc) 0 es.length (swL bs (byteAt x 0) (byteAt y 0) 0) es :=
      ⟨heap_alloc_new _ _, hR2.of_cells (hbY.block _ (by omega)), World.ownsRow_nil _ _ _ _, ownsRow_below hve hbY, (hall4.trans (hb2.mono (by omega))).trans (hbY.mono (by omega))⟩
    have HB := Lib.hid (And.intro hO (And.intro hpb4 hTL))
    have HYb := Lib.hid (hb2.trans (hbY.mono hb2.size))
    have hQl : w4.heap.size ≤ w2.heap.size := hb2.size
    clear HA hO hpb4 hall4 hR4 hP4 hP2 hR2 hve hb2 hpe2 hTL hbY c0 c1 y2
    go_wp2
    go_loopw [39] (fun i wr => ∃ (k : Nat) (v : Value), k ≤ bs.length ∧ i = .int .i64 k ∧ TLoop w wr (w.heap.size + 1) w2.heap.size w4.heap.size v (.slice xa es.length xc) k es.length (swL bs (byteAt x 0) (byteAt y 0) k) es ∧ Below w4.heap.size w4 wr) (fun i _ => bs.length - (intOf i).toNat)
    case atStart => exact ⟨0, _, Nat.zero_le _, rfl, HB.out.2.2, HYb.out⟩
    case round =>
      obtain ⟨k, v, hk, rfl, hT, hbl⟩ := hrel
      have hs3 := hbl.size
      obtain ⟨wa, wc, rfl⟩ := own_form hT.ob
      by_cases hlt : k < bs.length
      · obtain ⟨b, off, rfl, hb, g1, g2⟩ := HB.out.2.1.cell k hlt
        have d1 := (hbl.cell (p := ⟨b, off + k * 2, none⟩) hb).trans g1
        have d2 := (hbl.cell (p := ⟨b, off + k * 2 + 1, none⟩) hb).trans g2
        have d3 := (hbl.cell (p := ⟨w1.heap.size, 0, none⟩) hzW).trans y0
        have hsx : (nameAt bs k).size ≤ 1048576 := (HB.out.2.1.size k hlt).1
        have hwB : Below wr.heap.size wr (wr.alloc (.cells #[.string (nameAt bs k), .string (restAt bs k)] 40)) := (Below.refl _ _).alloc (Nat.le_refl _) _
        have hOr := (HB.out.1.below hbl).below hwB
        obtain ⟨v, hFv, hrow⟩ := hOr.row _ (pair_mem hlt)
        have lk := (hOr.map.drew).look Tryd.underlying79 (zeroOps _) (mx hsx)
        rw [show F (nameAt bs k) = some v from hFv, Option.getD_some] at lk
        have hok : opsOk (restAt bs k) := HV.out.1.b.op _ (pair_mem hlt)
        have n0 : (wr.alloc (.cells #[.string (nameAt bs k), .string (restAt bs k)] 40)).cell? ⟨wr.heap.size, 0, none⟩ = some (.string (nameAt bs k)) := by go_simp
        have m0 := (hwB.cell (p := ⟨w1.heap.size, 0, none⟩) (show w1.heap.size < wr.heap.size by omega)).trans d3
        have hzb : (wr.alloc (.cells #[.string (nameAt bs k), .string (restAt bs k)] 40)).heap.size = wr.heap.size + 1 := by simp
        have HK := Lib.hid (And.intro hrow (And.intro hok (And.intro (hT.below hwB) (And.intro (hbl.trans (hwB.mono hs3)) hzb))))
        have HE := Lib.hid (swL_succ bs (byteAt x 0) (byteAt y 0) k)
        clear hrow hok hT hbl hFv hOr g1 g2 hwB hzb
        go_wp2
        generalize wr.alloc (.cells #[.string (nameAt bs k), .string (restAt bs k)] 40) = wB at *
        have hlB : wr.heap.size < wB.heap.size := by have := HK.out.2.2.2.2; omega
        refine wp_region_still_tail 9 (by kernel_rfl) (by kernel_rfl) ?_
        simp only [List.take_succ_cons, List.take_zero, List.drop_succ_cons, List.drop_zero]
        change wpStill _ _ wB.drew _ _ _
        repeat still_step
        refine wpStill_nil ?_
        change wpList _ _ _ _ _ wB.drew
        rw [HB0.out.1, HB0.out.2]
        go_wp2_with fail
        refine (swapIn_any _ v (restAt bs k) (byteAt x 0) (byteAt y 0) (isTm_low HX.out.1) (isTm_low HX.out.2) (by have := HK.out.2.1.1; omega) HK.out.2.1.2 (RowAt.keepB HK.out.1 (Below.refl _ _).drew)).mono ?_
        rintro e w5 ⟨⟨v5, rfl, ho5⟩, hb5⟩
        have hbB5 : Below wB.heap.size wB w5 := (Below.refl _ _).drew.trans hb5
        have hT5 := HK.out.2.2.1.below hbB5
        have hR5 : RowAt w5 v5 (opVals (swT (restAt bs k) (byteAt x 0) (byteAt y 0) (restAt bs k).size) (swT (restAt bs k) (byteAt x 0) (byteAt y 0) (restAt bs k).size).size) := by
          rw [swT_size]; exact RowAt.ofOwn (by rw [opVals_length]) ho5
        have hok5 := swT_okW (s := restAt bs k) (isTm_low HX.out.1) (isTm_low HX.out.2) HK.out.2.1.1 HK.out.2.1.2
        have n5 := (hbB5.cell (p := ⟨wr.heap.size, 0, none⟩) hlB).trans n0
        have hB4 := HK.out.2.2.2.1.trans (hbB5.mono HK.out.2.2.2.1.size)
        generalize swT (restAt bs k) (byteAt x 0) (byteAt y 0) (restAt bs k).size = A at *
        obtain ⟨q0, q1, _, _, hlt2⟩ := hT5.two.cells
        have hl5 : wr.heap.size < w5.heap.size := Nat.lt_of_lt_of_le hlB hbB5.size
        have hlo5 : w4.heap.size ≤ w5.heap.size := hB4.size
        have HK5 := Lib.hid (And.intro hT5 (And.intro hR5 (And.intro hok5 hB4)))
        clear ho5 hb5 hbB5 hT5 hR5 hok5 hB4 m0 n0 lk
        go_wp2
        go_region_law (first
          | (go_simp; go_at_call 71; refine (writeOps_any _ v5 A HK5.out.2.2.1 (RowAt.keepB HK5.out.2.1 (Below.refl _ _).drew)).mono ?_; rintro e wN ⟨rfl, hbN⟩; have eN : wN.cell? ⟨w2.heap.size, 0, none⟩ = some (.slice wa k wc) := (hbN.cell (p := ⟨w2.heap.size, 0, none⟩) hlt2).trans q0; have hRN : w2.heap.size < wN.heap.size := Nat.lt_of_lt_of_le hlt2 hbN.size; have eNA : ∀ o, (wN.alloc o).cell? ⟨w2.heap.size, 0, none⟩ = some (.slice wa k wc) := fun o => (World.cell?_alloc_lt _ _ _ hRN).trans eN; have nN : wN.cell? ⟨wr.heap.size, 0, none⟩ = some (.string (nameAt bs k)) := (hbN.cell (p := ⟨wr.heap.size, 0, none⟩) hl5).trans n5)
          | (refine step_append_lies _ rfl (.tmp 54) (.tmp 60) 29 rfl w4.heap.size 40 i0 (.agg #[.string ⟨#[]⟩, .string ⟨#[]⟩]) 2 32 Tryd.underlying29 hi hz0 hz1 hz2 rfl (by decide) _ k (cellsOf (swL bs (byteAt x 0) (byteAt y 0) k)) rfl ((ownsRow_below HK5.out.1.ob ((Below.refl _ _).drew.trans hbN)).alloc _) ⟨wN.heap.size, 0, none⟩ 1 1 [.string (nameAt bs k), .string A] rfl rfl (cell_two_new _ _ _ _) (two_one _ _ rfl rfl) (by decide) (by unfold maxLen; omega) (by omega) (by have h9 := hbN.size; simp at h9 ⊢; omega) _ rfl ?_
             intro g' cap' w7 hown7 hgrow7 hlies7 _
             have hT7 : Two w7 w2.heap.size _ _ := HK5.out.1.two.of_cells ((hgrow7.block _ (by have h9 := hbN.size; simp at h9 ⊢; omega) (fun e => own_neK HK5.out.1.ob HK5.out.1.two (by decide) e.symm)).trans ((Lib.alloc_old wN _ _ (Nat.lt_of_lt_of_le hlt2 hbN.size)).trans (hbN.block _ hlt2)))
             have e7 := hT7.cells.1
             have f7 := hT7.cells.2.2.1))
        all_goals
          have hbN' : Below w5.heap.size w5 wN := (Below.refl _ _).drew.trans hbN
          have hTN := HK5.out.1.step (L' := swL bs (byteAt x 0) (byteAt y 0) (k + 1)) (v' := .slice (some ⟨g', 0, none⟩) (k + 1) cap') (hbN'.alloc hbN'.size _) hgrow7 (by rw [HE.out]; exact hown7) (by omega) (by omega) (by omega)
          have hb7 : Below w4.heap.size w4 w7 := ((HK5.out.2.2.2.trans (hbN'.mono hlo5)).alloc (by have := hbN'.size; omega) _).grown hgrow7 (by have h9 := hbN'.size; simp; omega) (fun j hj => (HK5.out.1.ob.lt j hj).1)
          have HX7 := Lib.hid (And.intro hTN (hb7.setCell (p := ⟨w2.heap.size, 0, none⟩) hQl (.slice (some ⟨g', 0, none⟩) (k + 1) cap')))
          clear hTN hb7 hbN' hown7 hgrow7 hT7 e7 f7 hbN eN eNA hRN nN hlies7
          go_wp2
          go_roundw
          case rel => exact ⟨k + 1, _, by omega, by go_num, HX7.out.1, HX7.out.2⟩
          case measure => simp [intOf]; omega
      · obtain rfl : k = bs.length := by omega
        obtain ⟨r0, r1, t0, t1, _⟩ := hT.res.cells
        obtain ⟨q0, q1, _, _, _⟩ := hT.two.cells
        have HXX := Lib.hid hT
        clear hT hbl
        go_wp2
        refine bodyPost_ret (v := .tuple #[.agg #[.slice wa bs.length wc, .slice xa es.length xc], .bool true]) (by simp [results, Tryd.results21, go_sem, r0, r1]) rfl ?_
        refine ProgRes.swYes HV.out.2 (below_resS HXX.out.bw _ _) ?_ ?_
        · exact own_base (own_farT (own_farT HXX.out.ob (own_neK HXX.out.ob HXX.out.res (by decide)) _) (own_neK HXX.out.ob HXX.out.res (by decide)) _) (by omega)
        · exact own_base (own_farT (own_farT HXX.out.oe (own_neK HXX.out.oe HXX.out.res (by decide)) _) (own_neK HXX.out.oe HXX.out.res (by decide)) _) (by omega)
  · have HN := Lib.hid (show swOk bs es x y = false by unfold swOk; rw [show validB bs es = false by simpa [validB] using hv]; rfl)
    have HX := Lib.hid hall
    have G := fun a b q => hR1.reads a b q
    have HG := Lib.hid G; clear G
    clear hv hall hR1 hP1 hb1
    go_wp2
    refine bodyPost_ret (v := .tuple #[.agg #[.slice none 0 0, .slice none 0 0], .bool false]) (by simp [results, Tryd.results21, go_sem, (HG.out _ _ _).1, (HG.out _ _ _).2]) rfl ?_
    exact ProgRes.swNo HN.out (below_zero HX.out _)
end Go.Proofs.YtngcmjfkeageiaaDoor
end
