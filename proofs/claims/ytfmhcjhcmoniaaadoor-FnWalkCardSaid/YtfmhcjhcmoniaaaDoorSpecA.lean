/-
  The model's chapter 1, its leaves: what l1In, l1Name, l1Ops, l1Find, l1Edge return, for every argument. Conditions: a text has at most 1048576 bytes, a list at most as many pairs.
-/
import Derived.Test.YtfmhcjhcmoniaaaDoorWords
namespace Go.Proofs.YtfmhcjhcmoniaaaDoor
open Go.RowKit

/-- between two bounds, closed to the walk -/
def inB (n lo hi : Int) : Bool := decide (lo ≤ n) && decide (n ≤ hi)
theorem inB_byte (n : Nat) (lo hi : Nat) : inB n lo hi = (decide (lo ≤ n) && decide (n ≤ hi)) := by
  unfold inB
  by_cases h1 : lo ≤ n <;> by_cases h2 : n ≤ hi <;> simp [h1, h2] <;> omega

set_option maxHeartbeats 400000 in
theorem l1In_any (n lo hi : Int) (w : World) :
    Calls Tryd.prog 59 #[.int .i64 n, .int .i64 lo, .int .i64 hi] w fun e w' => e = .returned (.bool (inB n lo hi)) ∧ w = w' := by
  by_cases h1 : lo ≤ n
  · have hd : decide (lo ≤ n) = true := by simpa using h1
    go_enter Tryd.func59, Tryd.ntmps59
    go_wp2
    go_ret
    exact ⟨ret_bool (by simp only [inB, hd]; simp), rfl⟩
  · have hd : decide (lo ≤ n) = false := by simpa using h1
    go_enter Tryd.func59, Tryd.ntmps59
    go_wp2
    go_ret
    exact ⟨by simp [inB, hd], rfl⟩

theorem isNm_eq {s : ByteArray} (h : s.size = 1) (h0 : 0 < s.size) : isNm s = inB (s[0].toNat : Int) 65 73 := by
  have hb := byteAt_get h0
  have := inB_byte (byteAt s 0) 65 73
  unfold isNm
  rw [h, hb]
  simpa using this.symm

set_option maxHeartbeats 400000 in
theorem l1Name_any (s : ByteArray) (w : World) :
    Calls Tryd.prog 57 #[.string s] w fun e w' => e = .returned (.bool (isNm s)) ∧ w = w' := by
  by_cases h : s.size = 1
  · have h0 : 0 < s.size := by omega
    have hB : (s[0].toNat : Int) ≤ 255 := by have := s[0].toNat_lt; omega
    go_enter Tryd.func57, Tryd.ntmps57
    go_wp2_with (go_at_call 59; refine (l1In_any _ _ _ _).mono ?_; rintro e w' ⟨rfl, rfl⟩)
    go_ret
    exact ⟨ret_bool (isNm_eq h h0).symm, rfl⟩
  · have hb : ((s.size : Int) == 1) = false := by rw [beq_eq_false_iff_ne]; omega
    have hf : isNm s = false := by unfold isNm; rw [show (s.size == 1) = false from by rw [beq_eq_false_iff_ne]; exact h]; rfl
    go_enter Tryd.func57, Tryd.ntmps57
    go_wp2_with (go_at_call 59; refine (l1In_any _ _ _ _).mono ?_; rintro e w' ⟨rfl, rfl⟩)
    go_ret
    exact ⟨ret_bool hf.symm, rfl⟩

theorem opB_eq (n : Nat) : opB n = (inB n 120 122 || inB n 88 90) := by
  have h1 := inB_byte n 120 122
  have h2 := inB_byte n 88 90
  simp only [Int.cast_ofNat_Int] at h1 h2
  unfold opB lowB upB
  rw [← h1, ← h2]
open Classical in
/-- 'opsOk' as a truth -/
noncomputable def opsB (s : ByteArray) : Bool := decide (opsOk s)
theorem opsB_no {s : ByteArray} {k : Nat} (hk : k < s.size) (h : opB (byteAt s k) = false) : opsB s = false := by
  simp only [opsB, decide_eq_false_iff_not]
  intro h'
  have := h'.2 k hk
  rw [h] at this; cases this
theorem opsB_end {s : ByteArray} (h : ∀ j, j < s.size → opB (byteAt s j) = true) : opsB s = decide ((s.size : Int) ≤ 6) := by
  by_cases h6 : s.size ≤ 6
  · rw [show decide ((s.size : Int) ≤ 6) = true from by simp; omega]
    simp only [opsB, decide_eq_true_eq]
    exact ⟨h6, h⟩
  · rw [show decide ((s.size : Int) ≤ 6) = false from by simp; omega]
    simp only [opsB, decide_eq_false_iff_not]
    exact fun h' => h6 h'.1

set_option maxHeartbeats 400000 in
theorem l1Ops_any (s : ByteArray) (w : World) (hs : s.size ≤ maxLen) :
    Calls Tryd.prog 58 #[.string s] w fun e w' => e = .returned (.bool (opsB s)) ∧ w = w' := by
  unfold maxLen at hs
  go_enter Tryd.func58, Tryd.ntmps58
  go_wp2
  go_loop [6] (fun i => ∃ k : Nat, k ≤ s.size ∧ i = .int .i64 k ∧ ∀ j, j < k → opB (byteAt s j) = true) (fun i => s.size - (intOf i).toNat)
  case atStart => exact ⟨0, Nat.zero_le _, rfl, all_zero⟩
  case round =>
    obtain ⟨k, hk, rfl, hno⟩ := hrel
    have Hno := Lib.hid hno; clear hno
    by_cases hlt : k < s.size
    · have hB : (s[k].toNat : Int) ≤ 255 := by have := s[k].toNat_lt; omega
      have hop : opB (byteAt s k) = (inB (s[k].toNat : Int) 120 122 || inB (s[k].toNat : Int) 88 90) := by rw [← byteAt_get hlt]; exact opB_eq _
      have Hop := Lib.hid hop; clear hop
      by_cases h1 : inB (s[k].toNat : Int) 120 122 = true
      · have hyes : opB (byteAt s k) = true := by rw [Hop.out, h1]; rfl
        have Hyes := Lib.hid hyes; clear hyes
        go_wp2_with (go_at_call 59; refine (l1In_any _ _ _ _).mono ?_; rintro e w' ⟨rfl, rfl⟩)
        go_round
        case rel => exact ⟨k + 1, by omega, by go_num, all_step Hno.out Hyes.out⟩
        case measure => simp [intOf]; omega
      · have h1' : inB (s[k].toNat : Int) 120 122 = false := by simpa using h1
        clear h1
        by_cases h2 : inB (s[k].toNat : Int) 88 90 = true
        · have hyes : opB (byteAt s k) = true := by rw [Hop.out, h2]; simp
          have Hyes := Lib.hid hyes; clear hyes
          go_wp2_with (go_at_call 59; refine (l1In_any _ _ _ _).mono ?_; rintro e w' ⟨rfl, rfl⟩)
          go_round
          case rel => exact ⟨k + 1, by omega, by go_num, all_step Hno.out Hyes.out⟩
          case measure => simp [intOf]; omega
        · have h2' : inB (s[k].toNat : Int) 88 90 = false := by simpa using h2
          clear h2
          have hyes : opB (byteAt s k) = false := by rw [Hop.out, h1', h2']; rfl
          have Hyes := Lib.hid hyes; clear hyes
          go_wp2_with (go_at_call 59; refine (l1In_any _ _ _ _).mono ?_; rintro e w' ⟨rfl, rfl⟩)
          go_ret
          exact ⟨ret_bool (opsB_no hlt Hyes.out).symm, rfl⟩
    · go_wp2
      go_ret
      exact ⟨ret_bool (opsB_end fun j hj => Hno.out j (by omega)).symm, rfl⟩

set_option maxHeartbeats 400000 in
theorem l1Find_any (name : ByteArray) (w : World) (l : List Pr) (a : Option Addr) (cap : Nat) (ve : Value) (hp : PairsAt w a l) :
    Calls Tryd.prog 40 #[.agg #[.slice a l.length cap, ve], .string name] w fun e w' => e = .returned (.int .i64 (fnd l name)) ∧ Below w.heap.size w w' := by
  have hl := hp.len
  go_enter Tryd.func40, Tryd.ntmps40
  go_wp2
  go_loopw [10] (fun i wr => ∃ k : Nat, k ≤ l.length ∧ i = .int .i64 k ∧ Below w.heap.size w wr ∧ w.heap.size < wr.heap.size ∧ ∀ j, j < k → nameAt l j ≠ name) (fun i _ => l.length - (intOf i).toNat)
  case atStart => exact ⟨0, Nat.zero_le _, rfl, (Below.refl _ _).alloc (Nat.le_refl _) _, by simp, all_zero⟩
  case round =>
    obtain ⟨k, hk, rfl, hbl, hsz, hno⟩ := hrel
    have Hno := Lib.hid hno; clear hno
    by_cases hlt : k < l.length
    · obtain ⟨b, off, rfl, hb, h1, h2⟩ := hp.cell k hlt
      have c1 := (hbl.cell (p := ⟨b, off + k * 2, none⟩) hb).trans h1
      have c2 := (hbl.cell (p := ⟨b, off + k * 2 + 1, none⟩) hb).trans h2
      clear h1 h2
      go_wp2
      · have ht : ((nameAt l k).toList == name.toList) = true := by assumption
        go_ret
        exact ⟨ret_int (fnd_hit hlt (toList_eq_true ht) Hno.out).symm, hbl.alloc (by omega) _⟩
      · have ht : ((nameAt l k).toList == name.toList) = false := by assumption
        go_roundw
        case rel => exact ⟨k + 1, by omega, by go_num, hbl.alloc (by omega) _, by simp; omega, all_step Hno.out (toList_eq_false ht)⟩
        case measure => simp [intOf]; omega
    · go_wp2
      go_ret
      exact ⟨ret_int (fnd_none fun j hj => Hno.out j (by omega)).symm, hbl⟩

set_option maxHeartbeats 400000 in
theorem l1Edge_any (from_ to_ : ByteArray) (w : World) (l : List Pr) (a : Option Addr) (cap : Nat) (vb : Value) (hp : PairsAt w a l) :
    Calls Tryd.prog 41 #[.agg #[vb, .slice a l.length cap], .string from_, .string to_] w fun e w' => e = .returned (.int .i64 (fndE l (from_, to_))) ∧ Below w.heap.size w w' := by
  have hl := hp.len
  go_enter Tryd.func41, Tryd.ntmps41
  go_wp2
  go_loopw [12] (fun i wr => ∃ k : Nat, k ≤ l.length ∧ i = .int .i64 k ∧ Below w.heap.size w wr ∧ w.heap.size < wr.heap.size ∧ ∀ j, j < k → (nameAt l j, restAt l j) ≠ (from_, to_)) (fun i _ => l.length - (intOf i).toNat)
  case atStart => exact ⟨0, Nat.zero_le _, rfl, (Below.refl _ _).alloc (Nat.le_refl _) _, by simp, all_zero⟩
  case round =>
    obtain ⟨k, hk, rfl, hbl, hsz, hno⟩ := hrel
    have Hno := Lib.hid hno; clear hno
    by_cases hlt : k < l.length
    · obtain ⟨b, off, rfl, hb, h1, h2⟩ := hp.cell k hlt
      have c1 := (hbl.cell (p := ⟨b, off + k * 2, none⟩) hb).trans h1
      have c2 := (hbl.cell (p := ⟨b, off + k * 2 + 1, none⟩) hb).trans h2
      clear h1 h2
      by_cases e1 : nameAt l k = from_
      · have t1 : ((nameAt l k).toList == from_.toList) = true := by rw [toList_eq_iff]; simpa using e1
        by_cases e2 : restAt l k = to_
        · have t2 : ((restAt l k).toList == to_.toList) = true := by rw [toList_eq_iff]; simpa using e2
          have E := Lib.hid (And.intro e1 e2); clear e1 e2
          go_wp2
          go_ret
          exact ⟨ret_int (fndE_hit hlt (by rw [E.out.1, E.out.2]) Hno.out).symm, hbl.alloc (by omega) _⟩
        · have t2 : ((restAt l k).toList == to_.toList) = false := by rw [toList_eq_iff]; simpa using e2
          have E := Lib.hid e2; clear e1 e2
          go_wp2
          go_roundw
          case rel => exact ⟨k + 1, by omega, by go_num, hbl.alloc (by omega) _, by simp; omega, all_step Hno.out (fun e => E.out (congrArg Prod.snd e))⟩
          case measure => simp [intOf]; omega
      · have t1 : ((nameAt l k).toList == from_.toList) = false := by rw [toList_eq_iff]; simpa using e1
        have E := Lib.hid e1; clear e1
        go_wp2
        go_roundw
        case rel => exact ⟨k + 1, by omega, by go_num, hbl.alloc (by omega) _, by simp; omega, all_step Hno.out (fun e => E.out (congrArg Prod.fst e))⟩
        case measure => simp [intOf]; omega
    · go_wp2
      go_ret
      exact ⟨ret_int (fndE_none fun j hj => Hno.out j (by omega)).symm, hbl⟩
end Go.Proofs.YtfmhcjhcmoniaaaDoor
