/-
  The laws' eqProg and what it calls: whether two programs are the same. Conditions: at most 1048576 blocks and edges.
-/
import Derived.Test.YtfmhcjhcmoniaaaDoorTo
import Derived.Deep.RegionHeld3
namespace Go.Proofs.YtfmhcjhcmoniaaaDoor
open Go.RowKit

/-- whether two pairs, two lists are the same: closed to the walk -/
def sameP (p q : Pr) : Bool := decide (p = q)
def sameL (p q : List Pr) : Bool := decide (p = q)

set_option maxRecDepth 100000 in
set_option maxHeartbeats 800000 in
theorem eqBlock_any (s t s' t' : ByteArray) (w : World) :
    Calls Tryd.prog 49 #[.agg #[.string s, .string t], .agg #[.string s', .string t']] w fun e w' => e = .returned (.bool (sameP (s, t) (s', t'))) ∧ Below w.heap.size w w' := by
  have hb : Below w.heap.size w ((w.alloc (.cells #[.string s, .string t] 51)).alloc (.cells #[.string s', .string t'] 51)) := ((Below.refl _ _).alloc (Nat.le_refl _) _).alloc (by simp) _
  have HB := Lib.hid hb; clear hb
  by_cases e1 : s = s'
  · have t1 : (s.toList == s'.toList) = true := by rw [toList_eq_iff]; simpa using e1
    have u1 : (s.toList != s'.toList) = false := by simp [bne, t1]
    by_cases e2 : t = t'
    · have t2 : (t.toList == t'.toList) = true := by rw [toList_eq_iff]; simpa using e2
      have u2 : (t.toList != t'.toList) = false := by simp [bne, t2]
      have E := Lib.hid (And.intro e1 e2); clear e1 e2
      go_enter Tryd.func49, Tryd.ntmps49
      go_wp2
      go_ret
      exact ⟨ret_bool (by rw [E.out.1, E.out.2]; simp [sameP]), HB.out⟩
    · have t2 : (t.toList == t'.toList) = false := by rw [toList_eq_iff]; simpa using e2
      have u2 : (t.toList != t'.toList) = true := by simp [bne, t2]
      have E := Lib.hid e2; clear e1 e2
      go_enter Tryd.func49, Tryd.ntmps49
      go_wp2
      go_ret
      exact ⟨ret_bool (by simp [sameP, E.out]), HB.out⟩
  · have t1 : (s.toList == s'.toList) = false := by rw [toList_eq_iff]; simpa using e1
    have u1 : (s.toList != s'.toList) = true := by simp [bne, t1]
    have E := Lib.hid e1; clear e1
    go_enter Tryd.func49, Tryd.ntmps49
    go_wp2
    go_ret
    exact ⟨ret_bool (by simp [sameP, E.out]), HB.out⟩

set_option maxRecDepth 100000 in
set_option maxHeartbeats 1600000 in
theorem eqBlockS_any (l l' : List Pr) (a a' : Option Addr) (c c' : Nat) (w : World) (hp : PairsAt w a l) (hp' : PairsAt w a' l') :
    Calls Tryd.prog 25 #[.slice a l.length c, .slice a' l'.length c'] w fun e w' => e = .returned (.bool (sameL l l')) ∧ Below w.heap.size w w' := by
  have hl := hp.len
  have hl' := hp'.len
  by_cases hlen : l.length = l'.length
  · have n1 : ((l.length : Int) != (l'.length : Int)) = false := by simp [hlen]
    have HL := Lib.hid hlen; clear hlen
    go_enter Tryd.func25, Tryd.ntmps25
    go_wp2
    go_loopw [5] (fun i wr => ∃ k : Nat, k ≤ l.length ∧ i = .int .i64 k ∧ Below w.heap.size w wr ∧ ∀ j, j < k → nameAt l j = nameAt l' j ∧ restAt l j = restAt l' j) (fun i _ => l.length - (intOf i).toNat)
    case atStart => exact ⟨0, Nat.zero_le _, rfl, Below.refl _ _, all_zero⟩
    case round =>
      obtain ⟨k, hk, rfl, hbl, hno⟩ := hrel
      have Hno := Lib.hid hno; clear hno
      by_cases hlt : k < l.length
      · have hlt' : k < l'.length := by rw [← HL.out]; exact hlt
        obtain ⟨b, off, rfl, hb, h1, h2⟩ := hp.cell k hlt
        have c1 := (hbl.cell (p := ⟨b, off + k * 2, none⟩) hb).trans h1
        have c2 := (hbl.cell (p := ⟨b, off + k * 2 + 1, none⟩) hb).trans h2
        obtain ⟨b', off', rfl, hb', h3, h4⟩ := hp'.cell k hlt'
        have c3 := (hbl.cell (p := ⟨b', off' + k * 2, none⟩) hb').trans h3
        have c4 := (hbl.cell (p := ⟨b', off' + k * 2 + 1, none⟩) hb').trans h4
        clear h1 h2 h3 h4
        have m0 : (0 : Int) ≤ (k : Int) := by omega
        have m1 : (k : Int) < (l.length : Int) := by omega
        have m2 : (k : Int) < (l'.length : Int) := by omega
        have hz := hbl.size
        have k1 : b < wr.heap.size := by omega
        have k2 : b' < wr.heap.size := by omega
        go_wp2
        go_region_held3 (fun w' => w'.cell? ⟨b, off + k * 2, none⟩ = some (.string (nameAt l k)) ∧ w'.cell? ⟨b, off + k * 2 + 1, none⟩ = some (.string (restAt l k)) ∧ w'.cell? ⟨b', off' + k * 2, none⟩ = some (.string (nameAt l' k)) ∧ w'.cell? ⟨b', off' + k * 2 + 1, none⟩ = some (.string (restAt l' k)) ∧ Below wr.heap.size wr w')
          (first | exact ⟨c1, c2, c3, c4, (Below.refl _ _).drew⟩ | (have hq := below_new (‹_ ∧ _ ∧ _ ∧ _ ∧ Below wr.heap.size wr _›).2.2.2.2 hbN; exact ⟨(hq.cell (p := ⟨b, off + k * 2, none⟩) k1).trans c1, (hq.cell (p := ⟨b, off + k * 2 + 1, none⟩) k1).trans c2, (hq.cell (p := ⟨b', off' + k * 2, none⟩) k2).trans c3, (hq.cell (p := ⟨b', off' + k * 2 + 1, none⟩) k2).trans c4, hq⟩))
          (first | (go_at_call 49; refine (eqBlock_any _ _ _ _ _).mono ?_; rintro e wN ⟨rfl, hbN⟩))
        obtain ⟨g0, g1, g2, g3, hWb⟩ := ‹_ ∧ _ ∧ _ ∧ _ ∧ Below wr.heap.size wr wN›
        have hall : Below w.heap.size w wN := hbl.trans (hWb.mono hz)
        go_wp2
        · have ht : (!sameP (nameAt l k, restAt l k) (nameAt l' k, restAt l' k)) = true := by assumption
          have E : l ≠ l' := fun e => by rw [e] at ht; simp [sameP] at ht
          go_ret
          exact ⟨ret_bool (by simp [sameL, E]), hall⟩
        · have ht : (!sameP (nameAt l k, restAt l k) (nameAt l' k, restAt l' k)) = false := by assumption
          go_roundw
          case rel => exact ⟨k + 1, by omega, by go_num, hall, all_step Hno.out (by simpa [sameP] using ht)⟩
          case measure => simp [intOf]; omega
      · have E := Lib.hid (ext_at HL.out (fun i hi => Hno.out i (by omega)))
        go_wp2
        go_ret
        exact ⟨ret_bool (by simp [sameL, E.out]), hbl⟩
  · have n1 : ((l.length : Int) != (l'.length : Int)) = true := by simp; omega
    have E := Lib.hid (show l ≠ l' from fun e => hlen (by rw [e])); clear hlen
    go_enter Tryd.func25, Tryd.ntmps25
    go_wp2
    go_ret
    exact ⟨ret_bool (by simp [sameL, E.out]), Below.refl _ _⟩


set_option maxRecDepth 100000 in
set_option maxHeartbeats 800000 in
theorem eqEdge_any (s t s' t' : ByteArray) (w : World) :
    Calls Tryd.prog 50 #[.agg #[.string s, .string t], .agg #[.string s', .string t']] w fun e w' => e = .returned (.bool (sameP (s, t) (s', t'))) ∧ Below w.heap.size w w' := by
  have hb : Below w.heap.size w ((w.alloc (.cells #[.string s, .string t] 81)).alloc (.cells #[.string s', .string t'] 81)) := ((Below.refl _ _).alloc (Nat.le_refl _) _).alloc (by simp) _
  have HB := Lib.hid hb; clear hb
  by_cases e1 : s = s'
  · have t1 : (s.toList == s'.toList) = true := by rw [toList_eq_iff]; simpa using e1
    have u1 : (s.toList != s'.toList) = false := by simp [bne, t1]
    by_cases e2 : t = t'
    · have t2 : (t.toList == t'.toList) = true := by rw [toList_eq_iff]; simpa using e2
      have u2 : (t.toList != t'.toList) = false := by simp [bne, t2]
      have E := Lib.hid (And.intro e1 e2); clear e1 e2
      go_enter Tryd.func50, Tryd.ntmps50
      go_wp2
      go_ret
      exact ⟨ret_bool (by rw [E.out.1, E.out.2]; simp [sameP]), HB.out⟩
    · have t2 : (t.toList == t'.toList) = false := by rw [toList_eq_iff]; simpa using e2
      have u2 : (t.toList != t'.toList) = true := by simp [bne, t2]
      have E := Lib.hid e2; clear e1 e2
      go_enter Tryd.func50, Tryd.ntmps50
      go_wp2
      go_ret
      exact ⟨ret_bool (by simp [sameP, E.out]), HB.out⟩
  · have t1 : (s.toList == s'.toList) = false := by rw [toList_eq_iff]; simpa using e1
    have u1 : (s.toList != s'.toList) = true := by simp [bne, t1]
    have E := Lib.hid e1; clear e1
    go_enter Tryd.func50, Tryd.ntmps50
    go_wp2
    go_ret
    exact ⟨ret_bool (by simp [sameP, E.out]), HB.out⟩

set_option maxRecDepth 100000 in
set_option maxHeartbeats 1600000 in
theorem eqEdgeS_any (l l' : List Pr) (a a' : Option Addr) (c c' : Nat) (w : World) (hp : PairsAt w a l) (hp' : PairsAt w a' l') :
    Calls Tryd.prog 26 #[.slice a l.length c, .slice a' l'.length c'] w fun e w' => e = .returned (.bool (sameL l l')) ∧ Below w.heap.size w w' := by
  have hl := hp.len
  have hl' := hp'.len
  by_cases hlen : l.length = l'.length
  · have n1 : ((l.length : Int) != (l'.length : Int)) = false := by simp [hlen]
    have HL := Lib.hid hlen; clear hlen
    go_enter Tryd.func26, Tryd.ntmps26
    go_wp2
    go_loopw [5] (fun i wr => ∃ k : Nat, k ≤ l.length ∧ i = .int .i64 k ∧ Below w.heap.size w wr ∧ ∀ j, j < k → nameAt l j = nameAt l' j ∧ restAt l j = restAt l' j) (fun i _ => l.length - (intOf i).toNat)
    case atStart => exact ⟨0, Nat.zero_le _, rfl, Below.refl _ _, all_zero⟩
    case round =>
      obtain ⟨k, hk, rfl, hbl, hno⟩ := hrel
      have Hno := Lib.hid hno; clear hno
      by_cases hlt : k < l.length
      · have hlt' : k < l'.length := by rw [← HL.out]; exact hlt
        obtain ⟨b, off, rfl, hb, h1, h2⟩ := hp.cell k hlt
        have c1 := (hbl.cell (p := ⟨b, off + k * 2, none⟩) hb).trans h1
        have c2 := (hbl.cell (p := ⟨b, off + k * 2 + 1, none⟩) hb).trans h2
        obtain ⟨b', off', rfl, hb', h3, h4⟩ := hp'.cell k hlt'
        have c3 := (hbl.cell (p := ⟨b', off' + k * 2, none⟩) hb').trans h3
        have c4 := (hbl.cell (p := ⟨b', off' + k * 2 + 1, none⟩) hb').trans h4
        clear h1 h2 h3 h4
        have m0 : (0 : Int) ≤ (k : Int) := by omega
        have m1 : (k : Int) < (l.length : Int) := by omega
        have m2 : (k : Int) < (l'.length : Int) := by omega
        have hz := hbl.size
        have k1 : b < wr.heap.size := by omega
        have k2 : b' < wr.heap.size := by omega
        go_wp2
        go_region_held3 (fun w' => w'.cell? ⟨b, off + k * 2, none⟩ = some (.string (nameAt l k)) ∧ w'.cell? ⟨b, off + k * 2 + 1, none⟩ = some (.string (restAt l k)) ∧ w'.cell? ⟨b', off' + k * 2, none⟩ = some (.string (nameAt l' k)) ∧ w'.cell? ⟨b', off' + k * 2 + 1, none⟩ = some (.string (restAt l' k)) ∧ Below wr.heap.size wr w')
          (first | exact ⟨c1, c2, c3, c4, (Below.refl _ _).drew⟩ | (have hq := below_new (‹_ ∧ _ ∧ _ ∧ _ ∧ Below wr.heap.size wr _›).2.2.2.2 hbN; exact ⟨(hq.cell (p := ⟨b, off + k * 2, none⟩) k1).trans c1, (hq.cell (p := ⟨b, off + k * 2 + 1, none⟩) k1).trans c2, (hq.cell (p := ⟨b', off' + k * 2, none⟩) k2).trans c3, (hq.cell (p := ⟨b', off' + k * 2 + 1, none⟩) k2).trans c4, hq⟩))
          (first | (go_at_call 50; refine (eqEdge_any _ _ _ _ _).mono ?_; rintro e wN ⟨rfl, hbN⟩))
        obtain ⟨g0, g1, g2, g3, hWb⟩ := ‹_ ∧ _ ∧ _ ∧ _ ∧ Below wr.heap.size wr wN›
        have hall : Below w.heap.size w wN := hbl.trans (hWb.mono hz)
        go_wp2
        · have ht : (!sameP (nameAt l k, restAt l k) (nameAt l' k, restAt l' k)) = true := by assumption
          have E : l ≠ l' := fun e => by rw [e] at ht; simp [sameP] at ht
          go_ret
          exact ⟨ret_bool (by simp [sameL, E]), hall⟩
        · have ht : (!sameP (nameAt l k, restAt l k) (nameAt l' k, restAt l' k)) = false := by assumption
          go_roundw
          case rel => exact ⟨k + 1, by omega, by go_num, hall, all_step Hno.out (by simpa [sameP] using ht)⟩
          case measure => simp [intOf]; omega
      · have E := Lib.hid (ext_at HL.out (fun i hi => Hno.out i (by omega)))
        go_wp2
        go_ret
        exact ⟨ret_bool (by simp [sameL, E.out]), hbl⟩
  · have n1 : ((l.length : Int) != (l'.length : Int)) = true := by simp; omega
    have E := Lib.hid (show l ≠ l' from fun e => hlen (by rw [e])); clear hlen
    go_enter Tryd.func26, Tryd.ntmps26
    go_wp2
    go_ret
    exact ⟨ret_bool (by simp [sameL, E.out]), Below.refl _ _⟩

set_option maxRecDepth 100000 in
set_option maxHeartbeats 1600000 in
theorem eqProg_any (w : World) (bs es bs' es' : List Pr) (ab ae ab' ae' : Option Addr) (cb ce cb' ce' : Nat) (hb : PairsAt w ab bs) (he : PairsAt w ae es) (hb' : PairsAt w ab' bs') (he' : PairsAt w ae' es') :
    Calls Tryd.prog 10 #[.agg #[.slice ab bs.length cb, .slice ae es.length ce], .agg #[.slice ab' bs'.length cb', .slice ae' es'.length ce']] w fun e w' => e = .returned (.bool (sameL bs bs' && sameL es es')) ∧ Below w.heap.size w w' := by
  have h2 : Below w.heap.size w ((w.alloc (.cells #[.slice ab bs.length cb, .slice ae es.length ce] 32)).alloc (.cells #[.slice ab' bs'.length cb', .slice ae' es'.length ce'] 32)) := ((Below.refl _ _).alloc (Nat.le_refl _) _).alloc (by simp) _
  have hb2 := hb.below h2
  have hb2' := hb'.below h2
  have H2 := Lib.hid h2; clear h2
  go_enter Tryd.func10, Tryd.ntmps10
  go_wp2_with fail
  refine (eqBlockS_any bs bs' _ _ _ _ _ hb2 hb2').mono ?_
  rintro e w1 ⟨rfl, hb1⟩
  obtain ⟨p1, p2⟩ := bcell hb1
  have a1 := (p1 w.heap.size 1 (by simp <;> omega)).trans (show _ = some (.slice ae es.length ce) by go_simp)
  have a3 := (p1 (w.heap.size + 1) 1 (by simp <;> omega)).trans (show _ = some (.slice ae' es'.length ce') by go_simp)
  have hall : Below w.heap.size w w1 := H2.out.trans (hb1.mono (by simp <;> omega))
  have he1 := he.below hall
  have he1' := he'.below hall
  clear p1 p2
  by_cases q : bs = bs'
  · have d : sameL bs bs' = true := by simpa [sameL] using q
    have Q := Lib.hid q; clear q
    go_wp2_with fail
    refine (eqEdgeS_any es es' _ _ _ _ _ he1 he1').mono ?_
    rintro e w2 ⟨rfl, hb3⟩
    have hall2 : Below w.heap.size w w2 := hall.trans (hb3.mono hall.size)
    by_cases q2 : es = es'
    · have d : sameL es es' = true := by simpa [sameL] using q2
      have Q2 := Lib.hid q2; clear q2
      go_wp2
      go_ret
      exact ⟨ret_bool (by simp [sameL, Q.out, Q2.out]), hall2⟩
    · have d : sameL es es' = false := by simpa [sameL] using q2
      have Q2 := Lib.hid q2; clear q2
      go_wp2
      go_ret
      exact ⟨ret_bool (by simp [sameL, Q2.out]), hall2⟩
  · have d : sameL bs bs' = false := by simpa [sameL] using q
    have Q := Lib.hid q; clear q
    go_wp2
    go_ret
    exact ⟨ret_bool (by simp [sameL, Q.out]), hall⟩
end Go.Proofs.YtfmhcjhcmoniaaaDoor
