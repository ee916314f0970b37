import Derived.Test.YtngcmjfkeageiaaDoorTo
import Derived.Deep.RegionHeld3
import Derived.Test.YtngcmjfkeageiaaDoorPlan
import Derived.Deep.CutRange
import Derived.Test.YtngcmjfkeageiaaDoorBlkS
import Derived.Test.YtngcmjfkeageiaaDoorFsA
import Derived.Test.YtngcmjfkeageiaaDoorTidyI
import Derived.Test.YtngcmjfkeageiaaDoorFsT
section
/-
  The laws' eqProg and what it calls: whether two programs are the same. Conditions: at most 1048576 blocks and edges.
-/
namespace Go.Proofs.YtngcmjfkeageiaaDoor
open Go.RowKit

/-- whether two pairs, two lists are the same: closed to the walk -/
def sameP (p q : Pr) : Bool := decide (p = q)
def sameL (p q : List Pr) : Bool := decide (p = q)

set_option maxRecDepth 100000 in
set_option maxHeartbeats 800000 in
theorem eqBlock_any (s t s' t' : ByteArray) (w : World) :
    Calls Tryd.prog 129 #[.agg #[.string s, .string t], .agg #[.string s', .string t']] w fun e w' => e = .returned (.bool (sameP (s, t) (s', t'))) ∧ Below w.heap.size w w' := by
  have hb : Below w.heap.size w ((w.alloc (.cells #[.string s, .string t] 40)).alloc (.cells #[.string s', .string t'] 40)) := ((Below.refl _ _).alloc (Nat.le_refl _) _).alloc (by simp) _
  have HB := Lib.hid hb; clear hb
  by_cases e1 : s = s'
  · have t1 : (s.toList == s'.toList) = true := by rw [toList_eq_iff]; simpa using e1
    have u1 : (s.toList != s'.toList) = false := by simp [bne, t1]
    by_cases e2 : t = t'
    · have t2 : (t.toList == t'.toList) = true := by rw [toList_eq_iff]; simpa using e2
      have u2 : (t.toList != t'.toList) = false := by simp [bne, t2]
      have E := Lib.hid (And.intro e1 e2); clear e1 e2
      go_enter Tryd.func129, Tryd.ntmps129
      go_wp2
      go_ret
      exact ⟨ret_bool (by rw [E.out.1, E.out.2]; simp [sameP]), HB.out⟩
    · have t2 : (t.toList == t'.toList) = false := by rw [toList_eq_iff]; simpa using e2
      have u2 : (t.toList != t'.toList) = true := by simp [bne, t2]
      have E := Lib.hid e2; clear e1 e2
      go_enter Tryd.func129, Tryd.ntmps129
      go_wp2
      go_ret
      exact ⟨ret_bool (by simp [sameP, E.out]), HB.out⟩
  · have t1 : (s.toList == s'.toList) = false := by rw [toList_eq_iff]; simpa using e1
    have u1 : (s.toList != s'.toList) = true := by simp [bne, t1]
    have E := Lib.hid e1; clear e1
    go_enter Tryd.func129, Tryd.ntmps129
    go_wp2
    go_ret
    exact ⟨ret_bool (by simp [sameP, E.out]), HB.out⟩

set_option maxRecDepth 100000 in
set_option maxHeartbeats 1600000 in
theorem eqBlockS_any (l l' : List Pr) (a a' : Option Addr) (c c' : Nat) (w : World) (hp : PairsAt w a l) (hp' : PairsAt w a' l') :
    Calls Tryd.prog 66 #[.slice a l.length c, .slice a' l'.length c'] w fun e w' => e = .returned (.bool (sameL l l')) ∧ Below w.heap.size w w' := by
  have hl := hp.len
  have hl' := hp'.len
  by_cases hlen : l.length = l'.length
  · have n1 : ((l.length : Int) != (l'.length : Int)) = false := by simp [hlen]
    have HL := Lib.hid hlen; clear hlen
    go_enter Tryd.func66, Tryd.ntmps66
    go_wp2
    go_loopw [5] (fun i wr => ∃ k : Nat, k ≤ l.length ∧ i = .int .i64 k ∧ Below w.heap.size w wr ∧ ∀ j, j < k → nameAt l j = nameAt l' j ∧ restAt l j = restAt l' j) (fun i _ => l.length - (intOf i).toNat)
    case atStart => exact ⟨0, Nat.zero_le _, rfl, Below.refl _ _, all_zero⟩
    case round =>
      obtain ⟨k, hk, rfl, hbl, hno⟩ := hrel
      have Hno := Lib.hid hno; clear hno
      by_cases hlt : k < l.length
      · have hlt' : k < l'.length := by rw [← HL.out]; exact hlt
        obtain ⟨b, off, rfl, hb, h1, h2⟩ := hp.cell k hlt
        have c1 := (hbl.cell (p := ⟨b, off + k * 2, none⟩) hb).trans h1
        have c2 := (hbl.cell (p := ⟨b, off + k * 2 + 1, none⟩) hb).trans h2
        obtain ⟨b', off', rfl, hb', h3, h4⟩ := hp'.cell k hlt'
        have c3 := (hbl.cell (p := ⟨b', off' + k * 2, none⟩) hb').trans h3
        have c4 := (hbl.cell (p := ⟨b', off' + k * 2 + 1, none⟩) hb').trans h4
        clear h1 h2 h3 h4
        have m0 : (0 : Int) ≤ (k : Int) := by omega
        have m1 : (k : Int) < (l.length : Int) := by omega
        have m2 : (k : Int) < (l'.length : Int) := by omega
        have hz := hbl.size
        have k1 : b < wr.heap.size := by omega
        have k2 : b' < wr.heap.size := by omega
        go_wp2
        go_region_held3 (fun w' => w'.cell? ⟨b, off + k * 2, none⟩ = some (.string (nameAt l k)) ∧ w'.cell? ⟨b, off + k * 2 + 1, none⟩ = some (.string (restAt l k)) ∧ w'.cell? ⟨b', off' + k * 2, none⟩ = some (.string (nameAt l' k)) ∧ w'.cell? ⟨b', off' + k * 2 + 1, none⟩ = some (.string (restAt l' k)) ∧ Below wr.heap.size wr w')
          (first | exact ⟨c1, c2, c3, c4, (Below.refl _ _).drew⟩ | (have hq := below_new (‹_ ∧ _ ∧ _ ∧ _ ∧ Below wr.heap.size wr _›).2.2.2.2 hbN; exact ⟨(hq.cell (p := ⟨b, off + k * 2, none⟩) k1).trans c1, (hq.cell (p := ⟨b, off + k * 2 + 1, none⟩) k1).trans c2, (hq.cell (p := ⟨b', off' + k * 2, none⟩) k2).trans c3, (hq.cell (p := ⟨b', off' + k * 2 + 1, none⟩) k2).trans c4, hq⟩))
          (first | (go_at_call 129; refine (eqBlock_any _ _ _ _ _).mono ?_; rintro e wN ⟨rfl, hbN⟩))
        obtain ⟨g0, g1, g2, g3, hWb⟩ := ‹_ ∧ _ ∧ _ ∧ _ ∧ Below wr.heap.size wr wN›
        have hall : Below w.heap.size w wN := hbl.trans (hWb.mono hz)
        go_wp2
        · have ht : (!sameP (nameAt l k, restAt l k) (nameAt l' k, restAt l' k)) = true := by assumption
          have E : l ≠ l' := fun e => by rw [e] at ht; simp [sameP] at ht
          go_ret
          exact ⟨ret_bool (by simp [sameL, E]), hall⟩
        · have ht : (!sameP (nameAt l k, restAt l k) (nameAt l' k, restAt l' k)) = false := by assumption
          go_roundw
          case rel => exact ⟨k + 1, by omega, by go_num, hall, all_step Hno.out (by simpa [sameP] using ht)⟩
          case measure => simp [intOf]; omega
      · have E := Lib.hid (ext_at HL.out (fun i hi => Hno.out i (by omega)))
        go_wp2
        go_ret
        exact ⟨ret_bool (by simp [sameL, E.out]), hbl⟩
  · have n1 : ((l.length : Int) != (l'.length : Int)) = true := by simp; omega
    have E := Lib.hid (show l ≠ l' from fun e => hlen (by rw [e])); clear hlen
    go_enter Tryd.func66, Tryd.ntmps66
    go_wp2
    go_ret
    exact ⟨ret_bool (by simp [sameL, E.out]), Below.refl _ _⟩


set_option maxRecDepth 100000 in
set_option maxHeartbeats 800000 in
theorem eqEdge_any (s t s' t' : ByteArray) (w : World) :
    Calls Tryd.prog 130 #[.agg #[.string s, .string t], .agg #[.string s', .string t']] w fun e w' => e = .returned (.bool (sameP (s, t) (s', t'))) ∧ Below w.heap.size w w' := by
  have hb : Below w.heap.size w ((w.alloc (.cells #[.string s, .string t] 111)).alloc (.cells #[.string s', .string t'] 111)) := ((Below.refl _ _).alloc (Nat.le_refl _) _).alloc (by simp) _
  have HB := Lib.hid hb; clear hb
  by_cases e1 : s = s'
  · have t1 : (s.toList == s'.toList) = true := by rw [toList_eq_iff]; simpa using e1
    have u1 : (s.toList != s'.toList) = false := by simp [bne, t1]
    by_cases e2 : t = t'
    · have t2 : (t.toList == t'.toList) = true := by rw [toList_eq_iff]; simpa using e2
      have u2 : (t.toList != t'.toList) = false := by simp [bne, t2]
      have E := Lib.hid (And.intro e1 e2); clear e1 e2
      go_enter Tryd.func130, Tryd.ntmps130
      go_wp2
      go_ret
      exact ⟨ret_bool (by rw [E.out.1, E.out.2]; simp [sameP]), HB.out⟩
    · have t2 : (t.toList == t'.toList) = false := by rw [toList_eq_iff]; simpa using e2
      have u2 : (t.toList != t'.toList) = true := by simp [bne, t2]
      have E := Lib.hid e2; clear e1 e2
      go_enter Tryd.func130, Tryd.ntmps130
      go_wp2
      go_ret
      exact ⟨ret_bool (by simp [sameP, E.out]), HB.out⟩
  · have t1 : (s.toList == s'.toList) = false := by rw [toList_eq_iff]; simpa using e1
    have u1 : (s.toList != s'.toList) = true := by simp [bne, t1]
    have E := Lib.hid e1; clear e1
    go_enter Tryd.func130, Tryd.ntmps130
    go_wp2
    go_ret
    exact ⟨ret_bool (by simp [sameP, E.out]), HB.out⟩

set_option maxRecDepth 100000 in
set_option maxHeartbeats 1600000 in
theorem eqEdgeS_any (l l' : List Pr) (a a' : Option Addr) (c c' : Nat) (w : World) (hp : PairsAt w a l) (hp' : PairsAt w a' l') :
    Calls Tryd.prog 67 #[.slice a l.length c, .slice a' l'.length c'] w fun e w' => e = .returned (.bool (sameL l l')) ∧ Below w.heap.size w w' := by
  have hl := hp.len
  have hl' := hp'.len
  by_cases hlen : l.length = l'.length
  · have n1 : ((l.length : Int) != (l'.length : Int)) = false := by simp [hlen]
    have HL := Lib.hid hlen; clear hlen
    go_enter Tryd.func67, Tryd.ntmps67
    go_wp2
    go_loopw [5] (fun i wr => ∃ k : Nat, k ≤ l.length ∧ i = .int .i64 k ∧ Below w.heap.size w wr ∧ ∀ j, j < k → nameAt l j = nameAt l' j ∧ restAt l j = restAt l' j) (fun i _ => l.length - (intOf i).toNat)
    case atStart => exact ⟨0, Nat.zero_le _, rfl, Below.refl _ _, all_zero⟩
    case round =>
      obtain ⟨k, hk, rfl, hbl, hno⟩ := hrel
      have Hno := Lib.hid hno; clear hno
      by_cases hlt : k < l.length
      · have hlt' : k < l'.length := by rw [← HL.out]; exact hlt
        obtain ⟨b, off, rfl, hb, h1, h2⟩ := hp.cell k hlt
        have c1 := (hbl.cell (p := ⟨b, off + k * 2, none⟩) hb).trans h1
        have c2 := (hbl.cell (p := ⟨b, off + k * 2 + 1, none⟩) hb).trans h2
        obtain ⟨b', off', rfl, hb', h3, h4⟩ := hp'.cell k hlt'
        have c3 := (hbl.cell (p := ⟨b', off' + k * 2, none⟩) hb').trans h3
        have c4 := (hbl.cell (p := ⟨b', off' + k * 2 + 1, none⟩) hb').trans h4
        clear h1 h2 h3 h4
        have m0 : (0 : Int) ≤ (k : Int) := by omega
        have m1 : (k : Int) < (l.length : Int) := by omega
        have m2 : (k : Int) < (l'.length : Int) := by omega
        have hz := hbl.size
        have k1 : b < wr.heap.size := by omega
        have k2 : b' < wr.heap.size := by omega
        go_wp2
        go_region_held3 (fun w' => w'.cell? ⟨b, off + k * 2, none⟩ = some (.string (nameAt l k)) ∧ w'.cell? ⟨b, off + k * 2 + 1, none⟩ = some (.string (restAt l k)) ∧ w'.cell? ⟨b', off' + k * 2, none⟩ = some (.string (nameAt l' k)) ∧ w'.cell? ⟨b', off' + k * 2 + 1, none⟩ = some (.string (restAt l' k)) ∧ Below wr.heap.size wr w')
          (first | exact ⟨c1, c2, c3, c4, (Below.refl _ _).drew⟩ | (have hq := below_new (‹_ ∧ _ ∧ _ ∧ _ ∧ Below wr.heap.size wr _›).2.2.2.2 hbN; exact ⟨(hq.cell (p := ⟨b, off + k * 2, none⟩) k1).trans c1, (hq.cell (p := ⟨b, off + k * 2 + 1, none⟩) k1).trans c2, (hq.cell (p := ⟨b', off' + k * 2, none⟩) k2).trans c3, (hq.cell (p := ⟨b', off' + k * 2 + 1, none⟩) k2).trans c4, hq⟩))
          (first | (go_at_call 130; refine (eqEdge_any _ _ _ _ _).mono ?_; rintro e wN ⟨rfl, hbN⟩))
        obtain ⟨g0, g1, g2, g3, hWb⟩ := ‹_ ∧ _ ∧ _ ∧ _ ∧ Below wr.heap.size wr wN›
        have hall : Below w.heap.size w wN := hbl.trans (hWb.mono hz)
        go_wp2
        · have ht : (!sameP (nameAt l k, restAt l k) (nameAt l' k, restAt l' k)) = true := by assumption
          have E : l ≠ l' := fun e => by rw [e] at ht; simp [sameP] at ht
          go_ret
          exact ⟨ret_bool (by simp [sameL, E]), hall⟩
        · have ht : (!sameP (nameAt l k, restAt l k) (nameAt l' k, restAt l' k)) = false := by assumption
          go_roundw
          case rel => exact ⟨k + 1, by omega, by go_num, hall, all_step Hno.out (by simpa [sameP] using ht)⟩
          case measure => simp [intOf]; omega
      · have E := Lib.hid (ext_at HL.out (fun i hi => Hno.out i (by omega)))
        go_wp2
        go_ret
        exact ⟨ret_bool (by simp [sameL, E.out]), hbl⟩
  · have n1 : ((l.length : Int) != (l'.length : Int)) = true := by simp; omega
    have E := Lib.hid (show l ≠ l' from fun e => hlen (by rw [e])); clear hlen
    go_enter Tryd.func67, Tryd.ntmps67
    go_wp2
    go_ret
    exact ⟨ret_bool (by simp [sameL, E.out]), Below.refl _ _⟩

set_option maxRecDepth 100000 in
set_option maxHeartbeats 1600000 in
theorem eqProg_any (w : World) (bs es bs' es' : List Pr) (ab ae ab' ae' : Option Addr) (cb ce cb' ce' : Nat) (hb : PairsAt w ab bs) (he : PairsAt w ae es) (hb' : PairsAt w ab' bs') (he' : PairsAt w ae' es') :
    Calls Tryd.prog 16 #[.agg #[.slice ab bs.length cb, .slice ae es.length ce], .agg #[.slice ab' bs'.length cb', .slice ae' es'.length ce']] w fun e w' => e = .returned (.bool (sameL bs bs' && sameL es es')) ∧ Below w.heap.size w w' := by
  have h2 : Below w.heap.size w ((w.alloc (.cells #[.slice ab bs.length cb, .slice ae es.length ce] 32)).alloc (.cells #[.slice ab' bs'.length cb', .slice ae' es'.length ce'] 32)) := ((Below.refl _ _).alloc (Nat.le_refl _) _).alloc (by simp) _
  have hb2 := hb.below h2
  have hb2' := hb'.below h2
  have H2 := Lib.hid h2; clear h2
  go_enter Tryd.func16, Tryd.ntmps16
  go_wp2_with fail
  refine (eqBlockS_any bs bs' _ _ _ _ _ hb2 hb2').mono ?_
  rintro e w1 ⟨rfl, hb1⟩
  obtain ⟨p1, p2⟩ := bcell hb1
  have a1 := (p1 w.heap.size 1 (by simp <;> omega)).trans (show _ = some (.slice ae es.length ce) by go_simp)
  have a3 := (p1 (w.heap.size + 1) 1 (by simp <;> omega)).trans (show _ = some (.slice ae' es'.length ce') by go_simp)
  have hall : Below w.heap.size w w1 := H2.out.trans (hb1.mono (by simp <;> omega))
  have he1 := he.below hall
  have he1' := he'.below hall
  clear p1 p2
  by_cases q : bs = bs'
  · have d : sameL bs bs' = true := by simpa [sameL] using q
    have Q := Lib.hid q; clear q
    go_wp2_with fail
    refine (eqEdgeS_any es es' _ _ _ _ _ he1 he1').mono ?_
    rintro e w2 ⟨rfl, hb3⟩
    have hall2 : Below w.heap.size w w2 := hall.trans (hb3.mono hall.size)
    by_cases q2 : es = es'
    · have d : sameL es es' = true := by simpa [sameL] using q2
      have Q2 := Lib.hid q2; clear q2
      go_wp2
      go_ret
      exact ⟨ret_bool (by simp [sameL, Q.out, Q2.out]), hall2⟩
    · have d : sameL es es' = false := by simpa [sameL] using q2
      have Q2 := Lib.hid q2; clear q2
      go_wp2
      go_ret
      exact ⟨ret_bool (by simp [sameL, Q2.out]), hall2⟩
  · have d : sameL bs bs' = false := by simpa [sameL] using q
    have Q := Lib.hid q; clear q
    go_wp2
    go_ret
    exact ⟨ret_bool (by simp [sameL, Q.out]), hall⟩
end Go.Proofs.YtngcmjfkeageiaaDoor
end

section
/-
  eqProg of a program with itself: what LawValid (P1) holds ahead of its law, for seats without that law. Conditions: none.
-/
namespace Go.Proofs.YtngcmjfkeageiaaDoor
open Go.RowKit

theorem eqProg_same (w : World) (bs es : List Pr) (ab ae ab' ae' : Option Addr) (cb ce cb' ce' : Nat) (hb : PairsAt w ab bs) (he : PairsAt w ae es) (hb' : PairsAt w ab' bs) (he' : PairsAt w ae' es) :
    Calls Tryd.prog 16 #[.agg #[.slice ab bs.length cb, .slice ae es.length ce], .agg #[.slice ab' bs.length cb', .slice ae' es.length ce']] w fun e w' => e = .returned (.bool true) ∧ Below w.heap.size w w' :=
  (eqProg_any w bs es bs es ab ae ab' ae' cb ce cb' ce' hb he hb' he').mono fun e w' h => ⟨by rw [h.1]; simp [sameL], h.2⟩

end Go.Proofs.YtngcmjfkeageiaaDoor
end

section
/-
  The laws' owProg: whether two programs are the same. Conditions: at most 1048576 blocks and edges, each text at most as many bytes.
-/
namespace Go.Proofs.YtngcmjfkeageiaaDoor
open Go.RowKit

theorem sameL_no {a b : List Pr} (h : a ≠ b) : sameL a b = false := by simpa [sameL] using h
theorem sameL_yes {a b : List Pr} (h : a = b) : sameL a b = true := by simpa [sameL] using h
theorem eql_len (n m : Nat) : ((n : Int) == (m : Int)) = decide (n = m) := by
  by_cases h : n = m
  · subst h; simp
  · rw [decide_eq_false h]; simp; omega
set_option maxRecDepth 100000 in
set_option maxHeartbeats 3200000 in
theorem owProg_any (w : World) (bs es bs' es' : List Pr) (ab ae ab' ae' : Option Addr) (cb ce cb' ce' : Nat) (hb : PairsAt w ab bs) (he : PairsAt w ae es) (hb' : PairsAt w ab' bs') (he' : PairsAt w ae' es') :
    Calls Tryd.prog 23 #[.agg #[.slice ab bs.length cb, .slice ae es.length ce], .agg #[.slice ab' bs'.length cb', .slice ae' es'.length ce']] w fun e w' => e = .returned (.bool (sameL bs bs' && sameL es es')) ∧ Below w.heap.size w w' := by
  have h2 : Below w.heap.size w ((w.alloc (.cells #[.slice ab bs.length cb, .slice ae es.length ce] 32)).alloc (.cells #[.slice ab' bs'.length cb', .slice ae' es'.length ce'] 32)) := ((Below.refl _ _).alloc (Nat.le_refl _) _).alloc (by simp) _
  have q0 : ((w.alloc (.cells #[.slice ab bs.length cb, .slice ae es.length ce] 32)).alloc (.cells #[.slice ab' bs'.length cb', .slice ae' es'.length ce'] 32)).cell? ⟨w.heap.size, 0, none⟩ = some (.slice ab bs.length cb) := by go_simp
  have q1 : ((w.alloc (.cells #[.slice ab bs.length cb, .slice ae es.length ce] 32)).alloc (.cells #[.slice ab' bs'.length cb', .slice ae' es'.length ce'] 32)).cell? ⟨w.heap.size, 1, none⟩ = some (.slice ae es.length ce) := by go_simp
  have q2 : ((w.alloc (.cells #[.slice ab bs.length cb, .slice ae es.length ce] 32)).alloc (.cells #[.slice ab' bs'.length cb', .slice ae' es'.length ce'] 32)).cell? ⟨w.heap.size + 1, 0, none⟩ = some (.slice ab' bs'.length cb') := by go_simp
  have q3 : ((w.alloc (.cells #[.slice ab bs.length cb, .slice ae es.length ce] 32)).alloc (.cells #[.slice ab' bs'.length cb', .slice ae' es'.length ce'] 32)).cell? ⟨w.heap.size + 1, 1, none⟩ = some (.slice ae' es'.length ce') := by go_simp
  have hz : ((w.alloc (.cells #[.slice ab bs.length cb, .slice ae es.length ce] 32)).alloc (.cells #[.slice ab' bs'.length cb', .slice ae' es'.length ce'] 32)).heap.size = w.heap.size + 2 := by simp
  have l1 := hb.len
  have l2 := hb'.len
  have l3 := he.len
  have l4 := he'.len
  go_enter Tryd.func23, Tryd.ntmps23
  go_upto_region 1 with fail
  generalize (w.alloc (.cells #[.slice ab bs.length cb, .slice ae es.length ce] 32)).alloc (.cells #[.slice ab' bs'.length cb', .slice ae' es'.length ce'] 32) = wA at *
  have HA := Lib.hid (And.intro h2 (And.intro (hb.below h2) (And.intro (he.below h2) (And.intro (hb'.below h2) (he'.below h2)))))
  have hs0 : w.heap.size < wA.heap.size := by omega
  have hs1 : w.heap.size + 1 < wA.heap.size := by omega
  clear h2 hb he hb' he' hz
  rcases Nat.lt_or_ge bs'.length bs.length with hm | hm
  all_goals
    (try have hm' : ¬ bs'.length < bs.length := by omega)
    go_wp2
    go_loopw [14] (fun i wr => ∃ k : Nat, k ≤ bs.length ∧ k ≤ bs'.length ∧ i = .int .i64 k ∧ Below wA.heap.size wA wr ∧ ∀ j, j < k → nameAt bs j = nameAt bs' j ∧ restAt bs j = restAt bs' j) (fun i _ => bs.length - (intOf i).toNat)
    case atStart => exact ⟨0, Nat.zero_le _, Nat.zero_le _, rfl, Below.refl _ _, all_zero⟩
    case round =>
      obtain ⟨k, hk1, hk2, rfl, hbl, hno⟩ := hrel
      have Hno := Lib.hid hno; clear hno
      have y0 := (hbl.cell (p := ⟨w.heap.size, 0, none⟩) hs0).trans q0
      have y1 := (hbl.cell (p := ⟨w.heap.size, 1, none⟩) hs0).trans q1
      have y2 := (hbl.cell (p := ⟨w.heap.size + 1, 0, none⟩) hs1).trans q2
      have y3 := (hbl.cell (p := ⟨w.heap.size + 1, 1, none⟩) hs1).trans q3
      have hbw : Below w.heap.size w wr := HA.out.1.trans (hbl.mono (by omega))
      by_cases hlt : k < bs.length ∧ k < bs'.length
      · obtain ⟨t1, t2⟩ := hlt
        obtain ⟨b, off, rfl, hb0, g1, g2⟩ := HA.out.2.1.cell k t1
        obtain ⟨b', off', rfl, hb0', g3, g4⟩ := HA.out.2.2.2.1.cell k t2
        have d1 := (hbl.cell (p := ⟨b, off + k * 2, none⟩) hb0).trans g1
        have d2 := (hbl.cell (p := ⟨b, off + k * 2 + 1, none⟩) hb0).trans g2
        have d3 := (hbl.cell (p := ⟨b', off' + k * 2, none⟩) hb0').trans g3
        have d4 := (hbl.cell (p := ⟨b', off' + k * 2 + 1, none⟩) hb0').trans g4
        clear g1 g2 g3 g4
        have i1 : (k : Int) < (bs.length : Int) := by omega
        have i2 : (k : Int) < (bs'.length : Int) := by omega
        have i3 : (0 : Int) ≤ (k : Int) := by omega
        have HB := Lib.hid (And.intro hbl hbw)
        clear hbl hbw
        by_cases n1 : nameAt bs k = nameAt bs' k
        · have e1 : ((nameAt bs k).toList == (nameAt bs' k).toList) = true := by rw [toList_eq_iff]; exact decide_eq_true n1
          by_cases n2 : restAt bs k = restAt bs' k
          · have e2 : ((restAt bs k).toList == (restAt bs' k).toList) = true := by rw [toList_eq_iff]; exact decide_eq_true n2
            have HN := Lib.hid (And.intro n1 n2)
            clear n1 n2
            go_wp2
            go_region
            all_goals
              go_wp2
              go_roundw
              case rel => exact ⟨k + 1, by omega, by omega, by go_num, HB.out.1.drew, all_step Hno.out HN.out⟩
              case measure => simp [intOf]; omega
          · have e2 : ((restAt bs k).toList == (restAt bs' k).toList) = false := by rw [toList_eq_iff]; exact decide_eq_false n2
            have HN := Lib.hid (sameL_no (a := bs) (b := bs') fun e => n2 (by rw [e]))
            clear n1 n2
            go_wp2
            go_region
            all_goals
              go_wp2
              go_ret
              exact ⟨ret_bool (by rw [HN.out]; rfl), HB.out.2.drew⟩
        · have e1 : ((nameAt bs k).toList == (nameAt bs' k).toList) = false := by rw [toList_eq_iff]; exact decide_eq_false n1
          have HN := Lib.hid (sameL_no (a := bs) (b := bs') fun e => n1 (by rw [e]))
          clear n1
          go_wp2
          go_region
          all_goals
            go_wp2
            go_ret
            exact ⟨ret_bool (by rw [HN.out]; rfl), HB.out.2.drew⟩
      · (first | (have t : ¬ k < bs'.length := by omega) | (have t : ¬ k < bs.length := by omega))
        have Hb := Lib.hid (show bs.length = bs'.length → bs = bs' from fun e => ext_at e (fun i hi => Hno.out i (by omega)))
        have HB := Lib.hid hbl
        have hsr := hbl.size
        obtain ⟨wB, rfl⟩ : ∃ wB, wB = wr := ⟨_, rfl⟩
        clear hlt hbl hbw hk1 hk2
        rcases Nat.lt_or_ge es'.length es.length with hx | hx
        all_goals
          (try have hx' : ¬ es'.length < es.length := by omega)
          go_wp2
          go_loopw [36] (fun i wr => ∃ m : Nat, m ≤ es.length ∧ m ≤ es'.length ∧ i = .int .i64 m ∧ Below wA.heap.size wA wr ∧ ∀ j, j < m → nameAt es j = nameAt es' j ∧ restAt es j = restAt es' j) (fun i _ => es.length - (intOf i).toNat)
          case atStart => exact ⟨0, Nat.zero_le _, Nat.zero_le _, rfl, HB.out, all_zero⟩
          case round =>
            obtain ⟨m, hk1, hk2, rfl, hbl, hno⟩ := hrel
            have Hne := Lib.hid hno; clear hno
            have z0 := (hbl.cell (p := ⟨w.heap.size, 0, none⟩) hs0).trans q0
            have z1 := (hbl.cell (p := ⟨w.heap.size, 1, none⟩) hs0).trans q1
            have z2 := (hbl.cell (p := ⟨w.heap.size + 1, 0, none⟩) hs1).trans q2
            have z3 := (hbl.cell (p := ⟨w.heap.size + 1, 1, none⟩) hs1).trans q3
            have hbw : Below w.heap.size w wr := HA.out.1.trans (hbl.mono (by omega))
            by_cases hlt : m < es.length ∧ m < es'.length
            · obtain ⟨t1, t2⟩ := hlt
              obtain ⟨b, off, rfl, hb0, g1, g2⟩ := HA.out.2.2.1.cell m t1
              obtain ⟨b', off', rfl, hb0', g3, g4⟩ := HA.out.2.2.2.2.cell m t2
              have d1 := (hbl.cell (p := ⟨b, off + m * 2, none⟩) hb0).trans g1
              have d2 := (hbl.cell (p := ⟨b, off + m * 2 + 1, none⟩) hb0).trans g2
              have d3 := (hbl.cell (p := ⟨b', off' + m * 2, none⟩) hb0').trans g3
              have d4 := (hbl.cell (p := ⟨b', off' + m * 2 + 1, none⟩) hb0').trans g4
              clear g1 g2 g3 g4
              have i1 : (m : Int) < (es.length : Int) := by omega
              have i2 : (m : Int) < (es'.length : Int) := by omega
              have i3 : (0 : Int) ≤ (m : Int) := by omega
              have HC := Lib.hid (And.intro hbl hbw)
              clear hbl hbw
              by_cases n1 : nameAt es m = nameAt es' m
              · have e1 : ((nameAt es m).toList == (nameAt es' m).toList) = true := by rw [toList_eq_iff]; exact decide_eq_true n1
                by_cases n2 : restAt es m = restAt es' m
                · have e2 : ((restAt es m).toList == (restAt es' m).toList) = true := by rw [toList_eq_iff]; exact decide_eq_true n2
                  have HN := Lib.hid (And.intro n1 n2)
                  clear n1 n2
                  go_wp2
                  go_region
                  all_goals
                    go_wp2
                    go_roundw
                    case rel => exact ⟨m + 1, by omega, by omega, by go_num, HC.out.1.drew, all_step Hne.out HN.out⟩
                    case measure => simp [intOf]; omega
                · have e2 : ((restAt es m).toList == (restAt es' m).toList) = false := by rw [toList_eq_iff]; exact decide_eq_false n2
                  have HN := Lib.hid (sameL_no (a := es) (b := es') fun e => n2 (by rw [e]))
                  clear n1 n2
                  go_wp2
                  go_region
                  all_goals
                    go_wp2
                    go_ret
                    exact ⟨ret_bool (by rw [HN.out, Bool.and_false]), HC.out.2.drew⟩
              · have e1 : ((nameAt es m).toList == (nameAt es' m).toList) = false := by rw [toList_eq_iff]; exact decide_eq_false n1
                have HN := Lib.hid (sameL_no (a := es) (b := es') fun e => n1 (by rw [e]))
                clear n1
                go_wp2
                go_region
                all_goals
                  go_wp2
                  go_ret
                  exact ⟨ret_bool (by rw [HN.out, Bool.and_false]), HC.out.2.drew⟩
            · (first | (have t' : ¬ m < es'.length := by omega) | (have t' : ¬ m < es.length := by omega))
              have He := Lib.hid (show es.length = es'.length → es = es' from fun e => ext_at e (fun i hi => Hne.out i (by omega)))
              have HC := Lib.hid hbw
              clear hlt hbl hbw hk1 hk2
              by_cases c1 : bs.length = bs'.length
              · have Ha := Lib.hid (sameL_yes (Hb.out c1))
                have c1' : ((bs.length : Int) == (bs'.length : Int)) = true := by rw [eql_len]; exact decide_eq_true c1
                by_cases c2 : es.length = es'.length
                · have Hc := Lib.hid (sameL_yes (He.out c2))
                  have c2' : ((es.length : Int) == (es'.length : Int)) = true := by rw [eql_len]; exact decide_eq_true c2
                  clear c1 c2
                  go_wp2
                  go_ret
                  exact ⟨ret_bool (by rw [Ha.out, Hc.out]; rfl), HC.out⟩
                · have Hc := Lib.hid (sameL_no (a := es) (b := es') fun e => c2 (by rw [e]))
                  have c2' : ((es.length : Int) == (es'.length : Int)) = false := by rw [eql_len]; exact decide_eq_false c2
                  clear c1 c2
                  go_wp2
                  go_ret
                  exact ⟨ret_bool (by rw [Hc.out, Bool.and_false]), HC.out⟩
              · have Ha := Lib.hid (sameL_no (a := bs) (b := bs') fun e => c1 (by rw [e]))
                have c1' : ((bs.length : Int) == (bs'.length : Int)) = false := by rw [eql_len]; exact decide_eq_false c1
                clear c1
                go_wp2
                go_ret
                exact ⟨ret_bool (by rw [Ha.out]; rfl), HC.out⟩
end Go.Proofs.YtngcmjfkeageiaaDoor
end

section
/-
  The laws' marks: what markText yields, marks laid into a row of pairs and found there, markProg and heldProg over a program's two rows. Conditions: at most 1048576 blocks and edges, numbers of at most 100000000.
-/
namespace Go.Proofs.YtngcmjfkeageiaaDoor
open Go.RowKit Go.Maps

/-- the last digit of a number, as a letter -/
def digC (k : Nat) : UInt8 := UInt8.ofNat (48 + k % 10)
/-- the digits of k ahead of a text, at most f of them -/
def mkL : Nat → Nat → ByteArray → ByteArray
  | 0, _, o => o
  | f + 1, k, o => if k = 0 then o else mkL f (k / 10) (⟨#[digC k]⟩ ++ o)
theorem mkL_zero (o : ByteArray) : ∀ f, mkL f 0 o = o
  | 0 => rfl
  | f + 1 => by rw [mkL, if_pos rfl]
theorem mkL_step {f k : Nat} (h : k ≠ 0) (o : ByteArray) : mkL (f + 1) k o = mkL f (k / 10) (⟨#[digC k]⟩ ++ o) := by rw [mkL, if_neg h]
/-- the mark of number k -/
def mkV (k : Nat) : ByteArray := if k = 0 then ⟨#[109, 48]⟩ else ⟨#[109]⟩ ++ mkL k k e0
theorem mkL_size : ∀ (f k : Nat) (o : ByteArray), (mkL f k o).size ≤ f + o.size
  | 0, _, o => by simp [mkL]
  | f + 1, k, o => by
    by_cases h : k = 0
    · rw [h, mkL_zero]; omega
    · rw [mkL_step h]
      have := mkL_size f (k / 10) (⟨#[digC k]⟩ ++ o)
      rw [ByteArray.size_append] at this
      have h1 : (⟨#[digC k]⟩ : ByteArray).size = 1 := rfl
      omega
/-- the pairs of marks from number k on -/
def mkPs (k : Nat) : Nat → List Pr
  | 0 => []
  | n + 1 => (mkV k, mkV (k + 1)) :: mkPs (k + 2) n
theorem mkPs_length : ∀ (n k : Nat), (mkPs k n).length = n
  | 0, _ => rfl
  | n + 1, k => by simp [mkPs, mkPs_length n]
theorem mkPs_name : ∀ (n k i : Nat), i < n → nameAt (mkPs k n) i = mkV (k + 2 * i)
  | 0, _, _, h => absurd h (Nat.not_lt_zero _)
  | n + 1, k, 0, _ => rfl
  | n + 1, k, i + 1, h => by
    have := mkPs_name n (k + 2) i (by omega)
    rw [show k + 2 * (i + 1) = k + 2 + 2 * i by omega, ← this]; rfl
theorem mkPs_rest : ∀ (n k i : Nat), i < n → restAt (mkPs k n) i = mkV (k + 2 * i + 1)
  | 0, _, _, h => absurd h (Nat.not_lt_zero _)
  | n + 1, k, 0, _ => rfl
  | n + 1, k, i + 1, h => by
    have := mkPs_rest n (k + 2) i (by omega)
    rw [show k + 2 * (i + 1) + 1 = k + 2 + 2 * i + 1 by omega, ← this]; rfl

theorem dig_val (k : Nat) : 48 + ((k : Int) % 10) = ((digC k).toNat : Int) := by
  unfold digC
  have h1 : k % 10 < 10 := Nat.mod_lt _ (by decide)
  have h2 : (UInt8.ofNat (48 + k % 10)).toNat = 48 + k % 10 := by
    rw [UInt8.toNat_ofNat']; omega
  rw [h2]; omega

set_option maxRecDepth 100000 in
set_option maxHeartbeats 1600000 in
theorem markText_any (k : Nat) (w : World) (hk : k ≤ 100000000) :
    Calls Tryd.prog 106 #[.int .i64 (k : Int)] w fun e w' => e = .returned (.string (mkV k)) ∧ Below w.heap.size w w' := by
  by_cases h0 : k = 0
  · subst h0
    go_enter Tryd.func106, Tryd.ntmps106
    go_wp2
    go_ret
    exact ⟨rfl, Below.refl _ _⟩
  · have hV := Lib.hid (show mkV k = ⟨#[109]⟩ ++ mkL k k e0 by unfold mkV; rw [if_neg h0])
    have h1 : (0 : Int) < (k : Int) := by omega
    go_enter Tryd.func106, Tryd.ntmps106
    go_wp2
    go_loopw [0, 3] (fun i o wr => ∃ (f q : Nat) (s : ByteArray), i = .int .i64 q ∧ o = .string s ∧ q ≤ f ∧ f ≤ k ∧ s.size + f ≤ k ∧ mkL f q s = mkL k k e0 ∧ Below w.heap.size w wr) (fun i _ _ => (intOf i).toNat)
    case atStart => exact ⟨k, k, e0, rfl, rfl, Nat.le_refl _, Nat.le_refl _, by show 0 + k ≤ k; omega, rfl, Below.refl _ _⟩
    case round =>
      obtain ⟨f, q, s, rfl, rfl, hqf, hf, hs, hm, hbl⟩ := hrel
      have hsz := hbl.size
      by_cases hq : 0 < q
      · obtain ⟨f', rfl⟩ : ∃ f', f = f' + 1 := ⟨f - 1, by omega⟩
        have HM := Lib.hid ((mkL_step (f := f') (show q ≠ 0 by omega) s).symm.trans hm)
        have hdv := dig_val q
        have hb1 : 0 ≤ (q : Int) % 10 := by omega
        have hb2 : (q : Int) % 10 ≤ 9 := by omega
        have kc := conv_one wr _ _ hdv
        have HD := Lib.hid hdv
        have t0 : ¬ 9223372036854775807 < (⟨#[digC q]⟩ : ByteArray).size + s.size := by show ¬ 9223372036854775807 < 1 + s.size; omega
        have t1 : ¬ 9223372036854775807 < 1 + s.size := by omega
        have HZ := Lib.hid (show ((⟨#[digC q]⟩ : ByteArray) ++ s).size + f' ≤ k by rw [ByteArray.size_append]; show 1 + s.size + f' ≤ k; omega)
        clear hm hdv
        go_wp2
        go_roundw
        case rel => exact ⟨f', q / 10, _, by go_num, rfl, by omega, by omega, HZ.out, HM.out, hbl.alloc hsz _⟩
        case measure => simp [intOf]; omega
      · have HM := Lib.hid (show s = mkL k k e0 by obtain rfl : q = 0 := (by omega); exact (mkL_zero s f).symm.trans hm)
        have hq' : ¬ ((0 : Int) < (q : Int)) := by omega
        have t1 : ¬ 9223372036854775807 < 1 + s.size := by omega
        have t0 : ¬ 9223372036854775807 < (⟨#[109]⟩ : ByteArray).size + s.size := t1
        clear hm
        go_wp2
        go_ret
        exact ⟨by rw [hV.out, ← HM.out]; rfl, hbl⟩

theorem own_at2 {w : World} {B n c : Nat} {e : TypeId} {a : Option Addr} {l : List Pr} (hn : n = l.length) (h : w.ownsRow B e 2 (.slice a n c) n (cellsOf l)) {i : Nat} (hi : i < n) :
    ∃ g, a = some ⟨g, 0, none⟩ ∧ B ≤ g ∧ g < w.heap.size ∧ w.cell? ⟨g, i * 2, none⟩ = some (.string (nameAt l i)) ∧ w.cell? ⟨g, i * 2 + 1, none⟩ = some (.string (restAt l i)) ∧ w.frozen? ⟨g, i * 2, none⟩ = false ∧ w.frozen? ⟨g, i * 2 + 1, none⟩ = false := by
  subst hn
  obtain ⟨h1, ⟨_, h0⟩ | ⟨g, cap, cur, hv, hg, hh, hc, hm, hcs, ht⟩⟩ := h
  · omega
  · simp only [Value.slice.injEq] at hv
    refine ⟨g, hv.1, hg, (Array.getElem?_eq_some_iff.1 hh).1, ?_, ?_, by simp [World.frozen?, hh], by simp [World.frozen?, hh]⟩
    · have := cellsOf_even l i hi
      rw [← ht, List.getElem?_take, if_pos (by omega)] at this
      rw [cell_of_row w g _ _ _ (0, 0) hh]
      simpa using this
    · have := cellsOf_odd l i hi
      rw [← ht, List.getElem?_take, if_pos (by omega)] at this
      rw [cell_of_row w g _ _ _ (0, 0) hh]
      simpa using this
theorem own_set {w : World} {B n c g : Nat} {e : TypeId} {l : List Pr} (hn : n = l.length) (h : w.ownsRow B e 2 (.slice (some ⟨g, 0, none⟩) n c) n (cellsOf l)) {i : Nat} (hi : i < n) (s : ByteArray) :
    (w.setCell ⟨g, i * 2, none⟩ (.string s)).ownsRow B e 2 (.slice (some ⟨g, 0, none⟩) n c) n (cellsOf (l.set i (s, restAt l i))) ∧ (w.setCell ⟨g, i * 2 + 1, none⟩ (.string s)).ownsRow B e 2 (.slice (some ⟨g, 0, none⟩) n c) n (cellsOf (l.set i (nameAt l i, s))) := by
  subst hn
  obtain ⟨h1, ⟨hv, h0⟩ | ⟨g', cap, cur, hv, hg, hh, hc, hm, hcs, ht⟩⟩ := h
  · omega
  · simp only [Value.slice.injEq, Option.some.injEq, Addr.mk.injEq] at hv
    obtain ⟨⟨rfl, _⟩, _, rfl⟩ := hv
    have key : ∀ (j : Nat) (u : Value) (l' : List Pr), j < l.length * 2 → l'.length = l.length → cellsOf l' = (cellsOf l).set j u → (w.setCell ⟨g, j, none⟩ u).ownsRow B e 2 (.slice (some ⟨g, 0, none⟩) l.length c) l.length (cellsOf l') := by
      intro j u l' hj hl' he
      refine ⟨by rw [cellsOf_length, hl'], .inr ⟨g, c, cur.setIfInBounds j u, rfl, hg, by simp [World.setCell, Array.getElem?_modify, hh], hc, hm, by simp [hcs], ?_⟩⟩
      rw [he, ← ht, Array.toList_setIfInBounds, List.take_set]
    exact ⟨key _ _ _ (by omega) (by simp) (cellsOf_set_even l i s hi).symm, key _ _ _ (by omega) (by simp) (cellsOf_set_odd l i s hi).symm⟩
theorem own_same {w : World} {B n c : Nat} {e : TypeId} {a : Option Addr} {l l' : List Pr} (h : w.ownsRow B e 2 (.slice a n c) n (cellsOf l)) (hl : l = l') : w.ownsRow B e 2 (.slice a n c) n (cellsOf l') := by subst hl; exact h
/-- what a mark function leaves -/
def MarkPost (w : World) (a : Option Addr) (n c B k : Nat) (t : TypeId) (e : Ending) (w' : World) : Prop := e = .returned (.int .i64 ((k + 2 * n : Nat) : Int)) ∧ w'.ownsRow B t 2 (.slice a n c) n (cellsOf (mkPs k n)) ∧ Turns (fun b => some b = (Value.slice a n c).ownBlock) w w'

set_option maxRecDepth 100000 in
set_option maxHeartbeats 3200000 in
theorem markBlockS_any (w : World) (l : List Pr) (a : Option Addr) (n c B k : Nat) (hn : n = l.length) (ho : w.ownsRow B 40 2 (.slice a n c) n (cellsOf l)) (hl : n ≤ 1048576) (hk : k + 2 * n ≤ 100000000) :
    Calls Tryd.prog 104 #[.slice a n c, .int .i64 (k : Int)] w (MarkPost w a n c B k 40) := by
  have HO := Lib.hid (And.intro ho hn); clear ho hn
  go_enter Tryd.func104, Tryd.ntmps104
  go_wp2
  go_loopw [5, 1] (fun i m wr => ∃ (j : Nat) (L : List Pr), j ≤ n ∧ i = .int .i64 j ∧ m = .int .i64 ((k + 2 * j : Nat) : Int) ∧ L.length = n ∧ wr.ownsRow B 40 2 (.slice a n c) n (cellsOf L) ∧ Turns (fun b => some b = (Value.slice a n c).ownBlock) w wr ∧ ∀ q, q < j → nameAt L q = mkV (k + 2 * q) ∧ restAt L q = mkV (k + 2 * q + 1)) (fun i _ _ => n - (intOf i).toNat)
  case atStart => exact ⟨0, l, Nat.zero_le _, rfl, by simp, HO.out.2.symm, HO.out.1, Turns.refl _ _, fun q h => absurd h (Nat.not_lt_zero _)⟩
  case round =>
    obtain ⟨j, L, hj, rfl, rfl, hL, hown, htu, hno⟩ := hrel
    have HL := Lib.hid (And.intro hL hno); clear hL hno
    by_cases hlt : j < n
    · obtain ⟨g, rfl, hBg, hgl, c0, c1, f0, f1⟩ := own_at2 HL.out.1.symm hown hlt
      have HT := Lib.hid (And.intro hown htu)
      have w1' : IntKind.i64.wrap (((k + 2 * j : Nat) : Int) + 1) = ((k + 2 * j + 1 : Nat) : Int) := by rw [show ((k + 2 * j : Nat) : Int) + 1 = ((k + 2 * j + 1 : Nat) : Int) by omega]; exact IntWalk.i64_in _ (by omega)
      have w2' : IntKind.i64.wrap (((k + 2 * j + 1 : Nat) : Int) + 1) = ((k + 2 * j + 1 + 1 : Nat) : Int) := by rw [show ((k + 2 * j + 1 : Nat) : Int) + 1 = ((k + 2 * j + 1 + 1 : Nat) : Int) by omega]; exact IntWalk.i64_in _ (by omega)
      obtain ⟨K0, hK0⟩ : ∃ K0, K0 = k + 2 * j := ⟨_, rfl⟩
      rw [← hK0] at w1' w2'
      rw [← hK0]
      have HK := Lib.hid hK0
      have hKb : K0 + 2 ≤ 100000000 := by omega
      have x1 : (0 : Int) ≤ (j : Int) := by omega
      have x2 : (j : Int) < (n : Int) := by omega
      clear hown htu hK0
      go_wp2_with fail
      refine (markText_any K0 _ (by omega)).mono ?_
      rintro e wa ⟨rfl, hba⟩
      have hoa := ownsRow_below HT.out.1 hba
      obtain ⟨g', e', _, _, d0, d1, u0, u1⟩ := own_at2 HL.out.1.symm hoa hlt
      cases e'
      have HA := Lib.hid (And.intro (own_set HL.out.1.symm hoa hlt (mkV K0)).1 ((HT.out.2.trans (Turns.of_below hba)).trans (⟨rfl, rfl, rfl, by simp [World.setCell], fun q _ hq => Below.heap_setCell _ _ _ _ (fun e => hq (by subst e; rfl))⟩ : Turns (fun b => some b = (Value.slice (some ⟨g, 0, none⟩) n c).ownBlock) wa (wa.setCell ⟨g, j * 2, none⟩ (.string (mkV K0))))))
      clear hba hoa c0 c1 f0 f1
      go_wp2_with fail
      refine (markText_any (K0 + 1) _ (by omega)).mono ?_
      rintro e wb ⟨rfl, hbb⟩
      have hob := ownsRow_below HA.out.1 hbb
      have hLs : (L.set j (mkV K0, restAt L j)).length = n := by simp [HL.out.1]
      obtain ⟨g', e', _, _, d0', d1', u0', u1'⟩ := own_at2 hLs.symm hob hlt
      cases e'
      have HB := Lib.hid (And.intro (own_set hLs.symm hob hlt (mkV (K0 + 1))).2 ((HA.out.2.trans (Turns.of_below hbb)).trans (⟨rfl, rfl, rfl, by simp [World.setCell], fun q _ hq => Below.heap_setCell _ _ _ _ (fun e => hq (by subst e; rfl))⟩ : Turns (fun b => some b = (Value.slice (some ⟨g, 0, none⟩) n c).ownBlock) wb (wb.setCell ⟨g, j * 2 + 1, none⟩ (.string (mkV (K0 + 1)))))))
      clear hbb hob d0 d1 u0 u1 hLs
      go_wp2
      go_roundw
      case rel =>
        refine ⟨j + 1, _, by omega, by go_num, by rw [HK.out]; congr 2, ?_, HB.out.1, HB.out.2, fun q hq => ?_⟩
        · simp [HL.out.1]
        · have hjl : j < L.length := by rw [HL.out.1]; exact hlt
          have hjl' : j < (L.set j (mkV K0, restAt L j)).length := by simpa using hjl
          rw [nameAt_set _ _ _ _ hjl', restAt_set _ _ _ _ hjl', nameAt_set _ _ _ _ hjl, restAt_set _ _ _ _ hjl, nameAt_set _ _ _ _ hjl]
          by_cases e : q = j
          · subst e; simp [HK.out]
          · simp only [if_neg e]; exact HL.out.2 q (by omega)
      case measure => simp [intOf]; omega
    · obtain rfl : j = n := by omega
      have hE : L = mkPs k j := ext_at (by rw [HL.out.1, mkPs_length]) (fun i hi => by
        rw [HL.out.1] at hi
        rw [mkPs_name j k i hi, mkPs_rest j k i hi]; exact HL.out.2 i hi)
      have HX := Lib.hid (And.intro (own_same hown hE) htu)
      clear hown htu hE
      go_wp2
      go_ret
      exact ⟨rfl, HX.out.1, HX.out.2⟩

set_option maxRecDepth 100000 in
set_option maxHeartbeats 3200000 in
theorem markEdgeS_any (w : World) (l : List Pr) (a : Option Addr) (n c B k : Nat) (hn : n = l.length) (ho : w.ownsRow B 111 2 (.slice a n c) n (cellsOf l)) (hl : n ≤ 1048576) (hk : k + 2 * n ≤ 100000000) :
    Calls Tryd.prog 105 #[.slice a n c, .int .i64 (k : Int)] w (MarkPost w a n c B k 111) := by
  have HO := Lib.hid (And.intro ho hn); clear ho hn
  go_enter Tryd.func105, Tryd.ntmps105
  go_wp2
  go_loopw [5, 1] (fun i m wr => ∃ (j : Nat) (L : List Pr), j ≤ n ∧ i = .int .i64 j ∧ m = .int .i64 ((k + 2 * j : Nat) : Int) ∧ L.length = n ∧ wr.ownsRow B 111 2 (.slice a n c) n (cellsOf L) ∧ Turns (fun b => some b = (Value.slice a n c).ownBlock) w wr ∧ ∀ q, q < j → nameAt L q = mkV (k + 2 * q) ∧ restAt L q = mkV (k + 2 * q + 1)) (fun i _ _ => n - (intOf i).toNat)
  case atStart => exact ⟨0, l, Nat.zero_le _, rfl, by simp, HO.out.2.symm, HO.out.1, Turns.refl _ _, fun q h => absurd h (Nat.not_lt_zero _)⟩
  case round =>
    obtain ⟨j, L, hj, rfl, rfl, hL, hown, htu, hno⟩ := hrel
    have HL := Lib.hid (And.intro hL hno); clear hL hno
    by_cases hlt : j < n
    · obtain ⟨g, rfl, hBg, hgl, c0, c1, f0, f1⟩ := own_at2 HL.out.1.symm hown hlt
      have HT := Lib.hid (And.intro hown htu)
      have w1' : IntKind.i64.wrap (((k + 2 * j : Nat) : Int) + 1) = ((k + 2 * j + 1 : Nat) : Int) := by rw [show ((k + 2 * j : Nat) : Int) + 1 = ((k + 2 * j + 1 : Nat) : Int) by omega]; exact IntWalk.i64_in _ (by omega)
      have w2' : IntKind.i64.wrap (((k + 2 * j + 1 : Nat) : Int) + 1) = ((k + 2 * j + 1 + 1 : Nat) : Int) := by rw [show ((k + 2 * j + 1 : Nat) : Int) + 1 = ((k + 2 * j + 1 + 1 : Nat) : Int) by omega]; exact IntWalk.i64_in _ (by omega)
      obtain ⟨K0, hK0⟩ : ∃ K0, K0 = k + 2 * j := ⟨_, rfl⟩
      rw [← hK0] at w1' w2'
      rw [← hK0]
      have HK := Lib.hid hK0
      have hKb : K0 + 2 ≤ 100000000 := by omega
      have x1 : (0 : Int) ≤ (j : Int) := by omega
      have x2 : (j : Int) < (n : Int) := by omega
      clear hown htu hK0
      go_wp2_with fail
      refine (markText_any K0 _ (by omega)).mono ?_
      rintro e wa ⟨rfl, hba⟩
      have hoa := ownsRow_below HT.out.1 hba
      obtain ⟨g', e', _, _, d0, d1, u0, u1⟩ := own_at2 HL.out.1.symm hoa hlt
      cases e'
      have HA := Lib.hid (And.intro (own_set HL.out.1.symm hoa hlt (mkV K0)).1 ((HT.out.2.trans (Turns.of_below hba)).trans (⟨rfl, rfl, rfl, by simp [World.setCell], fun q _ hq => Below.heap_setCell _ _ _ _ (fun e => hq (by subst e; rfl))⟩ : Turns (fun b => some b = (Value.slice (some ⟨g, 0, none⟩) n c).ownBlock) wa (wa.setCell ⟨g, j * 2, none⟩ (.string (mkV K0))))))
      clear hba hoa c0 c1 f0 f1
      go_wp2_with fail
      refine (markText_any (K0 + 1) _ (by omega)).mono ?_
      rintro e wb ⟨rfl, hbb⟩
      have hob := ownsRow_below HA.out.1 hbb
      have hLs : (L.set j (mkV K0, restAt L j)).length = n := by simp [HL.out.1]
      obtain ⟨g', e', _, _, d0', d1', u0', u1'⟩ := own_at2 hLs.symm hob hlt
      cases e'
      have HB := Lib.hid (And.intro (own_set hLs.symm hob hlt (mkV (K0 + 1))).2 ((HA.out.2.trans (Turns.of_below hbb)).trans (⟨rfl, rfl, rfl, by simp [World.setCell], fun q _ hq => Below.heap_setCell _ _ _ _ (fun e => hq (by subst e; rfl))⟩ : Turns (fun b => some b = (Value.slice (some ⟨g, 0, none⟩) n c).ownBlock) wb (wb.setCell ⟨g, j * 2 + 1, none⟩ (.string (mkV (K0 + 1)))))))
      clear hbb hob d0 d1 u0 u1 hLs
      go_wp2
      go_roundw
      case rel =>
        refine ⟨j + 1, _, by omega, by go_num, by rw [HK.out]; congr 2, ?_, HB.out.1, HB.out.2, fun q hq => ?_⟩
        · simp [HL.out.1]
        · have hjl : j < L.length := by rw [HL.out.1]; exact hlt
          have hjl' : j < (L.set j (mkV K0, restAt L j)).length := by simpa using hjl
          rw [nameAt_set _ _ _ _ hjl', restAt_set _ _ _ _ hjl', nameAt_set _ _ _ _ hjl, restAt_set _ _ _ _ hjl, nameAt_set _ _ _ _ hjl]
          by_cases e : q = j
          · subst e; simp [HK.out]
          · simp only [if_neg e]; exact HL.out.2 q (by omega)
      case measure => simp [intOf]; omega
    · obtain rfl : j = n := by omega
      have hE : L = mkPs k j := ext_at (by rw [HL.out.1, mkPs_length]) (fun i hi => by
        rw [HL.out.1] at hi
        rw [mkPs_name j k i hi, mkPs_rest j k i hi]; exact HL.out.2 i hi)
      have HX := Lib.hid (And.intro (own_same hown hE) htu)
      clear hown htu hE
      go_wp2
      go_ret
      exact ⟨rfl, HX.out.1, HX.out.2⟩

/-- a program's two rows, in blocks from lo on, below hi -/
structure Rws (W : World) (lo hi : Nat) (a : Option Addr) (n c : Nat) (L : List Pr) (a' : Option Addr) (n' c' : Nat) (E : List Pr) : Prop where
  b : W.ownsRow lo 40 2 (.slice a n c) n (cellsOf L)
  e : W.ownsRow lo 111 2 (.slice a' n' c') n' (cellsOf E)
  bh : ∀ g, (Value.slice a n c).ownBlock = some g → g < hi
  eh : ∀ g, (Value.slice a' n' c').ownBlock = some g → g < hi
section
variable {W W' : World} {lo hi n n' c c' : Nat} {a a' : Option Addr} {L E : List Pr}
theorem Rws.turns {S : Nat → Prop} (h : Rws W lo hi a n c L a' n' c' E) (ht : Turns S W W') (hS : ∀ k, lo ≤ k → k < hi → ¬ S k) : Rws W' lo hi a n c L a' n' c' E :=
  ⟨ht.row h.b (fun g hg => hS g (h.b.lt g hg).1 (h.bh g hg)), ht.row h.e (fun g hg => hS g (h.e.lt g hg).1 (h.eh g hg)), h.bh, h.eh⟩
theorem Rws.below (h : Rws W lo hi a n c L a' n' c' E) (hb : Below W.heap.size W W') : Rws W' lo hi a n c L a' n' c' E := ⟨ownsRow_below h.b hb, ownsRow_below h.e hb, h.bh, h.eh⟩
theorem Rws.lenb (h : Rws W lo hi a n c L a' n' c' E) : n = L.length := by have := h.b.1; rw [cellsOf_length] at this; omega
theorem Rws.lene (h : Rws W lo hi a n c L a' n' c' E) : n' = E.length := by have := h.e.1; rw [cellsOf_length] at this; omega
end
def MarkPP (W : World) (lo hi : Nat) (a : Option Addr) (n c : Nat) (a' : Option Addr) (n' c' k : Nat) (e : Ending) (W' : World) : Prop :=
  e = .returned (.int .i64 ((k + 2 * n + 2 * n' : Nat) : Int)) ∧ Rws W' lo hi a n c (mkPs k n) a' n' c' (mkPs (k + 2 * n) n') ∧ Turns (fun b => lo ≤ b ∧ b < hi) W W'

set_option maxRecDepth 100000 in
set_option maxHeartbeats 1600000 in
theorem markProg_any (W : World) (lo hi : Nat) (a : Option Addr) (n c : Nat) (L : List Pr) (a' : Option Addr) (n' c' : Nat) (E : List Pr) (k : Nat) (h : Rws W lo hi a n c L a' n' c' E) (hn : n ≤ 1048576) (hn' : n' ≤ 1048576) (hk : k ≤ 1000) :
    Calls Tryd.prog 45 #[.agg #[.slice a n c, .slice a' n' c'], .int .i64 (k : Int)] W (MarkPP W lo hi a n c a' n' c' k) := by
  have hb1 : Below W.heap.size W (W.alloc (.cells #[.slice a n c, .slice a' n' c'] 32)) := (Below.refl _ _).alloc (Nat.le_refl _) _
  have hT : Two (W.alloc (.cells #[.slice a n c, .slice a' n' c'] 32)) W.heap.size _ _ := heap_alloc_new _ _
  have H := Lib.hid (And.intro h (And.intro (h.below hb1) (And.intro hb1 hT)))
  clear h hb1 hT
  go_enter Tryd.func45, Tryd.ntmps45
  go_wp2_with fail
  refine (markBlockS_any _ L a n c lo k H.out.2.1.lenb H.out.2.1.b hn (by omega)).mono ?_
  rintro e W1 ⟨rfl, hob, htu⟩
  have hne : ∀ g, (Value.slice a' n' c').ownBlock = some g → ¬ some g = (Value.slice a n c).ownBlock := fun g hg e => by
    obtain ⟨c9, z9, h9⟩ := Lib.ownsRow_kind H.out.2.1.e g hg
    exact own_neK H.out.2.1.b h9 (by decide) e.symm
  have hoe := htu.row H.out.2.1.e hne
  have hT1 : Two W1 W.heap.size _ _ := htu.two H.out.2.2.2 (fun e => own_neK H.out.2.1.b H.out.2.2.2 (by decide) e.symm)
  obtain ⟨c0, c1, _, _, hl⟩ := hT1.cells
  have HA := Lib.hid (And.intro hob (And.intro htu hoe))
  clear hob htu hoe hT1 hne
  go_wp2_with fail
  refine (markEdgeS_any _ E a' n' c' lo (k + 2 * n) H.out.2.1.lene HA.out.2.2 hn' (by omega)).mono ?_
  rintro e W2 ⟨rfl, hoe2, htu2⟩
  have hob2 := htu2.row HA.out.1 (fun g hg e => by
    obtain ⟨c9, z9, h9⟩ := Lib.ownsRow_kind HA.out.1 g hg
    exact own_neK HA.out.2.2 h9 (by decide) e.symm)
  have htf : Turns (fun b => lo ≤ b ∧ b < hi) W W2 := by
    refine ((Turns.of_below (S := fun b => lo ≤ b ∧ b < hi) H.out.2.2.1).then_ HA.out.2.1 (fun _ _ h => h) (fun i _ e => ⟨(H.out.2.1.b.lt i e.symm).1, H.out.1.bh i e.symm⟩)).then_ htu2 (fun _ _ h => h) (fun i _ e => ⟨(HA.out.2.2.lt i e.symm).1, H.out.1.eh i e.symm⟩)
  have HX := Lib.hid (And.intro hob2 (And.intro hoe2 htf))
  clear hob2 hoe2 htf htu2
  go_wp2
  go_ret
  exact ⟨rfl, ⟨HX.out.1, HX.out.2.1, H.out.1.bh, H.out.1.eh⟩, HX.out.2.2⟩

end Go.Proofs.YtngcmjfkeageiaaDoor
end

section
/-
  A program in memory of its own, its rows in blocks of a range; a loop that fills a program's blocks; a function's answer that is a program. Conditions: none.
-/
namespace Go.Proofs.YtngcmjfkeageiaaDoor
open Go.RowKit Go.Maps

theorem own_atT {w : World} {B : Nat} {e : TypeId} {a : Option Addr} {c n : Nat} {l : List Pr} (hn : n = l.length) (h : w.ownsRow B e 2 (.slice a n c) n (cellsOf l)) (hl : l.length ≤ 1048576) (hs : ∀ i, i < l.length → (nameAt l i).size ≤ 1048576 ∧ (restAt l i).size ≤ 1048576) : PairsAt w a l := by
  obtain ⟨a', c', e, hP⟩ := own_pairs hn h hl hs
  simp only [Value.slice.injEq] at e
  rw [e.1]; exact hP
/-- a program in a block of its own, its rows in blocks from lo on, below hi -/
structure Kp (W : World) (q lo hi : Nat) (a : Option Addr) (n c : Nat) (L : List Pr) (a' : Option Addr) (n' c' : Nat) (E : List Pr) : Prop where
  two : Two W q (.slice a n c) (.slice a' n' c')
  rows : Rws W lo hi a n c L a' n' c' E
section
variable {W W' : World} {q lo hi n n' c c' : Nat} {a a' : Option Addr} {L E : List Pr}
theorem Kp.below (h : Kp W q lo hi a n c L a' n' c' E) (hb : Below W.heap.size W W') : Kp W' q lo hi a n c L a' n' c' E := ⟨h.two.of_cells (hb.block _ h.two.cells.2.2.2.2), h.rows.below hb⟩
theorem Kp.turns {S : Nat → Prop} (h : Kp W q lo hi a n c L a' n' c' E) (ht : Turns S W W') (hq : ¬ S q) (hS : ∀ k, lo ≤ k → k < hi → ¬ S k) : Kp W' q lo hi a n c L a' n' c' E := ⟨ht.two h.two hq, h.rows.turns ht hS⟩
theorem Rws.pairs (h : Rws W lo hi a n c L a' n' c' E) (hl : L.length ≤ 1048576) (hs : ∀ i, i < L.length → (nameAt L i).size ≤ 1048576 ∧ (restAt L i).size ≤ 1048576) (hl' : E.length ≤ 1048576) (hs' : ∀ i, i < E.length → (nameAt E i).size ≤ 1048576 ∧ (restAt E i).size ≤ 1048576) : PairsAt W a L ∧ PairsAt W a' E :=
  ⟨own_atT h.lenb h.b hl hs, own_atT h.lene h.e hl' hs'⟩
theorem PB.rws {gb ge : Nat} {bs es : List Pr} (hb : PB W gb 40 bs) (he : PB W ge 111 es) (h1 : lo ≤ gb) (h2 : lo ≤ ge) (h3 : gb < hi) (h4 : ge < hi) (hl : bs.length ≤ 1048576) (hl' : es.length ≤ 1048576) : Rws W lo hi (some ⟨gb, 0, none⟩) bs.length bs.length bs (some ⟨ge, 0, none⟩) es.length es.length es :=
  ⟨⟨cellsOf_length bs, .inr ⟨gb, bs.length, (cellsOf bs).toArray, rfl, h1, hb, Nat.le_refl _, by unfold maxLen; omega, by simp [cellsOf_length], by rw [List.take_of_length_le (by simp [cellsOf_length])]⟩⟩,
   ⟨cellsOf_length es, .inr ⟨ge, es.length, (cellsOf es).toArray, rfl, h2, he, Nat.le_refl _, by unfold maxLen; omega, by simp [cellsOf_length], by rw [List.take_of_length_le (by simp [cellsOf_length])]⟩⟩,
   fun g hg => by simp [Value.ownBlock] at hg; omega, fun g hg => by simp [Value.ownBlock] at hg; omega⟩
end
/-- a function's answer: a program and whether there is one -/
def ProgRes (W : World) (ok : Bool) (L E : List Pr) (e : Ending) (W' : World) : Prop := Below W.heap.size W W' ∧ ∃ a c a' c', e = .returned (.tuple #[.agg #[.slice a L.length c, .slice a' E.length c'], .bool ok]) ∧ Rws W' W.heap.size W'.heap.size a L.length c L a' E.length c' E
theorem own_farT {w : World} {base : Nat} {e : TypeId} {size n : Nat} {v : Value} {xs : List Value} (h : w.ownsRow base e size v n xs) {p : Addr} (hp : v.ownBlock ≠ some p.block) (u : Value) : (w.setCell p u).ownsRow base e size v n xs :=
  h.kept (row := some p.block) ⟨rfl, rfl, rfl, by simp [World.setCell], fun j _ hj => Below.heap_setCell _ _ _ _ (fun e => hj (by simp [e]))⟩ (Or.inr hp)
/-- a loop that fills a program's blocks -/
structure TLoop (w wr : World) (R Q lo : Nat) (v ve : Value) (k m : Nat) (L E : List Pr) : Prop where
  two : Two wr Q v ve
  res : Two wr R (.slice none 0 0) (.slice none 0 0)
  ob : wr.ownsRow lo 40 2 v k (cellsOf L)
  oe : wr.ownsRow lo 111 2 ve m (cellsOf E)
  bw : Below w.heap.size w wr
section
variable {w wr w' : World} {R Q lo k m : Nat} {v ve : Value} {L E : List Pr}
theorem TLoop.below (h : TLoop w wr R Q lo v ve k m L E) (hb : Below wr.heap.size wr w') : TLoop w w' R Q lo v ve k m L E :=
  ⟨h.two.of_cells (hb.block _ h.two.cells.2.2.2.2), h.res.of_cells (hb.block _ h.res.cells.2.2.2.2), ownsRow_below h.ob hb, ownsRow_below h.oe hb, h.bw.trans (hb.mono h.bw.size)⟩
theorem TLoop.step (h : TLoop w wr R Q lo v ve k m L E) {wx w4 : World} {v' : Value} {k' : Nat} {L' : List Pr} (hx : Below wr.heap.size wr wx) (hg : wx.grownBy w4 v.ownBlock) (hown : w4.ownsRow lo 40 2 v' k' (cellsOf L')) (hlo : w.heap.size ≤ lo) (hQ : w.heap.size ≤ Q) (hRQ : R ≠ Q) :
    TLoop w (w4.setCell ⟨Q, 0, none⟩ v') R Q lo v' ve k' m L' E := by
  have ht : Turns (fun b => some b = v.ownBlock) wr w4 := (Turns.of_below hx).then_ (Turns.of_grown hg) (fun _ _ h => h) (fun _ _ h => h)
  have hR4 : Two w4 R _ _ := h.res.of_cells (ht.block R h.res.cells.2.2.2.2 (fun e => own_neK h.ob h.res (by decide) e.symm))
  have hQ4 : Two w4 Q _ _ := h.two.of_cells (ht.block Q h.two.cells.2.2.2.2 (fun e => own_neK h.ob h.two (by decide) e.symm))
  have hE4 := ht.row h.oe (fun b hb e => by
    obtain ⟨c9, z9, h9⟩ := Lib.ownsRow_kind h.oe b hb
    exact own_neK h.ob h9 (by decide) e.symm)
  have hb4 : Below w.heap.size w w4 := h.bw.trans (ht.below h.bw.size (fun b hb => Nat.le_trans hlo (h.ob.lt b hb.symm).1))
  exact ⟨hQ4.set0 _, hR4.far hRQ _, own_farT hown (own_neK hown hQ4 (by decide)) _, own_farT hE4 (own_neK hE4 hQ4 (by decide)) _, hb4.setCell hQ _⟩
end

end Go.Proofs.YtngcmjfkeageiaaDoor
end

section
/-
  IsTidy of the program. Conditions: at most 1048576 blocks and edges, each text at most as many bytes; the errors' variables hold errors.
-/
namespace Go.Proofs.YtngcmjfkeageiaaDoor
open Go.RowKit Go.Maps

theorem tidL_small {bs : List Pr} (h : ∀ i, i < bs.length → (nameAt bs i).size ≤ 1048576 ∧ (restAt bs i).size ≤ 1048576) : ∀ i, i < (tidL bs bs.length).length → (nameAt (tidL bs bs.length) i).size ≤ 1048576 ∧ (restAt (tidL bs bs.length) i).size ≤ 1048576 := by
  intro i hi
  rw [tidL_length] at hi
  rw [tidL_name hi, tidL_rest hi]
  exact ⟨(h i hi).1, Nat.le_trans (tidyA_size _ _ (Nat.le_refl _)) (h i hi).2⟩

set_option maxRecDepth 100000 in
set_option maxHeartbeats 1600000 in
theorem IsTidy_impl (w : World) (bs es : List Pr) (ab ae : Option Addr) (cb ce : Nat) (hpb : PairsAt w ab bs) (hpe : PairsAt w ae es) (hg : Errs w) :
    Calls Tryd.prog 39 #[.agg #[.slice ab bs.length cb, .slice ae es.length ce]] w fun e w' => e = .returned (.bool (isTidyV bs es)) ∧ Below w.heap.size w w' := by
  have h1 : Below w.heap.size w (w.alloc (.cells #[.slice ab bs.length cb, .slice ae es.length ce] 32)) := (Below.refl _ _).alloc (Nat.le_refl _) _
  have hpb1 := hpb.below h1
  have hpe1 := hpe.below h1
  have hg1 := hg.keep h1
  have hl9 := hpb.len
  have hP : Two (w.alloc (.cells #[.slice ab bs.length cb, .slice ae es.length ce] 32)) w.heap.size _ _ := heap_alloc_new _ _
  have H1 := Lib.hid (And.intro h1 hP); clear h1 hP
  go_enter Tryd.func39, Tryd.ntmps39
  go_wp2_with fail
  refine (Tidy_impl _ bs es _ _ _ _ hpb1 hpe1 hg1).mono ?_
  rintro e w1 ⟨hb1, hcase⟩
  have hall : Below w.heap.size w w1 := H1.out.1.trans (hb1.mono (by simp))
  have hz := hall.size
  have hz1 : w.heap.size < w1.heap.size := by have := hb1.size; simp at this; omega
  have hP1 : Two w1 w.heap.size _ _ := H1.out.2.of_cells (hb1.block _ (by simp))
  obtain ⟨c0, c1, _, _, _⟩ := hP1.cells
  rcases hcase with ⟨hv, v, ve, rfl, ho, hoe⟩ | ⟨hv, rfl⟩
  · obtain ⟨xa, xc, rfl⟩ := own_form ho
    obtain ⟨ya, yc, rfl⟩ := own_form hoe
    have hA : Below w1.heap.size w1 (w1.alloc (.cells #[.slice xa bs.length xc, .slice ya es.length yc] 32)) := (Below.refl _ _).alloc (Nat.le_refl _) _
    have hQ : Two (w1.alloc (.cells #[.slice xa bs.length xc, .slice ya es.length yc] 32)) w1.heap.size _ _ := heap_alloc_new _ _
    have c0' := (hA.cell (p := ⟨w.heap.size, 0, none⟩) hz1).trans c0
    have q0 := hQ.cells.1
    have hx := own_atT (tidL_length bs bs.length).symm (ownsRow_below ho hA) (by rw [tidL_length]; exact hl9) (tidL_small hpb.size)
    have hpb2 := (hpb.below hall).below hA
    have HE := Lib.hid (show (eqTo bs (tidL bs bs.length) bs.length) = isTidyV bs es by
      rw [eqTo_tidy bs bs.length bs.length (Nat.le_refl _)]
      unfold isTidyV
      rw [hv, Bool.and_true])
    have HX := Lib.hid (And.intro (hall.trans (hA.mono hz)) (And.intro hx hpb2))
    have hs1 : w.heap.size ≤ (w1.alloc (.cells #[.slice xa bs.length xc, .slice ya es.length yc] 32)).heap.size := by simp; omega
    clear hx hpb2 ho hoe hv hall hb1 hpb1 hpe1 hg1 hA hQ hP1
    have hEq := Equal_any (w1.alloc (.cells #[.slice xa bs.length xc, .slice ya es.length yc] 32)) bs (tidL bs bs.length) ab xa cb xc (tidL_length _ _) HX.out.2.2 HX.out.2.1
    rw [HE.out] at hEq
    have HEq := Lib.hid hEq; clear hEq
    cases hb : isTidyV bs es
    all_goals
      rw [hb] at HEq
      have HB := Lib.hid hb
      clear hb HE
      go_wp2_with fail
      refine HEq.out.mono ?_
      rintro e w3 ⟨rfl, hb3⟩
      have hfin := HX.out.1.trans (hb3.mono hs1)
      clear hb3
      go_wp2
      go_ret
      exact ⟨ret_bool HB.out.symm, hfin⟩
  · have HV := Lib.hid (show isTidyV bs es = false by unfold isTidyV; rw [hv, Bool.and_false])
    clear hv
    go_wp2
    go_ret
    exact ⟨ret_bool HV.out.symm, hall.alloc hz _⟩
end Go.Proofs.YtngcmjfkeageiaaDoor
end
