/-
  slices.Equal over two lists of blocks as long as each other. Conditions: at most 1048576 blocks, each text at most as many bytes.
-/
import Derived.Test.YtngcmjfkeageiaaDoorBlkF
namespace Go.Proofs.YtngcmjfkeageiaaDoor
open Go.RowKit Go.Maps

/-- the first pairs are the same -/
def eqTo (l l' : List Pr) : Nat → Bool
  | 0 => true
  | k + 1 => eqTo l l' k && (decide (nameAt l k = nameAt l' k) && decide (restAt l k = restAt l' k))
theorem eqTo_no {l l' : List Pr} {k : Nat} (h : ¬ (nameAt l k = nameAt l' k ∧ restAt l k = restAt l' k)) : ∀ m, k < m → eqTo l l' m = false := by
  intro m hm
  induction m with
  | zero => omega
  | succ m ih =>
    show (eqTo l l' m && (decide (nameAt l m = nameAt l' m) && decide (restAt l m = restAt l' m))) = false
    rcases Nat.lt_or_ge k m with h' | h'
    · rw [ih h']; rfl
    · obtain rfl : m = k := by omega
      by_cases h1 : nameAt l m = nameAt l' m
      · rw [decide_eq_false (p := restAt l m = restAt l' m) (fun e => h ⟨h1, e⟩), Bool.and_false, Bool.and_false]
      · rw [decide_eq_false h1, Bool.false_and, Bool.and_false]
theorem eqTo_yes {l l' : List Pr} {k : Nat} (h : eqTo l l' k = true) (h1 : nameAt l k = nameAt l' k) (h2 : restAt l k = restAt l' k) : eqTo l l' (k + 1) = true := by
  show (eqTo l l' k && (decide (nameAt l k = nameAt l' k) && decide (restAt l k = restAt l' k))) = true
  rw [h, decide_eq_true h1, decide_eq_true h2]; rfl

set_option maxRecDepth 100000 in
set_option maxHeartbeats 3200000 in
theorem Equal_any (w : World) (l l' : List Pr) (a a' : Option Addr) (c c' : Nat) (hl : l'.length = l.length) (hp : PairsAt w a l) (hp' : PairsAt w a' l') :
    Calls Tryd.prog 97 #[.slice a l.length c, .slice a' l.length c'] w fun e w' => e = .returned (.bool (eqTo l l' l.length)) ∧ Below w.heap.size w w' := by
  have hl9 := hp.len
  go_enter Tryd.func97, Tryd.ntmps97
  go_wp2
  go_loopw [13] (fun i wr => ∃ k : Nat, k ≤ l.length ∧ i = .int .i64 k ∧ eqTo l l' k = true ∧ Below w.heap.size w wr) (fun i _ => l.length - (intOf i).toNat)
  case atStart => exact ⟨0, Nat.zero_le _, rfl, rfl, Below.refl _ _⟩
  case round =>
    obtain ⟨k, hk, rfl, he, hbl⟩ := hrel
    by_cases hlt : k < l.length
    · obtain ⟨b, off, rfl, hb, g1, g2⟩ := hp.cell k hlt
      obtain ⟨b', off', rfl, hb', g1', g2'⟩ := hp'.cell k (by omega)
      have d1 := (hbl.cell (p := ⟨b, off + k * 2, none⟩) hb).trans g1
      have d2 := (hbl.cell (p := ⟨b, off + k * 2 + 1, none⟩) hb).trans g2
      have d1' := (hbl.cell (p := ⟨b', off' + k * 2, none⟩) hb').trans g1'
      have d2' := (hbl.cell (p := ⟨b', off' + k * 2 + 1, none⟩) hb').trans g2'
      have HE := Lib.hid he
      clear g1 g2 g1' g2' he
      by_cases q : nameAt l k = nameAt l' k ∧ restAt l k = restAt l' k
      · have t1 : ((nameAt l k).toList == (nameAt l' k).toList) = true := by rw [toList_eq_iff]; exact decide_eq_true q.1
        have t2 : ((restAt l k).toList == (restAt l' k).toList) = true := by rw [toList_eq_iff]; exact decide_eq_true q.2
        have HQ := Lib.hid q
        clear q
        go_wp2
        go_region
        all_goals
          go_wp2
          go_roundw
          case rel => exact ⟨k + 1, by omega, by go_num, eqTo_yes HE.out HQ.out.1 HQ.out.2, hbl.drew⟩
          case measure => simp [intOf]; omega
      · have HQ := Lib.hid (eqTo_no q l.length hlt)
        have t1 : ((nameAt l k).toList == (nameAt l' k).toList) = decide (nameAt l k = nameAt l' k) := toList_eq_iff _ _
        have t2 : ((restAt l k).toList == (restAt l' k).toList) = decide (restAt l k = restAt l' k) := toList_eq_iff _ _
        by_cases q1 : nameAt l k = nameAt l' k
        · have q2 : restAt l k ≠ restAt l' k := fun e => q ⟨q1, e⟩
          rw [decide_eq_true q1] at t1
          rw [decide_eq_false q2] at t2
          clear q q1 q2
          go_wp2
          go_region
          all_goals
            go_wp2
            go_ret
            exact ⟨ret_bool HQ.out.symm, hbl.drew⟩
        · rw [decide_eq_false q1] at t1
          clear q q1 t2
          go_wp2
          go_region
          all_goals
            go_wp2
            go_ret
            exact ⟨ret_bool HQ.out.symm, hbl.drew⟩
    · obtain rfl : k = l.length := by omega
      have HE := Lib.hid he
      clear he
      go_wp2
      go_ret
      exact ⟨ret_bool HE.out.symm, hbl⟩
end Go.Proofs.YtngcmjfkeageiaaDoor
