/-
  Plain mathematics of chapter 3: the letters of a tidy block. It names no program. Conditions: none.
-/
import Derived.Test.YtngcmjfkeageiaaDoorBlk
namespace Go.Proofs.YtngcmjfkeageiaaDoor

theorem byteAt_left {a b : ByteArray} {i : Nat} (h : i < a.size) : byteAt (a ++ b) i = byteAt a i := by
  unfold byteAt
  have h' : i < a.data.size := h
  rw [ByteArray.data_append, Array.getD_eq_getD_getElem?, Array.getD_eq_getD_getElem?, Array.getElem?_append_left h']
theorem byteAt_oneT {s : ByteArray} {k : Nat} (h : k < s.size) (a : ByteArray) : byteAt (a ++ s.extract k (k + 1)) a.size = byteAt s k := by
  have e := extract_one h
  have hb := byteAt_get h
  unfold byteAt at hb ⊢
  have hs : a.data.size = a.size := rfl
  rw [ByteArray.data_append, Array.getD_eq_getD_getElem?, Array.getElem?_append_right (by omega), hs, Nat.sub_self, ← Array.getElem?_toList, e, ← hb]
  rfl
theorem fsA_left {a b : ByteArray} {t : Nat} : ∀ {k : Nat}, k ≤ a.size → fsA (a ++ b) t k = fsA a t k
  | 0, _ => rfl
  | k + 1, h => by rw [fsA_succ, fsA_succ, fsA_left (by omega), byteAt_left (by omega)]
theorem FS.step_dn {t u : Nat} {a b : FS} (h : a.dn = b.dn) : (a.step t u).dn = (b.step t u).dn := by
  unfold FS.step
  split
  · rfl
  · split
    · rfl
    · exact h

/-- whether a letter computes a term that the letters ahead of it have computed and not spoilt since -/
def spareB (s : ByteArray) (k : Nat) : Bool := lowB (byteAt s k) && (fsA s (byteAt s k) k).dn
/-- the tidy letters of the first letters -/
def tidyA (s : ByteArray) : Nat → ByteArray
  | 0 => ⟨#[]⟩
  | k + 1 => if spareB s k then tidyA s k else tidyA s k ++ s.extract k (k + 1)
theorem tidyA_zero (s : ByteArray) : tidyA s 0 = ⟨#[]⟩ := rfl
theorem tidyA_spare {s : ByteArray} {k : Nat} (h : spareB s k = true) : tidyA s (k + 1) = tidyA s k := by
  show (if spareB s k then tidyA s k else tidyA s k ++ s.extract k (k + 1)) = _
  rw [h]; rfl
theorem tidyA_more {s : ByteArray} {k : Nat} (h : spareB s k = false) : tidyA s (k + 1) = tidyA s k ++ s.extract k (k + 1) := by
  show (if spareB s k then tidyA s k else tidyA s k ++ s.extract k (k + 1)) = _
  rw [h]; rfl
theorem tidyA_size (s : ByteArray) : ∀ k, k ≤ s.size → (tidyA s k).size ≤ k
  | 0, _ => Nat.le_refl _
  | k + 1, h => by
    have ih := tidyA_size s k (by omega)
    cases hb : spareB s k
    · rw [tidyA_more hb, ByteArray.size_append, ByteArray.size_extract]; omega
    · rw [tidyA_spare hb]; omega
/-- the tidy letters leave a term computed where the letters do -/
theorem tidyA_dn (s : ByteArray) {t : Nat} (ht : t ≤ 122) : ∀ k, k ≤ s.size → (fsA (tidyA s k) t (tidyA s k).size).dn = (fsA s t k).dn
  | 0, _ => rfl
  | k + 1, h => by
    have ih := tidyA_dn s ht k (by omega)
    cases hb : spareB s k
    · have hs : (tidyA s (k + 1)).size = (tidyA s k).size + 1 := by rw [tidyA_more hb, ByteArray.size_append, ByteArray.size_extract]; omega
      rw [hs, fsA_succ, fsA_succ, tidyA_more hb, byteAt_oneT (by omega), fsA_left (Nat.le_refl _)]
      exact FS.step_dn ih
    · rw [tidyA_spare hb, ih, fsA_succ]
      unfold spareB lowB at hb
      simp only [Bool.and_eq_true, decide_eq_true_eq] at hb
      by_cases e : byteAt s k = t
      · rw [FS.step_hit e, ← e, hb.2]
      · rw [FS.step_none e (by omega)]
/-- whether the first blocks are tidy -/
def tidyB (bs : List Pr) : Nat → Bool
  | 0 => true
  | k + 1 => tidyB bs k && decide (tidyA (restAt bs k) (restAt bs k).size = restAt bs k)
theorem tidyB_succ (bs : List Pr) (k : Nat) : tidyB bs (k + 1) = (tidyB bs k && decide (tidyA (restAt bs k) (restAt bs k).size = restAt bs k)) := rfl
theorem tidyB_no {bs : List Pr} {k : Nat} (h : tidyA (restAt bs k) (restAt bs k).size ≠ restAt bs k) : ∀ m, k < m → tidyB bs m = false := by
  intro m hm
  induction m with
  | zero => omega
  | succ m ih =>
    rcases Nat.lt_or_ge k m with h' | h'
    · rw [tidyB_succ, ih h']; rfl
    · obtain rfl : m = k := by omega
      rw [tidyB_succ, decide_eq_false h, Bool.and_false]
theorem tidyB_yes {bs : List Pr} {k : Nat} (h : tidyB bs k = true) (h' : tidyA (restAt bs k) (restAt bs k).size = restAt bs k) : tidyB bs (k + 1) = true := by rw [tidyB_succ, h, decide_eq_true h']; rfl
end Go.Proofs.YtngcmjfkeageiaaDoor
