/-
  Plain mathematics of chapter 1: terms swapped in a text. It names no program. Conditions: none.
-/
import Derived.Test.YtdepangkeeehpaaDoorWords
namespace Go.Proofs.YtdepangkeeehpaaDoor
open Go.RowKit

/-- t for u, u for t, any other number as it is -/
def othN (c t u : Nat) : Nat := if c = t then u else if c = u then t else c
/-- a letter, t and u swapped: small letters compute, great ones spoil -/
def swB (t u c : Nat) : Nat := if lowB c then othN c t u else othN (c + 32) t u - 32
def swC (t u c : Nat) : UInt8 := UInt8.ofNat (swB t u c)
def swT (s : ByteArray) (t u : Nat) : Nat → ByteArray
  | 0 => ⟨#[]⟩
  | k + 1 => swT s t u k ++ ⟨#[swC t u (byteAt s k)]⟩
theorem swT_succ (s : ByteArray) (t u k : Nat) : swT s t u (k + 1) = swT s t u k ++ ⟨#[swC t u (byteAt s k)]⟩ := rfl
theorem swT_size (s : ByteArray) (t u : Nat) : ∀ k, (swT s t u k).size = k
  | 0 => rfl
  | k + 1 => by rw [swT_succ, ByteArray.size_append, swT_size s t u k]; rfl
theorem swB_le {t u c : Nat} (ht : lowB t = true) (hu : lowB u = true) (hc : opB c = true) : swB t u c < 256 ∧ opB (swB t u c) = true ∧ (lowB (swB t u c) = lowB c) := by
  have h1 : t = 120 ∨ t = 121 ∨ t = 122 := by unfold lowB at ht; simp only [Bool.and_eq_true, decide_eq_true_eq] at ht; omega
  have h2 : u = 120 ∨ u = 121 ∨ u = 122 := by unfold lowB at hu; simp only [Bool.and_eq_true, decide_eq_true_eq] at hu; omega
  have h3 : c = 88 ∨ c = 89 ∨ c = 90 ∨ c = 120 ∨ c = 121 ∨ c = 122 := by unfold opB lowB upB at hc; simp only [Bool.or_eq_true, Bool.and_eq_true, decide_eq_true_eq] at hc; omega
  rcases h1 with rfl | rfl | rfl <;> rcases h2 with rfl | rfl | rfl <;> rcases h3 with rfl | rfl | rfl | rfl | rfl | rfl <;> decide
theorem swC_nat {t u c : Nat} (ht : lowB t = true) (hu : lowB u = true) (hc : opB c = true) : (swC t u c).toNat = swB t u c := by
  unfold swC
  rw [UInt8.toNat_ofNat']
  have := (swB_le ht hu hc).1
  omega
theorem swT_at (s : ByteArray) (t u : Nat) : ∀ k i, i < k → byteAt (swT s t u k) i = (swC t u (byteAt s i)).toNat
  | 0, i, h => absurd h (Nat.not_lt_zero _)
  | k + 1, i, h => by
    have hz := swT_size s t u k
    have hd : (swT s t u k).data.size = k := hz
    rw [swT_succ]
    unfold byteAt
    rw [ByteArray.data_append]
    by_cases e : i < k
    · have := swT_at s t u k i e
      unfold byteAt at this
      rw [Array.getD_eq_getD_getElem?, Array.getElem?_append_left (by omega), ← Array.getD_eq_getD_getElem?]
      exact this
    · obtain rfl : i = k := by omega
      rw [Array.getD_eq_getD_getElem?, Array.getElem?_append_right (by omega), hd, Nat.sub_self]
      rfl
end Go.Proofs.YtdepangkeeehpaaDoor
