/-
  Plain mathematics of chapter 3: what a block does to a term, letter by letter. It names no Go and no program. Conditions: none.
-/
import Derived.Test.YtfmhcjhcmoniaaaDoorPlain
namespace Go.Proofs.YtfmhcjhcmoniaaaDoor

/-- a text is a term -/
def isTm (t : ByteArray) : Bool := t.size == 1 && lowB (byteAt t 0)
theorem isTm_iff {t : ByteArray} : isTm t = true ↔ t = ⟨#[120]⟩ ∨ t = ⟨#[121]⟩ ∨ t = ⟨#[122]⟩ := by
  constructor
  · intro h
    unfold isTm lowB at h
    simp only [Bool.and_eq_true, beq_iff_eq, decide_eq_true_eq] at h
    obtain ⟨h1, h2, h3⟩ := h
    obtain ⟨⟨l⟩⟩ := t
    have hl : l.length = 1 := h1
    match l, hl with
    | [c], _ =>
      have e : byteAt ⟨⟨[c]⟩⟩ 0 = c.toNat := rfl
      rw [e] at h2 h3
      have : c = 120 ∨ c = 121 ∨ c = 122 := by
        have : c.toNat = 120 ∨ c.toNat = 121 ∨ c.toNat = 122 := by omega
        rcases this with h | h | h
        · exact .inl (UInt8.toNat_inj.1 h)
        · exact .inr (.inl (UInt8.toNat_inj.1 h))
        · exact .inr (.inr (UInt8.toNat_inj.1 h))
      rcases this with rfl | rfl | rfl
      · exact .inl rfl
      · exact .inr (.inl rfl)
      · exact .inr (.inr rfl)
  · rintro (rfl | rfl | rfl) <;> rfl
theorem isTm_size {t : ByteArray} (h : isTm t = true) : t.size = 1 := by
  rcases isTm_iff.1 h with rfl | rfl | rfl <;> rfl
theorem isTm_bd {t : ByteArray} (h : isTm t = true) : 120 ≤ byteAt t 0 ∧ byteAt t 0 ≤ 122 := by
  rcases isTm_iff.1 h with rfl | rfl | rfl <;> decide

/-- what letters have done to a term: how often they compute it by themselves, ahead of all that spoils it, behind all that spoils it, and whether none spoils it -/
structure FS where
  n : Nat
  up : Bool
  dn : Bool
  cl : Bool
def FS.zero : FS := ⟨0, false, false, true⟩
def FS.step (t u : Nat) (s : FS) : FS :=
  if u = t then ⟨if s.dn then s.n else s.n + 1, s.up || s.cl, true, s.cl⟩
  else if u + 32 = t then ⟨s.n, s.up, false, false⟩ else s
theorem FS.step_hit {t u : Nat} {s : FS} (h : u = t) : s.step t u = ⟨if s.dn then s.n else s.n + 1, s.up || s.cl, true, s.cl⟩ := by unfold FS.step; rw [if_pos h]
theorem FS.step_spoil {t u : Nat} {s : FS} (h : u + 32 = t) : s.step t u = ⟨s.n, s.up, false, false⟩ := by unfold FS.step; rw [if_neg (by omega), if_pos h]
theorem FS.step_none {t u : Nat} {s : FS} (h : u ≠ t) (h' : u + 32 ≠ t) : s.step t u = s := by unfold FS.step; rw [if_neg h, if_neg h']
/-- behind so many letters -/
def fsA (s : ByteArray) (t : Nat) : Nat → FS
  | 0 => .zero
  | k + 1 => (fsA s t k).step t (byteAt s k)
theorem fsA_zero (s : ByteArray) (t : Nat) : fsA s t 0 = .zero := rfl
theorem fsA_succ (s : ByteArray) (t k : Nat) : fsA s t (k + 1) = (fsA s t k).step t (byteAt s k) := rfl
def fsOf (s t : ByteArray) : FS := fsA s (byteAt t 0) s.size
theorem FS.step_n (t u : Nat) (s : FS) : (s.step t u).n ≤ s.n + 1 := by
  unfold FS.step
  split
  · show (if s.dn then s.n else s.n + 1) ≤ _
    split <;> omega
  · split
    · show s.n ≤ _; omega
    · omega
theorem fsA_n (s : ByteArray) (t : Nat) : ∀ k, (fsA s t k).n ≤ k
  | 0 => Nat.le_refl _
  | k + 1 => by
    have := fsA_n s t k
    have h := FS.step_n t (byteAt s k) (fsA s t k)
    rw [fsA_succ]; omega
theorem fsOf_n (s t : ByteArray) : (fsOf s t).n ≤ s.size := fsA_n _ _ _
theorem FS.step_up {t u : Nat} {s : FS} (h : s.up = true) : (s.step t u).up = true := by
  unfold FS.step
  split
  · show (s.up || s.cl) = true; rw [h]; rfl
  · split
    · exact h
    · exact h
theorem fsA_up {s : ByteArray} {t j : Nat} (hu : (fsA s t j).up = true) : ∀ k, j ≤ k → (fsA s t k).up = true := by
  intro k hk
  induction k with
  | zero => obtain rfl : j = 0 := by omega
            exact hu
  | succ k ih =>
    rcases Nat.lt_or_ge k j with h | h
    · obtain rfl : j = k + 1 := by omega
      exact hu
    · rw [fsA_succ]; exact FS.step_up (ih h)
theorem FS.step_dead {t u : Nat} {s : FS} (h : s.up = false) (h' : s.cl = false) : (s.step t u).up = false ∧ (s.step t u).cl = false := by
  unfold FS.step
  split
  · exact ⟨by show (s.up || s.cl) = false; rw [h, h']; rfl, h'⟩
  · split
    · exact ⟨h, rfl⟩
    · exact ⟨h, h'⟩
theorem fsA_dead {s : ByteArray} {t j : Nat} (hu : (fsA s t j).up = false) (hc : (fsA s t j).cl = false) : ∀ k, j ≤ k → (fsA s t k).up = false ∧ (fsA s t k).cl = false := by
  intro k hk
  induction k with
  | zero => obtain rfl : j = 0 := by omega
            exact ⟨hu, hc⟩
  | succ k ih =>
    rcases Nat.lt_or_ge k j with h | h
    · obtain rfl : j = k + 1 := by omega
      exact ⟨hu, hc⟩
    · rw [fsA_succ]; exact FS.step_dead (ih h).1 (ih h).2
/-- no letter so far speaks of the term -/
def Still (s : ByteArray) (t k : Nat) : Prop := ∀ j, j < k → byteAt s j ≠ t ∧ byteAt s j + 32 ≠ t
theorem fsA_still {s : ByteArray} {t : Nat} : ∀ {k : Nat}, Still s t k → fsA s t k = .zero
  | 0, _ => rfl
  | k + 1, h => by
    rw [fsA_succ, FS.step_none (h k (by omega)).1 (h k (by omega)).2, fsA_still fun j hj => h j (by omega)]
theorem up_hit {s : ByteArray} {t k : Nat} (h : Still s t k) (hk : k < s.size) (e : byteAt s k = t) : (fsA s t s.size).up = true := by
  refine fsA_up (j := k + 1) ?_ _ (by omega)
  rw [fsA_succ, FS.step_hit e, fsA_still h]; rfl
theorem up_spoil {s : ByteArray} {t k : Nat} (h : Still s t k) (hk : k < s.size) (e : byteAt s k + 32 = t) : (fsA s t s.size).up = false := by
  have e1 : fsA s t (k + 1) = ⟨0, false, false, false⟩ := by rw [fsA_succ, FS.step_spoil e, fsA_still h]; rfl
  exact (fsA_dead (j := k + 1) (by rw [e1]) (by rw [e1]) _ (by omega)).1
theorem up_none {s : ByteArray} {t : Nat} (h : Still s t s.size) : (fsA s t s.size).up = false := by rw [fsA_still h]; rfl
theorem fsA_cl {s : ByteArray} {t : Nat} : ∀ {k : Nat}, (∀ j, j < k → byteAt s j + 32 ≠ t) → (fsA s t k).cl = true
  | 0, _ => rfl
  | k + 1, h => by
    have ih := fsA_cl (s := s) (t := t) (k := k) fun j hj => h j (by omega)
    rw [fsA_succ]
    unfold FS.step
    split
    · exact ih
    · rw [if_neg (h k (by omega))]; exact ih
theorem FS.step_cl {t u : Nat} {s : FS} (h : s.cl = false) : (s.step t u).cl = false := by
  unfold FS.step
  split
  · exact h
  · split
    · rfl
    · exact h
theorem cl_spoil {s : ByteArray} {t k : Nat} (hk : k < s.size) (e : byteAt s k + 32 = t) : (fsA s t s.size).cl = false := by
  have key : ∀ m, k + 1 ≤ m → (fsA s t m).cl = false := by
    intro m hm
    induction m with
    | zero => omega
    | succ m ih =>
      rcases Nat.lt_or_ge m (k + 1) with h | h
      · obtain rfl : m = k := by omega
        rw [fsA_succ, FS.step_spoil e]
      · rw [fsA_succ]; exact FS.step_cl (ih h)
  exact key _ hk
/-- one letter of a text -/
theorem extract_one {s : ByteArray} {k : Nat} (h : k < s.size) : (s.extract k (k + 1)).data.toList = [s[k]] := by
  have hl : k < s.data.toList.length := by rw [Array.length_toList]; exact h
  rw [ByteArray.data_extract, Array.toList_extract, List.extract_eq_take_drop, show k + 1 - k = 1 by omega, List.drop_eq_getElem_cons hl, List.take_succ_cons, List.take_zero]
  rfl
/-- what spoils a term -/
def spoilT (t : ByteArray) : ByteArray := ⟨#[t.data.getD 0 0 - 32]⟩
end Go.Proofs.YtfmhcjhcmoniaaaDoor
