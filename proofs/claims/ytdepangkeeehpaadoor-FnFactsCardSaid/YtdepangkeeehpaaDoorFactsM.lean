/-
  Plain mathematics of chapter 3: how what a block does to a term hangs together. It names no Go and no program. Conditions: none.
-/
import Derived.Test.YtdepangkeeehpaaDoorBlk
namespace Go.Proofs.YtdepangkeeehpaaDoor

/-- how the four facts hang together -/
def FSok (f : FS) : Prop := (f.cl = true → f.up = f.dn ∧ f.n = if f.up then 1 else 0) ∧ (f.cl = false → (if f.up then 1 else 0) + (if f.dn then 1 else 0) ≤ f.n)
theorem FSok.step {f : FS} (h : FSok f) (t u : Nat) : FSok (f.step t u) := by
  obtain ⟨n, up, dn, cl⟩ := f
  unfold FSok at h ⊢
  unfold FS.step
  simp only at h ⊢
  by_cases h1 : u = t
  · rw [if_pos h1]
    cases up <;> cases dn <;> cases cl <;> simp at h ⊢ <;> omega
  · rw [if_neg h1]
    by_cases h2 : u + 32 = t
    · rw [if_pos h2]
      cases up <;> cases dn <;> cases cl <;> simp at h ⊢ <;> omega
    · rw [if_neg h2]; exact h
theorem fsA_okF (s : ByteArray) (t : Nat) : ∀ k, FSok (fsA s t k)
  | 0 => ⟨fun _ => ⟨rfl, rfl⟩, fun h => by cases h⟩
  | k + 1 => by rw [fsA_succ]; exact (fsA_okF s t k).step _ _
theorem fsOf_okF (s t : ByteArray) : FSok (fsOf s t) := fsA_okF _ _ _
end Go.Proofs.YtdepangkeeehpaaDoor
