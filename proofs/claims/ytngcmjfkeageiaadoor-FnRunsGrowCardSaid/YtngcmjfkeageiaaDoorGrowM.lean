/-
  Plain mathematics: the runs with k blocks at most are those of k + 1 that have no k + 1 blocks, in the same order. It names no program.
-/
import Derived.Test.YtngcmjfkeageiaaDoorRunM
namespace Go.Proofs.YtngcmjfkeageiaaDoor
open Go.RowKit Go.Maps
open Classical
noncomputable section

theorem flatMap_same {α β : Type} (l : List α) (f g : α → List β) (h : ∀ a ∈ l, f a = g a) : l.flatMap f = l.flatMap g := by
  induction l with
  | nil => rfl
  | cons a r ih =>
    rw [List.flatMap_cons, List.flatMap_cons, h a (by simp), ih fun b hb => h b (by simp [hb])]
theorem filter_flat {α β : Type} (p : β → Bool) (l : List α) (f : α → List β) : (l.flatMap f).filter p = l.flatMap fun a => (f a).filter p := by
  induction l with
  | nil => rfl
  | cons a r ih => rw [List.flatMap_cons, List.filter_append, ih, List.flatMap_cons]
/-- a run goes on by n blocks at most -/
theorem runsF_size {bs es : List Pr} {z : ByteArray} (hn1 : ∀ i, i < bs.length → (nameAt bs i).size = 1) : ∀ (n : Nat) (h way r : ByteArray), r ∈ runsF bs es z n h way → way.size ≤ r.size ∧ r.size ≤ way.size + n
  | 0, h, way, r, hr => by
    by_cases hz : h = z
    · subst hz; rw [runsF_end] at hr; simp at hr; subst hr; omega
    · rw [runsF_last hz] at hr; cases hr
  | n + 1, h, way, r, hr => by
    by_cases hz : h = z
    · subst hz; rw [runsF_end] at hr; simp at hr; subst hr; omega
    · rw [runsF_on hz] at hr
      unfold runsP at hr
      obtain ⟨i, hi, hr⟩ := List.mem_flatMap.1 hr
      have hi := List.mem_range.1 hi
      by_cases he : (h, nameAt bs i) ∈ es
      · rw [if_pos he] at hr
        have := runsF_size hn1 n _ _ r hr
        rw [ByteArray.size_append, hn1 i hi] at this
        omega
      · rw [if_neg he] at hr; cases hr
/-- those of n are those of n + 1 that go on by n blocks at most -/
theorem runsF_grow {bs es : List Pr} {z : ByteArray} (hn1 : ∀ i, i < bs.length → (nameAt bs i).size = 1) : ∀ (n : Nat) (h way : ByteArray), (runsF bs es z (n + 1) h way).filter (fun r => decide (r.size ≤ way.size + n)) = runsF bs es z n h way
  | 0, h, way => by
    by_cases hz : h = z
    · subst hz; rw [runsF_end, runsF_end]; simp
    · rw [runsF_last hz, List.filter_eq_nil_iff]
      intro r hr
      rw [runsF_on hz] at hr
      unfold runsP at hr
      obtain ⟨i, hi, hr⟩ := List.mem_flatMap.1 hr
      have hi := List.mem_range.1 hi
      by_cases he : (h, nameAt bs i) ∈ es
      · rw [if_pos he] at hr
        have := runsF_size hn1 0 _ _ r hr
        rw [ByteArray.size_append, hn1 i hi] at this
        simp; omega
      · rw [if_neg he] at hr; cases hr
  | n + 1, h, way => by
    by_cases hz : h = z
    · subst hz; rw [runsF_end, runsF_end]; simp
    · rw [runsF_on hz, runsF_on hz]
      unfold runsP
      rw [filter_flat]
      refine flatMap_same _ _ _ fun i hi => ?_
      have hi := List.mem_range.1 hi
      by_cases he : (h, nameAt bs i) ∈ es
      · rw [if_pos he, if_pos he]
        have := runsF_grow (es := es) (z := z) hn1 n (nameAt bs i) (way ++ nameAt bs i)
        rw [ByteArray.size_append, hn1 i hi] at this
        rw [show way.size + (n + 1) = way.size + 1 + n by omega]
        exact this
      · rw [if_neg he, if_neg he]; rfl
theorem allRuns_grow {bs es : List Pr} (hn1 : ∀ i, i < bs.length → (nameAt bs i).size = 1) (h0 : 0 < bs.length) (hne : nameAt bs 0 ≠ nameAt bs (bs.length - 1)) (k : Nat) : (allRuns bs es (k + 1)).filter (fun r => decide (r.size ≤ k)) = allRuns bs es k := by
  unfold allRuns
  by_cases h1 : 1 < k
  · rw [if_pos (by omega), if_pos h1]
    have := runsF_grow (es := es) (z := nameAt bs (bs.length - 1)) hn1 (k - 1) (nameAt bs 0) (nameAt bs 0)
    rw [hn1 0 h0, show 1 + (k - 1) = k by omega, show k - 1 + 1 = k + 1 - 1 by omega] at this
    exact this
  · rw [if_neg h1]
    by_cases h2 : 1 < k + 1
    · obtain rfl : k = 1 := by omega
      rw [if_pos h2]
      have := runsF_grow (es := es) (z := nameAt bs (bs.length - 1)) hn1 0 (nameAt bs 0) (nameAt bs 0)
      rw [hn1 0 h0, runsF_last hne] at this
      exact this
    · rw [if_neg h2]; rfl
theorem allRuns_size {bs es : List Pr} (hn1 : ∀ i, i < bs.length → (nameAt bs i).size = 1) (h0 : 0 < bs.length) (k : Nat) {r : ByteArray} (hr : r ∈ allRuns bs es k) : r.size ≤ k := by
  unfold allRuns at hr
  by_cases h1 : 1 < k
  · rw [if_pos h1] at hr
    have := runsF_size hn1 _ _ _ r hr
    rw [hn1 0 h0] at this
    omega
  · rw [if_neg h1] at hr; cases hr
end
end Go.Proofs.YtngcmjfkeageiaaDoor
