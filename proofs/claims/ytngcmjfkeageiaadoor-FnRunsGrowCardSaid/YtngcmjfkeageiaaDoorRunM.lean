/-
  Plain mathematics of the runs with so many blocks at most: their list, in the order of Blocks. It names no program.
-/
import Derived.Test.YtngcmjfkeageiaaDoorDist
namespace Go.Proofs.YtngcmjfkeageiaaDoor
open Go.RowKit Go.Maps
open Classical
noncomputable section

/-- the runs that begin with a way, at whose end is h, and go on by at most n blocks, to z -/
def runsF (bs es : List Pr) (z : ByteArray) : Nat → ByteArray → ByteArray → List ByteArray
  | 0, h, way => if h = z then [way] else []
  | n + 1, h, way => if h = z then [way] else (List.range bs.length).flatMap fun i => if (h, nameAt bs i) ∈ es then runsF bs es z n (nameAt bs i) (way ++ nameAt bs i) else []
/-- those that go on by one of the first blocks -/
def runsP (bs es : List Pr) (z : ByteArray) (n : Nat) (h way : ByteArray) (k : Nat) : List ByteArray :=
  (List.range k).flatMap fun i => if (h, nameAt bs i) ∈ es then runsF bs es z n (nameAt bs i) (way ++ nameAt bs i) else []
theorem runsP_zero (bs es : List Pr) (z : ByteArray) (n : Nat) (h way : ByteArray) : runsP bs es z n h way 0 = [] := rfl
theorem runsP_yes {bs es : List Pr} {z : ByteArray} {n : Nat} {h way : ByteArray} {k : Nat} (he : (h, nameAt bs k) ∈ es) : runsP bs es z n h way (k + 1) = runsP bs es z n h way k ++ runsF bs es z n (nameAt bs k) (way ++ nameAt bs k) := by
  unfold runsP
  rw [List.range_succ, List.flatMap_append]
  simp [he]
theorem runsP_no {bs es : List Pr} {z : ByteArray} {n : Nat} {h way : ByteArray} {k : Nat} (he : (h, nameAt bs k) ∉ es) : runsP bs es z n h way (k + 1) = runsP bs es z n h way k := by
  unfold runsP
  rw [List.range_succ, List.flatMap_append]
  simp [he]
theorem runsF_end (bs es : List Pr) {z : ByteArray} (n : Nat) (way : ByteArray) : runsF bs es z n z way = [way] := by
  cases n <;> simp [runsF]
theorem runsF_last {bs es : List Pr} {z h : ByteArray} (hz : h ≠ z) (way : ByteArray) : runsF bs es z 0 h way = [] := by simp [runsF, hz]
theorem runsF_on {bs es : List Pr} {z h : ByteArray} (hz : h ≠ z) (n : Nat) (way : ByteArray) : runsF bs es z (n + 1) h way = runsP bs es z n h way bs.length := by simp [runsF, runsP, hz]

/-- a run shows how far the exit is at most -/
theorem runsF_wk {bs es : List Pr} {z : ByteArray} : ∀ (n : Nat) (h way : ByteArray), runsF bs es z n h way ≠ [] → ∃ j, j ≤ n ∧ Wk (flip es) z j h
  | 0, h, way, hr => by
    by_cases hz : h = z
    · subst hz; exact ⟨0, Nat.le_refl _, .nil⟩
    · exact absurd (runsF_last hz way) hr
  | n + 1, h, way, hr => by
    by_cases hz : h = z
    · subst hz; exact ⟨0, Nat.zero_le _, .nil⟩
    · rw [runsF_on hz] at hr
      unfold runsP at hr
      have hne : ∃ i, i < bs.length ∧ (if (h, nameAt bs i) ∈ es then runsF bs es z n (nameAt bs i) (way ++ nameAt bs i) else []) ≠ [] := by
        rcases Classical.em (∃ i, i < bs.length ∧ (if (h, nameAt bs i) ∈ es then runsF bs es z n (nameAt bs i) (way ++ nameAt bs i) else []) ≠ []) with h' | h'
        · exact h'
        · refine absurd (List.flatMap_eq_nil_iff.2 fun i hi => ?_) hr
          rcases Classical.em ((if (h, nameAt bs i) ∈ es then runsF bs es z n (nameAt bs i) (way ++ nameAt bs i) else []) = []) with h2 | h2
          · exact h2
          · exact absurd ⟨i, List.mem_range.1 hi, h2⟩ h'
      obtain ⟨i, _, hi⟩ := hne
      by_cases he : (h, nameAt bs i) ∈ es
      · rw [if_pos he] at hi
        obtain ⟨j, hj, hw⟩ := runsF_wk n _ _ hi
        exact ⟨j + 1, by omega, .snoc hw (mem_flip.2 he)⟩
      · rw [if_neg he] at hi; exact absurd rfl hi
theorem runsF_far {bs es : List Pr} {z h way : ByteArray} {D : ByteArray → Option Nat} (hD : Far (flip es) z D) {d n : Nat} (hd : D h = some d) (hn : n < d) : runsF bs es z n h way = [] := by
  cases hr : runsF bs es z n h way with
  | nil => rfl
  | cons a l =>
    obtain ⟨j, hj, hw⟩ := runsF_wk n h way (by rw [hr]; simp)
    have := ((hD h).1 d hd).2 j hw
    omega
theorem far_exit {es : List Pr} {z h : ByteArray} {D : ByteArray → Option Nat} (hD : Far (flip es) z D) {d : Nat} (hd : D h = some d) : d = 0 ↔ h = z := by
  constructor
  · intro h0
    subst h0
    have := ((hD h).1 0 hd).1
    cases this
    rfl
  · intro e
    subst e
    have := ((hD h).1 d hd).2 0 .nil
    omega
/-- what is listed of them: 301 at most -/
def cut301 (l : List ByteArray) : List ByteArray := l.take 301
theorem cut301_few {l : List ByteArray} (h : (cut301 l).length ≤ 300) : cut301 l = l := by
  unfold cut301 at h ⊢
  rw [List.length_take] at h
  exact List.take_of_length_le (by omega)
theorem cut301_many {l m : List ByteArray} (h : ¬ (cut301 l).length ≤ 300) : cut301 (l ++ m) = cut301 l := by
  unfold cut301 at h ⊢
  rw [List.length_take] at h
  rw [List.take_append_of_le_length (by omega)]
theorem cut301_len (l : List ByteArray) : (cut301 l).length ≤ 301 := by unfold cut301; rw [List.length_take]; omega
/-- all runs with k blocks at most -/
def allRuns (bs es : List Pr) (k : Nat) : List ByteArray := if 1 < k then runsF bs es (nameAt bs (bs.length - 1)) (k - 1) (nameAt bs 0) (nameAt bs 0) else []
end
end Go.Proofs.YtngcmjfkeageiaaDoor
