/-
  Plain mathematics of chapter 2: what the blocks of a run do. Conditions: none.
-/
import Derived.Test.YtfmhcjhcmoniaaaDoorNamesM
import Derived.Test.YtfmhcjhcmoniaaaDoorIsRun
namespace Go.Proofs.YtfmhcjhcmoniaaaDoor
open Go.RowKit Go.Maps

/-- what the block of a name does -/
def opsAt (bs : List Pr) (x : ByteArray) : ByteArray := restAt bs (fnd bs x).toNat
def opsTxt (bs : List Pr) (run : ByteArray) (k : Nat) : ByteArray := cat ((List.range k).map fun i => opsAt bs (ch run i))
theorem opsTxt_succ (bs : List Pr) (run : ByteArray) (k : Nat) : opsTxt bs run (k + 1) = opsTxt bs run k ++ opsAt bs (ch run k) := by
  unfold opsTxt
  rw [List.range_succ, List.map_append, List.map_cons, List.map_nil, cat_snoc]
theorem RunOk.mem {bs es : List Pr} {run : ByteArray} (h : RunOk bs es run) (hV : Valid bs es) {k : Nat} (hk : k < run.size) : ch run k ∈ names bs := by
  cases k with
  | zero => rw [h.st]; exact nameAt_mem (by have := hV.b.lo; omega)
  | succ k => exact hV.e.to _ (h.ed k hk)
theorem opsAt_ok {bs es : List Pr} {x : ByteArray} (hV : Valid bs es) (h : x ∈ names bs) : opsOk (opsAt bs x) := by
  obtain ⟨k, hk, hf, _⟩ := fnd_pos h
  unfold opsAt
  rw [hf]
  exact hV.b.op _ (pair_mem hk)
theorem opsTxt_size {bs es : List Pr} {run : ByteArray} (hV : Valid bs es) (hR : RunOk bs es run) : ∀ k, k ≤ run.size → (opsTxt bs run k).size ≤ 6 * k
  | 0, _ => by show (cat []).size ≤ 0; exact Nat.le_refl _
  | k + 1, hk => by
    have h1 := opsTxt_size hV hR k (by omega)
    have h2 := (opsAt_ok hV (hR.mem hV (k := k) (by omega))).1
    rw [opsTxt_succ, ByteArray.size_append]
    omega
theorem isRunB_iff {bs es : List Pr} {run : ByteArray} : isRunB bs es run = true ↔ Valid bs es ∧ RunOk bs es run := by simp [isRunB, validB, runB]
end Go.Proofs.YtfmhcjhcmoniaaaDoor
