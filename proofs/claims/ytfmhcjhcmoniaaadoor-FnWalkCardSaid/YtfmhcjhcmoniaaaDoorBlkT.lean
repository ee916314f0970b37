/-
  The model's chapter 3: whether a program is valid and has a block, and what the block does. Conditions: at most 1048576 blocks and edges, each text at most as many bytes.
-/
import Derived.Test.YtfmhcjhcmoniaaaDoorBlkS
namespace Go.Proofs.YtfmhcjhcmoniaaaDoor
open Go.RowKit Go.Maps

noncomputable def blkB (bs es : List Pr) (x t : ByteArray) : Bool := hasB bs es x && isTm t
theorem blkB_iff {bs es : List Pr} {x t : ByteArray} : blkB bs es x t = true ↔ hasB bs es x = true ∧ isTm t = true := by simp [blkB]
theorem blkB_no1 {bs es : List Pr} {x t : ByteArray} (h : hasB bs es x = false) : blkB bs es x t = false := by simp [blkB, h]
theorem blkB_yes {bs es : List Pr} {x t : ByteArray} (h : hasB bs es x = true) : blkB bs es x t = isTm t := by simp [blkB, h]
def blkOps (bs : List Pr) (x : ByteArray) : ByteArray := restAt bs (fnd bs x).toNat
theorem blkOps_ok {bs es : List Pr} {x : ByteArray} (h : hasB bs es x = true) : opsOk (blkOps bs x) := by
  obtain ⟨hv, hm⟩ := hasB_iff.1 h
  have hV : Valid bs es := by simpa [validB] using hv
  obtain ⟨k, hk, hf, _⟩ := fnd_pos hm
  unfold blkOps
  rw [hf]
  exact hV.b.op _ (pair_mem hk)
theorem l1Find_k3 (name : ByteArray) (w : World) (l : List Pr) (a : Option Addr) (cap : Nat) (ve : Value) (k : Nat) (hk : fnd l name = (k : Int)) (hp : PairsAt w a l) :
    Calls Tryd.prog 40 #[.agg #[.slice a l.length cap, ve], .string name] w fun e w' => e = .returned (.int .i64 (k : Int)) ∧ Below w.heap.size w w' :=
  (l1Find_any name w l a cap ve hp).mono fun e w' h => ⟨by rw [h.1, hk], h.2⟩

end Go.Proofs.YtfmhcjhcmoniaaaDoor
