/-
  Runs of chapter 2: what a run is, and the model's IsRun. Conditions: at most 1048576 blocks and edges, each text at most as many bytes.
-/
import Derived.Test.YtfmhcjhcmoniaaaDoorWith
import Derived.BigQuiet
import Derived.Deep.QuietTactic
import Derived.Deep.RegionHeld3
namespace Go.Proofs.YtfmhcjhcmoniaaaDoor
open Go.RowKit Go.Maps

/-- the last block's name -/
def lastN (bs : List Pr) : ByteArray := nameAt bs (bs.length - 1)
/-- the block at a place of a run -/
def ch (s : ByteArray) (i : Nat) : ByteArray := s.extract i (i + 1)
theorem ch_last {s : ByteArray} {n : Nat} (h : n + 1 = s.size) : s.extract n s.size = ch s n := by unfold ch; rw [h]
theorem ch_size {s : ByteArray} {i : Nat} (h : i < s.size) : (ch s i).size = 1 := by unfold ch; rw [ByteArray.size_extract]; omega
structure RunOk (bs es : List Pr) (run : ByteArray) : Prop where
  lo : 2 ≤ run.size
  hi : run.size ≤ 40
  st : ch run 0 = nameAt bs 0
  ed : ∀ m, m + 1 < run.size → (ch run m, ch run (m + 1)) ∈ es
  en : ch run (run.size - 1) = lastN bs
open Classical in
noncomputable def runB (bs es : List Pr) (run : ByteArray) : Bool := decide (RunOk bs es run)
theorem runB_no {bs es : List Pr} {run : ByteArray} (h : ¬ RunOk bs es run) : runB bs es run = false := by simpa [runB] using h
theorem runB_yes {bs es : List Pr} {run : ByteArray} (h : RunOk bs es run) : runB bs es run = true := by simpa [runB] using h
noncomputable def isRunB (bs es : List Pr) (run : ByteArray) : Bool := validB bs es && runB bs es run
theorem fndE_neg {l : List Pr} {p : Pr} : fndE l p < 0 ↔ p ∉ l := by
  constructor
  · intro h hm
    obtain ⟨k, _, e, _⟩ := fndE_yes hm
    omega
  · intro h
    rw [fndE_no h]; omega

theorem l1Edge_yes (from_ to_ : ByteArray) (w : World) (l : List Pr) (a : Option Addr) (cap : Nat) (vb : Value) (k : Nat) (hk : fndE l (from_, to_) = (k : Int)) (hp : PairsAt w a l) :
    Calls Tryd.prog 41 #[.agg #[vb, .slice a l.length cap], .string from_, .string to_] w fun e w' => e = .returned (.int .i64 (k : Int)) ∧ Below w.heap.size w w' :=
  (l1Edge_any from_ to_ w l a cap vb hp).mono fun e w' h => ⟨by rw [h.1, hk], h.2⟩
theorem l1Edge_no (from_ to_ : ByteArray) (w : World) (l : List Pr) (a : Option Addr) (cap : Nat) (vb : Value) (hk : (from_, to_) ∉ l) (hp : PairsAt w a l) :
    Calls Tryd.prog 41 #[.agg #[vb, .slice a l.length cap], .string from_, .string to_] w fun e w' => e = .returned (.int .i64 (-1)) ∧ Below w.heap.size w w' :=
  (l1Edge_any from_ to_ w l a cap vb hp).mono fun e w' h => ⟨by rw [h.1, fndE_no hk], h.2⟩

/-- 's[i:j]' of a text -/
theorem run_slice_str (s : ByteArray) (i j : Int) (a b : Nat) (hi : i = a) (hj : j = b) (hab : a ≤ b) (hb : b ≤ s.size) (W : World) :
    (Instr.slice 9 (.string s) (some (.int .i64 i)) (some (.int .i64 j)) none).run Tryd.prog W = .ok (.string (s.extract a b)) W := by
  subst hi hj
  have h2 : (b : Int) ≤ s.size := by omega
  have h3 : (a : Int) ≤ b := by omega
  simp [Instr.slice, Instr.sliceBounds, Instr.sliceBound, run_underlying Tryd.underlying9, asIntOf, hab, hb]
theorem isRunB_no1 {bs es : List Pr} {run : ByteArray} (h : validB bs es = false) : isRunB bs es run = false := by simp [isRunB, h]
theorem isRunB_yes {bs es : List Pr} {run : ByteArray} (h : validB bs es = true) : isRunB bs es run = runB bs es run := by simp [isRunB, h]
end Go.Proofs.YtfmhcjhcmoniaaaDoor
