/-
  The program's chapter 3: a block as a term sees it. Conditions: at most 1048576 blocks and edges, each text at most as many bytes; the errors' variables hold errors.
-/
import Derived.Test.YtfmhcjhcmoniaaaDoorBlkS
import Derived.Test.YtfmhcjhcmoniaaaDoorOps
namespace Go.Proofs.YtfmhcjhcmoniaaaDoor
open Go.RowKit Go.Maps

/-- the facts as bits -/
def fv (s : FS) : Int := (if s.up then 1 else 0) + (if s.dn then 2 else 0) + (if s.cl then 4 else 0)
def FS.comp (s : FS) : FS := ⟨s.n, s.up || s.cl, true, s.cl⟩
def FS.spoil (s : FS) : FS := ⟨s.n, s.up, false, false⟩
theorem fv_bits (n : Nat) (a b c : Bool) : fv ⟨n, a, b, c⟩ = (if a then 1 else 0) + (if b then 2 else 0) + (if c then 4 else 0) := rfl

theorem Tryd.isCC (b : Int) (w : World) : (Instr.typeAssert (.iface 140 (.agg #[.int .u8 b])) 191 140 true).run Tryd.prog w = .ok (.tuple #[.agg #[.int .u8 b], .bool true]) w := by kernel_rfl
theorem Tryd.isCS (b : Int) (w : World) : (Instr.typeAssert (.iface 140 (.agg #[.int .u8 b])) 191 141 true).run Tryd.prog w = .ok (.tuple #[.agg #[.int .u8 0], .bool false]) w := by kernel_rfl
theorem Tryd.isSC (b : Int) (w : World) : (Instr.typeAssert (.iface 141 (.agg #[.int .u8 b])) 191 140 true).run Tryd.prog w = .ok (.tuple #[.agg #[.int .u8 0], .bool false]) w := by kernel_rfl
theorem Tryd.isSS (b : Int) (w : World) : (Instr.typeAssert (.iface 141 (.agg #[.int .u8 b])) 191 141 true).run Tryd.prog w = .ok (.tuple #[.agg #[.int .u8 b], .bool true]) w := by kernel_rfl

theorem below_alloc3 {w : World} (a b c : Obj) : Below w.heap.size w (((w.alloc a).alloc b).alloc c) := (((Below.refl _ _).alloc (Nat.le_refl _) _).alloc (by simp) _).alloc (by simp; omega) _
end Go.Proofs.YtfmhcjhcmoniaaaDoor
