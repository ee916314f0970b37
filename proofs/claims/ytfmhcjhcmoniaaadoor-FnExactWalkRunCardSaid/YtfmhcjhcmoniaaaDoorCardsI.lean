/-
  A card's argument that is a slice of numbers, opened. Conditions: none.
-/
import Derived.Test.YtfmhcjhcmoniaaaDoorCards2
import Derived.Test.YtfmhcjhcmoniaaaDoorLawWalk
import Derived.ChangeSlices
namespace Go.Proofs.YtfmhcjhcmoniaaaDoor
open Go.ChangeShapes Go.WideShapes Go.ChangeAt Go.RowKit Go.Joins Go.Deep
set_option maxRecDepth 100000

theorem open_nums {H : Type} {enc : TypeId × Value → H} {W : World} {t e : TypeId} (ht : Tryd.prog.underlying t = some (.slice e)) (he : Tryd.prog.underlying e = some (.int .i64)) (hC : Tryd.prog.cellsOf e = 1) {fuel : Nat} {cs : List Value} {x : DataW H × List MemPlace} (h : DataW.trod enc Tryd.prog W 0 (fun _ => true) true fuel t cs = some x) :
    ∃ (a : Option Addr) (ns : List Int) (cap' : Nat), cs = [.slice a ns.length cap'] ∧ IntsRaw W a ns := by
  rcases Go.ChangeShapes.open_ints ht he hC h with ⟨hc, _⟩ | ⟨a, len, cap', zs, hcs, _, hlc, hcm, hm, _, hcell, _⟩
  · exact ⟨none, [], 0, hc, ⟨by simp [maxLen], fun i hi => by simp at hi⟩⟩
  · simp only [if_true] at hm
    have hl : (zs.take len).length = len := by simp; omega
    refine ⟨some a, zs.take len, cap', by rw [hl]; exact hcs, ⟨by rw [hl]; omega, fun i hi => ?_⟩⟩
    rw [hl] at hi
    have h1 := hcell i (by omega)
    have hn : numAt (zs.take len) i = zs.getD i 0 := by
      unfold numAt
      simp [List.getD_eq_getElem?_getD, hi]
    rw [hn]
    obtain ⟨b, off, spot⟩ := a
    have hc0 := hcell 0 (by omega)
    have hspot : spot = none := by simpa [Addr.add] using World.cell?_spot hc0
    subst hspot
    refine ⟨b, off, rfl, ?_, ?_⟩
    · have := World.block_lt_of_cell? _ _ h1
      rwa [Go.WideShapes.add_plain] at this
    · rw [← Go.WideShapes.add_plain]; exact h1
end Go.Proofs.YtfmhcjhcmoniaaaDoor
