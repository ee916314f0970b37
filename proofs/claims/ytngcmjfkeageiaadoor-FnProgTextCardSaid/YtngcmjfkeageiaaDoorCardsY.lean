/-
  A card's argument that is a slice of bytes, opened. Conditions: none.
-/
import Derived.Test.YtngcmjfkeageiaaDoorCards2
import Derived.Test.YtngcmjfkeageiaaDoorOpen
import Derived.ChangeSlices
namespace Go.Proofs.YtngcmjfkeageiaaDoor
open Go.ChangeShapes Go.WideShapes Go.ChangeAt Go.RowKit Go.Joins Go.Deep
set_option maxRecDepth 100000

theorem open_bytes {H : Type} {enc : TypeId × Value → H} {W : World} {t e : TypeId} (ht : Tryd.prog.underlying t = some (.slice e)) (he : Tryd.prog.underlying e = some (.int .u8)) (hC : Tryd.prog.cellsOf e = 1) {fuel : Nat} {cs : List Value} {x : DataW H × List MemPlace} (h : DataW.trod enc Tryd.prog W 0 (fun _ => true) true fuel t cs = some x) :
    ∃ (a : Option Addr) (n cap' : Nat), cs = [.slice a n cap'] ∧ BytesRaw W a n cap' := by
  rcases Go.ChangeShapes.open_ints ht he hC h with ⟨hc, _⟩ | ⟨a, len, cap', zs, hcs, _, hlc, hcm, hm, _, hcell, hwf⟩
  · exact ⟨none, 0, 0, hc, ⟨Nat.le_refl _, Nat.zero_le _, fun i hi => absurd hi (Nat.not_lt_zero _)⟩⟩
  · simp only [if_true] at hm
    refine ⟨some a, len, cap', hcs, ⟨hlc, hcm, fun i hi => ?_⟩⟩
    have h1 := hcell i (by omega)
    obtain ⟨b, off, spot⟩ := a
    have hc0 := hcell 0 (by omega)
    have hspot : spot = none := by simpa [Addr.add] using World.cell?_spot hc0
    subst hspot
    have hz : zs.getD i 0 ∈ zs := by
      rw [List.getD_eq_getElem?_getD, List.getElem?_eq_getElem (by omega : i < zs.length)]
      exact List.getElem_mem _
    have hb : 0 ≤ zs.getD i 0 ∧ zs.getD i 0 ≤ 255 := by
      have h2 := hwf _ hz
      have h3 : IntKind.u8.min = 0 := rfl
      have h4 : IntKind.u8.max = 255 := rfl
      simp only [Lit.wf, Bool.and_eq_true, decide_eq_true_eq] at h2
      omega
    refine ⟨b, off, zs.getD i 0, rfl, ?_, hb.1, hb.2, ?_⟩
    · have := World.block_lt_of_cell? _ _ h1
      rwa [Go.WideShapes.add_plain] at this
    · rw [← Go.WideShapes.add_plain]; exact h1
end Go.Proofs.YtngcmjfkeageiaaDoor
