/-
  String of the tidier's strings.Builder. Conditions: the tidier lies in a block of its own, the bytes in a row of its own.
-/
import Derived.Test.YtngcmjfkeageiaaDoorTidyW
namespace Go.Proofs.YtngcmjfkeageiaaDoor
open Go.RowKit Go.Maps

set_option maxRecDepth 100000 in
set_option maxHeartbeats 1600000 in
theorem StringT_any (base R : Nat) (o : ByteArray) (p vb vt : Value) (w : World) (h : TidB base R o p vb vt w) :
    Calls Tryd.prog 132 #[.pointer (some ⟨R, 0, none⟩)] w fun e w' => e = .returned (.string o) ∧ Below base w w' := by
  have hd : TidH w.drew R p vb vt := h.blk
  obtain ⟨c0, c1, c2, f0, f1, f2, hsh, hlt⟩ := hd.cells
  by_cases h0 : o.size = 0
  · have ho : o = ⟨#[]⟩ := by
      obtain ⟨⟨l⟩⟩ := o
      have : l.length = 0 := h0
      rw [List.length_eq_zero_iff.1 this]
    obtain rfl := h.nil h0
    subst ho
    have hUS := fun W q => Lib.run_unsafeString_none (P := Tryd.prog) W 228 3 9 q
    have hSD : (Builtin.unsafeSliceData_ #[36] 228 #[.slice none 0 0]).run Tryd.prog w.drew = .ok (.pointer none) w.drew := rfl
    clear hd h h0
    have mixed : Tryd.prog.follows Departure.mixedOrders = true := by kernel_rfl
    go_enter Tryd.func132, Tryd.ntmps132
    go_wp2
    go_region_o
    all_goals (go_wp2; go_ret; exact ⟨rfl, Below.drew (Below.refl _ w)⟩)
  · have hbk := h.blk
    have hlo := h.lo
    have hown := h.row
    obtain ⟨g, cap, cur, rfl, hbg, hg, hnc, hcm, hcs, htake⟩ : ∃ g cap cur, vb = .slice (some ⟨g, 0, none⟩) o.size cap ∧ base ≤ g ∧ w.heap[g]? = some (.cells cur 5 (0, 0)) ∧ o.size ≤ cap ∧ cap ≤ maxLen ∧ cur.size = cap * 1 ∧ cur.toList.take (o.size * 1) = Lib.byteCells o.data.toList := by
      rcases hown.2 with ⟨_, hz⟩ | ⟨g, cap, cur, hv, r⟩
      · exact absurd hz h0
      · exact ⟨g, cap, cur, hv, r⟩
    have hll : o.data.toList.length = o.size := by rw [Array.length_toList]; rfl
    have hSD : (Builtin.unsafeSliceData_ #[36] 228 #[.slice (some ⟨g, 0, none⟩) o.size cap]).run Tryd.prog w.drew = .ok (.pointer (some ⟨g, 0, none⟩)) w.drew :=
      Lib.run_unsafeSliceData_row _ _ _ _ _ _ (by omega)
    have hUS : (Builtin.unsafeString_ #[228, 3] 9 #[.pointer (some ⟨g, 0, none⟩), .int .i64 o.size]).run Tryd.prog w.drew = .ok (.string o) (w.drew.freeze ⟨g, 0, none⟩ o.size) := by
      have := Lib.run_unsafeString_row (P := Tryd.prog) w.drew 228 3 9 5 Tryd.underlying228 Tryd.cellsByte1 g cur.size (by have hg' : w.drew.heap[g]? = some (.cells cur 5 (0, 0)) := hg; simp [World.shape?, hg']) o.data.toList (fun e => h0 (by rw [← hll, e]; rfl)) (by omega) (by unfold maxLen at hcm; omega) ?_
      · rw [hll] at this
        simpa using this
      · intro j x hx
        have := hown.cells (g := g) rfl j (.int .u8 x.toNat) (by simp [Lib.byteCells, hx])
        exact this
    clear hd h hown hg hcs htake hbk
    have mixed : Tryd.prog.follows Departure.mixedOrders = true := by kernel_rfl
    go_enter Tryd.func132, Tryd.ntmps132
    go_wp2
    go_region_o
    all_goals (go_wp2; go_ret; exact ⟨rfl, Lib.below_freeze (Below.drew (Below.refl _ w)) (p := ⟨g, 0, none⟩) hbg _⟩)
end Go.Proofs.YtngcmjfkeageiaaDoor
