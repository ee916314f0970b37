/-
  The model's l15Cut: a text cut at each byte c. Conditions: at most 1048576 bytes.
-/
import Derived.Test.YtfmhcjhcmoniaaaDoorCutM
import Derived.Test.YtfmhcjhcmoniaaaDoorRows4
namespace Go.Proofs.YtfmhcjhcmoniaaaDoor
open Go.RowKit Go.Maps

def CutPost (w : World) (s : ByteArray) (c : Nat) (e : Ending) (w' : World) : Prop := ∃ v, e = .returned v ∧ w'.ownsRow w.heap.size 9 1 v (cutL s c).length ((cutL s c).map Value.string) ∧ Below w.heap.size w w'

set_option maxRecDepth 100000 in
set_option maxHeartbeats 1600000 in
theorem l15Cut_any (s : ByteArray) (c : Nat) (w : World) (hs : s.size ≤ 1048576) (hc : c < 256) :
    Calls Tryd.prog 96 #[.string s, .int .u8 (c : Int)] w (CutPost w s c) := by
  obtain ⟨i0, hi, hz0, hz1, hz2⟩ := info_parts Tryd.infoStr
  have hC : (c : Int) ≤ 255 := by omega
  go_enter Tryd.func96, Tryd.ntmps96
  go_wp2
  go_loopw [5, 6, 7] (fun o f i wr => ∃ k : Nat, k ≤ s.size + 1 ∧ i = .int .i64 k ∧ f = .int .i64 ((cutSt s c k).2 : Int) ∧ wr.ownsRow w.heap.size 9 1 o (cutSt s c k).1.length ((cutSt s c k).1.map Value.string) ∧ Below w.heap.size w wr) (fun _ _ i _ => s.size + 1 - (intOf i).toNat)
  case atStart => exact ⟨0, Nat.zero_le _, rfl, rfl, World.ownsRow_made w #[] 0 (Nat.le_refl _) (Nat.zero_le _) rfl, (Below.refl _ _).alloc (Nat.le_refl _) _⟩
  case round =>
    obtain ⟨k, hk, rfl, rfl, hown, hbl⟩ := hrel
    have hsz := hbl.size
    have hfl := cutSt_le s c k
    have hln := cutSt_len s c k
    obtain ⟨wa, wc, rfl⟩ := own_form hown
    by_cases hle : k ≤ s.size
    · have s3 := run_slice_str s ((cutSt s c k).2 : Int) (k : Int) (cutSt s c k).2 k rfl (by omega) (by omega) (by omega)
      have q1 : (0 : Int) ≤ ((cutSt s c k).2 : Int) := by omega
      have w1 : IntKind.i64.wrap ((k : Int) + 1) = (k : Int) + 1 := IntWalk.i64_in _ (by omega)
      have HX := Lib.hid (Nat.le_trans (extract_size_le s (cutSt s c k).2 k) hs)
      have HO := Lib.hid (And.intro hown hbl)
      by_cases hh : k = s.size ∨ byteAt s k = c
      · have HH := Lib.hid (cutSt_hit hh)
        clear hown hbl
        generalize s.extract (cutSt s c k).2 k = X at *
        by_cases he : k = s.size
        · subst he
          clear hh
          go_wp2_with (at_builtin; refine wpList_append_own _ rfl _ _ 59 rfl w.heap.size 9 i0 (.string ⟨#[]⟩) 1 16 Tryd.underlying59 hi hz0 hz1 hz2 rfl (by decide) _ _ _ rfl (HO.out.1.alloc _) ⟨wr.heap.size, 0, none⟩ 1 1 [.string X] rfl rfl (cell_one_new _ _ _) (one_one _ rfl) (by unfold maxLen; omega) (by omega) (by simp; omega) ?_; intro v' w4 hown4 hgrow4 _)
          have hb4 : Below w.heap.size w w4 := (HO.out.2.alloc hsz _).grown hgrow4 (by simp; omega) (fun j hj => (HO.out.1.lt j hj).1)
          go_roundw
          case rel => exact ⟨s.size + 1, by omega, by go_num, by rw [HH.out]; try go_num, by rw [HH.out]; simpa using hown4, hb4⟩
          case measure => simp [intOf]
        · have hlt : k < s.size := by omega
          have hB : byteAt s k = c := by rcases hh with h | h; exact absurd h he; exact h
          have d2 : ((s[k].toNat : Int) == (c : Int)) = true := by rw [byteAt_get hlt, hB]; try simp
          have d1 : ((k : Int) == (s.size : Int)) = false := by simp; omega
          clear hh hB he
          go_wp2_with (at_builtin; refine wpList_append_own _ rfl _ _ 59 rfl w.heap.size 9 i0 (.string ⟨#[]⟩) 1 16 Tryd.underlying59 hi hz0 hz1 hz2 rfl (by decide) _ _ _ rfl (HO.out.1.alloc _) ⟨wr.heap.size, 0, none⟩ 1 1 [.string X] rfl rfl (cell_one_new _ _ _) (one_one _ rfl) (by unfold maxLen; omega) (by omega) (by simp; omega) ?_; intro v' w4 hown4 hgrow4 _)
          have hb4 : Below w.heap.size w w4 := (HO.out.2.alloc hsz _).grown hgrow4 (by simp; omega) (fun j hj => (HO.out.1.lt j hj).1)
          go_roundw
          case rel => exact ⟨k + 1, by omega, by go_num, by rw [HH.out]; try go_num, by rw [HH.out]; simpa using hown4, hb4⟩
          case measure => simp [intOf]; omega
      · have HH := Lib.hid (cutSt_miss hh)
        have hlt : k < s.size := by omega
        have hB : byteAt s k ≠ c := fun h => hh (.inr h)
        have d2 : ((s[k].toNat : Int) == (c : Int)) = false := by rw [byteAt_get hlt]; simp; omega
        have d1 : ((k : Int) == (s.size : Int)) = false := by simp; omega
        clear hh hB hown hbl
        go_wp2
        go_roundw
        case rel => exact ⟨k + 1, by omega, by go_num, by rw [HH.out], by rw [HH.out]; exact HO.out.1, HO.out.2⟩
        case measure => simp [intOf]; omega
    · obtain rfl : k = s.size + 1 := by omega
      go_wp2
      go_ret
      exact ⟨_, rfl, hown, hbl⟩
end Go.Proofs.YtfmhcjhcmoniaaaDoor
