/-
  The model's l2Out and l2Keep. Conditions: a valid program.
-/
import Derived.Test.YtfmhcjhcmoniaaaDoorKeep
namespace Go.Proofs.YtfmhcjhcmoniaaaDoor
open Go.RowKit Go.Maps

set_option maxRecDepth 100000 in
set_option maxHeartbeats 1600000 in
theorem l2Out_any (w : World) (bs es : List Pr) (ab ae : Option Addr) (cb ce : Nat) (x : ByteArray) (hv : Valid bs es) (hpe : PairsAt w ae es) :
    Calls Tryd.prog 27 #[.agg #[.slice ab bs.length cb, .slice ae es.length ce], .string x] w fun e w' => e = .returned (.string (cat (outL es x))) ∧ Below w.heap.size w w' := by
  have h1 : Below w.heap.size w (w.alloc (.cells #[.slice ab bs.length cb, .slice ae es.length ce] 32)) := (Below.refl _ _).alloc (Nat.le_refl _) _
  have hpe1 := hpe.below h1
  have H1 := Lib.hid h1; clear h1
  have HVV := Lib.hid hv; clear hv
  have hz : w.heap.size ≤ (w.alloc (.cells #[.slice ab bs.length cb, .slice ae es.length ce] 32)).heap.size := by simp
  have hl14 := HVV.out.e.hi
  go_enter Tryd.func27, Tryd.ntmps27
  go_wp2
  go_loopw [11, 5] (fun i v wr => ∃ k : Nat, k ≤ es.length ∧ i = .int .i64 k ∧ v = .string (cat (outL (es.take k) x)) ∧ Below (w.alloc (.cells #[.slice ab bs.length cb, .slice ae es.length ce] 32)).heap.size (w.alloc (.cells #[.slice ab bs.length cb, .slice ae es.length ce] 32)) wr) (fun i _ _ => es.length - (intOf i).toNat)
  case atStart => exact ⟨0, Nat.zero_le _, rfl, by simp [outL_nil, cat_nil]; rfl, Below.refl _ _⟩
  case round =>
    obtain ⟨k, hk, rfl, rfl, hbl⟩ := hrel
    have hs2 := hbl.size
    by_cases hlt : k < es.length
    · obtain ⟨b, off, rfl, hb, g1, g2⟩ := hpe1.cell k hlt
      have d1 := (hbl.cell (p := ⟨b, off + k * 2, none⟩) hb).trans g1
      have d2 := (hbl.cell (p := ⟨b, off + k * 2 + 1, none⟩) hb).trans g2
      have z1 := HVV.out.to_size hlt
      have z2 : (cat (outL (es.take k) x)).size ≤ 14 := by
        rw [cat_size (fun y hy => HVV.out.name_size (HVV.out.e.to (x, y) (List.mem_of_mem_take (mem_outL.1 hy))))]
        have := outL_length (es.take k) x
        rw [List.length_take] at this
        omega
      have t1 : ¬ 9223372036854775807 < (cat (outL (es.take k) x)).size + (restAt es k).size := by omega
      clear g1 g2
      by_cases e1 : nameAt es k = x
      · have q1 : ((nameAt es k).toList == x.toList) = true := by rw [toList_eq_iff]; simpa using e1
        have HE := Lib.hid (show cat (outL (es.take (k + 1)) x) = cat (outL (es.take k) x) ++ restAt es k by rw [take_succ_pr hlt, outL_hit (p := (nameAt es k, restAt es k)) e1, cat_snoc])
        clear e1
        go_wp2
        go_roundw
        case rel => exact ⟨k + 1, by omega, by go_num, by rw [HE.out], hbl.alloc hs2 _⟩
        case measure => simp [intOf]; omega
      · have q1 : ((nameAt es k).toList == x.toList) = false := by rw [toList_eq_iff]; simpa using e1
        have HE := Lib.hid (show cat (outL (es.take (k + 1)) x) = cat (outL (es.take k) x) by rw [take_succ_pr hlt, outL_miss (p := (nameAt es k, restAt es k)) e1])
        clear e1
        go_wp2
        go_roundw
        case rel => exact ⟨k + 1, by omega, by go_num, by rw [HE.out], hbl.alloc hs2 _⟩
        case measure => simp [intOf]; omega
    · have HE := Lib.hid (show es.take k = es from List.take_of_length_le (by omega))
      go_wp2
      go_ret
      exact ⟨by rw [HE.out]; rfl, H1.out.trans (hbl.mono hz)⟩
end Go.Proofs.YtfmhcjhcmoniaaaDoor
