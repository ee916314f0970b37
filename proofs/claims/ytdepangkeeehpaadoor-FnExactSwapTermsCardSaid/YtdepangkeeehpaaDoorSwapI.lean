/-
  The program's otherTerm and swapIn. Conditions: at most 1000 letters, each a term or what spoils one.
-/
import Derived.Test.YtdepangkeeehpaaDoorSwapM
import Derived.Test.YtdepangkeeehpaaDoorRows4
import Derived.Test.YtdepangkeeehpaaDoorBlkJ
namespace Go.Proofs.YtdepangkeeehpaaDoor
open Go.RowKit Go.Maps

theorem otherTerm_any (c t u : Nat) (w : World) :
    Calls Tryd.prog 146 #[.int .u8 (c : Int), .int .u8 (t : Int), .int .u8 (u : Int)] w fun e w' => e = .returned (.int .u8 (othN c t u : Int)) ∧ w = w' := by
  unfold othN
  by_cases h1 : c = t
  · rw [if_pos h1]
    subst h1
    go_enter Tryd.func146, Tryd.ntmps146
    go_wp2
    go_ret
    exact ⟨rfl, rfl⟩
  · have d1 : ((c : Int) == (t : Int)) = false := by simp; omega
    rw [if_neg h1]
    by_cases h2 : c = u
    · rw [if_pos h2]
      subst h2
      clear h1
      go_enter Tryd.func146, Tryd.ntmps146
      go_wp2
      go_ret
      exact ⟨rfl, rfl⟩
    · have d2 : ((c : Int) == (u : Int)) = false := by simp; omega
      rw [if_neg h2]
      clear h1 h2
      go_enter Tryd.func146, Tryd.ntmps146
      go_wp2
      go_ret
      exact ⟨rfl, rfl⟩
theorem opVal_swC {t u c : Nat} (ht : lowB t = true) (hu : lowB u = true) (hl : lowB c = true) : opVal (swC t u c).toNat = .iface 102 (.agg #[.int .u8 (othN c t u : Int)]) := by
  have hc : opB c = true := by unfold opB; rw [hl]; rfl
  rw [swC_nat ht hu hc]
  have h := (swB_le ht hu hc).2.2
  rw [hl] at h
  unfold opVal
  rw [if_pos h]
  unfold swB
  rw [if_pos hl]
theorem opVal_swS {t u c : Nat} (ht : lowB t = true) (hu : lowB u = true) (hl : lowB c = false) (hc : opB c = true) : opVal (swC t u c).toNat = .iface 103 (.agg #[.int .u8 (othN (c + 32) t u : Int)]) := by
  rw [swC_nat ht hu hc]
  have h := (swB_le ht hu hc).2.2
  rw [hl] at h
  unfold opVal
  rw [if_neg (by rw [h]; simp)]
  unfold swB
  rw [if_neg (by rw [hl]; simp)]
  have h1 : 120 ≤ othN (c + 32) t u := by
    unfold othN
    unfold opB lowB upB at *
    simp only [Bool.or_eq_true, Bool.and_eq_true, decide_eq_true_eq, Bool.and_eq_false_iff, decide_eq_false_iff_not] at *
    split
    · omega
    · split <;> omega
  rw [show (((othN (c + 32) t u - 32 : Nat) : Int) - 88 + 120) = (othN (c + 32) t u : Int) by omega]
theorem rowAt_cell {w : World} {v : Value} {xs : List Value} (h : RowAt w v xs) {i : Nat} (hi : i < xs.length) : ∃ g c, v = .slice (some ⟨g, 0, none⟩) xs.length c ∧ g < w.heap.size ∧ w.cell? ⟨g, i, none⟩ = xs[i]? := by
  obtain ⟨m, hm⟩ : ∃ m, xs.length = m + 1 := ⟨xs.length - 1, by omega⟩
  have h' : w.ownsRow 0 100 1 v (m + 1) xs := by rw [← hm]; exact h
  obtain ⟨g, cap, rfl, _, hg, _, _, hc⟩ := own_lastS h'
  exact ⟨g, cap, by rw [hm], hg, by rw [List.getElem?_eq_getElem hi]; exact hc i _ (List.getElem?_eq_getElem hi)⟩

set_option maxRecDepth 100000 in
set_option maxHeartbeats 3200000 in
theorem swapIn_any (w : World) (v : Value) (s : ByteArray) (t u : Nat) (ht : lowB t = true) (hu : lowB u = true) (hs : s.size ≤ 1000) (hop : ∀ i, i < s.size → opB (byteAt s i) = true) (hr : RowAt w v (opVals s s.size)) :
    Calls Tryd.prog 80 #[v, .int .u8 (t : Int), .int .u8 (u : Int)] w fun e w' => (∃ v', e = .returned v' ∧ w'.ownsRow w.heap.size 100 1 v' s.size (opVals (swT s t u s.size) s.size)) ∧ Below w.heap.size w w' := by
  have hCC := fun b w => Tryd.isCC b w
  have hSC := fun b w => Tryd.isSC b w
  have hSS := fun b w => Tryd.isSS b w
  obtain ⟨i0, hi, hz0, hz1, hz2⟩ := info_parts Tryd.infoOp
  obtain ⟨va, vc, rfl⟩ := row_len3 hr
  have HI := Lib.hid (And.intro hop (And.intro hr (opVals_length s s.size)))
  have HT := Lib.hid (And.intro ht hu)
  have HTb : t ≤ 122 ∧ u ≤ 122 := by unfold lowB at ht hu; simp only [Bool.and_eq_true, decide_eq_true_eq] at ht hu; omega
  obtain ⟨ht2, hu2⟩ := HTb
  rw [opVals_length]
  clear hop hr ht hu
  go_enter Tryd.func80, Tryd.ntmps80
  go_wp2
  go_loopw [14, 7] (fun i o wr => ∃ k : Nat, k ≤ s.size ∧ i = .int .i64 k ∧ wr.ownsRow w.heap.size 100 1 o k (opVals (swT s t u s.size) k) ∧ Below w.heap.size w wr) (fun i _ _ => s.size - (intOf i).toNat)
  case atStart => exact ⟨0, Nat.zero_le _, rfl, World.ownsRow_nil _ _ _ _, Below.refl _ _⟩
  case round =>
    obtain ⟨k, hk, rfl, hown, hbl⟩ := hrel
    have hsz := hbl.size
    by_cases hlt : k < s.size
    · obtain ⟨g, c, hv, hg, hcell⟩ := rowAt_cell HI.out.2.1 (i := k) (by rw [HI.out.2.2]; exact hlt)
      rw [HI.out.2.2] at hv
      simp only [Value.slice.injEq, true_and] at hv
      obtain ⟨rfl, rfl⟩ := hv
      have hcv : (opVals s s.size)[k]? = some (opVal (byteAt s k)) := by unfold opVals; simp [hlt]
      have d0 := (hbl.cell (p := ⟨g, k, none⟩) hg).trans (hcell.trans hcv)
      have HE := Lib.hid (opVals_succ (swT s t u s.size) k)
      have HA := Lib.hid (swT_at s t u s.size k hlt)
      have hopk := HI.out.1 k hlt
      have HO := Lib.hid (And.intro hown hbl)
      have x1 : (0 : Int) ≤ (k : Int) := by omega
      have x2 : (k : Int) < (s.size : Int) := by omega
      clear hcell hcv hown hbl
      cases hl : lowB (byteAt s k)
      · have HV := Lib.hid (opVal_swS HT.out.1 HT.out.2 hl hopk)
        rw [show opVal (byteAt s k) = .iface 103 (.agg #[.int .u8 (((byteAt s k + 32 : Nat)) : Int)]) by
          unfold opVal; rw [if_neg (by rw [hl]; simp)]
          unfold opB lowB upB at *
          simp only [Bool.or_eq_true, Bool.and_eq_true, decide_eq_true_eq, Bool.and_eq_false_iff, decide_eq_false_iff_not] at *
          rw [show ((byteAt s k : Int) - 88 + 120) = ((byteAt s k + 32 : Nat) : Int) by omega]] at d0
        generalize byteAt s k + 32 = b at *
        clear hl hopk
        go_wp2_with (first
          | (go_at_call 146; refine (otherTerm_any b t u _).mono ?_; rintro e w' ⟨rfl, rfl⟩)
          | (at_builtin; refine wpList_append_own _ rfl _ _ 90 rfl w.heap.size 100 i0 .nilIface 1 16 Tryd.underlying90 hi hz0 hz1 hz2 rfl (by decide) _ _ _ rfl ((HO.out.1.alloc _).alloc _) ⟨wr.heap.size + 1, 0, none⟩ 1 1 [.iface 103 (.agg #[.int .u8 (othN b t u : Int)])] rfl rfl (one_new2 _ _ _ _) (one_one _ rfl) (by unfold maxLen; omega) (by omega) (by simp; omega) ?_; intro v' w1 hown1 hgrow1 _))
        have hb1 : Below w.heap.size w w1 := ((HO.out.2.alloc hsz _).alloc (by simp; omega) _).grown hgrow1 (by simp; omega) (fun j hj => (HO.out.1.lt j hj).1)
        go_roundw
        case rel => exact ⟨k + 1, by omega, by go_num, by rw [HE.out, HA.out, HV.out]; exact hown1, hb1⟩
        case measure => simp [intOf]; omega
      · have HV := Lib.hid (opVal_swC HT.out.1 HT.out.2 hl)
        rw [show opVal (byteAt s k) = .iface 102 (.agg #[.int .u8 (byteAt s k : Int)]) by unfold opVal; rw [if_pos hl]] at d0
        generalize byteAt s k = b at *
        clear hl hopk
        go_wp2_with (first
          | (go_at_call 146; refine (otherTerm_any b t u _).mono ?_; rintro e w' ⟨rfl, rfl⟩)
          | (at_builtin; refine wpList_append_own _ rfl _ _ 90 rfl w.heap.size 100 i0 .nilIface 1 16 Tryd.underlying90 hi hz0 hz1 hz2 rfl (by decide) _ _ _ rfl ((HO.out.1.alloc _).alloc _) ⟨wr.heap.size + 1, 0, none⟩ 1 1 [.iface 102 (.agg #[.int .u8 (othN b t u : Int)])] rfl rfl (one_new2 _ _ _ _) (one_one _ rfl) (by unfold maxLen; omega) (by omega) (by simp; omega) ?_; intro v' w1 hown1 hgrow1 _))
        have hb1 : Below w.heap.size w w1 := ((HO.out.2.alloc hsz _).alloc (by simp; omega) _).grown hgrow1 (by simp; omega) (fun j hj => (HO.out.1.lt j hj).1)
        go_roundw
        case rel => exact ⟨k + 1, by omega, by go_num, by rw [HE.out, HA.out, HV.out]; exact hown1, hb1⟩
        case measure => simp [intOf]; omega
    · obtain rfl : k = s.size := by omega
      have HO := Lib.hid (And.intro hown hbl)
      clear hown hbl
      go_wp2
      go_ret
      exact ⟨⟨_, rfl, HO.out.1⟩, HO.out.2⟩
end Go.Proofs.YtdepangkeeehpaaDoor
