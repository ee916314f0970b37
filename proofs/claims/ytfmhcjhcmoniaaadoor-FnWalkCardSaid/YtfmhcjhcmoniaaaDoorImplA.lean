/-
  The program's chapter 1: isName and readOps, for every text. Conditions: a text has at most 1048576 bytes; the errors' variables hold errors.
-/
import Derived.Test.YtfmhcjhcmoniaaaDoorMaps
import Derived.Test.YtfmhcjhcmoniaaaDoorSpecA
import Derived.Test.YtfmhcjhcmoniaaaDoorBools
namespace Go.Proofs.YtfmhcjhcmoniaaaDoor
open Go.RowKit

set_option maxHeartbeats 400000 in
theorem isName_any (s : ByteArray) (w : World) :
    Calls Tryd.prog 73 #[.string s] w fun e w' => e = .returned (.bool (isNm s)) ∧ w = w' := by
  by_cases h : s.size = 1
  · have h0 : 0 < s.size := by omega
    have hB : (s[0].toNat : Int) ≤ 255 := by have := s[0].toNat_lt; omega
    have hE := isNm_eq h h0
    have HE := Lib.hid hE; clear hE
    by_cases h1 : (65 : Int) ≤ (s[0].toNat : Int)
    · by_cases h2 : (s[0].toNat : Int) ≤ 73
      · have HF := Lib.hid (HE.out.trans (show inB (s[0].toNat : Int) 65 73 = true by simp only [inB, h1, h2, decide_true, Bool.and_self]))
        go_enter Tryd.func73, Tryd.ntmps73
        go_wp2
        go_ret
        exact ⟨ret_bool HF.out.symm, rfl⟩
      · have HF := Lib.hid (HE.out.trans (show inB (s[0].toNat : Int) 65 73 = false by simp only [inB, h2, decide_false, Bool.and_false]))
        have h2' : (73 : Int) < (s[0].toNat : Int) := by omega
        clear h2
        go_enter Tryd.func73, Tryd.ntmps73
        go_wp2
        go_ret
        exact ⟨ret_bool (by rw [HF.out]; exact decide_eq_false (by omega)), rfl⟩
    · have HF := Lib.hid (HE.out.trans (show inB (s[0].toNat : Int) 65 73 = false by simp only [inB, h1, decide_false, Bool.false_and]))
      have h1' : (s[0].toNat : Int) < 65 := by omega
      clear h1
      go_enter Tryd.func73, Tryd.ntmps73
      go_wp2
      go_ret
      exact ⟨ret_bool HF.out.symm, rfl⟩
  · have hb : ((s.size : Int) == 1) = false := by rw [beq_eq_false_iff_ne]; omega
    have hf : isNm s = false := by unfold isNm; rw [show (s.size == 1) = false from by rw [beq_eq_false_iff_ne]; exact h]; rfl
    go_enter Tryd.func73, Tryd.ntmps73
    go_wp2
    go_ret
    exact ⟨ret_bool hf.symm, rfl⟩

/-- what one letter is read as -/
def opVal (c : Nat) : Value := if lowB c then .iface 140 (.agg #[.int .u8 c]) else .iface 141 (.agg #[.int .u8 ((c : Int) - 88 + 120)])
def opVals (s : ByteArray) (k : Nat) : List Value := (List.range k).map fun i => opVal (byteAt s i)
theorem opVals_length (s : ByteArray) (k : Nat) : (opVals s k).length = k := by simp [opVals]
theorem opVals_succ (s : ByteArray) (k : Nat) : opVals s (k + 1) = opVals s k ++ [opVal (byteAt s k)] := by simp [opVals, List.range_succ]
/-- what readOps leaves: the letters' values in new memory, or an error -/
def ReadOpsPost (w : World) (s : ByteArray) (e : Ending) (w' : World) : Prop :=
  Below w.heap.size w w' ∧ ((opsB s = true ∧ ∃ v, e = .returned (.tuple #[v, .nilIface]) ∧ w'.ownsRow w.heap.size 191 1 v s.size (opVals s s.size)) ∨
    (opsB s = false ∧ ∃ t x, e = .returned (.tuple #[.slice none 0 0, .iface t x])))
theorem Tryd.infoOp : (Tryd.prog.info? 191).map (fun i => (i.zero, i.size, i.bytes)) = some (some .nilIface, 1, 16) := by kernel_rfl
theorem one_one (x : Value) (h : x.oneCell' = true) : ∀ u ∈ [x], u.oneCell' = true := by
  intro u hu
  rw [List.mem_singleton] at hu
  subst hu
  exact h
theorem opsB_long {s : ByteArray} (h : (6 : Int) < (s.size : Int)) : opsB s = false := by
  simp only [opsB, decide_eq_false_iff_not]
  exact fun h' => by have := h'.1; omega
theorem lowB_yes {n : Nat} (h1 : (120 : Int) ≤ n) (h2 : (n : Int) ≤ 122) : lowB n = true := by
  unfold lowB; simp; omega
theorem lowB_no {n : Nat} (h : ¬ ((120 : Int) ≤ n ∧ (n : Int) ≤ 122)) : lowB n = false := by
  unfold lowB; simp; omega
theorem opB_up {n : Nat} (h1 : (88 : Int) ≤ n) (h2 : (n : Int) ≤ 90) : opB n = true := by
  unfold opB upB; simp; right; omega
theorem opB_not {n : Nat} (h : ¬ ((120 : Int) ≤ n ∧ (n : Int) ≤ 122)) (h' : ¬ ((88 : Int) ≤ n ∧ (n : Int) ≤ 90)) : opB n = false := by
  unfold opB; rw [lowB_no h]; unfold upB; simp; omega

set_option maxRecDepth 100000 in
set_option maxHeartbeats 1600000 in
theorem readOps_any (s : ByteArray) (w : World) (hs : s.size ≤ 1048576) (t7 : TypeId) (v7 : Value) (hg7 : w.cell? ⟨6, 0, none⟩ = some (.iface t7 v7)) (hgl : 6 < w.heap.size) :
    Calls Tryd.prog 74 #[.string s] w (ReadOpsPost w s) := by
  obtain ⟨i0, hi, hz0, hz1, hz2⟩ := info_parts Tryd.infoOp
  by_cases h6 : (6 : Int) < (s.size : Int)
  · have HF := Lib.hid (opsB_long h6)
    clear hi hz0 hz1 hz2
    go_enter Tryd.func74, Tryd.ntmps74
    go_wp2
    go_region
    go_wp2
    go_ret2
    exact ⟨(Below.refl _ _).drew, .inr ⟨HF.out, _, _, rfl⟩⟩
  · have h6' : (s.size : Int) ≤ 6 := by omega
    clear h6
    go_enter Tryd.func74, Tryd.ntmps74
    go_wp2
    go_loopw [13, 4] (fun i v wr => ∃ k : Nat, k ≤ s.size ∧ i = .int .i64 k ∧ wr.ownsRow w.heap.size 191 1 v k (opVals s k) ∧ Below w.heap.size w wr ∧ ∀ j, j < k → opB (byteAt s j) = true) (fun i _ _ => s.size - (intOf i).toNat)
    case atStart => exact ⟨0, Nat.zero_le _, rfl, World.ownsRow_nil _ _ _ _, Below.refl _ _, all_zero⟩
    case round =>
      obtain ⟨k, hk, rfl, hown, hbl, hno⟩ := hrel
      have Hno := Lib.hid hno; clear hno
      have hg7' := (hbl.cell (p := ⟨6, 0, none⟩) hgl).trans hg7
      have hsz := hbl.size
      by_cases hlt : k < s.size
      · have hB : (s[k].toNat : Int) ≤ 255 := by have := s[k].toNat_lt; omega
        have hB0 : (0 : Int) ≤ (s[k].toNat : Int) := by omega
        have hbk := byteAt_get hlt
        have Hbk := Lib.hid hbk; clear hbk
        by_cases h1 : (120 : Int) ≤ (s[k].toNat : Int) ∧ (s[k].toNat : Int) ≤ 122
        · have HV : Hid (opVal (byteAt s k) = .iface 140 (.agg #[.int .u8 (s[k].toNat : Int)])) := Lib.hid (by rw [← Hbk.out]; unfold opVal; rw [lowB_yes h1.1 h1.2]; rfl)
          have HO := Lib.hid (show opB (byteAt s k) = true by rw [← Hbk.out]; unfold opB; rw [lowB_yes h1.1 h1.2]; rfl)
          obtain ⟨h1a, h1b⟩ := h1
          go_wp2_with (at_builtin; refine wpList_append_own _ rfl _ _ 125 rfl w.heap.size 191 i0 .nilIface 1 16 Tryd.underlying125 hi hz0 hz1 hz2 rfl (by decide) _ _ _ rfl (hown.alloc _) ⟨wr.heap.size, 0, none⟩ 1 1 [.iface 140 (.agg #[.int .u8 (s[k].toNat : Int)])] rfl rfl (cell_one_new _ _ _) (one_one _ rfl) (by unfold maxLen; omega) (by omega) (by simp; omega) ?_; intro v' w1 hown1 hgrow1 _)
          have hb1 : Below w.heap.size w w1 := (hbl.alloc hsz _).grown hgrow1 (by simp; omega) (fun j hj => (hown.lt j hj).1)
          go_roundw
          case rel => exact ⟨k + 1, by omega, by go_num, by rw [opVals_succ, HV.out]; exact hown1, hb1, all_step Hno.out HO.out⟩
          case measure => simp [intOf]; omega
        · have h1' : ¬ ((120 : Int) ≤ (byteAt s k : Int) ∧ (byteAt s k : Int) ≤ 122) := by rw [← Hbk.out]; exact h1
          have H1 := Lib.hid (And.intro h1 h1'); clear h1'
          by_cases h3 : (88 : Int) ≤ (s[k].toNat : Int) ∧ (s[k].toNat : Int) ≤ 90
          · have HV : Hid (opVal (byteAt s k) = .iface 141 (.agg #[.int .u8 ((s[k].toNat : Int) - 88 + 120)])) := Lib.hid (by rw [Hbk.out]; unfold opVal; rw [lowB_no H1.out.2]; rfl)
            have HO := Lib.hid (show opB (byteAt s k) = true from opB_up (by rw [← Hbk.out]; exact h3.1) (by rw [← Hbk.out]; exact h3.2))
            obtain ⟨h3a, h3b⟩ := h3
            have h4 : (s[k].toNat : Int) < 120 := by omega
            clear h1
            go_wp2_with (at_builtin; refine wpList_append_own _ rfl _ _ 125 rfl w.heap.size 191 i0 .nilIface 1 16 Tryd.underlying125 hi hz0 hz1 hz2 rfl (by decide) _ _ _ rfl (hown.alloc _) ⟨wr.heap.size, 0, none⟩ 1 1 [.iface 141 (.agg #[.int .u8 ((s[k].toNat : Int) - 88 + 120)])] rfl rfl (cell_one_new _ _ _) (one_one _ rfl) (by unfold maxLen; omega) (by omega) (by simp; omega) ?_; intro v' w1 hown1 hgrow1 _)
            have hb1 : Below w.heap.size w w1 := (hbl.alloc hsz _).grown hgrow1 (by simp; omega) (fun j hj => (hown.lt j hj).1)
            go_roundw
            case rel => exact ⟨k + 1, by omega, by go_num, by rw [opVals_succ, HV.out]; exact hown1, hb1, all_step Hno.out HO.out⟩
            case measure => simp [intOf]; omega
          · have HO := Lib.hid (opsB_no hlt (opB_not H1.out.2 (by rw [← Hbk.out]; exact h3)))
            by_cases g1 : (120 : Int) ≤ (s[k].toNat : Int)
            · have g2 : (122 : Int) < (s[k].toNat : Int) := by omega
              have g3 : (90 : Int) < (s[k].toNat : Int) := by omega
              have g4 : (88 : Int) ≤ (s[k].toNat : Int) := by omega
              clear h1 h3
              go_wp2
              go_region
              go_wp2
              go_ret2
              exact ⟨hbl.drew, .inr ⟨HO.out, _, _, rfl⟩⟩
            · by_cases g2 : (88 : Int) ≤ (s[k].toNat : Int)
              · have g3 : (90 : Int) < (s[k].toNat : Int) := by omega
                have g4 : (s[k].toNat : Int) < 120 := by omega
                clear h1 h3 g1
                go_wp2
                go_region
                go_wp2
                go_ret2
                exact ⟨hbl.drew, .inr ⟨HO.out, _, _, rfl⟩⟩
              · have g3 : (s[k].toNat : Int) < 88 := by omega
                have g4 : (s[k].toNat : Int) < 120 := by omega
                clear h1 h3 g1 g2
                go_wp2
                go_region
                go_wp2
                go_ret2
                exact ⟨hbl.drew, .inr ⟨HO.out, _, _, rfl⟩⟩
      · have hkk : k = s.size := by omega
        have HE := Lib.hid (opsB_end (s := s) fun j hj => Hno.out j (by omega))
        have H2 : Hid (wr.ownsRow w.heap.size 191 1 u4 s.size (opVals s s.size)) := by rw [← hkk]; exact hown
        clear hown
        go_wp2
        go_ret2
        exact ⟨hbl, .inl ⟨by rw [HE.out]; simpa using h6', _, rfl, H2.out⟩⟩
end Go.Proofs.YtfmhcjhcmoniaaaDoor
