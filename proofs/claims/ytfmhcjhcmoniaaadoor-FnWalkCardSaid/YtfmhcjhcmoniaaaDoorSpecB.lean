/-
  The model's chapter 1: what l1Blocks returns, for every list of blocks. Conditions: at most 1048576 blocks, each text at most as many bytes.
-/
import Derived.Test.YtfmhcjhcmoniaaaDoorSpecA
namespace Go.Proofs.YtfmhcjhcmoniaaaDoor
open Go.RowKit

/-- a block is as it has to be, seen from its place -/
def OkAt (l : List Pr) (k : Nat) : Prop := isNm (nameAt l k) = true ∧ opsB (restAt l k) = true ∧ ¬ fnd l (nameAt l k) < k
open Classical in
noncomputable def blocksB (l : List Pr) : Bool := decide (BlocksOk l)
theorem blocks_of {l : List Pr} (h : ∀ k, k < l.length → OkAt l k) (h2 : 2 ≤ l.length) (h9 : l.length ≤ 9) (he : restAt l 0 = e0) : BlocksOk l where
  lo := h2
  hi := h9
  nm p hp := by obtain ⟨i, hi, e, _⟩ := mem_at hp; rw [← e]; exact (h i hi).1
  op p hp := by obtain ⟨i, hi, _, e⟩ := mem_at hp; rw [← e]; have := (h i hi).2.1; simpa [opsB] using this
  nd := nodup_iff.2 fun i hi j hj e => (h i hi).2.2 ((fnd_lt hi).2 ⟨j, hj, e⟩)
  en := he
theorem at_of_blocks {l : List Pr} (h : BlocksOk l) {k : Nat} (hk : k < l.length) : OkAt l k :=
  ⟨h.nm _ (pair_mem hk), by simpa [opsB] using h.op _ (pair_mem hk), fun hf => by obtain ⟨j, hj, e⟩ := (fnd_lt hk).1 hf; exact nodup_iff.1 h.nd k hk j hj e⟩
theorem blocksB_no {l : List Pr} {k : Nat} (hk : k < l.length) (h : ¬ OkAt l k) : blocksB l = false := by
  simp only [blocksB, decide_eq_false_iff_not]
  exact fun h' => h (at_of_blocks h' hk)
theorem blocksB_end {l : List Pr} (h : ∀ k, k < l.length → OkAt l k) : blocksB l = (inB (l.length : Int) 2 9 && decide (restAt l 0 = e0)) := by
  have hi := inB_byte l.length 2 9
  simp only [Int.cast_ofNat_Int] at hi
  rw [hi]
  by_cases h2 : 2 ≤ l.length
  · by_cases h9 : l.length ≤ 9
    · by_cases he : restAt l 0 = e0
      · simp only [h2, h9, he, decide_true, Bool.and_self, blocksB, decide_eq_true_eq]
        exact blocks_of h h2 h9 he
      · simp only [he, decide_false, Bool.and_false, blocksB, decide_eq_false_iff_not]
        exact fun h' => he h'.en
    · simp only [h9, decide_false, Bool.and_false, Bool.false_and, blocksB, decide_eq_false_iff_not]
      exact fun h' => h9 h'.hi
  · simp only [h2, decide_false, Bool.false_and, blocksB, decide_eq_false_iff_not]
    exact fun h' => h2 h'.lo

set_option maxHeartbeats 800000 in
theorem l1Blocks_any (w : World) (l : List Pr) (a : Option Addr) (cap : Nat) (ve : Value) (hp : PairsAt w a l) :
    Calls Tryd.prog 39 #[.agg #[.slice a l.length cap, ve]] w fun e w' => e = .returned (.bool (blocksB l)) ∧ Below w.heap.size w w' := by
  have hl := hp.len
  go_enter Tryd.func39, Tryd.ntmps39
  go_wp2
  go_loopw [8] (fun i wr => ∃ k : Nat, k ≤ l.length ∧ i = .int .i64 k ∧ Below w.heap.size w wr ∧ w.heap.size < wr.heap.size ∧ wr.cell? ⟨w.heap.size, 0, none⟩ = some (.slice a l.length cap) ∧ wr.cell? ⟨w.heap.size, 1, none⟩ = some ve ∧ ∀ j, j < k → OkAt l j) (fun i _ => l.length - (intOf i).toNat)
  case atStart => exact ⟨0, Nat.zero_le _, rfl, (Below.refl _ _).alloc (Nat.le_refl _) _, by simp, by go_simp, by go_simp, all_zero⟩
  case round =>
    obtain ⟨k, hk, rfl, hbl, hsz, hx0, hx1, hno⟩ := hrel
    have Hno := Lib.hid hno; clear hno
    by_cases hlt : k < l.length
    · have hs := hp.size k hlt
      obtain ⟨b, off, rfl, hb, h1, h2⟩ := hp.cell k hlt
      have c1 := (hbl.cell (p := ⟨b, off + k * 2, none⟩) hb).trans h1
      have c2 := (hbl.cell (p := ⟨b, off + k * 2 + 1, none⟩) hb).trans h2
      clear h1 h2
      have hpr : PairsAt (wr.alloc (.cells #[.string (nameAt l k), .string (restAt l k)] 51)) (some ⟨b, off, none⟩) l := (hp.below hbl).alloc _
      have hfb := fnd_bd l (nameAt l k)
      by_cases t1 : isNm (nameAt l k) = true
      · by_cases t2 : opsB (restAt l k) = true
        · by_cases t3 : fnd l (nameAt l k) < k
          · go_wp2_with (first
              | (go_at_call 57; refine (l1Name_any _ _).mono ?_; rintro e w' ⟨rfl, rfl⟩)
              | (go_at_call 58; refine (l1Ops_any _ _ (by unfold maxLen; omega)).mono ?_; rintro e w' ⟨rfl, rfl⟩)
              | (go_at_call 40; refine (l1Find_any _ _ l _ _ _ hpr).mono ?_; rintro e w' ⟨rfl, hb1⟩))
            go_ret
            exact ⟨ret_bool (blocksB_no hlt (fun h => h.2.2 t3)).symm, (hbl.alloc (by omega) _).trans (hb1.mono (by simp; omega))⟩
          · have h' : OkAt l k := ⟨t1, t2, t3⟩
            have H' := Lib.hid h'; clear h'
            go_wp2_with (first
              | (go_at_call 57; refine (l1Name_any _ _).mono ?_; rintro e w' ⟨rfl, rfl⟩)
              | (go_at_call 58; refine (l1Ops_any _ _ (by unfold maxLen; omega)).mono ?_; rintro e w' ⟨rfl, rfl⟩)
              | (go_at_call 40; refine (l1Find_any _ _ l _ _ _ hpr).mono ?_; rintro e w' ⟨rfl, hb1⟩))
            have hz := hb1.size
            have hq := fun (p : Addr) (h : p.block < wr.heap.size) => (hb1.cell (p := p) (by simp; omega)).trans (World.cell?_alloc_lt wr _ p h)
            go_roundw
            case rel => exact ⟨k + 1, by omega, by go_num, (hbl.alloc (by omega) _).trans (hb1.mono (by simp; omega)), by simp at hz; omega, (hq ⟨w.heap.size, 0, none⟩ hsz).trans hx0, (hq ⟨w.heap.size, 1, none⟩ hsz).trans hx1, all_step Hno.out H'.out⟩
            case measure => simp [intOf]; omega
        · have t2' : opsB (restAt l k) = false := by simpa using t2
          clear t2
          go_wp2_with (first
              | (go_at_call 57; refine (l1Name_any _ _).mono ?_; rintro e w' ⟨rfl, rfl⟩)
              | (go_at_call 58; refine (l1Ops_any _ _ (by unfold maxLen; omega)).mono ?_; rintro e w' ⟨rfl, rfl⟩)
              | (go_at_call 40; refine (l1Find_any _ _ l _ _ _ hpr).mono ?_; rintro e w' ⟨rfl, hb1⟩))
          go_ret
          exact ⟨ret_bool (blocksB_no hlt (fun h => by rw [h.2.1] at t2'; cases t2')).symm, hbl.alloc (by omega) _⟩
      · have t1' : isNm (nameAt l k) = false := by simpa using t1
        clear t1
        go_wp2_with (first
              | (go_at_call 57; refine (l1Name_any _ _).mono ?_; rintro e w' ⟨rfl, rfl⟩)
              | (go_at_call 58; refine (l1Ops_any _ _ (by unfold maxLen; omega)).mono ?_; rintro e w' ⟨rfl, rfl⟩)
              | (go_at_call 40; refine (l1Find_any _ _ l _ _ _ hpr).mono ?_; rintro e w' ⟨rfl, hb1⟩))
        go_ret
        exact ⟨ret_bool (blocksB_no hlt (fun h => by rw [h.1] at t1'; cases t1')).symm, hbl.alloc (by omega) _⟩
    · have hend := blocksB_end (l := l) fun j hj => Hno.out j (by omega)
      by_cases t1 : inB (l.length : Int) 2 9 = true
      · have h0 : 0 < l.length := by
          have := inB_byte l.length 2 9
          simp only [Int.cast_ofNat_Int] at this
          rw [t1] at this
          simp at this
          omega
        obtain ⟨b, off, rfl, hb, h1, h2⟩ := hp.cell 0 h0
        have c2 := (hbl.cell (p := ⟨b, off + 0 * 2 + 1, none⟩) hb).trans h2
        simp only [Nat.zero_mul, Nat.add_zero] at c2
        have hE : blocksB l = (restAt l 0).toList.isEmpty := by
          rw [hend, t1, isEmpty_eq]; rfl
        have HE := Lib.hid hE; clear hE hend h2 h1
        go_wp2_with (go_at_call 59; refine (l1In_any _ _ _ _).mono ?_; rintro e w' ⟨rfl, rfl⟩)
        go_ret
        exact ⟨ret_bool HE.out.symm, hbl⟩
      · have t1' : inB (l.length : Int) 2 9 = false := by simpa using t1
        have HE : blocksB l = false := by rw [hend, t1']; rfl
        have HE' := Lib.hid HE
        clear t1 HE hend
        go_wp2_with (go_at_call 59; refine (l1In_any _ _ _ _).mono ?_; rintro e w' ⟨rfl, rfl⟩)
        go_ret
        exact ⟨ret_bool HE'.out.symm, hbl⟩
end Go.Proofs.YtfmhcjhcmoniaaaDoor
