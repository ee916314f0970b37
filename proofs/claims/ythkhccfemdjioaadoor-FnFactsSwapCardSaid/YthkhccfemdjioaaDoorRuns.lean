/-
  Runs of chapter 2: what a run is, and the model's IsRun. Conditions: at most 1048576 blocks and edges, each text at most as many bytes.
-/
import Derived.Test.YthkhccfemdjioaaDoorWith
import Derived.BigQuiet
import Derived.Deep.QuietTactic
import Derived.Deep.RegionHeld3
namespace Go.Proofs.YthkhccfemdjioaaDoor
open Go.RowKit Go.Maps

/-- the last block's name -/
def lastN (bs : List Pr) : ByteArray := nameAt bs (bs.length - 1)
/-- the block at a place of a run -/
def ch (s : ByteArray) (i : Nat) : ByteArray := s.extract i (i + 1)
theorem ch_last {s : ByteArray} {n : Nat} (h : n + 1 = s.size) : s.extract n s.size = ch s n := by unfold ch; rw [h]
theorem ch_size {s : ByteArray} {i : Nat} (h : i < s.size) : (ch s i).size = 1 := by unfold ch; rw [ByteArray.size_extract]; omega
structure RunOk (bs es : List Pr) (run : ByteArray) : Prop where
  lo : 2 ≤ run.size
  hi : run.size ≤ 40
  st : ch run 0 = nameAt bs 0
  ed : ∀ m, m + 1 < run.size → (ch run m, ch run (m + 1)) ∈ es
  en : ch run (run.size - 1) = lastN bs
open Classical in
noncomputable def runB (bs es : List Pr) (run : ByteArray) : Bool := decide (RunOk bs es run)
theorem runB_no {bs es : List Pr} {run : ByteArray} (h : ¬ RunOk bs es run) : runB bs es run = false := by simpa [runB] using h
theorem runB_yes {bs es : List Pr} {run : ByteArray} (h : RunOk bs es run) : runB bs es run = true := by simpa [runB] using h
noncomputable def isRunB (bs es : List Pr) (run : ByteArray) : Bool := validB bs es && runB bs es run
theorem fndE_neg {l : List Pr} {p : Pr} : fndE l p < 0 ↔ p ∉ l := by
  constructor
  · intro h hm
    obtain ⟨k, _, e, _⟩ := fndE_yes hm
    omega
  · intro h
    rw [fndE_no h]; omega

theorem l1Edge_yes (from_ to_ : ByteArray) (w : World) (l : List Pr) (a : Option Addr) (cap : Nat) (vb : Value) (k : Nat) (hk : fndE l (from_, to_) = (k : Int)) (hp : PairsAt w a l) :
    Calls Tryd.prog 83 #[.agg #[vb, .slice a l.length cap], .string from_, .string to_] w fun e w' => e = .returned (.int .i64 (k : Int)) ∧ Below w.heap.size w w' :=
  (l1Edge_any from_ to_ w l a cap vb hp).mono fun e w' h => ⟨by rw [h.1, hk], h.2⟩
theorem l1Edge_no (from_ to_ : ByteArray) (w : World) (l : List Pr) (a : Option Addr) (cap : Nat) (vb : Value) (hk : (from_, to_) ∉ l) (hp : PairsAt w a l) :
    Calls Tryd.prog 83 #[.agg #[vb, .slice a l.length cap], .string from_, .string to_] w fun e w' => e = .returned (.int .i64 (-1)) ∧ Below w.heap.size w w' :=
  (l1Edge_any from_ to_ w l a cap vb hp).mono fun e w' h => ⟨by rw [h.1, fndE_no hk], h.2⟩

/-- 's[i:j]' of a text -/
theorem run_slice_str (s : ByteArray) (i j : Int) (a b : Nat) (hi : i = a) (hj : j = b) (hab : a ≤ b) (hb : b ≤ s.size) (W : World) :
    (Instr.slice 9 (.string s) (some (.int .i64 i)) (some (.int .i64 j)) none).run Tryd.prog W = .ok (.string (s.extract a b)) W := by
  subst hi hj
  have h2 : (b : Int) ≤ s.size := by omega
  have h3 : (a : Int) ≤ b := by omega
  simp [Instr.slice, Instr.sliceBounds, Instr.sliceBound, run_underlying Tryd.underlying9, asIntOf, hab, hb]
set_option maxRecDepth 100000 in
set_option maxHeartbeats 1600000 in
theorem l2Run_any (w : World) (bs es : List Pr) (ab ae : Option Addr) (cb ce : Nat) (run : ByteArray) (hr : run.size ≤ 1048576) (h0 : 0 < bs.length) (hpb : PairsAt w ab bs) (hpe : PairsAt w ae es) :
    Calls Tryd.prog 96 #[.agg #[.slice ab bs.length cb, .slice ae es.length ce], .string run] w fun e w' => e = .returned (.bool (runB bs es run)) ∧ Below w.heap.size w w' := by
  have h1 : Below w.heap.size w (w.alloc (.cells #[.slice ab bs.length cb, .slice ae es.length ce] 32)) := (Below.refl _ _).alloc (Nat.le_refl _) _
  have hpb1 := hpb.below h1
  have hpe1 := hpe.below h1
  have H1 := Lib.hid h1; clear h1
  obtain ⟨b, off, rfl, hb, g1, g2⟩ := hpb1.cell 0 h0
  simp only [Nat.zero_mul, Nat.add_zero] at g1
  have hlb := hpb.len
  have H0 : (0 : Int) < (bs.length : Int) := by omega
  by_cases c1 : (40 : Int) < (run.size : Int)
  · have HN := Lib.hid (runB_no (bs := bs) (es := es) (run := run) fun h => by have := h.hi; omega)
    have d1 : decide ((40 : Int) < (run.size : Int)) = true := by simpa using c1
    clear c1
    go_enter Tryd.func96, Tryd.ntmps96
    go_wp2
    go_quiet (fail)
    go_wp2
    go_ret
    exact ⟨ret_bool HN.out.symm, below_drewN H1.out _⟩
  by_cases c2 : (run.size : Int) < 2
  · have HN := Lib.hid (runB_no (bs := bs) (es := es) (run := run) fun h => by have := h.lo; omega)
    have d1 : decide ((40 : Int) < (run.size : Int)) = false := by simpa using c1
    have d2 : decide ((run.size : Int) < 2) = true := by simpa using c2
    clear c1 c2
    go_enter Tryd.func96, Tryd.ntmps96
    go_wp2
    go_quiet (fail)
    go_wp2
    go_ret
    exact ⟨ret_bool HN.out.symm, below_drewN H1.out _⟩
  have d1 : decide ((40 : Int) < (run.size : Int)) = false := by simpa using c1
  have d2 : decide ((run.size : Int) < 2) = false := by simpa using c2
  have c1' : (run.size : Int) ≤ 40 := by omega
  have c2' : (2 : Int) ≤ (run.size : Int) := by omega
  clear c1 c2
  by_cases c3 : ch run 0 = nameAt bs 0
  · have t3 : ((run.extract 0 1).toList == (nameAt bs 0).toList) = true := by rw [toList_eq_iff]; exact decide_eq_true c3
    have HC := Lib.hid c3; clear c3
    go_enter Tryd.func96, Tryd.ntmps96
    go_wp2
    go_quiet (fail)
    go_wp2
    have hwA := below_drewN H1.out nq
    have y0 : ((w.alloc (.cells #[.slice (some ⟨b, off, none⟩) bs.length cb, .slice ae es.length ce] 32)).drewN nq).cell? ⟨w.heap.size, 0, none⟩ = some (.slice (some ⟨b, off, none⟩) bs.length cb) := by go_simp
    have y1 : ((w.alloc (.cells #[.slice (some ⟨b, off, none⟩) bs.length cb, .slice ae es.length ce] 32)).drewN nq).cell? ⟨w.heap.size, 1, none⟩ = some (.slice ae es.length ce) := by go_simp
    have hpb2 := hpb.below hwA
    have hpe2 := hpe.below hwA
    have hsA : w.heap.size < ((w.alloc (.cells #[.slice (some ⟨b, off, none⟩) bs.length cb, .slice ae es.length ce] 32)).drewN nq).heap.size := by simp
    clear hpb1 hpe1 g1 g2 hb t3
    generalize (w.alloc (.cells #[.slice (some ⟨b, off, none⟩) bs.length cb, .slice ae es.length ce] 32)).drewN nq = wA at *
    have HA := Lib.hid (And.intro hpb2 (And.intro hpe2 hwA)); clear hpb2 hpe2 hwA
    go_loopw [5] (fun i wr => ∃ m : Nat, m + 1 ≤ run.size ∧ i = .int .i64 ((m : Int) + 1) ∧ Below wA.heap.size wA wr ∧ ∀ j, j < m → (ch run j, ch run (j + 1)) ∈ es) (fun i _ => run.size - (intOf i).toNat)
    case atStart => exact ⟨0, by omega, by go_num, Below.refl _ _, all_zero⟩
    case round =>
      obtain ⟨m, hm, rfl, hbl, hno⟩ := hrel
      have Hno := Lib.hid hno; clear hno
      have hs2 := hbl.size
      have x0 := (hbl.cell (p := ⟨w.heap.size, 0, none⟩) hsA).trans y0
      have x1 := (hbl.cell (p := ⟨w.heap.size, 1, none⟩) hsA).trans y1
      have hall : Below w.heap.size w wr := HA.out.2.2.trans (hbl.mono (by omega))
      have hn1 : w.heap.size < wr.heap.size := by omega
      have hpe3 := HA.out.2.1.below hbl
      by_cases hlt : (m : Int) + 1 < (run.size : Int)
      · have i1 : (0 : Int) ≤ (m : Int) := by omega
        have i2 : (m : Int) ≤ (run.size : Int) := by omega
        have i3 : (m : Int) ≤ (m : Int) + 1 := by omega
        have i4 : (m : Int) + 1 ≤ (run.size : Int) := by omega
        have i5 : (m : Int) + 1 + 1 ≤ (run.size : Int) := by omega
        have s1 := run_slice_str run ((m : Int) + 1 - 1) ((m : Int) + 1) m (m + 1) (by omega) (by omega) (by omega) (by omega)
        have s2 := run_slice_str run ((m : Int)) ((m : Int) + 1) m (m + 1) (by omega) (by omega) (by omega) (by omega)
        have s3 := run_slice_str run ((m : Int) + 1) ((m : Int) + 1 + 1) (m + 1) (m + 1 + 1) (by omega) (by omega) (by omega) (by omega)
        have w1 : IntKind.i64.wrap (m : Int) = (m : Int) := IntWalk.i64_in _ (by omega)
        have w2 : IntKind.i64.wrap ((m : Int) + 1 + 1) = (m : Int) + 1 + 1 := IntWalk.i64_in _ (by omega)
        by_cases hin : (ch run m, ch run (m + 1)) ∈ es
        · obtain ⟨k, _, hk, _⟩ := fndE_yes hin
          have HK := Lib.hid hk; clear hk
          have HI := Lib.hid hin; clear hin
          go_wp2
          go_region_held3 (fun w' => w'.cell? ⟨w.heap.size, 0, none⟩ = some (.slice (some ⟨b, off, none⟩) bs.length cb) ∧ w'.cell? ⟨w.heap.size, 1, none⟩ = some (.slice ae es.length ce) ∧ Below wr.heap.size wr w')
            (first
              | exact ⟨x0, x1, (Below.refl _ _).drew⟩
              | (have hq := below_new (‹_ ∧ _ ∧ Below wr.heap.size wr _›).2.2 hbN; exact ⟨(hq.cell (p := ⟨w.heap.size, 0, none⟩) hn1).trans x0, (hq.cell (p := ⟨w.heap.size, 1, none⟩) hn1).trans x1, hq⟩))
            (first
              | (go_at_call 83; refine (l1Edge_yes (ch run m) (ch run (m + 1)) _ es _ _ _ k HK.out ?_).mono ?_; (exact hpe3.drew); rintro e wN ⟨rfl, hbN⟩))
          have hbN2 : Below wr.heap.size wr wN := (‹_ ∧ _ ∧ Below wr.heap.size wr wN›).2.2
          have hbA2 : Below wA.heap.size wA wN := hbl.trans (hbN2.mono hs2)
          have hall2 : Below w.heap.size w wN := hall.trans (hbN2.mono (by omega))
          go_wp2
          go_roundw
          case rel => exact ⟨m + 1, by omega, by go_num, hbA2, all_step Hno.out HI.out⟩
          case measure => simp [intOf]; omega
        · have HI := Lib.hid hin; clear hin
          have HN := Lib.hid (runB_no (bs := bs) (es := es) (run := run) fun h => HI.out (h.ed m (by omega)))
          go_wp2
          go_region_held3 (fun w' => w'.cell? ⟨w.heap.size, 0, none⟩ = some (.slice (some ⟨b, off, none⟩) bs.length cb) ∧ w'.cell? ⟨w.heap.size, 1, none⟩ = some (.slice ae es.length ce) ∧ Below wr.heap.size wr w')
            (first
              | exact ⟨x0, x1, (Below.refl _ _).drew⟩
              | (have hq := below_new (‹_ ∧ _ ∧ Below wr.heap.size wr _›).2.2 hbN; exact ⟨(hq.cell (p := ⟨w.heap.size, 0, none⟩) hn1).trans x0, (hq.cell (p := ⟨w.heap.size, 1, none⟩) hn1).trans x1, hq⟩))
            (first
              | (go_at_call 83; refine (l1Edge_no (ch run m) (ch run (m + 1)) _ es _ _ _ HI.out ?_).mono ?_; (exact hpe3.drew); rintro e wN ⟨rfl, hbN⟩))
          have hbN2 : Below wr.heap.size wr wN := (‹_ ∧ _ ∧ Below wr.heap.size wr wN›).2.2
          have hbA2 : Below wA.heap.size wA wN := hbl.trans (hbN2.mono hs2)
          have hall2 : Below w.heap.size w wN := hall.trans (hbN2.mono (by omega))
          go_wp2
          go_ret
          exact ⟨ret_bool HN.out.symm, hall2⟩
      · obtain ⟨b', off', e', hb', h3, h4⟩ := (HA.out.1.below hbl).cell (bs.length - 1) (by omega)
        have eb : b' = b ∧ off' = off := by simp at e'; exact ⟨e'.1.symm, e'.2.symm⟩
        obtain ⟨rfl, rfl⟩ := eb
        have hrz : m + 1 = run.size := by omega
        have l1 : (0 : Int) ≤ (bs.length : Int) - 1 := by omega
        have l2 : (bs.length : Int) - 1 < (bs.length : Int) := by omega
        have l4 : (1 : Int) ≤ (bs.length : Int) := by omega
        have l5 : 1 ≤ bs.length := by omega
        have l6 : 1 ≤ run.size := by omega
        have l7 : (1 : Int) ≤ (run.size : Int) := by omega
        have e1 : IntKind.i64.wrap ((bs.length : Int) - 1) = (bs.length : Int) - 1 := IntWalk.i64_in _ (by omega)
        have e2 : ((bs.length : Int) - 1).toNat = bs.length - 1 := by omega
        have e3 : ((run.size : Int) - 1).toNat = run.size - 1 := by omega
        have e4 : IntKind.i64.wrap ((run.size : Int) - 1) = (run.size : Int) - 1 := IntWalk.i64_in _ (by omega)
        have hch : run.extract (run.size - 1) run.size = ch run (run.size - 1) := ch_last (by omega)
        have HR := Lib.hid hrz; clear hrz
        have HCh := Lib.hid hch; clear hch
        by_cases hl : ch run (run.size - 1) = lastN bs
        · have t5 : ((run.extract (run.size - 1) run.size).toList == (nameAt bs (bs.length - 1)).toList) = true := by rw [toList_eq_iff, HCh.out]; exact decide_eq_true hl
          have HY := Lib.hid (runB_yes (bs := bs) (es := es) (run := run) ⟨by omega, by omega, HC.out, fun j hj => Hno.out j (by have := HR.out; omega), hl⟩)
          clear hl
          go_wp2
          go_quiet (fail)
          go_wp2
          go_ret
          exact ⟨ret_bool HY.out.symm, below_drewN hall _⟩
        · have t5 : ((run.extract (run.size - 1) run.size).toList == (nameAt bs (bs.length - 1)).toList) = false := by rw [toList_eq_iff, HCh.out]; exact decide_eq_false hl
          have HY := Lib.hid (runB_no (bs := bs) (es := es) (run := run) fun h => hl h.en)
          clear hl
          go_wp2
          go_quiet (fail)
          go_wp2
          go_ret
          exact ⟨ret_bool HY.out.symm, below_drewN hall _⟩
  · have t3 : ((run.extract 0 1).toList == (nameAt bs 0).toList) = false := by rw [toList_eq_iff]; exact decide_eq_false c3
    have HN := Lib.hid (runB_no (bs := bs) (es := es) (run := run) fun h => c3 h.st)
    clear c3
    go_enter Tryd.func96, Tryd.ntmps96
    go_wp2
    go_quiet (fail)
    go_wp2
    go_ret
    exact ⟨ret_bool HN.out.symm, below_drewN H1.out _⟩

theorem isRunB_no1 {bs es : List Pr} {run : ByteArray} (h : validB bs es = false) : isRunB bs es run = false := by simp [isRunB, h]
theorem isRunB_yes {bs es : List Pr} {run : ByteArray} (h : validB bs es = true) : isRunB bs es run = runB bs es run := by simp [isRunB, h]
set_option maxRecDepth 100000 in
theorem IsRun_spec (w : World) (bs es : List Pr) (ab ae : Option Addr) (cb ce : Nat) (run : ByteArray) (hr : run.size ≤ 1048576) (hpb : PairsAt w ab bs) (hpe : PairsAt w ae es) :
    Calls Tryd.prog 42 #[.agg #[.slice ab bs.length cb, .slice ae es.length ce], .string run] w fun e w' => e = .returned (.bool (isRunB bs es run)) ∧ Below w.heap.size w w' := by
  have h1 : Below w.heap.size w (w.alloc (.cells #[.slice ab bs.length cb, .slice ae es.length ce] 32)) := (Below.refl _ _).alloc (Nat.le_refl _) _
  have hpb1 := hpb.below h1
  have hpe1 := hpe.below h1
  have H1 := Lib.hid h1; clear h1
  go_enter Tryd.func42, Tryd.ntmps42
  go_wp2_with fail
  refine (ProgValid_spec _ bs es _ _ _ _ hpb1 hpe1).mono ?_
  rintro e w1 ⟨rfl, hb1⟩
  have hall : Below w.heap.size w w1 := H1.out.trans (hb1.mono (by simp))
  have hpb2 := hpb1.below hb1
  have hpe2 := hpe1.below hb1
  have c0 := (hb1.cell (p := ⟨w.heap.size, 0, none⟩) (by simp)).trans (show _ = some (.slice ab bs.length cb) by go_simp)
  have c1 := (hb1.cell (p := ⟨w.heap.size, 1, none⟩) (by simp)).trans (show _ = some (.slice ae es.length ce) by go_simp)
  have hz := hall.size
  cases hv : validB bs es
  · have HN := Lib.hid (isRunB_no1 (run := run) hv)
    clear hv
    go_wp2
    go_ret
    exact ⟨ret_bool HN.out.symm, hall⟩
  · have HN := Lib.hid (isRunB_yes (run := run) hv)
    have HL := Lib.hid (show 0 < bs.length by have h : Valid bs es := by simpa [validB] using hv
                                              have := h.b.lo; omega)
    clear hv
    go_wp2_with fail
    refine (l2Run_any _ bs es _ _ _ _ run hr HL.out hpb2 hpe2).mono ?_
    rintro e w2 ⟨rfl, hb2⟩
    go_wp2
    go_ret
    exact ⟨ret_bool HN.out.symm, hall.trans (hb2.mono hz)⟩
end Go.Proofs.YthkhccfemdjioaaDoor
