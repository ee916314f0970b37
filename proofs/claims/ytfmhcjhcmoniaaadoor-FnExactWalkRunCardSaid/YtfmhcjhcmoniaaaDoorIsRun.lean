/-
  The program's IsRun: whether a program is valid and a text tells a run of it. Conditions: at most 1048576 blocks and edges, each text at most as many bytes; the errors' variables hold errors.
-/
import Derived.Test.YtfmhcjhcmoniaaaDoorCourse
namespace Go.Proofs.YtfmhcjhcmoniaaaDoor
open Go.RowKit Go.Maps

set_option maxRecDepth 100000 in
theorem lastOf_any (s : ByteArray) (n : Nat) (h : s.size = n + 1) (hs : s.size ≤ 1048576) (w : World) :
    Calls Tryd.prog 30 #[.string s] w fun e w' => e = .returned (.string (ch s n)) ∧ w' = w := by
  have hi : (s.size : Int) = (n : Int) + 1 := by omega
  have w1 : IntKind.i64.wrap (n : Int) = (n : Int) := IntWalk.i64_in _ (by omega)
  have h1 : (n : Int) ≤ (s.size : Int) := by omega
  have h2 : n ≤ s.size := by omega
  have Hc := Lib.hid (show s.extract n s.size = ch s n from ch_last h.symm)
  have Hh := Lib.hid h
  clear h
  go_enter Tryd.func30, Tryd.ntmps30
  go_wp2
  go_ret
  exact ⟨by rw [Hc.out]; rfl, rfl⟩

open Classical in
/-- 'm[x][y]', with 'ok', in every world of this heap -/
theorem Links.look2n {w : World} {lo : Nat} {fp : List Nat} {E : List Pr} {F : ByteArray → Option Value} (hL : Links w lo fp E F) (x y : ByteArray) (hx : x.size ≤ 1048576) (hy : y.size ≤ 1048576) :
    ∃ r v, ∀ n, (Instr.lookup 56 (.map (some lo)) (.string x) false).run Tryd.prog (w.drewN n) = .ok (.map r) (w.drewN n) ∧ (Instr.lookup 60 (.map r) (.string y) true).run Tryd.prog (w.drewN n) = .ok (.tuple #[v, .bool (decide ((x, y) ∈ E))]) (w.drewN n) := by
  have hLn : ∀ n, Links (w.drewN n) lo fp E F := fun n => hL.same (fun k _ => rfl)
  cases hFL : F x with
  | none =>
    refine ⟨none, .int .i64 0, fun n => ?_⟩
    have l3 := (hLn n).map.look Tryd.underlying56 (zeroMap _) (mx hx)
    rw [hFL] at l3
    have hE : decide ((x, y) ∈ E) = false := by simpa using hL.none_ x hFL y
    have l4 := look_nil_ok (w := w.drewN n) Tryd.underlying60 (zeroInt _) (mx hy)
    rw [hE]
    exact ⟨l3, l4⟩
  | some v =>
    obtain ⟨bi, rfl, hbi, hmi, _⟩ := hL.some_ x v hFL
    refine ⟨some bi, ((inner E x y).getD (.int .i64 0)), fun n => ?_⟩
    have l3 := (hLn n).map.look Tryd.underlying56 (zeroMap _) (mx hx)
    rw [hFL] at l3
    have hmn : MapV (w.drewN n) bi E.length (inner E x) := hmi.same rfl
    have l4 := hmn.look_ok Tryd.underlying60 (zeroInt _) (mx hy)
    have hE : (inner E x y).isSome = decide ((x, y) ∈ E) := by
      have := inner_isSome E x y
      by_cases h : (x, y) ∈ E
      · simp [h, this.2 h]
      · simp [h]
        cases hi : (inner E x y).isSome
        · simpa using hi
        · exact absurd (this.1 hi) h
    rw [hE] at l4
    exact ⟨l3, l4⟩
/-- the names in a course's memory -/
theorem names_cells {w : World} {vn : Value} {bs : List Pr} {n : Nat} (h : w.ownsRow 0 9 1 vn bs.length (nameVs bs bs.length)) (hn : bs.length = n + 1) :
    ∃ g cap, vn = .slice (some ⟨g, 0, none⟩) (n + 1) cap ∧ g < w.heap.size ∧ ∀ j, j < n + 1 → w.cell? ⟨g, j, none⟩ = some (.string (nameAt bs j)) := by
  rw [hn] at h
  obtain ⟨g, cap, rfl, _, hg, _, _, hc⟩ := own_last h
  exact ⟨g, cap, rfl, hg, fun j hj => hc j _ (nameVs_at hj)⟩

open Classical in
set_option maxRecDepth 100000 in
set_option maxHeartbeats 3200000 in
theorem isRun_any (w : World) (o lo li f : Nat) (vn : Value) (bs es : List Pr) (D : ByteArray → Option Nat) (run : ByteArray) (hr : run.size ≤ 1048576) (hV : Valid bs es) (hC : CourseAt w o lo li vn f bs es D) :
    Calls Tryd.prog 36 #[.agg #[.map (some o), .map (some lo), .map (some li), vn, .map (some f)], .string run] w fun e w' => e = .returned (.bool (runB bs es run)) ∧ Below w.heap.size w w' := by
  obtain ⟨n, hn⟩ : ∃ n, bs.length = n + 1 := ⟨bs.length - 1, by have := hV.b.lo; omega⟩
  obtain ⟨g, cap, rfl, hgw, hcells⟩ := names_cells hC.names hn
  have h1 : Below w.heap.size w (w.alloc (.cells #[.map (some o), .map (some lo), .map (some li), .slice (some ⟨g, 0, none⟩) (n + 1) cap, .map (some f)] 62)) := (Below.refl _ _).alloc (Nat.le_refl _) _
  have q0 := (h1.cell (p := ⟨g, 0, none⟩) hgw).trans (hcells 0 (by omega))
  have hb9 := hV.b.hi
  have N1 : (0 : Int) < (n : Int) + 1 := by omega
  have H1 := Lib.hid h1; clear h1
  have HC := Lib.hid hC; clear hC
  have Hcells := Lib.hid hcells; clear hcells
  have Hn := Lib.hid hn
  have hn9 : n ≤ 8 := by omega
  clear hn hb9
  by_cases c0 : run.size = 0
  · have t0 : run.toList.isEmpty = true := by rw [isEmpty_eq]; exact decide_eq_true ((e0_iff _).2 c0)
    have HN := Lib.hid (runB_no (bs := bs) (es := es) (run := run) fun h => by have := h.lo; omega)
    clear c0
    go_enter Tryd.func36, Tryd.ntmps36
    go_wp2
    go_quiet (fail)
    go_wp2
    go_ret
    exact ⟨ret_bool HN.out.symm, below_drewN H1.out _⟩
  have t0 : run.toList.isEmpty = false := by rw [isEmpty_eq]; exact decide_eq_false (fun e => c0 ((e0_iff _).1 e))
  by_cases c1 : (40 : Int) < (run.size : Int)
  · have HN := Lib.hid (runB_no (bs := bs) (es := es) (run := run) fun h => by have := h.hi; omega)
    have d1 : decide ((40 : Int) < (run.size : Int)) = true := by simpa using c1
    clear c0 c1
    go_enter Tryd.func36, Tryd.ntmps36
    go_wp2
    go_quiet (fail)
    go_wp2
    go_ret
    exact ⟨ret_bool HN.out.symm, below_drewN H1.out _⟩
  have d1 : decide ((40 : Int) < (run.size : Int)) = false := by simpa using c1
  have c1' : (run.size : Int) ≤ 40 := by omega
  have c2' : (1 : Int) ≤ (run.size : Int) := by omega
  clear c0 c1
  by_cases c3 : ch run 0 = nameAt bs 0
  · have t3 : ((run.extract 0 1).toList == (nameAt bs 0).toList) = true := by rw [toList_eq_iff]; exact decide_eq_true c3
    have HC3 := Lib.hid c3; clear c3
    go_enter Tryd.func36, Tryd.ntmps36
    go_wp2
    go_quiet (fail)
    go_wp2
    have hwA := below_drewN H1.out nq
    have hkA : ((w.alloc (.cells #[.map (some o), .map (some lo), .map (some li), .slice (some ⟨g, 0, none⟩) (n + 1) cap, .map (some f)] 62)).drewN nq).heap[w.heap.size]? = some (.cells #[.map (some o), .map (some lo), .map (some li), .slice (some ⟨g, 0, none⟩) (n + 1) cap, .map (some f)] 62 (0, 0)) := heap_alloc_new w _
    have HA := Lib.hid (And.intro hwA hkA); clear hwA hkA
    clear q0 t3
    generalize (w.alloc (.cells #[.map (some o), .map (some lo), .map (some li), .slice (some ⟨g, 0, none⟩) (n + 1) cap, .map (some f)] 62)).drewN nq = wA at *
    go_loopw [5] (fun i wr => ∃ m : Nat, m + 1 ≤ run.size ∧ i = .int .i64 ((m : Int) + 1) ∧ Below wA.heap.size wA wr ∧ ∀ j, j < m → (ch run j, ch run (j + 1)) ∈ es) (fun i _ => run.size - (intOf i).toNat)
    case atStart => exact ⟨0, by omega, by go_num, Below.refl _ _, all_zero⟩
    case round =>
      obtain ⟨m, hm, rfl, hbl, hno⟩ := hrel
      have Hno := Lib.hid hno; clear hno
      have hzA : w.heap.size < wA.heap.size := (Array.getElem?_eq_some_iff.1 HA.out.2).1
      have hkr := (hbl.block w.heap.size hzA).trans HA.out.2
      obtain ⟨⟨x0, x1, x2, x3, x4⟩, _⟩ := block5 hkr
      have hall : Below w.heap.size w wr := HA.out.1.trans (hbl.mono (by omega))
      have hs2 := hbl.size
      have hCr := HC.out.keep hall
      have HCr := Lib.hid hCr; clear hCr hkr
      by_cases hlt : (m : Int) + 1 < (run.size : Int)
      · have i2 : (m : Int) ≤ (run.size : Int) := by omega
        have i4 : (m : Int) + 1 ≤ (run.size : Int) := by omega
        have i5 : (m : Int) + 1 + 1 ≤ (run.size : Int) := by omega
        have s2 := run_slice_str run ((m : Int)) ((m : Int) + 1) m (m + 1) (by omega) (by omega) (by omega) (by omega)
        have s3 := run_slice_str run ((m : Int) + 1) ((m : Int) + 1 + 1) (m + 1) (m + 1 + 1) (by omega) (by omega) (by omega) (by omega)
        have w1 : IntKind.i64.wrap (m : Int) = (m : Int) := IntWalk.i64_in _ (by omega)
        have w2 : IntKind.i64.wrap ((m : Int) + 1 + 1) = (m : Int) + 1 + 1 := IntWalk.i64_in _ (by omega)
        obtain ⟨fp, FL, hL, hfp⟩ := HCr.out.plan.out
        obtain ⟨r, v, hlk⟩ := hL.look2n (ch run m) (ch run (m + 1)) (by rw [ch_size (by omega)]; decide) (by rw [ch_size (by omega)]; decide)
        have lk1 : ∀ q, (Instr.lookup 56 (.map (some lo)) (.string (run.extract m (m + 1))) false).run Tryd.prog (wr.drewN q) = .ok (.map r) (wr.drewN q) := fun q => (hlk q).1
        by_cases hin : (ch run m, ch run (m + 1)) ∈ es
        · have lk2 : ∀ q, (Instr.lookup 60 (.map r) (.string (run.extract (m + 1) (m + 1 + 1))) true).run Tryd.prog (wr.drewN q) = .ok (.tuple #[v, .bool true]) (wr.drewN q) := fun q => by have := (hlk q).2; rw [decide_eq_true hin] at this; exact this
          have HI := Lib.hid hin
          clear hin hlk hL hfp
          go_wp2
          go_quiet (fail)
          go_wp2
          go_roundw
          case rel => exact ⟨m + 1, by omega, by go_num, below_drewN hbl _, all_step Hno.out HI.out⟩
          case measure => simp [intOf]; omega
        · have lk2 : ∀ q, (Instr.lookup 60 (.map r) (.string (run.extract (m + 1) (m + 1 + 1))) true).run Tryd.prog (wr.drewN q) = .ok (.tuple #[v, .bool false]) (wr.drewN q) := fun q => by have := (hlk q).2; rw [decide_eq_false hin] at this; exact this
          have HN := Lib.hid (runB_no (bs := bs) (es := es) (run := run) fun h => hin (h.ed m (by omega)))
          clear hin hlk hL hfp
          go_wp2
          go_quiet (fail)
          go_wp2
          go_ret
          exact ⟨ret_bool HN.out.symm, below_drewN hall _⟩
      · have hrz : run.size = m + 1 := by omega
        have q1 := (hall.cell (p := ⟨g, n, none⟩) hgw).trans (Hcells.out n (by omega))
        have HR := Lib.hid hrz; clear hrz
        have l2 : (n : Int) < (n : Int) + 1 := by omega
        have l3 : IntKind.i64.wrap (n : Int) = (n : Int) := IntWalk.i64_in _ (by omega)
        have HLn := Lib.hid (show nameAt bs n = lastN bs by unfold lastN; rw [Hn.out]; rfl)
        by_cases hl : ch run m = nameAt bs n
        · have t5 : ((ch run m).toList == (nameAt bs n).toList) = true := by rw [toList_eq_iff]; exact decide_eq_true hl
          have HY := Lib.hid (runB_yes (bs := bs) (es := es) (run := run) ⟨by
            rcases Nat.lt_or_ge 1 run.size with h | h
            · omega
            · have h0 : m = 0 := by have := HR.out; omega
              have e : nameAt bs 0 = nameAt bs n := by rw [← hl, ← HC3.out, h0]
              have := names_inj hV.b.nd (by have := Hn.out; omega) (by have := Hn.out; omega) e
              have := hV.b.lo
              have := Hn.out
              omega, by omega, HC3.out, fun j hj => Hno.out j (by have := HR.out; omega), by rw [HR.out]; show ch run m = _; rw [hl, HLn.out]⟩)
          clear hl
          go_wp2
          go_quiet (exact Calls.quiet_of_same (lastOf_any run m HR.out hr _))
          go_wp2
          go_ret
          exact ⟨ret_bool HY.out.symm, below_drewN hall _⟩
        · have t5 : ((ch run m).toList == (nameAt bs n).toList) = false := by rw [toList_eq_iff]; exact decide_eq_false hl
          have HY := Lib.hid (runB_no (bs := bs) (es := es) (run := run) fun h => hl (by have := h.en; rw [HR.out] at this; rw [HLn.out]; exact this))
          clear hl
          go_wp2
          go_quiet (exact Calls.quiet_of_same (lastOf_any run m HR.out hr _))
          go_wp2
          go_ret
          exact ⟨ret_bool HY.out.symm, below_drewN hall _⟩
  · have t3 : ((run.extract 0 1).toList == (nameAt bs 0).toList) = false := by rw [toList_eq_iff]; exact decide_eq_false c3
    have HN := Lib.hid (runB_no (bs := bs) (es := es) (run := run) fun h => c3 h.st)
    clear c3
    go_enter Tryd.func36, Tryd.ntmps36
    go_wp2
    go_quiet (fail)
    go_wp2
    go_ret
    exact ⟨ret_bool HN.out.symm, below_drewN H1.out _⟩

end Go.Proofs.YtfmhcjhcmoniaaaDoor
