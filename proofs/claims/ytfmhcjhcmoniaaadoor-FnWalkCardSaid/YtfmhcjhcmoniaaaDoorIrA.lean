import Derived.Test.YtfmhcjhcmoniaaaDoorWith
import Derived.Test.YtfmhcjhcmoniaaaDoorCourse
import Derived.Test.YtfmhcjhcmoniaaaDoorTo
import Derived.BigQuiet
import Derived.Deep.QuietTactic
section
/-
  Plain mathematics: the names at the other ends of a block's edges, in the order of the edges; Conditions: at most 1048576 blocks and edges, each text at most as many bytes.
-/
namespace Go.Proofs.YtfmhcjhcmoniaaaDoor
open Go.RowKit Go.Maps

/-- texts one behind the other -/
def cat (l : List ByteArray) : ByteArray := l.foldl (· ++ ·) e0
theorem cat_nil : cat [] = e0 := rfl
theorem cat_snoc (l : List ByteArray) (x : ByteArray) : cat (l ++ [x]) = cat l ++ x := by simp [cat, List.foldl_append]
open Classical in
noncomputable def outL (E : List Pr) (x : ByteArray) : List ByteArray := (E.filter fun e => decide (e.1 = x)).map (·.2)
theorem outL_nil (x : ByteArray) : outL [] x = [] := rfl
theorem outL_hit {E : List Pr} {x : ByteArray} {p : Pr} (h : p.1 = x) : outL (E ++ [p]) x = outL E x ++ [p.2] := by simp [outL, h]
theorem outL_miss {E : List Pr} {x : ByteArray} {p : Pr} (h : p.1 ≠ x) : outL (E ++ [p]) x = outL E x := by simp [outL, h]
theorem mem_outL {E : List Pr} {x y : ByteArray} : y ∈ outL E x ↔ (x, y) ∈ E := by
  unfold outL
  rw [List.mem_map]
  constructor
  · rintro ⟨p, hp, rfl⟩
    have h := List.mem_filter.1 hp
    have e : p.1 = x := by simpa using h.2
    rw [← e]; exact h.1
  · intro h
    exact ⟨(x, y), List.mem_filter.2 ⟨h, by simp⟩, rfl⟩
theorem outL_length (E : List Pr) (x : ByteArray) : (outL E x).length ≤ E.length := by
  unfold outL
  rw [List.length_map]
  exact List.length_filter_le _ _
theorem cat_size {l : List ByteArray} (h : ∀ x ∈ l, x.size = 1) : (cat l).size = l.length := by
  have key : ∀ (l : List ByteArray) (a : ByteArray), (∀ x ∈ l, x.size = 1) → (l.foldl (· ++ ·) a).size = a.size + l.length := by
    intro l
    induction l with
    | nil => intro a _; simp
    | cons x r ih =>
      intro a h
      rw [List.foldl_cons, ih _ (fun y hy => h y (List.mem_cons_of_mem _ hy)), ByteArray.size_append, h x (List.mem_cons_self ..), List.length_cons]
      omega
  have := key l e0 h
  unfold cat
  rw [this]
  show 0 + _ = _
  omega
theorem isNm_size {s : ByteArray} (h : isNm s = true) : s.size = 1 := by
  unfold isNm at h
  simp at h
  exact h.1
theorem Valid.name_size {bs es : List Pr} (h : Valid bs es) {s : ByteArray} (hs : s ∈ names bs) : s.size = 1 := by
  obtain ⟨p, hp, rfl⟩ := List.mem_map.1 hs
  exact isNm_size (h.b.nm p hp)
theorem Valid.to_size {bs es : List Pr} (h : Valid bs es) {k : Nat} (hk : k < es.length) : (restAt es k).size = 1 := h.name_size (h.e.to _ (pair_mem hk))
theorem Valid.from_size {bs es : List Pr} (h : Valid bs es) {k : Nat} (hk : k < es.length) : (nameAt es k).size = 1 := h.name_size (h.e.fr _ (pair_mem hk))
theorem flip_take (es : List Pr) (k : Nat) : (flip es).take k = flip (es.take k) := by simp [flip, List.map_take]
theorem flip_succ {es : List Pr} {k : Nat} (h : k < es.length) : flip (es.take (k + 1)) = flip (es.take k) ++ [(restAt es k, nameAt es k)] := by rw [take_succ_pr h, flip_snoc]
noncomputable def outV (bs es E : List Pr) (x : ByteArray) : Value := if hasB bs es x = true then .tuple #[.string (cat (outL E x)), .bool true] else .tuple #[.string e0, .bool false]
theorem outV_yes {bs es E : List Pr} {x : ByteArray} (h : hasB bs es x = true) : outV bs es E x = .tuple #[.string (cat (outL E x)), .bool true] := by unfold outV; rw [if_pos h]
theorem outV_no {bs es E : List Pr} {x : ByteArray} (h : hasB bs es x = false) : outV bs es E x = .tuple #[.string e0, .bool false] := by unfold outV; rw [if_neg (by rw [h]; simp)]
/-- the names to, or from, as values of a law's two results -/
noncomputable def outOfV (bs es : List Pr) (x : ByteArray) : Value := outV bs es es x
noncomputable def inOfV (bs es : List Pr) (x : ByteArray) : Value := outV bs es (flip es) x
theorem outOfV_form (bs es : List Pr) (x : ByteArray) : ∃ (r : ByteArray) (ok : Bool), outOfV bs es x = .tuple #[.string r, .bool ok] := by
  cases h : hasB bs es x
  · exact ⟨_, _, outV_no h⟩
  · exact ⟨_, _, outV_yes h⟩
theorem inOfV_form (bs es : List Pr) (x : ByteArray) : ∃ (r : ByteArray) (ok : Bool), inOfV bs es x = .tuple #[.string r, .bool ok] := by
  cases h : hasB bs es x
  · exact ⟨_, _, outV_no h⟩
  · exact ⟨_, _, outV_yes h⟩

end Go.Proofs.YtfmhcjhcmoniaaaDoor
end

section
/-
  The program's IsRun: whether a program is valid and a text tells a run of it. Conditions: at most 1048576 blocks and edges, each text at most as many bytes; the errors' variables hold errors.
-/
namespace Go.Proofs.YtfmhcjhcmoniaaaDoor
open Go.RowKit Go.Maps

set_option maxRecDepth 100000 in
theorem lastOf_any (s : ByteArray) (n : Nat) (h : s.size = n + 1) (hs : s.size ≤ 1048576) (w : World) :
    Calls Tryd.prog 30 #[.string s] w fun e w' => e = .returned (.string (ch s n)) ∧ w' = w := by
  have hi : (s.size : Int) = (n : Int) + 1 := by omega
  have w1 : IntKind.i64.wrap (n : Int) = (n : Int) := IntWalk.i64_in _ (by omega)
  have h1 : (n : Int) ≤ (s.size : Int) := by omega
  have h2 : n ≤ s.size := by omega
  have Hc := Lib.hid (show s.extract n s.size = ch s n from ch_last h.symm)
  have Hh := Lib.hid h
  clear h
  go_enter Tryd.func30, Tryd.ntmps30
  go_wp2
  go_ret
  exact ⟨by rw [Hc.out]; rfl, rfl⟩

open Classical in
/-- 'm[x][y]', with 'ok', in every world of this heap -/
theorem Links.look2n {w : World} {lo : Nat} {fp : List Nat} {E : List Pr} {F : ByteArray → Option Value} (hL : Links w lo fp E F) (x y : ByteArray) (hx : x.size ≤ 1048576) (hy : y.size ≤ 1048576) :
    ∃ r v, ∀ n, (Instr.lookup 56 (.map (some lo)) (.string x) false).run Tryd.prog (w.drewN n) = .ok (.map r) (w.drewN n) ∧ (Instr.lookup 60 (.map r) (.string y) true).run Tryd.prog (w.drewN n) = .ok (.tuple #[v, .bool (decide ((x, y) ∈ E))]) (w.drewN n) := by
  have hLn : ∀ n, Links (w.drewN n) lo fp E F := fun n => hL.same (fun k _ => rfl)
  cases hFL : F x with
  | none =>
    refine ⟨none, .int .i64 0, fun n => ?_⟩
    have l3 := (hLn n).map.look Tryd.underlying56 (zeroMap _) (mx hx)
    rw [hFL] at l3
    have hE : decide ((x, y) ∈ E) = false := by simpa using hL.none_ x hFL y
    have l4 := look_nil_ok (w := w.drewN n) Tryd.underlying60 (zeroInt _) (mx hy)
    rw [hE]
    exact ⟨l3, l4⟩
  | some v =>
    obtain ⟨bi, rfl, hbi, hmi, _⟩ := hL.some_ x v hFL
    refine ⟨some bi, ((inner E x y).getD (.int .i64 0)), fun n => ?_⟩
    have l3 := (hLn n).map.look Tryd.underlying56 (zeroMap _) (mx hx)
    rw [hFL] at l3
    have hmn : MapV (w.drewN n) bi E.length (inner E x) := hmi.same rfl
    have l4 := hmn.look_ok Tryd.underlying60 (zeroInt _) (mx hy)
    have hE : (inner E x y).isSome = decide ((x, y) ∈ E) := by
      have := inner_isSome E x y
      by_cases h : (x, y) ∈ E
      · simp [h, this.2 h]
      · simp [h]
        cases hi : (inner E x y).isSome
        · simpa using hi
        · exact absurd (this.1 hi) h
    rw [hE] at l4
    exact ⟨l3, l4⟩
/-- the names in a course's memory -/
theorem names_cells {w : World} {vn : Value} {bs : List Pr} {n : Nat} (h : w.ownsRow 0 9 1 vn bs.length (nameVs bs bs.length)) (hn : bs.length = n + 1) :
    ∃ g cap, vn = .slice (some ⟨g, 0, none⟩) (n + 1) cap ∧ g < w.heap.size ∧ ∀ j, j < n + 1 → w.cell? ⟨g, j, none⟩ = some (.string (nameAt bs j)) := by
  rw [hn] at h
  obtain ⟨g, cap, rfl, _, hg, _, _, hc⟩ := own_last h
  exact ⟨g, cap, rfl, hg, fun j hj => hc j _ (nameVs_at hj)⟩

open Classical in
set_option maxRecDepth 100000 in
set_option maxHeartbeats 3200000 in
theorem isRun_any (w : World) (o lo li f : Nat) (vn : Value) (bs es : List Pr) (D : ByteArray → Option Nat) (run : ByteArray) (hr : run.size ≤ 1048576) (hV : Valid bs es) (hC : CourseAt w o lo li vn f bs es D) :
    Calls Tryd.prog 36 #[.agg #[.map (some o), .map (some lo), .map (some li), vn, .map (some f)], .string run] w fun e w' => e = .returned (.bool (runB bs es run)) ∧ Below w.heap.size w w' := by
  obtain ⟨n, hn⟩ : ∃ n, bs.length = n + 1 := ⟨bs.length - 1, by have := hV.b.lo; omega⟩
  obtain ⟨g, cap, rfl, hgw, hcells⟩ := names_cells hC.names hn
  have h1 : Below w.heap.size w (w.alloc (.cells #[.map (some o), .map (some lo), .map (some li), .slice (some ⟨g, 0, none⟩) (n + 1) cap, .map (some f)] 62)) := (Below.refl _ _).alloc (Nat.le_refl _) _
  have q0 := (h1.cell (p := ⟨g, 0, none⟩) hgw).trans (hcells 0 (by omega))
  have hb9 := hV.b.hi
  have N1 : (0 : Int) < (n : Int) + 1 := by omega
  have H1 := Lib.hid h1; clear h1
  have HC := Lib.hid hC; clear hC
  have Hcells := Lib.hid hcells; clear hcells
  have Hn := Lib.hid hn
  have hn9 : n ≤ 8 := by omega
  clear hn hb9
  by_cases c0 : run.size = 0
  · have t0 : run.toList.isEmpty = true := by rw [isEmpty_eq]; exact decide_eq_true ((e0_iff _).2 c0)
    have HN := Lib.hid (runB_no (bs := bs) (es := es) (run := run) fun h => by have := h.lo; omega)
    clear c0
    go_enter Tryd.func36, Tryd.ntmps36
    go_wp2
    go_quiet (fail)
    go_wp2
    go_ret
    exact ⟨ret_bool HN.out.symm, below_drewN H1.out _⟩
  have t0 : run.toList.isEmpty = false := by rw [isEmpty_eq]; exact decide_eq_false (fun e => c0 ((e0_iff _).1 e))
  by_cases c1 : (40 : Int) < (run.size : Int)
  · have HN := Lib.hid (runB_no (bs := bs) (es := es) (run := run) fun h => by have := h.hi; omega)
    have d1 : decide ((40 : Int) < (run.size : Int)) = true := by simpa using c1
    clear c0 c1
    go_enter Tryd.func36, Tryd.ntmps36
    go_wp2
    go_quiet (fail)
    go_wp2
    go_ret
    exact ⟨ret_bool HN.out.symm, below_drewN H1.out _⟩
  have d1 : decide ((40 : Int) < (run.size : Int)) = false := by simpa using c1
  have c1' : (run.size : Int) ≤ 40 := by omega
  have c2' : (1 : Int) ≤ (run.size : Int) := by omega
  clear c0 c1
  by_cases c3 : ch run 0 = nameAt bs 0
  · have t3 : ((run.extract 0 1).toList == (nameAt bs 0).toList) = true := by rw [toList_eq_iff]; exact decide_eq_true c3
    have HC3 := Lib.hid c3; clear c3
    go_enter Tryd.func36, Tryd.ntmps36
    go_wp2
    go_quiet (fail)
    go_wp2
    have hwA := below_drewN H1.out nq
    have hkA : ((w.alloc (.cells #[.map (some o), .map (some lo), .map (some li), .slice (some ⟨g, 0, none⟩) (n + 1) cap, .map (some f)] 62)).drewN nq).heap[w.heap.size]? = some (.cells #[.map (some o), .map (some lo), .map (some li), .slice (some ⟨g, 0, none⟩) (n + 1) cap, .map (some f)] 62 (0, 0)) := heap_alloc_new w _
    have HA := Lib.hid (And.intro hwA hkA); clear hwA hkA
    clear q0 t3
    generalize (w.alloc (.cells #[.map (some o), .map (some lo), .map (some li), .slice (some ⟨g, 0, none⟩) (n + 1) cap, .map (some f)] 62)).drewN nq = wA at *
    go_loopw [5] (fun i wr => ∃ m : Nat, m + 1 ≤ run.size ∧ i = .int .i64 ((m : Int) + 1) ∧ Below wA.heap.size wA wr ∧ ∀ j, j < m → (ch run j, ch run (j + 1)) ∈ es) (fun i _ => run.size - (intOf i).toNat)
    case atStart => exact ⟨0, by omega, by go_num, Below.refl _ _, all_zero⟩
    case round =>
      obtain ⟨m, hm, rfl, hbl, hno⟩ := hrel
      have Hno := Lib.hid hno; clear hno
      have hzA : w.heap.size < wA.heap.size := (Array.getElem?_eq_some_iff.1 HA.out.2).1
      have hkr := (hbl.block w.heap.size hzA).trans HA.out.2
      obtain ⟨⟨x0, x1, x2, x3, x4⟩, _⟩ := block5 hkr
      have hall : Below w.heap.size w wr := HA.out.1.trans (hbl.mono (by omega))
      have hs2 := hbl.size
      have hCr := HC.out.keep hall
      have HCr := Lib.hid hCr; clear hCr hkr
      by_cases hlt : (m : Int) + 1 < (run.size : Int)
      · have i2 : (m : Int) ≤ (run.size : Int) := by omega
        have i4 : (m : Int) + 1 ≤ (run.size : Int) := by omega
        have i5 : (m : Int) + 1 + 1 ≤ (run.size : Int) := by omega
        have s2 := run_slice_str run ((m : Int)) ((m : Int) + 1) m (m + 1) (by omega) (by omega) (by omega) (by omega)
        have s3 := run_slice_str run ((m : Int) + 1) ((m : Int) + 1 + 1) (m + 1) (m + 1 + 1) (by omega) (by omega) (by omega) (by omega)
        have w1 : IntKind.i64.wrap (m : Int) = (m : Int) := IntWalk.i64_in _ (by omega)
        have w2 : IntKind.i64.wrap ((m : Int) + 1 + 1) = (m : Int) + 1 + 1 := IntWalk.i64_in _ (by omega)
        obtain ⟨fp, FL, hL, hfp⟩ := HCr.out.plan.out
        obtain ⟨r, v, hlk⟩ := hL.look2n (ch run m) (ch run (m + 1)) (by rw [ch_size (by omega)]; decide) (by rw [ch_size (by omega)]; decide)
        have lk1 : ∀ q, (Instr.lookup 56 (.map (some lo)) (.string (run.extract m (m + 1))) false).run Tryd.prog (wr.drewN q) = .ok (.map r) (wr.drewN q) := fun q => (hlk q).1
        by_cases hin : (ch run m, ch run (m + 1)) ∈ es
        · have lk2 : ∀ q, (Instr.lookup 60 (.map r) (.string (run.extract (m + 1) (m + 1 + 1))) true).run Tryd.prog (wr.drewN q) = .ok (.tuple #[v, .bool true]) (wr.drewN q) := fun q => by have := (hlk q).2; rw [decide_eq_true hin] at this; exact this
          have HI := Lib.hid hin
          clear hin hlk hL hfp
          go_wp2
          go_quiet (fail)
          go_wp2
          go_roundw
          case rel => exact ⟨m + 1, by omega, by go_num, below_drewN hbl _, all_step Hno.out HI.out⟩
          case measure => simp [intOf]; omega
        · have lk2 : ∀ q, (Instr.lookup 60 (.map r) (.string (run.extract (m + 1) (m + 1 + 1))) true).run Tryd.prog (wr.drewN q) = .ok (.tuple #[v, .bool false]) (wr.drewN q) := fun q => by have := (hlk q).2; rw [decide_eq_false hin] at this; exact this
          have HN := Lib.hid (runB_no (bs := bs) (es := es) (run := run) fun h => hin (h.ed m (by omega)))
          clear hin hlk hL hfp
          go_wp2
          go_quiet (fail)
          go_wp2
          go_ret
          exact ⟨ret_bool HN.out.symm, below_drewN hall _⟩
      · have hrz : run.size = m + 1 := by omega
        have q1 := (hall.cell (p := ⟨g, n, none⟩) hgw).trans (Hcells.out n (by omega))
        have HR := Lib.hid hrz; clear hrz
        have l2 : (n : Int) < (n : Int) + 1 := by omega
        have l3 : IntKind.i64.wrap (n : Int) = (n : Int) := IntWalk.i64_in _ (by omega)
        have HLn := Lib.hid (show nameAt bs n = lastN bs by unfold lastN; rw [Hn.out]; rfl)
        by_cases hl : ch run m = nameAt bs n
        · have t5 : ((ch run m).toList == (nameAt bs n).toList) = true := by rw [toList_eq_iff]; exact decide_eq_true hl
          have HY := Lib.hid (runB_yes (bs := bs) (es := es) (run := run) ⟨by
            rcases Nat.lt_or_ge 1 run.size with h | h
            · omega
            · have h0 : m = 0 := by have := HR.out; omega
              have e : nameAt bs 0 = nameAt bs n := by rw [← hl, ← HC3.out, h0]
              have := names_inj hV.b.nd (by have := Hn.out; omega) (by have := Hn.out; omega) e
              have := hV.b.lo
              have := Hn.out
              omega, by omega, HC3.out, fun j hj => Hno.out j (by have := HR.out; omega), by rw [HR.out]; show ch run m = _; rw [hl, HLn.out]⟩)
          clear hl
          go_wp2
          go_quiet (exact Calls.quiet_of_same (lastOf_any run m HR.out hr _))
          go_wp2
          go_ret
          exact ⟨ret_bool HY.out.symm, below_drewN hall _⟩
        · have t5 : ((ch run m).toList == (nameAt bs n).toList) = false := by rw [toList_eq_iff]; exact decide_eq_false hl
          have HY := Lib.hid (runB_no (bs := bs) (es := es) (run := run) fun h => hl (by have := h.en; rw [HR.out] at this; rw [HLn.out]; exact this))
          clear hl
          go_wp2
          go_quiet (exact Calls.quiet_of_same (lastOf_any run m HR.out hr _))
          go_wp2
          go_ret
          exact ⟨ret_bool HY.out.symm, below_drewN hall _⟩
  · have t3 : ((run.extract 0 1).toList == (nameAt bs 0).toList) = false := by rw [toList_eq_iff]; exact decide_eq_false c3
    have HN := Lib.hid (runB_no (bs := bs) (es := es) (run := run) fun h => c3 h.st)
    clear c3
    go_enter Tryd.func36, Tryd.ntmps36
    go_wp2
    go_quiet (fail)
    go_wp2
    go_ret
    exact ⟨ret_bool HN.out.symm, below_drewN H1.out _⟩

end Go.Proofs.YtfmhcjhcmoniaaaDoor
end

section
/-
  Plain mathematics of chapter 2: what the blocks of a run do. Conditions: none.
-/
namespace Go.Proofs.YtfmhcjhcmoniaaaDoor
open Go.RowKit Go.Maps

/-- what the block of a name does -/
def opsAt (bs : List Pr) (x : ByteArray) : ByteArray := restAt bs (fnd bs x).toNat
def opsTxt (bs : List Pr) (run : ByteArray) (k : Nat) : ByteArray := cat ((List.range k).map fun i => opsAt bs (ch run i))
theorem opsTxt_succ (bs : List Pr) (run : ByteArray) (k : Nat) : opsTxt bs run (k + 1) = opsTxt bs run k ++ opsAt bs (ch run k) := by
  unfold opsTxt
  rw [List.range_succ, List.map_append, List.map_cons, List.map_nil, cat_snoc]
theorem RunOk.mem {bs es : List Pr} {run : ByteArray} (h : RunOk bs es run) (hV : Valid bs es) {k : Nat} (hk : k < run.size) : ch run k ∈ names bs := by
  cases k with
  | zero => rw [h.st]; exact nameAt_mem (by have := hV.b.lo; omega)
  | succ k => exact hV.e.to _ (h.ed k hk)
theorem opsAt_ok {bs es : List Pr} {x : ByteArray} (hV : Valid bs es) (h : x ∈ names bs) : opsOk (opsAt bs x) := by
  obtain ⟨k, hk, hf, _⟩ := fnd_pos h
  unfold opsAt
  rw [hf]
  exact hV.b.op _ (pair_mem hk)
theorem opsTxt_size {bs es : List Pr} {run : ByteArray} (hV : Valid bs es) (hR : RunOk bs es run) : ∀ k, k ≤ run.size → (opsTxt bs run k).size ≤ 6 * k
  | 0, _ => by show (cat []).size ≤ 0; exact Nat.le_refl _
  | k + 1, hk => by
    have h1 := opsTxt_size hV hR k (by omega)
    have h2 := (opsAt_ok hV (hR.mem hV (k := k) (by omega))).1
    rw [opsTxt_succ, ByteArray.size_append]
    omega
theorem isRunB_iff {bs es : List Pr} {run : ByteArray} : isRunB bs es run = true ↔ Valid bs es ∧ RunOk bs es run := by simp [isRunB, validB, runB]
end Go.Proofs.YtfmhcjhcmoniaaaDoor
end

section
/-
  Plain mathematics: texts by their bytes. Conditions: none.
-/
namespace Go.Proofs.YtfmhcjhcmoniaaaDoor
open Go.RowKit Go.Maps

theorem bytes_ext2 {a b : ByteArray} (h : a.data.toList = b.data.toList) : a = b := ByteArray.ext (Array.toList_inj.1 h)
theorem cat_flat (l : List ByteArray) : (cat l).data.toList = (l.map (·.data.toList)).flatten := by
  have key : ∀ (l : List ByteArray) (a : ByteArray), (l.foldl (· ++ ·) a).data.toList = a.data.toList ++ (l.map (·.data.toList)).flatten := by
    intro l
    induction l with
    | nil => intro a; simp
    | cons x r ih =>
      intro a
      rw [List.foldl_cons, ih]
      simp [ByteArray.data_append]
  have := key l e0
  unfold cat
  rw [this]
  rfl
end Go.Proofs.YtfmhcjhcmoniaaaDoor
end

section
/-
  Plain mathematics of chapter 2: the shortest way to the exit, of several the first in the order of bytes: that a walk which always takes the first name nearer to the exit finds it. Conditions: none.
-/
namespace Go.Proofs.YtfmhcjhcmoniaaaDoor
open Go.RowKit Go.Maps

/-- one text stands ahead of another in the order of bytes -/
def blt (a b : ByteArray) : Bool := Op.bytesLess a.toList b.toList
theorem bl_irrefl : ∀ l : List UInt8, Op.bytesLess l l = false
  | [] => rfl
  | a :: r => by simp [Op.bytesLess, bl_irrefl r]
theorem bl_trans : ∀ a b c : List UInt8, Op.bytesLess a b = true → Op.bytesLess b c = true → Op.bytesLess a c = true
  | _, [], _, h, _ => by cases ‹List UInt8› <;> simp [Op.bytesLess] at h
  | _, _ :: _, [], _, h => by simp [Op.bytesLess] at h
  | [], _ :: _, _ :: _, _, _ => by simp [Op.bytesLess]
  | a :: x, b :: y, c :: z, h1, h2 => by
    simp only [Op.bytesLess, Bool.or_eq_true, decide_eq_true_eq, Bool.and_eq_true, beq_iff_eq] at h1 h2 ⊢
    rcases h1 with h1 | ⟨rfl, h1⟩
    · rcases h2 with h2 | ⟨rfl, h2⟩
      · exact .inl (UInt8.lt_trans h1 h2)
      · exact .inl h1
    · rcases h2 with h2 | ⟨rfl, h2⟩
      · exact .inl h2
      · exact .inr ⟨rfl, bl_trans x y z h1 h2⟩
theorem bl_total : ∀ a b : List UInt8, Op.bytesLess a b = false → Op.bytesLess b a = false → a = b
  | [], [], _, _ => rfl
  | [], _ :: _, h, _ => by simp [Op.bytesLess] at h
  | _ :: _, [], _, h => by simp [Op.bytesLess] at h
  | a :: x, b :: y, h1, h2 => by
    simp only [Op.bytesLess, Bool.or_eq_false_iff, decide_eq_false_iff_not, Bool.and_eq_false_iff, beq_eq_false_iff_ne] at h1 h2
    have hab : a = b := by
      rcases Nat.lt_trichotomy a.toNat b.toNat with h | h | h
      · exact absurd (UInt8.lt_iff_toNat_lt.2 h) h1.1
      · exact UInt8.toNat_inj.1 h
      · exact absurd (UInt8.lt_iff_toNat_lt.2 h) h2.1
    subst hab
    rw [bl_total x y (by rcases h1.2 with h | h; exact absurd rfl h; exact h) (by rcases h2.2 with h | h; exact absurd rfl h; exact h)]
theorem bl_app (p : List UInt8) : ∀ a b : List UInt8, Op.bytesLess (p ++ a) (p ++ b) = Op.bytesLess a b := by
  induction p with
  | nil => intro a b; rfl
  | cons x r ih => intro a b; simp [Op.bytesLess, ih]
theorem blt_irrefl (a : ByteArray) : blt a a = false := bl_irrefl _
theorem blt_trans {a b c : ByteArray} (h1 : blt a b = true) (h2 : blt b c = true) : blt a c = true := bl_trans _ _ _ h1 h2
theorem blt_total {a b : ByteArray} (h1 : blt a b = false) (h2 : blt b a = false) : a = b := by
  have := bl_total _ _ h1 h2
  rw [ByteArray.toList_eq, ByteArray.toList_eq] at this
  exact bytes_ext2 this
theorem blt_app (p a b : ByteArray) : blt (p ++ a) (p ++ b) = blt a b := by
  unfold blt
  rw [ByteArray.toList_eq, ByteArray.toList_eq, ByteArray.toList_eq, ByteArray.toList_eq, ByteArray.data_append, ByteArray.data_append, Array.toList_append, Array.toList_append]
  exact bl_app _ _ _
theorem cat_cons (x : ByteArray) (l : List ByteArray) : cat (x :: l) = x ++ cat l := by
  apply bytes_ext2
  rw [cat_flat, ByteArray.data_append, Array.toList_append, cat_flat]
  simp
/-- names of one byte: which stands ahead decides -/
theorem blt_head {y y' : ByteArray} (hy : y.size = 1) (hy' : y'.size = 1) (a b : ByteArray) (h : blt y' y = false) (hne : y' ≠ y) : blt (y' ++ a) (y ++ b) = false := by
  have hl : ∀ {z : ByteArray}, z.size = 1 → ∃ c, z.data.toList = [c] := fun {z} hz => List.length_eq_one_iff.1 (by simpa using hz)
  obtain ⟨c, hc⟩ := hl hy
  obtain ⟨c', hc'⟩ := hl hy'
  unfold blt at h ⊢
  rw [ByteArray.toList_eq, ByteArray.toList_eq] at h ⊢
  rw [ByteArray.data_append, ByteArray.data_append, Array.toList_append, Array.toList_append, hc, hc']
  rw [hc, hc'] at h
  have hcc : c' ≠ c := fun e => hne (bytes_ext2 (by rw [hc, hc', e]))
  simp only [Op.bytesLess, List.cons_append, List.nil_append, Bool.or_eq_false_iff, decide_eq_false_iff_not, Bool.and_eq_false_iff, beq_eq_false_iff_ne] at h ⊢
  exact ⟨h.1, .inl hcc⟩

/-- the names behind x along edges, up to y -/
def IsPath (es : List Pr) : ByteArray → List ByteArray → ByteArray → Prop
  | x, [], y => x = y
  | x, a :: l, y => (x, a) ∈ es ∧ IsPath es a l y
theorem path_wk {es : List Pr} {z : ByteArray} : ∀ (l : List ByteArray) (x : ByteArray), IsPath es x l z → Wk (flip es) z l.length x
  | [], x, h => by have e : x = z := h; subst e; exact .nil
  | a :: l, x, h => .snoc (path_wk l a h.2) (mem_flip.2 h.1)
theorem wk_path {es : List Pr} {z : ByteArray} {k : Nat} {x : ByteArray} (h : Wk (flip es) z k x) : ∃ l, l.length = k ∧ IsPath es x l z := by
  induction h with
  | nil => exact ⟨[], rfl, rfl⟩
  | @snoc k b c _ hm ih =>
    obtain ⟨l, hl, hp⟩ := ih
    exact ⟨b :: l, by simp [hl], mem_flip.1 hm, hp⟩
/-- y is nearer to the exit than x -/
def Nearer (D : ByteArray → Option Nat) (x y : ByteArray) : Prop := ∃ i j, D x = some i ∧ D y = some j ∧ j < i
/-- y is the first such name that x leads to -/
def Near (es : List Pr) (D : ByteArray → Option Nat) (x y : ByteArray) : Prop := (x, y) ∈ es ∧ Nearer D x y ∧ ∀ y', (x, y') ∈ es → Nearer D x y' → blt y' y = false
def Gr (es : List Pr) (D : ByteArray → Option Nat) : ByteArray → List ByteArray → Prop
  | x, [] => D x = some 0
  | x, y :: l => Near es D x y ∧ Gr es D y l
theorem Gr.path {es : List Pr} {D : ByteArray → Option Nat} {z : ByteArray} (hF : Far (flip es) z D) : ∀ (l : List ByteArray) (x : ByteArray), Gr es D x l → IsPath es x l z ∧ D x = some l.length
  | [], x, h => by
    have h0 : D x = some 0 := h
    have h1 := ((hF x).1 0 h0).1
    cases h1
    exact ⟨rfl, h0⟩
  | y :: l, x, h => by
    obtain ⟨⟨hE, ⟨i, j, h1, h2, h3⟩, _⟩, hg⟩ := h
    obtain ⟨hp, hd⟩ := Gr.path hF l y hg
    rw [h2] at hd
    cases hd
    have hxp : IsPath es x (y :: l) z := ⟨hE, hp⟩
    have := ((hF x).1 i h1).2 _ (path_wk _ _ hxp)
    simp only [List.length_cons] at this ⊢
    exact ⟨hxp, by rw [h1]; congr 1; omega⟩
theorem Gr.least {es : List Pr} {D : ByteArray → Option Nat} {z : ByteArray} (hF : Far (flip es) z D) (hs : ∀ e ∈ es, e.2.size = 1) : ∀ (l : List ByteArray) (x : ByteArray) (l' : List ByteArray), Gr es D x l → IsPath es x l' z → l'.length = l.length → blt (cat l') (cat l) = false
  | [], x, l', _, _, hl => by
    obtain rfl : l' = [] := List.eq_nil_of_length_eq_zero (by simpa using hl)
    exact blt_irrefl _
  | y :: l, x, [], _, _, hl => by simp at hl
  | y :: l, x, y' :: l', hg, hp, hl => by
    have hgp := Gr.path hF _ _ hg
    obtain ⟨⟨hE, hN, hmin⟩, hg'⟩ := hg
    obtain ⟨hE', hp'⟩ := hp
    simp only [List.length_cons, Nat.add_right_cancel_iff] at hl
    rw [cat_cons, cat_cons]
    by_cases e : y' = y
    · subst e
      rw [blt_app]
      exact Gr.least hF hs l y' l' hg' hp' hl
    · refine blt_head (hs _ hE) (hs _ hE') _ _ (hmin y' hE' ?_) e
      have h1 := path_wk _ _ hp'
      cases hd : D y' with
      | none => exact absurd h1 ((hF y').2 hd _)
      | some j =>
        have h2 := ((hF y').1 j hd).2 _ h1
        exact ⟨_, j, hgp.2, hd, by simp; omega⟩

/-- t is the text of the shortest way from x to z, of several the first in the order of bytes -/
def Best (es : List Pr) (x z t : ByteArray) : Prop :=
  ∃ l, IsPath es x l z ∧ t = cat (x :: l) ∧ (∀ l', IsPath es x l' z → l.length ≤ l'.length) ∧ ∀ l', IsPath es x l' z → l'.length = l.length → blt (cat (x :: l')) t = false
theorem Best.unique {es : List Pr} {x z t t' : ByteArray} (h : Best es x z t) (h' : Best es x z t') : t = t' := by
  obtain ⟨l, h1, rfl, h3, h4⟩ := h
  obtain ⟨m, g1, rfl, g3, g4⟩ := h'
  have e : l.length = m.length := Nat.le_antisymm (h3 m g1) (g3 l h1)
  exact blt_total (g4 l h1 e) (h4 m g1 e.symm)
theorem Gr.best {es : List Pr} {D : ByteArray → Option Nat} {z x : ByteArray} {l : List ByteArray} (hF : Far (flip es) z D) (hs : ∀ e ∈ es, e.2.size = 1) (h : Gr es D x l) : Best es x z (cat (x :: l)) := by
  obtain ⟨hp, hd⟩ := Gr.path hF l x h
  refine ⟨l, hp, rfl, fun l' hl' => ((hF x).1 _ hd).2 _ (path_wk _ _ hl'), fun l' hl' e => ?_⟩
  rw [cat_cons, cat_cons, blt_app]
  exact Gr.least hF hs l x l' h hl' e
/-- a part of such a walk -/
def Ch (es : List Pr) (D : ByteArray → Option Nat) : ByteArray → List ByteArray → ByteArray → Prop
  | x, [], y => x = y
  | x, a :: l, y => Near es D x a ∧ Ch es D a l y
theorem Ch.snoc {es : List Pr} {D : ByteArray → Option Nat} : ∀ (l : List ByteArray) (x y z : ByteArray), Ch es D x l y → Near es D y z → Ch es D x (l ++ [z]) z
  | [], x, y, z, h, hn => by have e : x = y := h; subst e; exact ⟨hn, rfl⟩
  | a :: l, x, y, z, h, hn => ⟨h.1, Ch.snoc l a y z h.2 hn⟩
theorem Ch.gr {es : List Pr} {D : ByteArray → Option Nat} : ∀ (l : List ByteArray) (x y : ByteArray), Ch es D x l y → D y = some 0 → Gr es D x l
  | [], x, y, h, h0 => by have e : x = y := h; subst e; exact h0
  | a :: l, x, y, h, h0 => ⟨h.1, Ch.gr l a y h.2 h0⟩
theorem Near.dist {es : List Pr} {D : ByteArray → Option Nat} {z x y : ByteArray} {k : Nat} (hF : Far (flip es) z D) (h : Near es D x y) (hd : D x = some (k + 1)) : D y = some k := by
  obtain ⟨hE, ⟨i, j, h1, h2, h3⟩, _⟩ := h
  rw [hd] at h1
  cases h1
  obtain ⟨l, hl, hp⟩ := wk_path ((hF y).1 j h2).1
  have := ((hF x).1 _ hd).2 _ (path_wk (y :: l) x ⟨hE, hp⟩)
  simp only [List.length_cons, hl] at this
  rw [h2]; congr 1; omega
theorem exists_nearer {es : List Pr} {D : ByteArray → Option Nat} {z x : ByteArray} {k : Nat} (hF : Far (flip es) z D) (hd : D x = some (k + 1)) : ∃ y, (x, y) ∈ es ∧ Nearer D x y := by
  obtain ⟨l, hl, hp⟩ := wk_path ((hF x).1 _ hd).1
  cases l with
  | nil => simp at hl
  | cons y r =>
    obtain ⟨hE, hp'⟩ := hp
    refine ⟨y, hE, ?_⟩
    have h1 := path_wk _ _ hp'
    cases hy : D y with
    | none => exact absurd h1 ((hF y).2 hy _)
    | some j =>
      have := ((hF y).1 j hy).2 _ h1
      simp only [List.length_cons] at hl
      exact ⟨_, j, hd, hy, by omega⟩
end Go.Proofs.YtfmhcjhcmoniaaaDoor
end

section
/-
  Plain mathematics: of several ways with the same end the first in the order of bytes is kept; level by level the shortest way is found. Conditions: none.
-/
namespace Go.Proofs.YtfmhcjhcmoniaaaDoor
open Go.RowKit Go.Maps

/-- the last name of a way -/
def lastC (t : ByteArray) : ByteArray := ch t (t.size - 1)
/-- ways with one more, of those with the same end the first in the order of bytes alone -/
def keepL : List ByteArray → ByteArray → List ByteArray
  | [], w => [w]
  | v :: r, w => if lastC v = lastC w then (if blt w v = true then w else v) :: r else v :: keepL r w
theorem keepL_mem : ∀ (ts : List ByteArray) (w t : ByteArray), t ∈ keepL ts w → t = w ∨ t ∈ ts
  | [], w, t, h => .inl (by simpa [keepL] using h)
  | v :: r, w, t, h => by
    unfold keepL at h
    split at h
    · rcases List.mem_cons.1 h with h | h
      · split at h
        · exact .inl h
        · exact .inr (by rw [h]; exact List.mem_cons_self ..)
      · exact .inr (List.mem_cons_of_mem _ h)
    · rcases List.mem_cons.1 h with h | h
      · exact .inr (by rw [h]; exact List.mem_cons_self ..)
      · rcases keepL_mem r w t h with h | h
        · exact .inl h
        · exact .inr (List.mem_cons_of_mem _ h)
/-- what was covered is, and the new one -/
theorem keepL_cover : ∀ (ts : List ByteArray) (w c : ByteArray), (c = w ∨ ∃ t ∈ ts, lastC t = lastC c ∧ blt c t = false) → ∃ t ∈ keepL ts w, lastC t = lastC c ∧ blt c t = false
  | [], w, c, h => by
    rcases h with rfl | ⟨t, ht, _⟩
    · exact ⟨c, by simp [keepL], rfl, blt_irrefl _⟩
    · cases ht
  | v :: r, w, c, h => by
    unfold keepL
    by_cases e : lastC v = lastC w
    · rw [if_pos e]
      by_cases hb : blt w v = true
      · rw [if_pos hb]
        rcases h with rfl | ⟨t, ht, h1, h2⟩
        · exact ⟨c, List.mem_cons_self .., rfl, blt_irrefl _⟩
        · rcases List.mem_cons.1 ht with rfl | ht
          · refine ⟨w, List.mem_cons_self .., by rw [← e, h1], ?_⟩
            cases hcw : blt c w
            · rfl
            · rw [blt_trans hcw hb] at h2; cases h2
          · exact ⟨t, List.mem_cons_of_mem _ ht, h1, h2⟩
      · rw [if_neg hb]
        rcases h with rfl | ⟨t, ht, h1, h2⟩
        · exact ⟨v, List.mem_cons_self .., e, by simpa using hb⟩
        · rcases List.mem_cons.1 ht with rfl | ht
          · exact ⟨t, List.mem_cons_self .., h1, h2⟩
          · exact ⟨t, List.mem_cons_of_mem _ ht, h1, h2⟩
    · rw [if_neg e]
      rcases h with rfl | ⟨t, ht, h1, h2⟩
      · obtain ⟨t, ht, h1, h2⟩ := keepL_cover r c c (.inl rfl)
        exact ⟨t, List.mem_cons_of_mem _ ht, h1, h2⟩
      · rcases List.mem_cons.1 ht with rfl | ht
        · exact ⟨t, List.mem_cons_self .., h1, h2⟩
        · obtain ⟨t, ht, h1, h2⟩ := keepL_cover r w c (.inr ⟨t, ht, h1, h2⟩)
          exact ⟨t, List.mem_cons_of_mem _ ht, h1, h2⟩
theorem keepL_ends : ∀ (ts : List ByteArray) (w : ByteArray), (∀ t ∈ keepL ts w, ∃ s, (s = w ∨ s ∈ ts) ∧ lastC t = lastC s)
  | ts, w, t, h => by
    rcases keepL_mem ts w t h with rfl | h
    · exact ⟨t, .inl rfl, rfl⟩
    · exact ⟨t, .inr h, rfl⟩
theorem keepL_distinct : ∀ (ts : List ByteArray) (w : ByteArray), ts.Pairwise (fun a b => lastC a ≠ lastC b) → (keepL ts w).Pairwise fun a b => lastC a ≠ lastC b
  | [], w, _ => by simp [keepL]
  | v :: r, w, h => by
    obtain ⟨h1, h2⟩ := List.pairwise_cons.1 h
    unfold keepL
    by_cases e : lastC v = lastC w
    · rw [if_pos e]
      refine List.pairwise_cons.2 ⟨fun t ht => ?_, h2⟩
      split
      · rw [← e]; exact h1 t ht
      · exact h1 t ht
    · rw [if_neg e]
      refine List.pairwise_cons.2 ⟨fun t ht => ?_, keepL_distinct r w h2⟩
      rcases keepL_mem r w t ht with rfl | ht
      · exact e
      · exact h1 t ht
theorem keepL_len (ts : List ByteArray) (w : ByteArray) : (keepL ts w).length ≤ ts.length + 1 := by
  induction ts with
  | nil => simp [keepL]
  | cons v r ih =>
    unfold keepL
    split <;> simp <;> omega
/-- the ways of so many edges: of each end the first -/
structure Lev (es : List Pr) (x : ByteArray) (j : Nat) (ts : List ByteArray) : Prop where
  path : ∀ t ∈ ts, ∃ l, l.length = j ∧ IsPath es x l (lastC t) ∧ t = cat (x :: l)
  cover : ∀ l y, IsPath es x l y → l.length = j → ∃ t ∈ ts, lastC t = y ∧ blt (cat (x :: l)) t = false
  dist : ts.Pairwise fun a b => lastC a ≠ lastC b
theorem lastC_app {t y : ByteArray} (hy : y.size = 1) : lastC (t ++ y) = y := by
  unfold lastC ch
  rw [ByteArray.size_append, hy]
  apply bytes_ext2
  have h1 : (t ++ y).size = t.size + 1 := by rw [ByteArray.size_append, hy]
  simp only [Nat.add_sub_cancel]
  have h2 : y.data.size = 1 := hy
  have h3 : t.data.size = t.size := rfl
  simp [ByteArray.data_extract, ByteArray.data_append, h3]
  exact List.take_of_length_le (by rw [Array.length_toList, h2]; exact Nat.le_refl _)
theorem cat_one (x : ByteArray) : cat [x] = x := by
  rw [cat_cons]
  apply bytes_ext2
  rw [ByteArray.data_append, Array.toList_append]
  have : (cat []).data.toList = [] := rfl
  rw [this, List.append_nil]
theorem lastC_one {x : ByteArray} (hx : x.size = 1) : lastC x = x := by
  have h := lastC_app (t := e0) hx
  have e : e0 ++ x = x := by
    apply bytes_ext2
    rw [ByteArray.data_append, Array.toList_append]
    rfl
  rwa [e] at h
theorem IsPath.snoc {es : List Pr} : ∀ (l : List ByteArray) (x y z : ByteArray), IsPath es x l y → (y, z) ∈ es → IsPath es x (l ++ [z]) z
  | [], x, y, z, h, hE => by have e : x = y := h; subst e; exact ⟨hE, rfl⟩
  | a :: l, x, y, z, h, hE => ⟨h.1, IsPath.snoc l a y z h.2 hE⟩
theorem IsPath.split {es : List Pr} : ∀ (l : List ByteArray) (x z : ByteArray) (j : Nat), IsPath es x l z → l.length = j + 1 → ∃ l' y, l = l' ++ [z] ∧ l'.length = j ∧ IsPath es x l' y ∧ (y, z) ∈ es
  | [], x, z, j, _, hl => by simp at hl
  | [a], x, z, j, h, hl => by
    have e : a = z := h.2
    subst e
    exact ⟨[], x, rfl, by simp at hl; simp [hl], rfl, h.1⟩
  | a :: b :: l, x, z, j, h, hl => by
    obtain ⟨l', y, e, h1, h2, h3⟩ := IsPath.split (b :: l) a z (j - 1) h.2 (by simp at hl ⊢; omega)
    exact ⟨a :: l', y, by rw [e]; rfl, by simp [h1]; simp at hl; omega, ⟨h.1, h2⟩, h3⟩
theorem Lev.start {es : List Pr} {x : ByteArray} (hx : x.size = 1) : Lev es x 0 [x] where
  path t ht := by
    rw [List.mem_singleton.1 ht]
    exact ⟨[], rfl, (lastC_one hx).symm, (cat_one x).symm⟩
  cover l y hp hl := by
    obtain rfl : l = [] := List.eq_nil_of_length_eq_zero hl
    have e : x = y := hp
    exact ⟨x, by simp, by rw [lastC_one hx, e], by rw [cat_one]; exact blt_irrefl _⟩
  dist := by simp
/-- what is kept of the ways with one more name -/
structure Nxt (es : List Pr) (C : ByteArray → Prop) (ks : List ByteArray) : Prop where
  mem : ∀ t ∈ ks, C t
  cover : ∀ c, C c → ∃ t ∈ ks, lastC t = lastC c ∧ blt c t = false
  dist : ks.Pairwise fun a b => lastC a ≠ lastC b
theorem Nxt.start (es : List Pr) : Nxt es (fun _ => False) [] := ⟨(fun _ h => by cases h), (fun _ h => False.elim h), by simp⟩
theorem Nxt.keep {es : List Pr} {C : ByteArray → Prop} {ks : List ByteArray} (h : Nxt es C ks) (w : ByteArray) : Nxt es (fun c => c = w ∨ C c) (keepL ks w) where
  mem t ht := by
    rcases keepL_mem ks w t ht with h' | h'
    · exact .inl h'
    · exact .inr (h.mem t h')
  cover c hc := by
    rcases hc with h' | h'
    · exact keepL_cover ks w c (.inl h')
    · exact keepL_cover ks w c (.inr (h.cover c h'))
  dist := keepL_distinct ks w h.dist
theorem Nxt.same {es : List Pr} {C C' : ByteArray → Prop} {ks : List ByteArray} (h : Nxt es C ks) (e : ∀ c, C c ↔ C' c) : Nxt es C' ks :=
  ⟨fun t ht => (e t).1 (h.mem t ht), fun c hc => h.cover c ((e c).2 hc), h.dist⟩
theorem bl_app_right (z : List UInt8) : ∀ a b : List UInt8, a.length = b.length → Op.bytesLess (a ++ z) (b ++ z) = Op.bytesLess a b
  | [], [], _ => by rw [List.nil_append, bl_irrefl, bl_irrefl]
  | [], _ :: _, h => by simp at h
  | _ :: _, [], h => by simp at h
  | a :: x, b :: y, h => by
    have ih := bl_app_right z x y (by simpa using h)
    simp [Op.bytesLess, ih]
theorem blt_app_right {a b z : ByteArray} (h : a.size = b.size) : blt (a ++ z) (b ++ z) = blt a b := by
  unfold blt
  rw [ByteArray.toList_eq, ByteArray.toList_eq, ByteArray.toList_eq, ByteArray.toList_eq, ByteArray.data_append, ByteArray.data_append, Array.toList_append, Array.toList_append]
  exact bl_app_right _ _ _ (by simpa using h)
theorem path_mem {es : List Pr} (hs : ∀ e ∈ es, e.2.size = 1) : ∀ (l : List ByteArray) (x y : ByteArray), IsPath es x l y → ∀ a ∈ l, a.size = 1
  | [], _, _, _, _, h => by cases h
  | b :: l, x, y, hp, a, h => by
    rcases List.mem_cons.1 h with rfl | h
    · exact hs _ hp.1
    · exact path_mem hs l b y hp.2 a h
theorem path_size {es : List Pr} (hs : ∀ e ∈ es, e.2.size = 1) {x : ByteArray} (hx : x.size = 1) (l : List ByteArray) (y : ByteArray) (hp : IsPath es x l y) : (cat (x :: l)).size = l.length + 1 := by
  rw [cat_size (fun a ha => by
    rcases List.mem_cons.1 ha with rfl | h
    · exact hx
    · exact path_mem hs l x y hp a h), List.length_cons]
/-- all ways with one more name are the next level -/
theorem Lev.next {es : List Pr} {x : ByteArray} {j : Nat} {ts ks : List ByteArray} (hs : ∀ e ∈ es, e.2.size = 1) (hx : x.size = 1) (h : Lev es x j ts) (hk : Nxt es (fun c => ∃ t ∈ ts, ∃ y, (lastC t, y) ∈ es ∧ c = t ++ y) ks) : Lev es x (j + 1) ks where
  path t ht := by
    obtain ⟨t', ht', y, hE, rfl⟩ := hk.mem t ht
    obtain ⟨l, hl, hp, e⟩ := h.path t' ht'
    refine ⟨l ++ [y], by simp [hl], ?_, ?_⟩
    · rw [lastC_app (hs _ hE)]; exact hp.snoc l x _ y hE
    · rw [e, ← List.cons_append, cat_snoc]
  cover l z hp hl := by
    obtain ⟨l', y, rfl, h1, h2, hE⟩ := hp.split l x z j hl
    obtain ⟨t, ht, e1, e2⟩ := h.cover l' y h2 h1
    obtain ⟨s, hs', e3, e4⟩ := hk.cover (t ++ z) ⟨t, ht, z, by rw [e1]; exact hE, rfl⟩
    refine ⟨s, hs', by rw [e3, lastC_app (hs _ hE)], ?_⟩
    have h5 : blt (cat (x :: l') ++ z) (t ++ z) = false := by
      obtain ⟨l2, hl2, hp2, e5⟩ := h.path t ht
      rw [blt_app_right (by rw [e5, path_size hs hx l' y h2, path_size hs hx l2 _ hp2, h1, hl2])]
      exact e2
    rw [← List.cons_append, cat_snoc]
    cases hb : blt (cat (x :: l') ++ z) s
    · rfl
    · cases h7 : blt s (t ++ z)
      · rw [blt_total h7 e4] at hb
        rw [h5] at hb; cases hb
      · rw [blt_trans hb h7] at h5; cases h5
  dist := hk.dist
/-- a level without the exit: nothing so short leads there -/
theorem Lev.not {es : List Pr} {x z : ByteArray} {j : Nat} {ts : List ByteArray} (h : Lev es x j ts) (hn : ∀ t ∈ ts, lastC t ≠ z) (l : List ByteArray) (hp : IsPath es x l z) : l.length ≠ j := fun e => by
  obtain ⟨t, ht, h1, _⟩ := h.cover l z hp e
  exact hn t ht h1
/-- a way of the first level that has the exit is the best -/
theorem Lev.best {es : List Pr} {x z t : ByteArray} {j : Nat} {ts : List ByteArray} (h : Lev es x j ts) (ht : t ∈ ts) (hz : lastC t = z) (hlo : ∀ l, IsPath es x l z → j ≤ l.length) : Best es x z t := by
  obtain ⟨l, hl, hp, e⟩ := h.path t ht
  rw [hz] at hp
  refine ⟨l, hp, e, fun l' hl' => by rw [hl]; exact hlo l' hl', fun l' hl' e' => ?_⟩
  obtain ⟨t', ht', h1, h2⟩ := h.cover l' z hl' (by rw [e', hl])
  have : t' = t := by
    rcases List.mem_iff_getElem.1 ht with ⟨a, ha, ea⟩
    rcases List.mem_iff_getElem.1 ht' with ⟨b, hb, eb⟩
    have hd := List.pairwise_iff_getElem.1 h.dist
    rcases Nat.lt_trichotomy a b with hab | hab | hab
    · exact absurd (by rw [ea, eb, hz, h1]) (hd a b ha hb hab)
    · subst hab; rw [← ea, ← eb]
    · exact absurd (by rw [ea, eb, hz, h1]) (hd b a hb ha hab)
  rw [this] at h2
  exact h2

theorem keepL_hit : ∀ (ts : List ByteArray) (w : ByteArray) (i : Nat) (v : ByteArray), ts[i]? = some v → lastC v = lastC w → (∀ j u, j < i → ts[j]? = some u → lastC u ≠ lastC w) → keepL ts w = ts.set i (if blt w v = true then w else v)
  | [], _, i, _, h, _, _ => by simp at h
  | a :: r, w, 0, v, h, e, _ => by
    have : a = v := by simpa using h
    subst this
    unfold keepL
    rw [if_pos e]; rfl
  | a :: r, w, i + 1, v, h, e, hn => by
    have h0 := hn 0 a (by omega) rfl
    unfold keepL
    rw [if_neg h0, keepL_hit r w i v (by simpa using h) e (fun j u hj hu => hn (j + 1) u (by omega) (by simpa using hu))]
    rfl
theorem keepL_miss : ∀ (ts : List ByteArray) (w : ByteArray), (∀ u ∈ ts, lastC u ≠ lastC w) → keepL ts w = ts ++ [w]
  | [], _, _ => rfl
  | a :: r, w, h => by
    unfold keepL
    rw [if_neg (h a (List.mem_cons_self ..)), keepL_miss r w (fun u hu => h u (List.mem_cons_of_mem _ hu))]
    rfl
/-- a store into a row of one's own -/
theorem own_set {w : World} {base : Nat} {e : TypeId} {n g cap i : Nat} {xs : List Value} {u : Value} (h : w.ownsRow base e 1 (.slice (some ⟨g, 0, none⟩) n cap) n xs) : (w.setCell ⟨g, i, none⟩ u).ownsRow base e 1 (.slice (some ⟨g, 0, none⟩) n cap) n (xs.set i u) := by
  obtain ⟨h1, ⟨hv, _⟩ | ⟨g', cap', cur, hv, hg, hh, hn, hc, hs, ht⟩⟩ := h
  · cases hv
  · simp only [Value.slice.injEq, Option.some.injEq, Addr.mk.injEq, and_true, true_and] at hv
    obtain ⟨rfl, rfl⟩ := hv
    refine ⟨by simpa using h1, .inr ⟨g, cap, _, rfl, hg, heap_setCell_at hh i u, hn, hc, by simpa using hs, ?_⟩⟩
    rw [Array.toList_setIfInBounds, ← ht, List.take_set]
end Go.Proofs.YtfmhcjhcmoniaaaDoor
end

section
/-
  Plain mathematics: from each block of a valid program some shortest way leads to the exit, and it has at most eight edges. Conditions: a valid program.
-/
namespace Go.Proofs.YtfmhcjhcmoniaaaDoor
open Go.RowKit Go.Maps

theorem nodup_len {α : Type} [DecidableEq α] : ∀ (l m : List α), l.Nodup → (∀ a ∈ l, a ∈ m) → l.length ≤ m.length
  | [], _, _, _ => Nat.zero_le _
  | a :: r, m, hd, hs => by
    obtain ⟨h1, h2⟩ := List.nodup_cons.1 hd
    have ha := hs a (List.mem_cons_self ..)
    have ih := nodup_len r (m.erase a) h2 fun b hb => (List.mem_erase_of_ne (fun e => h1 (by rw [e] at hb; exact hb))).2 (hs b (List.mem_cons_of_mem _ hb))
    rw [List.length_erase_of_mem ha] at ih
    have hp := List.length_pos_of_mem ha
    simp only [List.length_cons]
    omega
theorem path_suffix {es : List Pr} {z x : ByteArray} : ∀ (r : List ByteArray) (a : ByteArray), IsPath es a r z → x ∈ a :: r → ∃ l, IsPath es x l z ∧ l.length ≤ r.length
  | r, a, hp, hx => by
    rcases List.mem_cons.1 hx with rfl | hx
    · exact ⟨r, hp, Nat.le_refl _⟩
    · match r, hp, hx with
      | b :: r', hp, hx =>
        obtain ⟨l, h1, h2⟩ := path_suffix r' b hp.2 hx
        exact ⟨l, h1, by simp only [List.length_cons]; omega⟩
theorem path_cut {es : List Pr} {z : ByteArray} : ∀ (l : List ByteArray) (x : ByteArray), IsPath es x l z → ¬ (x :: l).Nodup → ∃ l', IsPath es x l' z ∧ l'.length < l.length
  | [], x, _, h => absurd (List.nodup_cons.2 ⟨by simp, List.nodup_nil⟩) h
  | a :: r, x, hp, h => by
    by_cases hr : (a :: r).Nodup
    · have hx : x ∈ a :: r := by
        by_cases hx : x ∈ a :: r
        · exact hx
        · exact absurd (List.nodup_cons.2 ⟨hx, hr⟩) h
      obtain ⟨l, h1, h2⟩ := path_suffix r a hp.2 hx
      exact ⟨l, h1, by simp only [List.length_cons]; omega⟩
    · obtain ⟨l, h1, h2⟩ := path_cut r a hp.2 hr
      exact ⟨a :: l, ⟨hp.1, h1⟩, by simp only [List.length_cons]; omega⟩
theorem path_names {bs es : List Pr} (hV : Valid bs es) {z : ByteArray} : ∀ (l : List ByteArray) (x : ByteArray), IsPath es x l z → ∀ a ∈ l, a ∈ names bs
  | [], _, _, a, h => by cases h
  | b :: r, x, hp, a, h => by
    rcases List.mem_cons.1 h with rfl | h
    · exact hV.e.to _ hp.1
    · exact path_names hV r b hp.2 a h
theorem reach_path {es : List Pr} {z x : ByteArray} (h : Reach (flip es) z x) : ∃ l, IsPath es x l z := by
  induction h with
  | refl => exact ⟨[], rfl⟩
  | step _ hm ih =>
    obtain ⟨l, hl⟩ := ih
    exact ⟨_ :: l, mem_flip.1 hm, hl⟩
theorem least_path {es : List Pr} {z x : ByteArray} : ∀ n, (∃ l, l.length = n ∧ IsPath es x l z) → ∃ l, IsPath es x l z ∧ ∀ l', IsPath es x l' z → l.length ≤ l'.length := by
  intro n
  induction n using Nat.strongRecOn with
  | ind n ih =>
    rintro ⟨l, hl, hp⟩
    by_cases h : ∃ l', IsPath es x l' z ∧ l'.length < n
    · obtain ⟨l', h1, h2⟩ := h
      exact ih l'.length h2 ⟨l', rfl, h1⟩
    · refine ⟨l, hp, fun l' hl' => ?_⟩
      rcases Nat.lt_or_ge l'.length l.length with h2 | h2
      · exact absurd ⟨l', hl', by omega⟩ h
      · exact h2
/-- a shortest way to the exit -/
theorem Valid.least {bs es : List Pr} (hV : Valid bs es) {x : ByteArray} (hx : x ∈ names bs) : ∃ l, IsPath es x l (lastN bs) ∧ l.length ≤ 8 ∧ ∀ l', IsPath es x l' (lastN bs) → l.length ≤ l'.length := by
  obtain ⟨p, hp, rfl⟩ := List.mem_map.1 hx
  obtain ⟨l0, h0⟩ := reach_path (hV.rz p hp)
  obtain ⟨l, h1, h2⟩ := least_path l0.length ⟨l0, rfl, h0⟩
  refine ⟨l, h1, ?_, h2⟩
  have hn : (p.1 :: l).Nodup := by
    by_cases hn : (p.1 :: l).Nodup
    · exact hn
    · obtain ⟨l', h3, h4⟩ := path_cut l p.1 h1 hn
      have := h2 l' h3
      omega
  have h5 := nodup_len (p.1 :: l) (names bs) hn fun a ha => by
    rcases List.mem_cons.1 ha with rfl | ha
    · exact hx
    · exact path_names hV l p.1 h1 a ha
  have h6 := hV.b.hi
  rw [names_length] at h5
  simp only [List.length_cons] at h5
  omega
/-- the text of the shortest way, of several the first in the order of bytes -/
noncomputable def bestT (es : List Pr) (x z : ByteArray) : ByteArray := open Classical in if h : ∃ t, Best es x z t then h.choose else e0
theorem bestT_eq {es : List Pr} {x z t : ByteArray} (h : Best es x z t) : bestT es x z = t := by
  unfold bestT
  have h' : ∃ t, Best es x z t := ⟨t, h⟩
  rw [dif_pos h']
  exact h'.choose_spec.unique h
noncomputable def shortV (bs es : List Pr) : Value := if validB bs es = true then .tuple #[.string (bestT es (nameAt bs 0) (lastN bs)), .bool true] else .tuple #[.string e0, .bool false]
theorem shortV_yes {bs es : List Pr} {t : ByteArray} (h : validB bs es = true) (hb : Best es (nameAt bs 0) (lastN bs) t) : shortV bs es = .tuple #[.string t, .bool true] := by unfold shortV; rw [if_pos h, bestT_eq hb]
theorem shortV_no {bs es : List Pr} (h : validB bs es = false) : shortV bs es = .tuple #[.string e0, .bool false] := by unfold shortV; rw [if_neg (by rw [h]; simp)]
theorem shortV_form (bs es : List Pr) : ∃ (r : ByteArray) (ok : Bool), shortV bs es = .tuple #[.string r, .bool ok] := by
  cases h : validB bs es
  · exact ⟨_, _, shortV_no h⟩
  · exact ⟨_, _, by unfold shortV; rw [if_pos h]⟩
/-- a name out of several one behind the other -/
theorem ch_cat : ∀ {l : List ByteArray} {i : Nat}, (∀ y ∈ l, y.size = 1) → (h : i < l.length) → ch (cat l) i = l[i]
  | y :: r, 0, hs, _ => by
    have hy := hs y (List.mem_cons_self ..)
    apply bytes_ext2
    have h1 : y.data.toList.length = 1 := by simpa using hy
    unfold ch
    rw [cat_cons, ByteArray.data_extract, Array.toList_extract, ByteArray.data_append, Array.toList_append, List.extract_eq_take_drop, List.drop_zero, List.getElem_cons_zero]
    simp [← h1]
  | y :: r, i + 1, hs, h => by
    have hy := hs y (List.mem_cons_self ..)
    have ih := ch_cat (l := r) (i := i) (fun a ha => hs a (List.mem_cons_of_mem _ ha)) (by simpa using h)
    rw [List.getElem_cons_succ, ← ih]
    apply bytes_ext2
    have h1 : y.data.toList.length = 1 := by simpa using hy
    unfold ch
    rw [cat_cons, ByteArray.data_extract, Array.toList_extract, ByteArray.data_extract, Array.toList_extract, ByteArray.data_append, Array.toList_append, List.extract_eq_take_drop, List.extract_eq_take_drop]
    rw [show i + 1 = y.data.toList.length + i by omega, List.drop_append]
    simp
    congr 1
    all_goals first
      | (rw [List.drop_eq_nil_of_le (by rw [h1]; have : y.size = 1 := hy; omega), List.nil_append])
      | omega
end Go.Proofs.YtfmhcjhcmoniaaaDoor
end

section
/-
  Lists of numbers in memory, and the laws' toIntS and eqIntS. Conditions: at most 1048576 numbers.
-/
namespace Go.Proofs.YtfmhcjhcmoniaaaDoor
open Go.RowKit

def numAt (ns : List Int) (i : Nat) : Int := ns.getD i 0
/-- the slice with its head at a holds the numbers ns -/
structure IntsAt (w : World) (a : Option Addr) (ns : List Int) : Prop where
  len : ns.length ≤ 1048576
  cell : ∀ i, i < ns.length → ∃ b off, a = some ⟨b, off, none⟩ ∧ b < w.heap.size ∧ w.cell? ⟨b, off + i, none⟩ = some (.int .i64 (numAt ns i))
theorem IntsAt.below {w w' : World} {a : Option Addr} {ns : List Int} (h : IntsAt w a ns) (hb : Below w.heap.size w w') : IntsAt w' a ns :=
  ⟨h.len, fun i hi => by
    obtain ⟨b, off, e, hbl, hc⟩ := h.cell i hi
    exact ⟨b, off, e, Nat.lt_of_lt_of_le hbl hb.size, (hb.cell (p := ⟨b, off + i, none⟩) hbl).trans hc⟩⟩
/-- block g holds just the numbers ns -/
def IB (w : World) (g : Nat) (ns : List Int) : Prop := w.heap[g]? = some (.cells (ns.map (Value.int .i64)).toArray 3 (0, 0))
theorem IB.lt {w : World} {g : Nat} {ns : List Int} (h : IB w g ns) : g < w.heap.size := (Array.getElem?_eq_some_iff.1 h).1
theorem IB.cell {w : World} {g : Nat} {ns : List Int} (h : IB w g ns) {i : Nat} (hi : i < ns.length) : w.cell? ⟨g, i, none⟩ = some (.int .i64 (numAt ns i)) := by
  rw [cell_of_row w g _ _ _ (0, 0) h]
  simp [numAt, hi]
theorem IB.frozen {w : World} {g : Nat} {ns : List Int} (h : IB w g ns) (i : Nat) : w.frozen? ⟨g, i, none⟩ = false := by
  unfold IB at h
  simp [World.frozen?, h]
theorem IB.set {w : World} {g : Nat} {ns : List Int} (h : IB w g ns) (i : Nat) (n : Int) : IB (w.setCell ⟨g, i, none⟩ (.int .i64 n)) g (ns.set i n) := by
  unfold IB at h ⊢
  simp [World.setCell, Array.getElem?_modify, h]
theorem IB.keep {w w' : World} {g : Nat} {ns : List Int} (h : IB w g ns) (hb : Below w.heap.size w w') : IB w' g ns := (hb.block g h.lt).trans h
theorem IB.ints {w : World} {g : Nat} {ns : List Int} (h : IB w g ns) (hl : ns.length ≤ 1048576) : IntsAt w (some ⟨g, 0, none⟩) ns :=
  ⟨hl, fun i hi => ⟨g, 0, rfl, h.lt, by rw [Nat.zero_add]; exact h.cell hi⟩⟩
theorem IB.of_own {w : World} {g base n : Nat} {ns : List Int} (h : w.ownsRow base 3 1 (.slice (some ⟨g, 0, none⟩) n n) n (ns.map (Value.int .i64))) : IB w g ns := by
  obtain ⟨hl, h | ⟨g', cap, cur, hv, hg, hh, hn, hc, hs, ht⟩⟩ := h
  · simp at h
  · simp only [Value.slice.injEq, Option.some.injEq, Addr.mk.injEq] at hv
    obtain ⟨⟨rfl, _⟩, _, rfl⟩ := hv
    unfold IB
    rw [hh]
    have : cur = (ns.map (Value.int .i64)).toArray := by rw [← ht, List.take_of_length_le (by simp [hs])]
    rw [this]
theorem made_ints (n : Nat) : (madeCells (Value.int .i64 0).cells (n * 1)).toList = (List.replicate n (0 : Int)).map (Value.int .i64) := by
  apply List.ext_getElem?
  intro i
  by_cases hi : i < n
  · simp [madeCells, Value.cells, hi, Nat.mod_one]
  · rw [List.getElem?_eq_none (by simp [size_madeCells]; omega), List.getElem?_eq_none (by simp; omega)]
theorem Tryd.infoInt : (Tryd.prog.info? 3).map (fun i => (i.zero, i.size, i.bytes)) = some (some (.int .i64 0), 1, 8) := by kernel_rfl
def ToIntsPost (w : World) (ns : List Int) (e : Ending) (w' : World) : Prop := ∃ g, e = .returned (.slice (some ⟨g, 0, none⟩) ns.length ns.length) ∧ w.heap.size ≤ g ∧ IB w' g ns ∧ Below w.heap.size w w'
theorem numAt_set (ns : List Int) (i j : Nat) (n : Int) (hi : i < ns.length) : numAt (ns.set i n) j = if j = i then n else numAt ns j := by
  unfold numAt
  by_cases e : j = i
  · subst e; simp [hi]
  · simp [List.getD_eq_getElem?_getD, e, Ne.symm e]
theorem ints_ext {l l' : List Int} (hl : l.length = l'.length) (h : ∀ i, i < l.length → numAt l i = numAt l' i) : l = l' := by
  apply List.ext_getElem hl
  intro i h1 h2
  have := h i h1
  unfold numAt at this
  simpa [List.getD_eq_getElem?_getD, h1, h2] using this

set_option maxRecDepth 100000 in
set_option maxHeartbeats 1600000 in
theorem toIntS_any (ns : List Int) (a : Option Addr) (cap : Nat) (w : World) (hp : IntsAt w a ns) :
    Calls Tryd.prog 12 #[.slice a ns.length cap] w (ToIntsPost w ns) := by
  have hl := hp.len
  obtain ⟨i0, hi, hz0, hz1, hz2⟩ := info_parts Tryd.infoInt
  go_enter Tryd.func12, Tryd.ntmps12
  go_wp2_with (at_make; refine wpList_make_full _ rfl _ _ _ rfl w.heap.size 3 i0 (.int .i64 0) 1 Tryd.underlying36 hi hz0 hz1 .i64 .i64 ns.length ns.length ns.length rfl rfl rfl rfl (by rw [hz2]; omega) (by unfold maxLen; omega) (by simp) ?_; intro w1 hown1 hg1)
  have B1 : IB w1 w.heap.size (List.replicate ns.length 0) := IB.of_own (by rw [← made_ints]; exact hown1)
  have hb1 : Below w.heap.size w w1 := (Below.refl _ _).grown hg1 (Nat.le_refl _) (fun k h => by cases h)
  clear hown1 hg1 hi hz0 hz1 hz2
  go_loopw [4] (fun i wr => ∃ (k : Nat) (L : List Int), k ≤ ns.length ∧ i = .int .i64 k ∧ L.length = ns.length ∧ IB wr w.heap.size L ∧ Below w.heap.size w wr ∧ ∀ j, j < k → numAt L j = numAt ns j) (fun i _ => ns.length - (intOf i).toNat)
  case atStart => exact ⟨0, _, Nat.zero_le _, rfl, by simp, B1, hb1, fun j hj => absurd hj (Nat.not_lt_zero _)⟩
  case round =>
    obtain ⟨k, L, hk, rfl, hLl, BL, hbl, hno⟩ := hrel
    have Hno := Lib.hid (And.intro hno hLl); clear hno hLl
    by_cases hlt : k < ns.length
    · obtain ⟨b, off, rfl, hb, h1⟩ := hp.cell k hlt
      have d1 := (hbl.cell (p := ⟨b, off + k, none⟩) hb).trans h1
      have hkL : k < L.length := by rw [Hno.out.2]; exact hlt
      have q0 := BL.cell hkL
      have f0 := BL.frozen k
      have HB := Lib.hid (And.intro (BL.set k (numAt ns k)) (And.intro hkL ((hbl.setCell (p := ⟨w.heap.size, k, none⟩) (Nat.le_refl _) (.int .i64 (numAt ns k))))))
      clear h1 hkL BL hbl
      go_wp2
      go_roundw
      case rel =>
        refine ⟨k + 1, _, by omega, by go_num, by simp [Hno.out.2], HB.out.1, HB.out.2.2, fun j hj => ?_⟩
        rw [numAt_set _ _ _ _ HB.out.2.1]
        by_cases e : j = k
        · subst e; simp
        · rw [if_neg e]; exact Hno.out.1 j (by omega)
      case measure => simp [intOf]; omega
    · have hE : L = ns := ints_ext Hno.out.2 (fun i hi => Hno.out.1 i (by rw [Hno.out.2] at hi; omega))
      rw [hE] at BL
      clear hE
      go_wp2
      refine bodyPost_ret (v := .slice (some ⟨w.heap.size, 0, none⟩) ns.length ns.length) (by simp [results, go_sem]) rfl ?_
      exact ⟨w.heap.size, rfl, Nat.le_refl _, BL, hbl⟩

set_option maxRecDepth 100000 in
set_option maxHeartbeats 1600000 in
theorem eqIntS_same (ns : List Int) (a a' : Option Addr) (cap cap' : Nat) (w : World) (hp : IntsAt w a ns) (hp' : IntsAt w a' ns) :
    Calls Tryd.prog 14 #[.slice a ns.length cap, .slice a' ns.length cap'] w fun e w' => e = .returned (.bool true) ∧ Below w.heap.size w w' := by
  have hl := hp.len
  go_enter Tryd.func14, Tryd.ntmps14
  go_wp2
  go_loopw [5] (fun i wr => ∃ k : Nat, k ≤ ns.length ∧ i = .int .i64 k ∧ Below w.heap.size w wr) (fun i _ => ns.length - (intOf i).toNat)
  case atStart => exact ⟨0, Nat.zero_le _, rfl, Below.refl _ _⟩
  case round =>
    obtain ⟨k, hk, rfl, hbl⟩ := hrel
    by_cases hlt : k < ns.length
    · obtain ⟨b, off, rfl, hb, h1⟩ := hp.cell k hlt
      obtain ⟨b', off', rfl, hb', h1'⟩ := hp'.cell k hlt
      have d1 := (hbl.cell (p := ⟨b, off + k, none⟩) hb).trans h1
      have d2 := (hbl.cell (p := ⟨b', off' + k, none⟩) hb').trans h1'
      have l1 : (0 : Int) ≤ (k : Int) := by omega
      have l2 : (k : Int) < (ns.length : Int) := by omega
      clear h1 h1'
      go_wp2
      go_quiet (fail)
      go_wp2
      go_roundw
      case rel => exact ⟨k + 1, by omega, by go_num, below_drewN hbl _⟩
      case measure => simp [intOf]; omega
    · obtain rfl : k = ns.length := by omega
      go_wp2
      go_ret
      exact ⟨rfl, hbl⟩
end Go.Proofs.YtfmhcjhcmoniaaaDoor
end

section
/-
  Plain mathematics: a walk by picks, and behind it the shortest way. Conditions: a valid program.
-/
namespace Go.Proofs.YtfmhcjhcmoniaaaDoor
open Go.RowKit Go.Maps

/-- one pick more -/
noncomputable def stepW (es : List Pr) (z out : ByteArray) (k : Int) : ByteArray := open Classical in
  if lastC out ≠ z ∧ out.size < 20 then out ++ (outL es (lastC out)).getD (k % ((outL es (lastC out)).length : Int)).toNat e0 else out
noncomputable def walkW (es : List Pr) (z out : ByteArray) (ns : List Int) : ByteArray := ns.foldl (stepW es z) out
theorem walkW_snoc (es : List Pr) (z out : ByteArray) (ns : List Int) (k : Int) : walkW es z out (ns ++ [k]) = stepW es z (walkW es z out ns) k := by simp [walkW, List.foldl_append]
theorem take_numAt {ns : List Int} {k : Nat} (h : k < ns.length) : ns.take (k + 1) = ns.take k ++ [numAt ns k] := by
  rw [List.take_succ_eq_append_getElem h]
  congr 1
  simp [numAt, h]
theorem walkW_succ {es : List Pr} {z out : ByteArray} {ns : List Int} {k : Nat} (h : k < ns.length) : walkW es z out (ns.take (k + 1)) = stepW es z (walkW es z out (ns.take k)) (numAt ns k) := by rw [take_numAt h, walkW_snoc]
theorem stepW_stop {es : List Pr} {z out : ByteArray} {k : Int} (h : ¬ (lastC out ≠ z ∧ out.size < 20)) : stepW es z out k = out := by unfold stepW; rw [if_neg h]
theorem stepW_go {es : List Pr} {z out : ByteArray} {k : Int} (h : lastC out ≠ z ∧ out.size < 20) : stepW es z out k = out ++ (outL es (lastC out)).getD (k % ((outL es (lastC out)).length : Int)).toNat e0 := by unfold stepW; rw [if_pos h]
theorem walkW_stop {es : List Pr} {z out : ByteArray} : ∀ (ns : List Int), ¬ (lastC out ≠ z ∧ out.size < 20) → walkW es z out ns = out := by
  intro ns
  induction ns with
  | nil => intro _; rfl
  | cons k r ih =>
    intro h
    show walkW es z (stepW es z out k) r = out
    rw [stepW_stop h]; exact ih h
theorem walkW_app (es : List Pr) (z out : ByteArray) (a b : List Int) : walkW es z out (a ++ b) = walkW es z (walkW es z out a) b := by simp [walkW, List.foldl_append]
theorem walkW_done {es : List Pr} {z out : ByteArray} {ns : List Int} {k : Nat} (h : ¬ (lastC (walkW es z out (ns.take k)) ≠ z ∧ (walkW es z out (ns.take k)).size < 20)) : walkW es z out ns = walkW es z out (ns.take k) := by
  conv => lhs; rw [← List.take_append_drop k ns]
  rw [walkW_app]
  exact walkW_stop _ h
/-- what a walk is on its way -/
structure OnWay (bs : List Pr) (out : ByteArray) : Prop where
  lo : 1 ≤ out.size
  hi : out.size ≤ 20
  at_ : lastC out ∈ names bs
theorem outL_pos {bs es : List Pr} (hV : Valid bs es) {x : ByteArray} (hx : x ∈ names bs) (hz : x ≠ lastN bs) : 0 < (outL es x).length := by
  obtain ⟨l, hp, _, _⟩ := hV.least hx
  match l, hp with
  | [], hp => exact absurd hp hz
  | a :: r, hp => exact List.length_pos_of_mem (mem_outL.2 hp.1)
theorem outL_exit {bs es : List Pr} (hV : Valid bs es) : outL es (lastN bs) = [] :=
  List.eq_nil_iff_forall_not_mem.2 fun _ hy => hV.e.nx _ (mem_outL.1 hy) rfl
/-- the name that a pick takes -/
theorem pick_name {bs es : List Pr} (hV : Valid bs es) {x : ByteArray} (hx : x ∈ names bs) (hz : x ≠ lastN bs) (k : Int) :
    ∃ (i : Nat) (y : ByteArray), k % ((outL es x).length : Int) = (i : Int) ∧ i < (outL es x).length ∧ (outL es x)[i]? = some y ∧ (outL es x).getD (k % ((outL es x).length : Int)).toNat e0 = y ∧ y.size = 1 ∧ y ∈ names bs := by
  have h0 := outL_pos hV hx hz
  have h1 := Int.emod_nonneg k (show ((outL es x).length : Int) ≠ 0 by omega)
  have h2 := Int.emod_lt_of_pos k (show (0 : Int) < ((outL es x).length : Int) by omega)
  obtain ⟨i, hi⟩ : ∃ i : Nat, k % ((outL es x).length : Int) = (i : Int) := ⟨(k % ((outL es x).length : Int)).toNat, by omega⟩
  have hil : i < (outL es x).length := by omega
  have hy := hV.e.to _ (mem_outL.1 (List.getElem_mem hil))
  refine ⟨i, (outL es x)[i], hi, hil, List.getElem?_eq_getElem hil, ?_, hV.name_size hy, hy⟩
  rw [hi]
  simp [List.getD_eq_getElem?_getD, hil]
theorem OnWay.step {bs es : List Pr} {out : ByteArray} (hV : Valid bs es) (h : OnWay bs out) (k : Int) : OnWay bs (stepW es (lastN bs) out k) := by
  by_cases hg : lastC out ≠ lastN bs ∧ out.size < 20
  · obtain ⟨i, y, _, _, _, h4, h5, h6⟩ := pick_name hV h.at_ hg.1 k
    rw [stepW_go hg, h4]
    have := h.lo
    exact ⟨by rw [ByteArray.size_append]; omega, by rw [ByteArray.size_append]; omega, by rw [lastC_app h5]; exact h6⟩
  · rw [stepW_stop hg]; exact h
theorem OnWay.start {bs es : List Pr} (hV : Valid bs es) : OnWay bs (nameAt bs 0) := by
  have hm := nameAt_mem (l := bs) (i := 0) (by have := hV.b.lo; omega)
  have hs := hV.name_size hm
  exact ⟨by omega, by omega, by rw [lastC_one hs]; exact hm⟩
theorem OnWay.walk {bs es : List Pr} (hV : Valid bs es) : ∀ (ns : List Int) (out : ByteArray), OnWay bs out → OnWay bs (walkW es (lastN bs) out ns)
  | [], _, h => h
  | k :: r, out, h => OnWay.walk hV r (stepW es (lastN bs) out k) (h.step hV k)
/-- the walk and the shortest way behind it -/
noncomputable def fullW (bs es : List Pr) (ns : List Int) : ByteArray :=
  walkW es (lastN bs) (nameAt bs 0) ns ++ (bestT es (lastC (walkW es (lastN bs) (nameAt bs 0) ns)) (lastN bs)).extract 1 (bestT es (lastC (walkW es (lastN bs) (nameAt bs 0) ns)) (lastN bs)).size
def picksOk (ns : List Int) : Bool := decide (ns.length ≤ 40) && ns.all fun n => decide (0 ≤ n)
noncomputable def walkV (bs es : List Pr) (ns : List Int) : Value := if (validB bs es && picksOk ns) = true then .tuple #[.string (fullW bs es ns), .bool true] else .tuple #[.string e0, .bool false]
theorem walkV_yes {bs es : List Pr} {ns : List Int} (h : validB bs es = true) (h' : picksOk ns = true) : walkV bs es ns = .tuple #[.string (fullW bs es ns), .bool true] := by unfold walkV; rw [h, h']; rfl
theorem walkV_no1 {bs es : List Pr} {ns : List Int} (h : validB bs es = false) : walkV bs es ns = .tuple #[.string e0, .bool false] := by unfold walkV; rw [h]; rfl
theorem walkV_no2 {bs es : List Pr} {ns : List Int} (h : picksOk ns = false) : walkV bs es ns = .tuple #[.string e0, .bool false] := by unfold walkV; rw [h, Bool.and_false]; rfl
theorem walkV_form (bs es : List Pr) (ns : List Int) : ∃ (r : ByteArray) (ok : Bool), walkV bs es ns = .tuple #[.string r, .bool ok] := by
  cases h : validB bs es
  · exact ⟨_, _, walkV_no1 h⟩
  · cases h' : picksOk ns
    · exact ⟨_, _, walkV_no2 h'⟩
    · exact ⟨_, _, walkV_yes h h'⟩
theorem picksOk_iff {ns : List Int} : picksOk ns = true ↔ ns.length ≤ 40 ∧ ∀ i, i < ns.length → 0 ≤ numAt ns i := by
  unfold picksOk
  simp only [Bool.and_eq_true, decide_eq_true_eq, List.all_eq_true]
  constructor
  · rintro ⟨h1, h2⟩
    refine ⟨h1, fun i hi => ?_⟩
    have := h2 _ (List.getElem_mem hi)
    simpa [numAt, hi] using this
  · rintro ⟨h1, h2⟩
    refine ⟨h1, fun n hn => ?_⟩
    obtain ⟨i, hi, rfl⟩ := List.getElem_of_mem hn
    have := h2 i hi
    simpa [numAt, hi] using this
theorem picksOk_neg {ns : List Int} {k : Nat} (hk : k < ns.length) (h : numAt ns k < 0) : picksOk ns = false := by
  cases hp : picksOk ns
  · rfl
  · have := (picksOk_iff.1 hp).2 k hk; omega
theorem picksOk_long {ns : List Int} (h : 40 < ns.length) : picksOk ns = false := by
  cases hp : picksOk ns
  · rfl
  · have := (picksOk_iff.1 hp).1; omega
/-- the shortest way begins with its first block -/
theorem best_tail {es : List Pr} {x z : ByteArray} {l : List ByteArray} (hx : x.size = 1) (h : Best es x z (cat (x :: l))) : (bestT es x z).extract 1 (bestT es x z).size = cat l := by
  rw [bestT_eq h, cat_cons]
  apply bytes_ext2
  have h1 : x.data.toList.length = 1 := by simpa using hx
  rw [ByteArray.data_extract, Array.toList_extract, ByteArray.data_append, Array.toList_append, ByteArray.size_append, hx, List.extract_eq_take_drop]
  rw [show (1 : Nat) = x.data.toList.length by omega, List.drop_append]
  simp
  first
    | exact List.take_of_length_le (by simp)
    | (rw [List.drop_eq_nil_of_le (by rw [h1, hx]; exact Nat.le_refl _), List.nil_append]; exact List.take_of_length_le (by simp))
theorem best_bd {bs es : List Pr} (hV : Valid bs es) {x t : ByteArray} (hx : x ∈ names bs) (h : Best es x (lastN bs) t) : 1 ≤ (bestT es x (lastN bs)).size ∧ (bestT es x (lastN bs)).size ≤ 9 := by
  rw [bestT_eq h]
  obtain ⟨l, hp, rfl, hmin, _⟩ := h
  obtain ⟨l0, hp0, h8, _⟩ := hV.least hx
  have := hmin l0 hp0
  rw [path_size (fun e he => hV.name_size (hV.e.to _ he)) (hV.name_size hx) l _ hp]
  omega
end Go.Proofs.YtfmhcjhcmoniaaaDoor
end

section
/-
  IsRun of the program. Conditions: at most 1048576 blocks and edges, each text at most as many bytes; the errors' variables hold errors.
-/
namespace Go.Proofs.YtfmhcjhcmoniaaaDoor
open Go.RowKit Go.Maps

set_option maxRecDepth 100000 in
theorem IsRun_impl (w : World) (bs es : List Pr) (ab ae : Option Addr) (cb ce : Nat) (run : ByteArray) (hr : run.size ≤ 1048576) (hpb : PairsAt w ab bs) (hpe : PairsAt w ae es) (hg : Errs w) :
    Calls Tryd.prog 16 #[.agg #[.slice ab bs.length cb, .slice ae es.length ce], .string run] w fun e w' => e = .returned (.bool (isRunB bs es run)) ∧ Below w.heap.size w w' := by
  have h1 : Below w.heap.size w (w.alloc (.cells #[.slice ab bs.length cb, .slice ae es.length ce] 32)) := (Below.refl _ _).alloc (Nat.le_refl _) _
  have hpb1 := hpb.below h1
  have hpe1 := hpe.below h1
  have hg1 := hg.keep h1
  have H1 := Lib.hid h1; clear h1
  go_enter Tryd.func16, Tryd.ntmps16
  go_wp2_with fail
  refine (courseOf_any _ bs es _ _ _ _ hpb1 hpe1 hg1).mono ?_
  rintro e w1 ⟨hb1, hcase⟩
  have hall : Below w.heap.size w w1 := H1.out.trans (hb1.mono (by simp))
  have hz := hall.size
  rcases hcase with ⟨hv, o, lo, li, vn, f, D, rfl, hp⟩ | ⟨hv, rfl⟩
  · have HV := Lib.hid (show validB bs es = true by simpa [validB] using hv)
    have HVV := Lib.hid hv
    have hwa : Below w1.heap.size w1 (w1.alloc (.cells #[.map (some o), .map (some lo), .map (some li), vn, .map (some f)] 62)) := (Below.refl _ _).alloc (Nat.le_refl _) _
    have hpA := hp.keep hwa
    obtain ⟨ga, gc, rfl⟩ := own_form hp.names
    have HP := Lib.hid hpA; clear hpA hp hv
    go_wp2_with fail
    refine (isRun_any _ o lo li f _ bs es D run hr HVV.out HP.out).mono ?_
    rintro e w2 ⟨rfl, hb2⟩
    go_wp2
    go_ret
    exact ⟨ret_bool (by rw [isRunB_yes HV.out]), (hall.alloc hz _).trans (hb2.mono (by simp; omega))⟩
  · have HN := Lib.hid (isRunB_no1 (run := run) (show validB bs es = false by simpa [validB] using hv))
    clear hv
    go_wp2
    go_ret
    exact ⟨ret_bool HN.out.symm, hall.alloc hz _⟩
end Go.Proofs.YtfmhcjhcmoniaaaDoor
end
