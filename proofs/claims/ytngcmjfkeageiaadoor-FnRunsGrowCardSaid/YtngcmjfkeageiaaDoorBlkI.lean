/-
  The program's chapter 3: a block as a term sees it. Conditions: at most 1048576 blocks and edges, each text at most as many bytes; the errors' variables hold errors.
-/
import Derived.Test.YtngcmjfkeageiaaDoorBlkS
import Derived.Test.YtngcmjfkeageiaaDoorOps
namespace Go.Proofs.YtngcmjfkeageiaaDoor
open Go.RowKit Go.Maps

/-- the facts as bits -/
def fv (s : FS) : Int := (if s.up then 1 else 0) + (if s.dn then 2 else 0) + (if s.cl then 4 else 0)
def FS.comp (s : FS) : FS := ⟨s.n, s.up || s.cl, true, s.cl⟩
def FS.spoil (s : FS) : FS := ⟨s.n, s.up, false, false⟩
theorem fv_bits (n : Nat) (a b c : Bool) : fv ⟨n, a, b, c⟩ = (if a then 1 else 0) + (if b then 2 else 0) + (if c then 4 else 0) := rfl

theorem has_up (s : FS) (w : World) : Calls Tryd.prog 176 #[.int .u8 (fv s), .int .u8 1] w fun e w' => e = .returned (.bool s.up) ∧ w = w' := by
  obtain ⟨n, up, dn, cl⟩ := s
  cases up <;> cases dn <;> cases cl
  all_goals
    simp only [fv_bits]
    simp only [Bool.false_eq_true, if_true, if_false]
    go_enter Tryd.func176, Tryd.ntmps176
    go_wp2
    go_ret
    exact ⟨rfl, rfl⟩
theorem has_dn (s : FS) (w : World) : Calls Tryd.prog 176 #[.int .u8 (fv s), .int .u8 2] w fun e w' => e = .returned (.bool s.dn) ∧ w = w' := by
  obtain ⟨n, up, dn, cl⟩ := s
  cases up <;> cases dn <;> cases cl
  all_goals
    simp only [fv_bits]
    simp only [Bool.false_eq_true, if_true, if_false]
    go_enter Tryd.func176, Tryd.ntmps176
    go_wp2
    go_ret
    exact ⟨rfl, rfl⟩
theorem has_cl (s : FS) (w : World) : Calls Tryd.prog 176 #[.int .u8 (fv s), .int .u8 4] w fun e w' => e = .returned (.bool s.cl) ∧ w = w' := by
  obtain ⟨n, up, dn, cl⟩ := s
  cases up <;> cases dn <;> cases cl
  all_goals
    simp only [fv_bits]
    simp only [Bool.false_eq_true, if_true, if_false]
    go_enter Tryd.func176, Tryd.ntmps176
    go_wp2
    go_ret
    exact ⟨rfl, rfl⟩
theorem computed_any (s : FS) (w : World) : Calls Tryd.prog 199 #[.int .u8 (fv s)] w fun e w' => e = .returned (.int .u8 (fv s.comp)) ∧ w = w' := by
  obtain ⟨n, up, dn, cl⟩ := s
  cases up <;> cases dn <;> cases cl
  all_goals
    simp only [fv_bits, FS.comp]
    simp only [Bool.false_eq_true, if_true, if_false]
    go_enter Tryd.func199, Tryd.ntmps199
    go_wp2
    go_ret
    exact ⟨rfl, rfl⟩
theorem spoilt_any (s : FS) (w : World) : Calls Tryd.prog 200 #[.int .u8 (fv s)] w fun e w' => e = .returned (.int .u8 (fv s.spoil)) ∧ w = w' := by
  obtain ⟨n, up, dn, cl⟩ := s
  cases up <;> cases dn <;> cases cl
  all_goals
    simp only [fv_bits, FS.spoil]
    simp only [Bool.false_eq_true, if_true, if_false]
    go_enter Tryd.func200, Tryd.ntmps200
    go_wp2
    go_ret
    exact ⟨rfl, rfl⟩

theorem Tryd.isCC (b : Int) (w : World) : (Instr.typeAssert (.iface 93 (.agg #[.int .u8 b])) 91 93 true).run Tryd.prog w = .ok (.tuple #[.agg #[.int .u8 b], .bool true]) w := by kernel_rfl
theorem Tryd.isCS (b : Int) (w : World) : (Instr.typeAssert (.iface 93 (.agg #[.int .u8 b])) 91 94 true).run Tryd.prog w = .ok (.tuple #[.agg #[.int .u8 0], .bool false]) w := by kernel_rfl
theorem Tryd.isSC (b : Int) (w : World) : (Instr.typeAssert (.iface 94 (.agg #[.int .u8 b])) 91 93 true).run Tryd.prog w = .ok (.tuple #[.agg #[.int .u8 0], .bool false]) w := by kernel_rfl
theorem Tryd.isSS (b : Int) (w : World) : (Instr.typeAssert (.iface 94 (.agg #[.int .u8 b])) 91 94 true).run Tryd.prog w = .ok (.tuple #[.agg #[.int .u8 b], .bool true]) w := by kernel_rfl

set_option maxRecDepth 100000 in
theorem repeatsC_any (s : FS) (x : ByteArray) (n : Int) (t u : Nat) (w : World) :
    Calls Tryd.prog 177 #[.agg #[.int .u8 (fv s), .string x, .int .u8 (t : Int), .int .i64 n], .iface 93 (.agg #[.int .u8 (u : Int)])] w fun e w' => e = .returned (.bool (decide (u = t) && s.dn)) ∧ Below w.heap.size w w' := by
  have a1 := fun w => Tryd.isCC (u : Int) w
  have hb : Below w.heap.size w ((w.alloc (.cells #[.int .u8 (fv s), .string x, .int .u8 (t : Int), .int .i64 n] 129)).alloc (.cells #[.int .u8 (u : Int)] 93)) := ((Below.refl _ _).alloc (Nat.le_refl _) _).alloc (by simp) _
  by_cases h : u = t
  · subst h
    go_enter Tryd.func177, Tryd.ntmps177
    go_wp2_with (go_at_call 176; refine (has_dn _ _).mono ?_; rintro e w' ⟨rfl, rfl⟩)
    go_ret
    exact ⟨ret_bool (by simp), hb⟩
  · have q1 : ((u : Int) == (t : Int)) = false := by rw [beq_eq_false_iff_ne]; omega
    have HD := Lib.hid (show (decide (u = t) && s.dn) = false by rw [decide_eq_false h]; rfl)
    clear h
    go_enter Tryd.func177, Tryd.ntmps177
    go_wp2_with (go_at_call 176; refine (has_dn _ _).mono ?_; rintro e w' ⟨rfl, rfl⟩)
    go_ret
    exact ⟨ret_bool HD.out.symm, hb⟩
set_option maxRecDepth 100000 in
theorem repeatsS_any (s : FS) (x : ByteArray) (n : Int) (t : Nat) (c : Int) (w : World) :
    Calls Tryd.prog 177 #[.agg #[.int .u8 (fv s), .string x, .int .u8 (t : Int), .int .i64 n], .iface 94 (.agg #[.int .u8 c])] w fun e w' => e = .returned (.bool false) ∧ Below w.heap.size w w' := by
  have a1 := fun w => Tryd.isSC c w
  have hb : Below w.heap.size w ((w.alloc (.cells #[.int .u8 (fv s), .string x, .int .u8 (t : Int), .int .i64 n] 129)).alloc (.cells #[.int .u8 0] 93)) := ((Below.refl _ _).alloc (Nat.le_refl _) _).alloc (by simp) _
  go_enter Tryd.func177, Tryd.ntmps177
  go_wp2
  go_ret
  exact ⟨rfl, hb⟩

theorem below_alloc3 {w : World} (a b c : Obj) : Below w.heap.size w (((w.alloc a).alloc b).alloc c) := (((Below.refl _ _).alloc (Nat.le_refl _) _).alloc (by simp) _).alloc (by simp; omega) _
set_option maxRecDepth 100000 in
theorem takeC_miss (s : FS) (x : ByteArray) (t u : Nat) (hne : u ≠ t) (w : World) :
    Calls Tryd.prog 174 #[.agg #[.int .u8 (fv s), .string x, .int .u8 (t : Int), .int .i64 (s.n : Int)], .iface 93 (.agg #[.int .u8 (u : Int)])] w fun e w' => e = .returned (.agg #[.int .u8 (fv s), .string x, .int .u8 (t : Int), .int .i64 (s.n : Int)]) ∧ Below w.heap.size w w' := by
  have q1 : ((u : Int) != (t : Int)) = true := by rw [bne_iff_ne]; omega
  have q2 : ((u : Int) == (t : Int)) = false := by rw [beq_eq_false_iff_ne]; omega
  have a1 := fun w => Tryd.isCC (u : Int) w
  go_enter Tryd.func174, Tryd.ntmps174
  go_wp2
  refine bodyPost_ret (v := .agg #[.int .u8 (fv s), .string x, .int .u8 (t : Int), .int .i64 (s.n : Int)]) (by simp [results, Tryd.results174, go_sem]) rfl ?_
  exact ⟨rfl, below_alloc3 _ _ _⟩
set_option maxRecDepth 100000 in
theorem takeS_miss (s : FS) (x : ByteArray) (t : Nat) (c : Int) (hne : c ≠ (t : Int)) (w : World) :
    Calls Tryd.prog 174 #[.agg #[.int .u8 (fv s), .string x, .int .u8 (t : Int), .int .i64 (s.n : Int)], .iface 94 (.agg #[.int .u8 c])] w fun e w' => e = .returned (.agg #[.int .u8 (fv s), .string x, .int .u8 (t : Int), .int .i64 (s.n : Int)]) ∧ Below w.heap.size w w' := by
  have q1 : (c != (t : Int)) = true := by rw [bne_iff_ne]; exact hne
  have q2 : (c == (t : Int)) = false := by rw [beq_eq_false_iff_ne]; exact hne
  have a1 := fun w => Tryd.isSC c w
  have a2 := fun w => Tryd.isSS c w
  clear hne
  go_enter Tryd.func174, Tryd.ntmps174
  go_wp2
  refine bodyPost_ret (v := .agg #[.int .u8 (fv s), .string x, .int .u8 (t : Int), .int .i64 (s.n : Int)]) (by simp [results, Tryd.results174, go_sem]) rfl ?_
  exact ⟨rfl, below_alloc3 _ _ _⟩
set_option maxRecDepth 100000 in
theorem takeS_hit (s : FS) (x : ByteArray) (t : Nat) (w : World) :
    Calls Tryd.prog 174 #[.agg #[.int .u8 (fv s), .string x, .int .u8 (t : Int), .int .i64 (s.n : Int)], .iface 94 (.agg #[.int .u8 (t : Int)])] w fun e w' => e = .returned (.agg #[.int .u8 (fv s.spoil), .string x, .int .u8 (t : Int), .int .i64 (s.n : Int)]) ∧ Below w.heap.size w w' := by
  have a1 := fun w => Tryd.isSC (t : Int) w
  have a2 := fun w => Tryd.isSS (t : Int) w
  go_enter Tryd.func174, Tryd.ntmps174
  go_wp2_with (go_at_call 200; refine (spoilt_any s _).mono ?_; rintro e w' ⟨rfl, rfl⟩)
  refine bodyPost_ret (v := .agg #[.int .u8 (fv s.spoil), .string x, .int .u8 (t : Int), .int .i64 (s.n : Int)]) (by simp [results, Tryd.results174, go_sem]) rfl ?_
  exact ⟨rfl, below_alloc3 _ _ _⟩
theorem repeatsC_hit (s : FS) (x : ByteArray) (n : Int) (t : Nat) (b : Bool) (hd : s.dn = b) (w : World) :
    Calls Tryd.prog 177 #[.agg #[.int .u8 (fv s), .string x, .int .u8 (t : Int), .int .i64 n], .iface 93 (.agg #[.int .u8 (t : Int)])] w fun e w' => e = .returned (.bool b) ∧ Below w.heap.size w w' :=
  (repeatsC_any s x n t t w).mono fun e w' h => ⟨by rw [h.1, hd]; simp, h.2⟩
set_option maxRecDepth 100000 in
theorem takeC_hit0 (s : FS) (x : ByteArray) (t : Nat) (hn : s.n ≤ 1048576) (hd : s.dn = false) (w : World) :
    Calls Tryd.prog 174 #[.agg #[.int .u8 (fv s), .string x, .int .u8 (t : Int), .int .i64 (s.n : Int)], .iface 93 (.agg #[.int .u8 (t : Int)])] w fun e w' => e = .returned (.agg #[.int .u8 (fv s.comp), .string x, .int .u8 (t : Int), .int .i64 ((s.n : Int) + 1)]) ∧ Below w.heap.size w w' := by
  have a1 := fun w => Tryd.isCC (t : Int) w
  have HD := Lib.hid hd; clear hd
  go_enter Tryd.func174, Tryd.ntmps174
  go_wp2_with fail
  refine (repeatsC_hit s x _ t false HD.out _).mono ?_
  rintro e w1 ⟨rfl, hb1⟩
  obtain ⟨hc, hf⟩ := bcell hb1
  have e0 := (hc w.heap.size 0 (by simp; omega)).trans (show _ = some (.int .u8 (fv s)) by go_simp)
  have e1 := (hc w.heap.size 1 (by simp; omega)).trans (show _ = some (.string x) by go_simp)
  have e2 := (hc w.heap.size 2 (by simp; omega)).trans (show _ = some (.int .u8 (t : Int)) by go_simp)
  have e3 := (hc w.heap.size 3 (by simp; omega)).trans (show _ = some (.int .i64 (s.n : Int)) by go_simp)
  have r0 := (hc (w.heap.size + 1) 0 (by simp)).trans (show _ = some (.int .u8 0) by go_simp)
  have r1 := (hc (w.heap.size + 1) 1 (by simp)).trans (show _ = some (.string ⟨#[]⟩) by go_simp)
  have r2 := (hc (w.heap.size + 1) 2 (by simp)).trans (show _ = some (.int .u8 0) by go_simp)
  have r3 := (hc (w.heap.size + 1) 3 (by simp)).trans (show _ = some (.int .i64 0) by go_simp)
  have f0 := (hf w.heap.size 0 (by simp; omega)).trans (show _ = false by go_simp)
  have f3 := (hf w.heap.size 3 (by simp; omega)).trans (show _ = false by go_simp)
  have z0 := (hf (w.heap.size + 1) 0 (by simp)).trans (show _ = false by go_simp)
  have z1 := (hf (w.heap.size + 1) 1 (by simp)).trans (show _ = false by go_simp)
  have z2 := (hf (w.heap.size + 1) 2 (by simp)).trans (show _ = false by go_simp)
  have z3 := (hf (w.heap.size + 1) 3 (by simp)).trans (show _ = false by go_simp)
  have hall : Below w.heap.size w w1 := (below_alloc3 _ _ _).trans (hb1.mono (by simp; omega))
  have hz : w.heap.size + 1 < w1.heap.size := by have := hb1.size; simp at this; omega
  have HZ := Lib.hid (And.intro hall hz)
  clear hc hf hb1 hall hz
  go_wp2_with (go_at_call 199; refine (computed_any s _).mono ?_; rintro e w' ⟨rfl, rfl⟩)
  refine bodyPost_ret (v := .agg #[.int .u8 (fv s.comp), .string x, .int .u8 (t : Int), .int .i64 ((s.n : Int) + 1)]) (by simp [results, Tryd.results174, go_sem, r0, r1, r2, r3]) rfl ?_
  exact ⟨rfl, (((((HZ.out.1.setCell (by simp) _).setCell (by simp) _).setCell (by simp) _).setCell (by simp) _).setCell (by simp) _).setCell (by simp) _⟩
set_option maxRecDepth 100000 in
theorem takeC_hit1 (s : FS) (x : ByteArray) (t : Nat) (hd : s.dn = true) (w : World) :
    Calls Tryd.prog 174 #[.agg #[.int .u8 (fv s), .string x, .int .u8 (t : Int), .int .i64 (s.n : Int)], .iface 93 (.agg #[.int .u8 (t : Int)])] w fun e w' => e = .returned (.agg #[.int .u8 (fv s.comp), .string x, .int .u8 (t : Int), .int .i64 (s.n : Int)]) ∧ Below w.heap.size w w' := by
  have a1 := fun w => Tryd.isCC (t : Int) w
  have HD := Lib.hid hd; clear hd
  go_enter Tryd.func174, Tryd.ntmps174
  go_wp2_with fail
  refine (repeatsC_hit s x _ t true HD.out _).mono ?_
  rintro e w1 ⟨rfl, hb1⟩
  obtain ⟨hc, hf⟩ := bcell hb1
  have e0 := (hc w.heap.size 0 (by simp; omega)).trans (show _ = some (.int .u8 (fv s)) by go_simp)
  have e1 := (hc w.heap.size 1 (by simp; omega)).trans (show _ = some (.string x) by go_simp)
  have e2 := (hc w.heap.size 2 (by simp; omega)).trans (show _ = some (.int .u8 (t : Int)) by go_simp)
  have e3 := (hc w.heap.size 3 (by simp; omega)).trans (show _ = some (.int .i64 (s.n : Int)) by go_simp)
  have r0 := (hc (w.heap.size + 1) 0 (by simp)).trans (show _ = some (.int .u8 0) by go_simp)
  have r1 := (hc (w.heap.size + 1) 1 (by simp)).trans (show _ = some (.string ⟨#[]⟩) by go_simp)
  have r2 := (hc (w.heap.size + 1) 2 (by simp)).trans (show _ = some (.int .u8 0) by go_simp)
  have r3 := (hc (w.heap.size + 1) 3 (by simp)).trans (show _ = some (.int .i64 0) by go_simp)
  have f0 := (hf w.heap.size 0 (by simp; omega)).trans (show _ = false by go_simp)
  have f3 := (hf w.heap.size 3 (by simp; omega)).trans (show _ = false by go_simp)
  have z0 := (hf (w.heap.size + 1) 0 (by simp)).trans (show _ = false by go_simp)
  have z1 := (hf (w.heap.size + 1) 1 (by simp)).trans (show _ = false by go_simp)
  have z2 := (hf (w.heap.size + 1) 2 (by simp)).trans (show _ = false by go_simp)
  have z3 := (hf (w.heap.size + 1) 3 (by simp)).trans (show _ = false by go_simp)
  have hall : Below w.heap.size w w1 := (below_alloc3 _ _ _).trans (hb1.mono (by simp; omega))
  have hz : w.heap.size + 1 < w1.heap.size := by have := hb1.size; simp at this; omega
  have HZ := Lib.hid (And.intro hall hz)
  clear hc hf hb1 hall hz
  go_wp2_with (go_at_call 199; refine (computed_any s _).mono ?_; rintro e w' ⟨rfl, rfl⟩)
  refine bodyPost_ret (v := .agg #[.int .u8 (fv s.comp), .string x, .int .u8 (t : Int), .int .i64 (s.n : Int)]) (by simp [results, Tryd.results174, go_sem, r0, r1, r2, r3]) rfl ?_
  exact ⟨rfl, ((((HZ.out.1.setCell (by simp) _).setCell (by simp) _).setCell (by simp) _).setCell (by simp) _).setCell (by simp) _⟩

/-- one letter more -/
theorem take_any (s : FS) (x : ByteArray) (t u : Nat) (ht : 120 ≤ t ∧ t ≤ 122) (hu : opB u = true) (hn : s.n ≤ 1048576) (w : World) :
    Calls Tryd.prog 174 #[.agg #[.int .u8 (fv s), .string x, .int .u8 (t : Int), .int .i64 (s.n : Int)], opVal u] w fun e w' => e = .returned (.agg #[.int .u8 (fv (s.step t u)), .string x, .int .u8 (t : Int), .int .i64 ((s.step t u).n : Int)]) ∧ Below w.heap.size w w' := by
  unfold opVal
  by_cases hl : lowB u = true
  · rw [if_pos hl]
    have hl2 : 120 ≤ u ∧ u ≤ 122 := by unfold lowB at hl; simpa using hl
    by_cases e : u = t
    · rw [FS.step_hit e]
      subst e
      cases hd : s.dn
      · exact takeC_hit0 s x u hn hd w
      · exact takeC_hit1 s x u hd w
    · rw [FS.step_none e (by omega)]
      exact takeC_miss s x t u e w
  · rw [if_neg hl]
    have hu2 : 88 ≤ u ∧ u ≤ 90 := by
      unfold opB at hu
      have hl' : lowB u = false := by simpa using hl
      rw [hl'] at hu
      unfold upB at hu
      simpa using hu
    by_cases e : u + 32 = t
    · rw [FS.step_spoil e]
      rw [show ((u : Int) - 88 + 120) = (t : Int) by omega]
      exact takeS_hit s x t w
    · rw [FS.step_none (by omega) e]
      exact takeS_miss s x t _ (by omega) w
end Go.Proofs.YtngcmjfkeageiaaDoor
