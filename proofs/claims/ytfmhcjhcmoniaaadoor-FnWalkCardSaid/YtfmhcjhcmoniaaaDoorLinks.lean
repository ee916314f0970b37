/-
  A map of maps that holds the places of edges: what it holds, and the method that adds one. Conditions: texts of at most 1048576 bytes, at most as many edges.
-/
import Derived.Test.YtfmhcjhcmoniaaaDoorImplA
namespace Go.Proofs.YtfmhcjhcmoniaaaDoor
open Go.RowKit Go.Maps

/-- w' is w with new blocks, and with writes to the blocks of S alone -/
structure Turns (S : Nat → Prop) (w w' : World) : Prop where
  os : w'.os = w.os
  tape : w'.tape = w.tape
  output : w'.output = w.output
  size : w.heap.size ≤ w'.heap.size
  block : ∀ k, k < w.heap.size → ¬ S k → w'.heap[k]? = w.heap[k]?
theorem Turns.refl (S : Nat → Prop) (w : World) : Turns S w w := ⟨rfl, rfl, rfl, Nat.le_refl _, fun _ _ _ => rfl⟩
theorem Turns.trans {S : Nat → Prop} {a b c : World} (h : Turns S a b) (k : Turns S b c) : Turns S a c :=
  ⟨k.os.trans h.os, k.tape.trans h.tape, k.output.trans h.output, Nat.le_trans h.size k.size, fun i hi hs => (k.block i (Nat.lt_of_lt_of_le hi h.size) hs).trans (h.block i hi hs)⟩
theorem Turns.mono {S S' : Nat → Prop} {a b : World} (h : Turns S a b) (hs : ∀ k, k < a.heap.size → S k → S' k) : Turns S' a b :=
  ⟨h.os, h.tape, h.output, h.size, fun i hi hn => h.block i hi (fun hS => hn (hs i hi hS))⟩
theorem Turns.of_grown {a b : World} {row : Option Nat} (h : a.grownBy b row) : Turns (fun k => some k = row) a b := ⟨h.os, h.tape, h.output, h.size, fun k hk hn => h.block k hk hn⟩
theorem Turns.of_below {S : Nat → Prop} {a b : World} (h : Below a.heap.size a b) : Turns S a b := ⟨h.os, h.tape, h.output, h.size, fun k hk _ => h.block k hk⟩
theorem Turns.below {S : Nat → Prop} {B : Nat} {a b : World} (h : Turns S a b) (hB : B ≤ a.heap.size) (hS : ∀ k, S k → B ≤ k) : Below B a b :=
  ⟨h.os, h.tape, h.output, h.size, fun k hk => h.block k (by omega) (fun hs => by have := hS k hs; omega)⟩
theorem Turns.alloc {S : Nat → Prop} (w : World) (o : Obj) : Turns S w (w.alloc o) := .of_below ((Below.refl _ _).alloc (Nat.le_refl _) _)
/-- first writes to S, then to S' and to what was new -/
theorem Turns.then_ {S S' T : Nat → Prop} {a b c : World} (h : Turns S a b) (k : Turns S' b c) (h1 : ∀ i, i < a.heap.size → S i → T i) (h2 : ∀ i, i < a.heap.size → S' i → T i) : Turns T a c :=
  ⟨k.os.trans h.os, k.tape.trans h.tape, k.output.trans h.output, Nat.le_trans h.size k.size, fun i hi hn => (k.block i (Nat.lt_of_lt_of_le hi h.size) (fun hs => hn (h2 i hi hs))).trans (h.block i hi (fun hs => hn (h1 i hi hs)))⟩

/-- what an inner map holds of the edges from x -/
def inner (E : List Pr) (x y : ByteArray) : Option Value := (idx E (x, y)).map fun (i : Nat) => Value.int .i64 i
/-- block b is a map of maps, the inner ones in the blocks fp, that holds the place of each edge of E -/
structure Links (w : World) (b : Nat) (fp : List Nat) (E : List Pr) (F : ByteArray → Option Value) : Prop where
  map : MapV w b E.length F
  apart : b ∉ fp
  none_ : ∀ x, F x = none → ∀ y, (x, y) ∉ E
  some_ : ∀ x v, F x = some v → ∃ bi, v = .map (some bi) ∧ bi ∈ fp ∧ MapV w bi E.length (inner E x) ∧ ∃ y, (x, y) ∈ E
  inj : ∀ x x' v, F x = some v → F x' = some v → x = x'
theorem Links.same {w w' : World} {b : Nat} {fp : List Nat} {E : List Pr} {F : ByteArray → Option Value} (h : Links w b fp E F) (e : ∀ k, k = b ∨ k ∈ fp → w'.heap[k]? = w.heap[k]?) : Links w' b fp E F where
  map := h.map.same (e b (.inl rfl))
  apart := h.apart
  none_ := h.none_
  some_ x v hx := by
    obtain ⟨bi, hv, hf, hm, hy⟩ := h.some_ x v hx
    exact ⟨bi, hv, hf, hm.same (e bi (.inr hf)), hy⟩
  inj := h.inj
theorem Links.turns {S : Nat → Prop} {w w' : World} {b : Nat} {fp : List Nat} {E : List Pr} {F : ByteArray → Option Value} (h : Links w b fp E F) (ht : Turns S w w') (hb : b < w.heap.size) (hf : ∀ k ∈ fp, k < w.heap.size) (hs : ∀ k, k = b ∨ k ∈ fp → ¬ S k) : Links w' b fp E F :=
  h.same fun k hk => ht.block k (by rcases hk with rfl | hk; exact hb; exact hf k hk) (hs k hk)
theorem idx_append_new {E : List Pr} {p q : Pr} (hp : p ∉ E) : idx (E ++ [p]) q = if q = p then some E.length else idx E q := by
  by_cases e : q = p
  · subst e
    rw [if_pos rfl]
    exact idx_hit _ _ _ (by simp) (fun j hj h => hp (by rw [List.getElem?_append_left hj] at h; exact List.mem_of_getElem? h))
  · rw [if_neg e]
    cases h : idx E q with
    | none =>
      rw [idx_eq_none_iff] at h ⊢
      simp [h, e]
    | some k =>
      obtain ⟨h1, h2⟩ := idx_some _ _ _ h
      have hk := (List.getElem?_eq_some_iff.1 h1).1
      exact idx_hit _ _ _ (by rw [List.getElem?_append_left hk]; exact h1) (fun j hj => by rw [List.getElem?_append_left (by omega)]; exact h2 j hj)
theorem inner_append {E : List Pr} {x y : ByteArray} (hp : (x, y) ∉ E) (x' : ByteArray) : inner (E ++ [(x, y)]) x' = if x' = x then (fun z => if z = y then some (.int .i64 (E.length : Int)) else inner E x' z) else inner E x' := by
  by_cases e : x' = x
  · subst e
    rw [if_pos rfl]
    funext z
    unfold inner
    rw [idx_append_new hp]
    by_cases ez : z = y
    · subst ez; simp
    · simp [ez]
  · rw [if_neg e]
    funext z
    unfold inner
    rw [idx_append_new hp]
    simp [e]
/-- the empty one -/
theorem Links.made (w : World) : Links (w.alloc (.map #[] 0)) w.heap.size [] [] (fun _ => none) where
  map := MapV.made w
  apart := by simp
  none_ _ _ _ := by simp
  some_ _ _ h := by cases h
  inj _ _ _ h := by cases h

/-- what put leaves -/
def PutPost (w : World) (b : Nat) (fp : List Nat) (E : List Pr) (p : Pr) (e : Ending) (w' : World) : Prop :=
  e = .returned (.tuple #[]) ∧ ∃ fp' F', Links w' b fp' (E ++ [p]) F' ∧ (∀ k ∈ fp', k < w'.heap.size) ∧ (∀ k ∈ fp', k ∈ fp ∨ w.heap.size ≤ k) ∧ Turns (fun k => k = b ∨ k ∈ fp) w w'
theorem zeroMap (w : World) : (zeroValue 60).run Tryd.prog w = .ok (.map none) w := by kernel_rfl
theorem zeroInt (w : World) : (zeroValue 3).run Tryd.prog w = .ok (.int .i64 0) w := by kernel_rfl

set_option maxRecDepth 100000 in
set_option maxHeartbeats 1600000 in
theorem put_any (w : World) (b : Nat) (fp : List Nat) (E : List Pr) (F : ByteArray → Option Value) (x y : ByteArray) (i : Int) (hi : i = E.length) (hL : Links w b fp E F) (hfp : ∀ k ∈ fp, k < w.heap.size) (hp : (x, y) ∉ E) (hx : x.size ≤ 1048576) (hy : y.size ≤ 1048576) (hE : E.length ≤ 1048576) :
    Calls Tryd.prog 62 #[.map (some b), .string x, .string y, .int .i64 i] w (PutPost w b fp E (x, y)) := by
  have l1 := hL.map.look Tryd.underlying56 (zeroMap w) (mx hx)
  have hbw := hL.map.lt
  have Hi := Lib.hid hi; clear hi
  have Hfp := Lib.hid hfp; clear hfp
  have Hp := Lib.hid hp; clear hp
  have hmm := @run_makeMap Tryd.prog
  have keq : ∀ (r : Option Nat) (W : World), (binOp .eql 60 (.map r) (.map none)).run Tryd.prog W = .ok (.bool r.isNone) W := fun r W => run_eql_map_nil (P := Tryd.prog) W _ _ _ r Tryd.underlying60
  cases hF : F x with
  | none =>
    rw [hF] at l1
    simp only [Option.getD_none] at l1
    have HF := Lib.hid hF; clear hF
    go_enter Tryd.func62, Tryd.ntmps62
    go_wp2_with (first
      | (at_mapUpdate; refine wpList_putV _ rfl _ _ _ 56 rfl 60 Tryd.underlying56 b E.length F rfl (hL.map.alloc _) (mxl hE) x rfl (mx hx) (.map (some w.heap.size)) rfl ?_; intro w1 hm1 hg1 hs1; have l2 : (Instr.lookup 56 (.map (some b)) (.string x) false).run Tryd.prog w1 = .ok (.map (some w.heap.size)) w1 := (by simpa using hm1.look Tryd.underlying56 (zeroMap w1) (mx hx)))
      | (at_mapUpdate; refine wpList_putV _ rfl _ _ _ 60 rfl 3 Tryd.underlying60 w.heap.size 0 (fun _ => none) rfl ((MapV.made w).kept hg1 (by simp; omega)) (mxl (by omega)) y rfl (mx hy) (.int .i64 i) rfl ?_; intro w2 hm2 hg2 hs2))
    go_end0
    have hg0 : Turns (fun k => k = b ∨ k ∈ fp) w w2 := by
      refine ((Turns.alloc (S := fun k => k = b) w (.map #[] 0)).trans ((Turns.of_grown hg1).mono (fun k _ e => by cases e; rfl))).then_ (Turns.of_grown hg2) (fun k _ e => .inl e) (fun k hk e => ?_)
      cases e; omega
    have hz1 : w.heap.size < w2.heap.size := by rw [hs2, hs1]; simp
    refine ⟨rfl, w.heap.size :: fp, fun z => if z = x then some (.map (some w.heap.size)) else F z, ?_, ?_, ?_, hg0⟩
    · have hold : ∀ k, k < w.heap.size → k ≠ b → w2.heap[k]? = w.heap[k]? := fun k hk hb' => by
        rw [hg2.block k (by rw [hs1]; simp; omega) (by simp; omega), hg1.block k (by simp; omega) (by simpa using hb'), Below.heap_alloc _ _ _ hk]
      refine ⟨(hm1.kept hg2 (by simp; omega)).mono (by simp), ?_, fun z hz z' hm' => ?_, fun z v hz => ?_, fun z z' v hz hz' => ?_⟩
      · simp only [List.mem_cons, not_or]
        exact ⟨by omega, hL.apart⟩
      · by_cases e : z = x
        · rw [if_pos e] at hz; cases hz
        · rw [if_neg e] at hz
          rcases List.mem_append.1 hm' with h | h
          · exact hL.none_ z hz z' h
          · simp only [List.mem_singleton, Prod.mk.injEq] at h
            exact e h.1
      · by_cases e : z = x
        · rw [if_pos e] at hz
          cases hz
          subst e
          refine ⟨w.heap.size, rfl, by simp, ?_, y, by simp⟩
          rw [inner_append Hp.out, if_pos rfl]
          rw [Hi.out] at hm2
          have hE0 : ∀ z', inner E z z' = none := fun z' => by
            unfold inner
            rw [(idx_eq_none_iff _ _).2 (hL.none_ z HF.out z')]; rfl
          simp only [hE0]
          exact hm2.mono (by simp)
        · rw [if_neg e] at hz
          obtain ⟨bj, hv, hf, hmj, y', hy'⟩ := hL.some_ z v hz
          refine ⟨bj, hv, List.mem_cons_of_mem _ hf, ?_, y', List.mem_append_left _ hy'⟩
          rw [inner_append Hp.out, if_neg e]
          exact (hmj.same (hold bj (Hfp.out bj hf) (fun e' => hL.apart (e' ▸ hf)))).mono (by simp)
      · have hnew : ∀ u, F u ≠ some (.map (some w.heap.size)) := fun u hu => by
          obtain ⟨bj, hv, hf, _⟩ := hL.some_ u _ hu
          have := Hfp.out bj hf
          have e' : w.heap.size = bj := by simpa using hv
          omega
        by_cases e : z = x
        · by_cases e' : z' = x
          · rw [e, e']
          · rw [if_pos e] at hz
            rw [if_neg e'] at hz'
            cases hz
            exact absurd hz' (hnew z')
        · rw [if_neg e] at hz
          by_cases e' : z' = x
          · rw [if_pos e'] at hz'
            cases hz'
            exact absurd hz (hnew z)
          · rw [if_neg e'] at hz'
            exact hL.inj z z' v hz hz'
    · intro k hk
      rcases List.mem_cons.1 hk with rfl | h
      · exact hz1
      · have := Hfp.out k h; omega
    · intro k hk
      rcases List.mem_cons.1 hk with rfl | h
      · exact .inr (Nat.le_refl _)
      · exact .inl h
  | some v =>
    rw [hF] at l1
    obtain ⟨bi, rfl, hbi, hm, hy0⟩ := hL.some_ x v hF
    simp only [Option.getD_some] at l1
    have HF := Lib.hid hF; clear hF
    have HL := Lib.hid hL; clear hL
    have Hy0 := Lib.hid hy0; clear hy0
    go_enter Tryd.func62, Tryd.ntmps62
    go_wp2_with (at_mapUpdate; refine wpList_putV _ rfl _ _ _ 60 rfl 3 Tryd.underlying60 bi E.length (inner E x) rfl hm (mxl hE) y rfl (mx hy) (.int .i64 i) rfl ?_; intro w1 hm1 hg1 hs1)
    go_end0
    refine ⟨rfl, fp, F, ?_, ?_, fun k hk => .inl hk, (Turns.of_grown hg1).mono (fun k _ e => .inr (by cases e; exact hbi))⟩
    · rw [Hi.out] at hm1
      refine ⟨(HL.out.map.kept hg1 (fun e => by cases e; exact HL.out.apart hbi)).mono (by simp), HL.out.apart, fun z hz z' hm' => ?_, fun z v hz => ?_, HL.out.inj⟩
      · rcases List.mem_append.1 hm' with h | h
        · exact HL.out.none_ z hz z' h
        · simp only [List.mem_singleton, Prod.mk.injEq] at h
          rw [h.1, HF.out] at hz
          cases hz
      · obtain ⟨bj, hv, hf, hmj, y', hy'⟩ := HL.out.some_ z v hz
        refine ⟨bj, hv, hf, ?_, y', List.mem_append_left _ hy'⟩
        rw [inner_append Hp.out]
        by_cases e : z = x
        · subst e
          rw [HF.out] at hz
          cases hz
          cases hv
          rw [if_pos rfl]
          simpa using hm1
        · rw [if_neg e]
          have hne : bj ≠ bi := fun e' => e (HL.out.inj z x v hz (by rw [HF.out, hv, e']))
          exact (hmj.kept hg1 (fun e' => hne (by cases e'; rfl))).mono (by simp)
    · intro k hk
      rw [hs1]
      exact Hfp.out k hk
end Go.Proofs.YtfmhcjhcmoniaaaDoor
