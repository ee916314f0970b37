/-
  The program's chapter 1: reach: the blocks to which links lead. Conditions: texts of at most 1048576 bytes, at most 1000 edges.
-/
import Derived.Test.YtfmhcjhcmoniaaaDoorJoin
import Derived.Deep.AppendLies
namespace Go.Proofs.YtfmhcjhcmoniaaaDoor
open Go.RowKit Go.Maps

/-- how many of the names are not found yet -/
def unf (E : List Pr) (name : ByteArray) (G : ByteArray → Option Value) : Nat := (name :: E.map (·.2)).countP fun s => (G s).isNone
theorem countP_le_of {α : Type} {p q : α → Bool} (h : ∀ a, p a = true → q a = true) : ∀ l : List α, l.countP p ≤ l.countP q
  | [] => by simp
  | a :: r => by
    have ih := countP_le_of h r
    simp only [List.countP_cons]
    cases hp : p a
    · simp; omega
    · simp [h a hp]; omega
theorem countP_lt_of {α : Type} {p q : α → Bool} (h : ∀ a, p a = true → q a = true) {x : α} (hq : q x = true) (hp : p x = false) : ∀ l : List α, x ∈ l → l.countP p + 1 ≤ l.countP q
  | [], hx => by cases hx
  | a :: r, hx => by
    simp only [List.countP_cons]
    rcases List.mem_cons.1 hx with rfl | hx
    · have := countP_le_of h r
      simp [hq, hp]; omega
    · have ih := countP_lt_of h hq hp r hx
      cases hpa : p a
      · simp; omega
      · simp [h a hpa]; omega
theorem unf_put {E : List Pr} {name s : ByteArray} {G : ByteArray → Option Value} (hs : s ∈ name :: E.map (·.2)) (hG : G s = none) (v : Value) : unf E name (fun x => if x = s then some v else G x) + 1 ≤ unf E name G := by
  unfold unf
  refine countP_lt_of (x := s) (fun a ha => ?_) (by simp [hG]) (by simp) _ hs
  by_cases e : a = s
  · subst e; simp at ha
  · simpa [e] using ha
theorem unf_le (E : List Pr) (name : ByteArray) (G : ByteArray → Option Value) : unf E name G ≤ E.length + 1 := by
  unfold unf
  have := List.countP_le_length (p := fun s => (G s).isNone) (l := name :: E.map (·.2))
  simpa using this

/-- between two rounds; H: the block whose edges are being looked at, if any -/
structure RI (E : List Pr) (name : ByteArray) (H : ByteArray → Prop) (S : List ByteArray) (G : ByteArray → Option Value) : Prop where
  tr : ∀ s, G s = none ∨ G s = some (.bool true)
  so : ∀ s, G s ≠ none → Reach E name s
  na : G name ≠ none
  st : ∀ s ∈ S, G s ≠ none
  cl : ∀ x y, (x, y) ∈ E → G x ≠ none → H x ∨ x ∈ S ∨ G y ≠ none
theorem RI.start (E : List Pr) (name : ByteArray) : RI E name (fun _ => False) [name] (fun x => if x = name then some (.bool true) else none) where
  tr s := by by_cases e : s = name <;> simp [e]
  so s h := by
    by_cases e : s = name
    · subst e; exact .refl
    · simp [e] at h
  na := by simp
  st s h := by simp at h; simp [h]
  cl x y _ h := by
    by_cases e : x = name
    · right; left; simp [e]
    · simp [e] at h
theorem RI.pop {E : List Pr} {name h : ByteArray} {S : List ByteArray} {G : ByteArray → Option Value} (R : RI E name (fun _ => False) (S ++ [h]) G) : RI E name (· = h) S G where
  tr := R.tr
  so := R.so
  na := R.na
  st s hs := R.st s (List.mem_append_left _ hs)
  cl x y hxy hx := by
    rcases R.cl x y hxy hx with h' | h' | h'
    · exact h'.elim
    · rcases List.mem_append.1 h' with h' | h'
      · exact .inr (.inl h')
      · exact .inl (List.mem_singleton.1 h')
    · exact .inr (.inr h')
theorem RI.push {E : List Pr} {name h t : ByteArray} {S : List ByteArray} {G : ByteArray → Option Value} (R : RI E name (· = h) S G) (hh : G h ≠ none) (hE : (h, t) ∈ E) :
    RI E name (· = h) (S ++ [t]) (fun x => if x = t then some (.bool true) else G x) where
  tr s := by
    by_cases e : s = t
    · simp [e]
    · simpa [e] using R.tr s
  so s hs := by
    by_cases e : s = t
    · subst e; exact .step (R.so h hh) hE
    · exact R.so s (by simpa [e] using hs)
  na := by
    by_cases e : name = t
    · simp [e]
    · simpa [e] using R.na
  st s hs := by
    by_cases e : s = t
    · simp [e]
    · rcases List.mem_append.1 hs with h' | h'
      · simpa [e] using R.st s h'
      · exact absurd (List.mem_singleton.1 h') e
  cl x y hxy hx := by
    by_cases e : x = t
    · subst e; exact .inr (.inl (by simp))
    · have hx' : G x ≠ none := by simpa [e] using hx
      rcases R.cl x y hxy hx' with h' | h' | h'
      · exact .inl h'
      · exact .inr (.inl (List.mem_append_left _ h'))
      · right; right
        by_cases ey : y = t
        · simp [ey]
        · simpa [ey] using h'
theorem RI.done {E : List Pr} {name h : ByteArray} {S : List ByteArray} {G : ByteArray → Option Value} (R : RI E name (· = h) S G) (hd : ∀ y, (h, y) ∈ E → G y ≠ none) : RI E name (fun _ => False) S G where
  tr := R.tr
  so := R.so
  na := R.na
  st := R.st
  cl x y hxy hx := by
    rcases R.cl x y hxy hx with h' | h' | h'
    · subst h'; exact .inr (.inr (hd y hxy))
    · exact .inr (.inl h')
    · exact .inr (.inr h')
theorem RI.end_ {E : List Pr} {name : ByteArray} {G : ByteArray → Option Value} (R : RI E name (fun _ => False) [] G) : ∀ s, (G s = some (.bool true) ∧ Reach E name s) ∨ (G s = none ∧ ¬ Reach E name s) := by
  intro s
  rcases R.tr s with h | h
  · refine .inr ⟨h, fun hr => ?_⟩
    have := hr.closed (S := fun x => G x ≠ none) R.na (fun x y hxy hx => by
      rcases R.cl x y hxy hx with h' | h' | h'
      · exact h'.elim
      · cases h'
      · exact h')
    exact this h
  · exact .inl ⟨h, R.so s (by rw [h]; simp)⟩

/-- what reach leaves: the map of what is reached -/
def ReachMap (w : World) (E : List Pr) (name : ByteArray) (e : Ending) (w' : World) : Prop :=
  Below w.heap.size w w' ∧ ∃ b n G, e = .returned (.map (some b)) ∧ w.heap.size ≤ b ∧ MapV w' b n G ∧ ∀ s, (G s = some (.bool true) ∧ Reach E name s) ∨ (G s = none ∧ ¬ Reach E name s)
theorem zeroBool (w : World) : (zeroValue 4).run Tryd.prog w = .ok (.bool false) w := by kernel_rfl
theorem Tryd.infoStr : (Tryd.prog.info? 9).map (fun i => (i.zero, i.size, i.bytes)) = some (some (.string ⟨#[]⟩), 1, 16) := by kernel_rfl
theorem own_last {w : World} {base : Nat} {e : TypeId} {v : Value} {m : Nat} {xs : List Value} (h : w.ownsRow base e 1 v (m + 1) xs) :
    ∃ g cap, v = .slice (some ⟨g, 0, none⟩) (m + 1) cap ∧ base ≤ g ∧ g < w.heap.size ∧ m + 1 ≤ cap ∧ cap ≤ maxLen ∧ ∀ j u, xs[j]? = some u → w.cell? ⟨g, j, none⟩ = some u := by
  obtain ⟨h1, ⟨_, h0⟩ | ⟨g, cap, cur, hv, hg, hh, hn, hc, hs, ht⟩⟩ := h
  · omega
  · refine ⟨g, cap, hv, hg, (Array.getElem?_eq_some_iff.1 hh).1, hn, hc, fun j u hj => ?_⟩
    rw [cell_of_row w g j _ _ (0, 0) hh]
    rw [← ht] at hj
    have hj' := (List.getElem?_eq_some_iff.1 hj).1
    rw [List.length_take] at hj'
    rw [List.getElem?_take, if_pos (by omega)] at hj
    simpa using hj
theorem own_one (w : World) (x : Value) (e : TypeId) : (w.alloc (.cells #[x] e)).ownsRow w.heap.size e 1 (.slice (some ⟨w.heap.size, 0, none⟩) 1 1) 1 [x] := by
  refine ⟨rfl, .inr ⟨w.heap.size, 1, #[x], rfl, Nat.le_refl _, ?_, Nat.le_refl _, by decide, rfl, rfl⟩⟩
  exact heap_alloc_new w _

theorem nil_or_snoc {α : Type} (l : List α) : l = [] ∨ ∃ r x, l = r ++ [x] := by
  rcases List.eq_nil_or_concat l with h | ⟨r, x, h⟩
  · exact .inl h
  · exact .inr ⟨r, x, by rw [h, List.concat_eq_append]⟩
theorem own_base {w : World} {base base' : Nat} {e : TypeId} {size n : Nat} {v : Value} {xs : List Value} (h : w.ownsRow base e size v n xs) (hb : base' ≤ base) : w.ownsRow base' e size v n xs := by
  obtain ⟨h1, h2⟩ := h
  refine ⟨h1, ?_⟩
  rcases h2 with h2 | ⟨g, cap, cur, a, b, c⟩
  · exact .inl h2
  · exact .inr ⟨g, cap, cur, a, by omega, c⟩
theorem own_form {w : World} {base : Nat} {e : TypeId} {size n : Nat} {v : Value} {xs : List Value} (h : w.ownsRow base e size v n xs) : ∃ a cap, v = .slice a n cap := by
  obtain ⟨h1, ⟨h2, h3⟩ | ⟨g, cap, cur, a, b, c⟩⟩ := h
  · exact ⟨none, 0, by rw [h2, h3]⟩
  · exact ⟨_, cap, a⟩
theorem own_cells {w : World} {base : Nat} {e : TypeId} {size n : Nat} {v : Value} {xs : List Value} (h : w.ownsRow base e size v n xs) : v.ownBlock = none ∨ ∃ g cs t fr, v.ownBlock = some g ∧ w.heap[g]? = some (.cells cs t fr) := by
  obtain ⟨h1, ⟨h2, h3⟩ | ⟨g, cap, cur, a, b, c, _⟩⟩ := h
  · exact .inl (by rw [h2]; rfl)
  · exact .inr ⟨g, _, _, _, by rw [a]; rfl, c⟩
theorem own_ne {w : World} {base : Nat} {e : TypeId} {size n : Nat} {v : Value} {xs : List Value} (h : w.ownsRow base e size v n xs) {b : Nat} {o : Obj} (hb : w.heap[b]? = some o) (ho : ∀ cs t fr, o ≠ .cells cs t fr) : v.ownBlock = none ∨ v.ownBlock ≠ some b := by
  rcases own_cells h with h' | ⟨g, cs, t, fr, h1, h2⟩
  · exact .inl h'
  · refine .inr fun e' => ?_
    rw [h1] at e'
    cases e'
    rw [hb] at h2
    exact ho _ _ _ (Option.some.inj h2)
theorem own_ne_map {w : World} {base : Nat} {e : TypeId} {size n : Nat} {v : Value} {xs : List Value} (h : w.ownsRow base e size v n xs) {b m : Nat} {f : ByteArray → Option Value} (hm : MapV w b m f) : v.ownBlock = none ∨ v.ownBlock ≠ some b := by
  obtain ⟨es, c, hb⟩ := hm.block
  exact own_ne h hb (fun _ _ _ h => by cases h)
theorem own_ne_owns {w : World} {base : Nat} {e : TypeId} {size n : Nat} {v : Value} {xs : List Value} (h : w.ownsRow base e size v n xs) {b m : Nat} {D : DataW Value} {k : TypeId} (hm : w.ownsMap Tryd.prog k hR b m D) : v.ownBlock = none ∨ v.ownBlock ≠ some b := by
  obtain ⟨es, c, hb, _⟩ := hm
  exact own_ne h hb (fun _ _ _ h => by cases h)
theorem own_ne_iter {w : World} {base : Nat} {e : TypeId} {size n : Nat} {v : Value} {xs : List Value} (h : w.ownsRow base e size v n xs) {b r m cnt : Nat} {D : DataW Value} {k : TypeId} {lf : Lit → Bool} (hm : w.ranges Tryd.prog k hR b r m D lf cnt) : v.ownBlock = none ∨ v.ownBlock ≠ some r := by
  obtain ⟨es, clock, since, seen, c0, _, _, _, _, hb, _⟩ := hm
  exact own_ne h hb (fun _ _ _ h => by cases h)
theorem ne_of_own {v : Value} {b : Nat} (h : v.ownBlock = none ∨ v.ownBlock ≠ some b) : some b ≠ v.ownBlock := fun e => by
  rcases h with h' | h'
  · rw [h'] at e; cases e
  · exact h' e.symm
/-- the stack, what is found, and the bounds -/
structure Stk (E : List Pr) (name : ByteArray) (H : ByteArray → Prop) (S : List ByteArray) (G : ByteArray → Option Value) (m : Nat) : Prop where
  ri : RI E name H S G
  sz : ∀ s ∈ S, s.size ≤ maxLen
  num : m + unf E name G ≤ E.length + 2
  len : 2 * unf E name G + S.length ≤ 2 * E.length + 3
theorem Stk.start (E : List Pr) (name : ByteArray) (hn : name.size ≤ maxLen) : Stk E name (fun _ => False) [name] (fun x => if x = name then some (.bool true) else none) 1 where
  ri := .start E name
  sz s hs := by simp at hs; subst hs; exact hn
  num := by have := unf_le E name (fun x => if x = name then some (.bool true) else none); omega
  len := by have := unf_le E name (fun x => if x = name then some (.bool true) else none); simp; omega

/-- the inner loop: what its blocks are at the start (S0, G) and now (S, G'), lf: what is still to come -/
def Inr (E : List Pr) (name h : ByteArray) (S0 S : List ByteArray) (G G' : ByteArray → Option Value) (lf : Lit → Bool) : Prop :=
  G' h ≠ none ∧ 2 * unf E name G' + S.length ≤ 2 * unf E name G + S0.length ∧ ∀ y, (h, y) ∈ E → lf (kS y) = false → G' y ≠ none
theorem key_string {key : Value} {kl : Lit} (h : keyOf Tryd.prog 9 key = some kl) : ∃ s, key = .string s := by
  cases key <;> simp [keyOf, Tryd.underlying9, mapKey] at h
  exact ⟨_, rfl⟩
theorem key_string' {s : ByteArray} {kl : Lit} (h : keyOf Tryd.prog 9 (.string s) = some kl) : s.size ≤ maxLen ∧ kl = kS s := by
  simp [keyOf, Tryd.underlying9, mapKey] at h
  exact ⟨h.1, h.2.symm⟩

set_option maxRecDepth 100000 in
set_option maxHeartbeats 3200000 in
theorem reach_any (w : World) (lo : Nat) (fp : List Nat) (E : List Pr) (F : ByteArray → Option Value) (name : ByteArray) (hL : Links w lo fp E F) (hfp : ∀ k ∈ fp, k < w.heap.size) (hn : name.size ≤ 1048576) (hE : E.length ≤ 1000) :
    Calls Tryd.prog 75 #[.map (some lo), .string name] w (ReachMap w E name) := by
  have hmm := @run_makeMap Tryd.prog
  obtain ⟨w1, hins, hm1, hg1, hs1⟩ := (MapV.made w).put (t := 129) (e := 4) Tryd.underlying129 (mxl (by omega)) (mx hn) (.bool true)
  obtain ⟨i0, hi, hz0, hz1, hz2⟩ := info_parts Tryd.infoStr
  go_enter Tryd.func75, Tryd.ntmps75
  go_wp2
  have hB1 : Below w.heap.size w w1 := ((Below.refl _ _).alloc (Nat.le_refl _) _).grown hg1 (by simp) (fun j hj => by cases hj; exact Nat.le_refl _)
  have hst : (w1.alloc (.cells #[.string name] 9)).ownsRow w.heap.size 9 1 (.slice (some ⟨w.heap.size + 1, 0, none⟩) 1 1) 1 [.string name] := by
    have h1 := own_one w1 (.string name) 9
    rw [hs1] at h1
    exact own_base (by simpa using h1) (by omega)
  have hmA := hm1.alloc (.cells #[.string name] 9)
  have hbA : Below w.heap.size w (w1.alloc (.cells #[.string name] 9)) := hB1.alloc hB1.size _
  have hu0 := unf_le E name (fun x => if x = name then some (.bool true) else none)
  clear hins hm1 hg1
  generalize w1.alloc (.cells #[.string name] 9) = wA at *
  have HL := Lib.hid (And.intro hL hfp); clear hL hfp
  have Hu0 := Lib.hid hu0; clear hu0
  go_loopg [6] (2 * unf E name (fun x => if x = name then some (.bool true) else none) + 1) (fun n v wr => ∃ (S : List ByteArray) (G : ByteArray → Option Value) (m : Nat), wr.ownsRow w.heap.size 9 1 v S.length (S.map Value.string) ∧ MapV wr w.heap.size m G ∧ Stk E name (fun _ => False) S G m ∧ n = 2 * unf E name G + S.length ∧ Below w.heap.size w wr)
  case atStart => exact ⟨[name], _, 1, hst, hmA, Stk.start E name (mx hn), rfl, hbA⟩
  case round =>
    obtain ⟨S, G, m, hown, hm, hS, hgk, hbl⟩ := hrel
    have HS := Lib.hid hS; clear hS
    have Hgk := Lib.hid hgk; clear hgk
    have hsz := hbl.size
    have hmlt := hm.lt
    rcases nil_or_snoc S with rfl | ⟨S0, h, rfl⟩
    · obtain ⟨a0, cap0, rfl⟩ := own_form hown
      clear hown
      go_wp2
      refine bodyPost_ret (v := .map (some w.heap.size)) (by simp [results, go_sem]) rfl ?_
      exact ⟨hbl, _, _, G, rfl, Nat.le_refl _, hm, HS.out.ri.end_⟩
    · have hown' : wr.ownsRow w.heap.size 9 1 u6 (S0.length + 1) (S0.map Value.string ++ [.string h]) := by simpa using hown
      obtain ⟨g, cap, rfl, hg, hgw, hcap, hcm, hcells⟩ := own_last hown'
      have hlast := hcells S0.length (.string h) (by simp)
      have hpop := ownsRow_pop (xs := S0.map Value.string) (by simp) hown'
      have hsl : S0.length ≤ 4000 := by have := HS.out.len; simp at this; omega
      clear hown hown' hcells
      have hh := HS.out.sz h (by simp)
      have HH := Lib.hid hh
      have hLr : Links wr lo fp E F := HL.out.1.turns (S := fun k => w.heap.size ≤ k) ⟨hbl.os, hbl.tape, hbl.output, hbl.size, fun k hk _ => hbl.block k hk⟩ HL.out.1.map.lt HL.out.2 (fun k hk => by rcases hk with rfl | hk; (have := HL.out.1.map.lt; omega); (have := HL.out.2 k hk; omega))
      have lk := hLr.map.look Tryd.underlying56 (zeroMap wr) hh
      clear hh
      cases hFh : F h with
      | none =>
        rw [hFh] at lk
        simp only [Option.getD_none] at lk
        have HF := Lib.hid hFh; clear hFh
        have hrg := run_range_nilMap (P := Tryd.prog) wr 60 9 3 Tryd.underlying60
        have hnx : ∀ ty, (Instr.next (.pointer (some ⟨wr.heap.size, 0, none⟩)) false ty).run Tryd.prog (wr.alloc (.mapIter none 0 #[] 0)) = _ := fun ty => run_next_nilMap wr ty 0 0 #[]
        go_wp2
        refine wp_loop_rounds 1 ?_
        rw [rounds_succ]
        go_wp2
        go_roundg (2 * unf E name G + S0.length)
        case measure => rw [Hgk.out]; simp
        case rel =>
          have hR : RI E name (fun _ => False) S0 G := HS.out.ri.pop.done (fun y hy => absurd hy (HL.out.1.none_ h HF.out y))
          exact ⟨S0, G, m, hpop.alloc _, hm.alloc _, ⟨hR, fun s hs => HS.out.sz s (List.mem_append_left _ hs), HS.out.num, by have := HS.out.len; simp at this; omega⟩, rfl, hbl.alloc hsz _⟩
      | some v =>
        obtain ⟨bi, rfl, hbi, hmi, _⟩ := hLr.some_ h v hFh
        rw [hFh] at lk
        simp only [Option.getD_some] at lk
        have hbiw := HL.out.2 bi hbi
        obtain ⟨D, hown, hD⟩ := hmi
        have hD' := Lib.hid hD; clear hD
        have Hbi := Lib.hid hbi; clear hbi
        clear hFh hLr
        go_wp2_with (first
          | (at_range; refine wpList_range_own _ rfl _ 60 rfl 9 3 keyed Tryd.underlying60 hR bi E.length D rfl hown ?_; intro w0 hrg0 hg0 hs0)
          | go_in)
        go_frame
        have hmr := hm.kept hg0 (by simp)
        have hpr := hpop.kept hg0 (.inr (by simp [Value.ownBlock]))
        have hbr := hbl.grown hg0 hsz (fun j hj => by cases hj)
        have hst0 : Stk E name (· = h) S0 G m := ⟨HS.out.ri.pop, fun s hs => HS.out.sz s (List.mem_append_left _ hs), HS.out.num, by have := HS.out.len; simp at this; omega⟩
        have hGh : G h ≠ none := HS.out.ri.st h (by simp)
        obtain ⟨wo, rfl⟩ : ∃ wo : World, wo = wr := ⟨_, rfl⟩
        go_loopw [6] (fun v wr => ∃ (S : List ByteArray) (G' : ByteArray → Option Value) (m : Nat) (lf : Lit → Bool) (cnt : Nat), wr.ownsRow w.heap.size 9 1 v S.length (S.map Value.string) ∧ MapV wr w.heap.size m G' ∧ Stk E name (· = h) S G' m ∧ wr.ranges Tryd.prog 9 hR bi wo.heap.size E.length D lf cnt ∧ Below w.heap.size w wr ∧ Inr E name h S0 S G G' lf)
          (fun _ wr => wr.rangeLeft bi wo.heap.size)
        case atStart =>
          refine ⟨S0, G, m, _, _, hpr, hmr, hst0, hrg0, hbr, hGh, Nat.le_refl _, fun y hy hl => ?_⟩
          rw [(hD'.out y).2] at hl
          rw [(inner_isSome E h y).2 hy] at hl
          cases hl
        case round =>
          obtain ⟨S, G', m', lf, cnt, hown2, hm2, hS2, hrg, hbl2, hI⟩ := hrel
          have HS2 := Lib.hid hS2; clear hS2
          have HI := Lib.hid hI; clear hI
          clear hst0 hGh hpr hmr
          go_wp2_with (first
            | (at_next; refine wpList_next_ranges _ rfl _ rfl 9 keyed hR Value.string (fun v : Value => v) (fun key kl hkey => key_string hkey) (fun v y _ => ⟨v, rfl⟩) bi wo.heap.size E.length _ _ _ rfl hrg ?_ ?_)
            | go_in)
          · intro _ hl0
            have Hl0 := Lib.hid hl0; clear hl0
            go_wp2
            go_roundg (2 * unf E name G' + S.length)
            case measure => have := HI.out.2.1; rw [Hgk.out]; simp; omega
            case rel => exact ⟨S, G', m', hown2, hm2, ⟨HS2.out.ri.done (fun y hy => HI.out.2.2 y hy (Hl0.out _)), HS2.out.sz, HS2.out.num, HS2.out.len⟩, rfl, hbl2⟩
          · intro x c kl y1 y2 w2 cnt2 hkey hlk hRc hat hrg2 hlt2 hgr2 hsz2 hen
            obtain ⟨hxs, rfl⟩ := key_string' hkey
            have hEx : (h, x) ∈ E := by
              have h1 := has_true_of_atKey hat
              rw [(hD'.out x).2] at h1
              exact (inner_isSome E h x).1 h1
            have HEx := Lib.hid hEx
            have HX := Lib.hid hxs
            have hm3 := hm2.kept hgr2 (by simp; omega)
            have lk2 := hm3.look Tryd.underlying129 (zeroBool w2) hxs
            have hown3 := hown2.kept hgr2 (own_ne_iter hown2 hrg)
            have hbl3 := hbl2.grown hgr2 hbl2.size (fun j hj => by cases hj; exact hsz)
            have hI3 : ∀ (S' : List ByteArray) (G2 : ByteArray → Option Value), G2 h ≠ none → 2 * unf E name G2 + S'.length ≤ 2 * unf E name G + S0.length → G2 x ≠ none → (∀ y, G' y ≠ none → G2 y ≠ none) → Inr E name h S0 S' G G2 (fun z => lf z && !z.sameKey (kS x)) := by
              intro S' G2 a1 a2 a3 a4
              refine ⟨a1, a2, fun y hy hl => ?_⟩
              cases hl' : lf (kS y)
              · exact a4 y (HI.out.2.2 y hy hl')
              · have hl2 : (lf (kS y) && !(kS y).sameKey (kS x)) = false := hl
                rw [hl'] at hl2
                have hk : kS y = kS x := WideAt.sameKey_eq (by simpa using hl2)
                rw [kS_inj.1 hk]; exact a3
            have HI3 := Lib.hid hI3; clear hI3
            have hrw2 : wo.heap.size < w2.heap.size := hrg2.lt
            clear hat hRc hEx hxs hkey hlk hm2 hown2 hbl2 hsz2
            rcases HS2.out.ri.tr x with hG | hG
            · rw [hG] at lk2
              simp only [Option.getD_none] at lk2
              have HG := Lib.hid hG; clear hG
              have hput : unf E name (fun z => if z = x then some (.bool true) else G' z) + 1 ≤ unf E name G' := unf_put (E := E) (name := name) (List.mem_cons_of_mem _ (List.mem_map.2 ⟨_, HEx.out, rfl⟩)) HG.out (.bool true)
              have Hput := Lib.hid hput; clear hput
              have hmE : m' ≤ 1048576 := by have := HS2.out.num; omega
              have hSl : S.length ≤ 4000 := by have := HS2.out.len; omega
              have hwsz := hbl3.size
              go_wp2_with (first
                | (at_mapUpdate; refine wpList_putV _ rfl _ _ _ 129 rfl 4 Tryd.underlying129 w.heap.size m' G' rfl hm3 (mxl hmE) x rfl HX.out (.bool true) rfl ?_; intro w3 hm4 hg4 hs4; clear hs4)
                | (at_builtin; refine wpList_append_own _ rfl _ _ 59 rfl w.heap.size 9 i0 (.string ⟨#[]⟩) 1 16 Tryd.underlying59 hi hz0 hz1 hz2 rfl (by decide) _ _ _ rfl ((hown3.kept hg4 (own_ne_map hown3 hm3)).alloc _) ⟨w3.heap.size, 0, none⟩ 1 1 [.string x] rfl rfl (cell_one_new _ _ _) (one_one _ rfl) (by unfold maxLen; omega) (by omega) (by have := hg4.size; simp; omega) ?_; intro v' w4 hown5 hg5 _))
              have hown4 := hown3.kept hg4 (own_ne_map hown3 hm3)
              have hownx := hown4.alloc (.cells #[.string x] 9)
              have hmx := hm4.alloc (.cells #[.string x] 9)
              have hm5 := hmx.kept hg5 (ne_of_own (own_ne_map hownx hmx))
              have hrg4 := (hrg2.kept hg4 (by simp; omega) (by simp; omega)).alloc (.cells #[.string x] 9)
              have hrg5 := hrg4.kept hg5 (ne_of_own (own_ne_owns hownx hrg4.owns)) (ne_of_own (own_ne_iter hownx hrg4))
              have hb4 := hbl3.grown hg4 hbl3.size (fun j hj => by cases hj; exact Nat.le_refl _)
              have hb5 : Below w.heap.size w w4 := (hb4.alloc hb4.size (.cells #[.string x] 9)).grown hg5 (by have := hb4.size; simp; omega) (fun j hj => (hown4.lt j hj).1)
              have hSt : Stk E name (· = h) (S ++ [x]) (fun z => if z = x then some (.bool true) else G' z) (m' + 1) := by
                refine ⟨HS2.out.ri.push HI.out.1 HEx.out, fun s hs => ?_, by have := HS2.out.num; have := Hput.out; omega, by have := HS2.out.len; have := Hput.out; simp; omega⟩
                rcases List.mem_append.1 hs with h' | h'
                · exact HS2.out.sz s h'
                · rw [List.mem_singleton.1 h']; exact HX.out
              have hI5 := HI3.out (S ++ [x]) (fun z => if z = x then some (.bool true) else G' z) (by by_cases e : h = x <;> simp [e]; exact HI.out.1) (by have := HI.out.2.1; have := Hput.out; simp; omega) (by simp) (fun y hy => by by_cases e : y = x <;> simp [e, hy])
              go_roundw
              case rel => exact ⟨S ++ [x], _, m' + 1, _, cnt2, by simpa using hown5, hm5, hSt, hrg5, hb5, hI5⟩
              case measure => rw [hrg5.left_eq, hrg.left_eq]; exact hlt2
            · rw [hG] at lk2
              simp only [Option.getD_some] at lk2
              have hI5 := HI3.out S G' HI.out.1 HI.out.2.1 (by rw [hG]; simp) (fun y hy => hy)
              have HI5 := Lib.hid hI5; clear hI5 hG
              go_wp2
              go_roundw
              case rel => exact ⟨S, G', m', _, cnt2, hown3, hm3, HS2.out, hrg2, hbl3, HI5.out⟩
              case measure => rw [hrg2.left_eq, hrg.left_eq]; exact hlt2
end Go.Proofs.YtfmhcjhcmoniaaaDoor
