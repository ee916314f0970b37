/-
  Plain mathematics of chapter 2: along how many edges one comes from a name to each other one, at least, and the search that finds it. Conditions: none.
-/
import Derived.Test.YtfmhcjhcmoniaaaDoorReach
namespace Go.Proofs.YtfmhcjhcmoniaaaDoor
open Go.RowKit Go.Maps

/-- one comes from a to a name along so many edges -/
inductive Wk (E : List Pr) (a : ByteArray) : Nat → ByteArray → Prop
  | nil : Wk E a 0 a
  | snoc {k : Nat} {b c : ByteArray} : Wk E a k b → (b, c) ∈ E → Wk E a (k + 1) c
def dV (o : Option Nat) : Option Value := o.map fun k => .int .i64 (k : Int)
theorem dV_none {o : Option Nat} : dV o = none ↔ o = none := by cases o <;> simp [dV]
/-- D holds the least numbers -/
def Far (E : List Pr) (a : ByteArray) (D : ByteArray → Option Nat) : Prop :=
  ∀ s, (∀ k, D s = some k → Wk E a k s ∧ ∀ j, Wk E a j s → k ≤ j) ∧ (D s = none → ∀ j, ¬ Wk E a j s)

/-- between two rounds of the search; H: the block whose edges are being looked at, if any -/
structure DI (E : List Pr) (name : ByteArray) (H : ByteArray → Prop) (S : List ByteArray) (D : ByteArray → Option Nat) : Prop where
  so : ∀ s k, D s = some k → Wk E name k s
  na : D name = some 0
  st : ∀ s ∈ S, D s ≠ none
  sd : S.Pairwise fun a b => ∀ i j, D a = some i → D b = some j → i ≤ j
  top : ∀ s ∈ S, ∀ y i j, D s = some i → D y = some j → j ≤ i + 1
  hd : ∀ h, H h → D h ≠ none ∧ (∀ s ∈ S, ∀ i j, D h = some i → D s = some j → i ≤ j) ∧ ∀ y i j, D h = some i → D y = some j → j ≤ i + 1
  cl : ∀ x y, (x, y) ∈ E → D x ≠ none → H x ∨ x ∈ S ∨ ∃ i j, D x = some i ∧ D y = some j ∧ j ≤ i + 1
def putD (D : ByteArray → Option Nat) (t : ByteArray) (k : Nat) : ByteArray → Option Nat := fun x => if x = t then some k else D x
theorem putD_same (D : ByteArray → Option Nat) (t : ByteArray) (k : Nat) : putD D t k t = some k := by simp [putD]
theorem putD_other {D : ByteArray → Option Nat} {t x : ByteArray} (k : Nat) (h : x ≠ t) : putD D t k x = D x := by simp [putD, h]
theorem dV_putD (D : ByteArray → Option Nat) (t : ByteArray) (k : Nat) : (fun x => dV (putD D t k x)) = fun x => if x = t then some (.int .i64 (k : Int)) else dV (D x) := by
  funext x
  by_cases h : x = t <;> simp [putD, h, dV]
theorem DI.start (E : List Pr) (name : ByteArray) : DI E name (fun _ => False) [name] (putD (fun _ => none) name 0) where
  so s k h := by
    by_cases e : s = name
    · subst e; rw [putD_same] at h; cases h; exact .nil
    · rw [putD_other _ e] at h; cases h
  na := putD_same _ _ _
  st s h := by rw [List.mem_singleton.1 h, putD_same]; simp
  sd := by simp
  top s hs y i j h1 h2 := by
    by_cases e : y = name
    · subst e; rw [putD_same] at h2; cases h2; omega
    · rw [putD_other _ e] at h2; cases h2
  hd h hh := hh.elim
  cl x y _ h := by
    by_cases e : x = name
    · right; left; simp [e]
    · rw [putD_other _ e] at h; exact absurd rfl h
theorem DI.pop {E : List Pr} {name h : ByteArray} {S : List ByteArray} {D : ByteArray → Option Nat} (R : DI E name (fun _ => False) (h :: S) D) : DI E name (· = h) S D where
  so := R.so
  na := R.na
  st s hs := R.st s (List.mem_cons_of_mem _ hs)
  sd := (List.pairwise_cons.1 R.sd).2
  top s hs := R.top s (List.mem_cons_of_mem _ hs)
  hd x hx := by
    have hx' : x = h := hx
    rw [hx']
    exact ⟨R.st h (List.mem_cons_self ..), fun s hs i j => (List.pairwise_cons.1 R.sd).1 s hs i j, fun y i j => R.top h (List.mem_cons_self ..) y i j⟩
  cl x y hxy hx := by
    rcases R.cl x y hxy hx with h' | h' | h'
    · exact h'.elim
    · rcases List.mem_cons.1 h' with h' | h'
      · exact .inl h'
      · exact .inr (.inl h')
    · exact .inr (.inr h')
theorem DI.push {E : List Pr} {name h t : ByteArray} {S : List ByteArray} {D : ByteArray → Option Nat} {k : Nat} (R : DI E name (· = h) S D) (hh : D h = some k) (hE : (h, t) ∈ E) (hn : D t = none) :
    DI E name (· = h) (S ++ [t]) (putD D t (k + 1)) := by
  obtain ⟨_, r2, r3⟩ := R.hd h rfl
  have hht : h ≠ t := fun e => by rw [e, hn] at hh; cases hh
  have hne : ∀ s ∈ S, s ≠ t := fun s hs e => R.st s hs (by rw [e]; exact hn)
  refine ⟨fun s i hs => ?_, ?_, fun s hs => ?_, ?_, fun s hs y i j h1 h2 => ?_, fun x hx => ?_, fun x y hxy hx => ?_⟩
  · by_cases e : s = t
    · subst e; rw [putD_same] at hs; cases hs; exact .snoc (R.so h k hh) hE
    · rw [putD_other _ e] at hs; exact R.so s i hs
  · have e : name ≠ t := fun e => by have := R.na; rw [e, hn] at this; cases this
    rw [putD_other _ e]; exact R.na
  · rcases List.mem_append.1 hs with h' | h'
    · rw [putD_other _ (hne s h')]; exact R.st s h'
    · rw [List.mem_singleton.1 h', putD_same]; simp
  · rw [List.pairwise_append]
    refine ⟨R.sd.imp_of_mem fun ha hb hab i j => ?_, by simp, fun a ha b hb i j h1 h2 => ?_⟩
    · rw [putD_other _ (hne _ ha), putD_other _ (hne _ hb)]; exact hab i j
    · rw [List.mem_singleton.1 hb, putD_same] at h2
      rw [putD_other _ (hne a ha)] at h1
      cases h2
      exact r3 a k i hh h1
  · rcases List.mem_append.1 hs with h' | h'
    · rw [putD_other _ (hne s h')] at h1
      by_cases e : y = t
      · subst e; rw [putD_same] at h2; cases h2
        have := r2 s h' k i hh h1
        omega
      · rw [putD_other _ e] at h2; exact R.top s h' y i j h1 h2
    · rw [List.mem_singleton.1 h', putD_same] at h1
      cases h1
      by_cases e : y = t
      · subst e; rw [putD_same] at h2; cases h2; omega
      · rw [putD_other _ e] at h2
        have := r3 y k j hh h2
        omega
  · have hx' : x = h := hx
    rw [hx', putD_other _ hht]
    refine ⟨by rw [hh]; simp, fun s hs i j h1 h2 => ?_, fun y i j h1 h2 => ?_⟩
    · rw [hh] at h1; cases h1
      rcases List.mem_append.1 hs with h' | h'
      · rw [putD_other _ (hne s h')] at h2; exact r2 s h' k j hh h2
      · rw [List.mem_singleton.1 h', putD_same] at h2; cases h2; omega
    · rw [hh] at h1; cases h1
      by_cases e : y = t
      · subst e; rw [putD_same] at h2; cases h2; omega
      · rw [putD_other _ e] at h2; exact r3 y k j hh h2
  · by_cases e : x = t
    · exact .inr (.inl (by simp [e]))
    · rw [putD_other _ e] at hx ⊢
      rcases R.cl x y hxy hx with h' | h' | ⟨i, j, h1, h2, h3⟩
      · exact .inl h'
      · exact .inr (.inl (List.mem_append_left _ h'))
      · refine .inr (.inr ⟨i, j, h1, ?_, h3⟩)
        rw [putD_other _ (fun e' => by rw [e', hn] at h2; cases h2)]
        exact h2
theorem DI.done {E : List Pr} {name h : ByteArray} {S : List ByteArray} {D : ByteArray → Option Nat} (R : DI E name (· = h) S D) (hd : ∀ y, (h, y) ∈ E → D y ≠ none) : DI E name (fun _ => False) S D where
  so := R.so
  na := R.na
  st := R.st
  sd := R.sd
  top := R.top
  hd _ hh := hh.elim
  cl x y hxy hx := by
    rcases R.cl x y hxy hx with h' | h' | h'
    · subst h'
      refine .inr (.inr ?_)
      cases hi : D x with
      | none => exact absurd hi hx
      | some i =>
        cases hj : D y with
        | none => exact absurd hj (hd y hxy)
        | some j => exact ⟨i, j, rfl, rfl, (R.hd x rfl).2.2 y i j hi hj⟩
    · exact .inr (.inl h')
    · exact .inr (.inr h')
theorem DI.end_ {E : List Pr} {name : ByteArray} {D : ByteArray → Option Nat} (R : DI E name (fun _ => False) [] D) : Far E name D := by
  have key : ∀ j s, Wk E name j s → ∃ k, D s = some k ∧ k ≤ j := by
    intro j s h
    induction h with
    | nil => exact ⟨0, R.na, Nat.le_refl _⟩
    | @snoc j b c _ hm ih =>
      obtain ⟨k, hk, hle⟩ := ih
      rcases R.cl b c hm (by rw [hk]; simp) with h' | h' | ⟨i, m, h1, h2, h3⟩
      · exact h'.elim
      · cases h'
      · rw [hk] at h1; cases h1
        exact ⟨m, h2, by omega⟩
  intro s
  refine ⟨fun k hk => ⟨R.so s k hk, fun j hj => ?_⟩, fun hn j hj => ?_⟩
  · obtain ⟨k', h1, h2⟩ := key j s hj
    rw [hk] at h1; cases h1
    exact h2
  · obtain ⟨k', h1, _⟩ := key j s hj
    rw [hn] at h1; cases h1
theorem wk_reach {E : List Pr} {a s : ByteArray} : Reach E a s ↔ ∃ k, Wk E a k s := by
  constructor
  · intro h
    induction h with
    | refl => exact ⟨0, .nil⟩
    | step _ hm ih => obtain ⟨k, hk⟩ := ih; exact ⟨k + 1, .snoc hk hm⟩
  · rintro ⟨k, h⟩
    induction h with
    | nil => exact .refl
    | snoc _ hm ih => exact .step ih hm
theorem Far.reach {E : List Pr} {a s : ByteArray} {D : ByteArray → Option Nat} (h : Far E a D) (hr : Reach E a s) : ∃ k, D s = some k := by
  obtain ⟨j, hj⟩ := wk_reach.1 hr
  cases hd : D s with
  | none => exact absurd hj ((h s).2 hd j)
  | some k => exact ⟨k, rfl⟩

/-- a row that is taken from at its front: xs lies in a block of one's own, from some place on -/
def OffRow (w : World) (base : Nat) (e : TypeId) (v : Value) (xs : List Value) : Prop :=
  ∃ g off cap cur, v = .slice (some ⟨g, off, none⟩) xs.length cap ∧ base ≤ g ∧ w.heap[g]? = some (.cells cur e (0, 0)) ∧ xs.length ≤ cap ∧ off + cap ≤ cur.size ∧ (cur.toList.drop off).take xs.length = xs
section
variable {w w' : World} {base : Nat} {e : TypeId} {v : Value} {xs : List Value}
theorem OffRow.one (w : World) (x : Value) (e : TypeId) (hb : base ≤ w.heap.size) : OffRow (w.alloc (.cells #[x] e)) base e (.slice (some ⟨w.heap.size, 0, none⟩) 1 1) [x] :=
  ⟨w.heap.size, 0, 1, #[x], rfl, hb, heap_alloc_new w _, Nat.le_refl _, Nat.le_refl _, rfl⟩
theorem OffRow.lt (h : OffRow w base e v xs) : ∀ k, v.ownBlock = some k → base ≤ k ∧ k < w.heap.size := by
  obtain ⟨g, off, cap, cur, rfl, hb, hg, _⟩ := h
  intro k hk
  simp [Value.ownBlock] at hk
  subst hk
  exact ⟨hb, (Array.getElem?_eq_some_iff.1 hg).1⟩
theorem OffRow.kept {row : Option Nat} (h : OffRow w base e v xs) (hg : w.grownBy w' row) (hne : v.ownBlock = none ∨ v.ownBlock ≠ row) : OffRow w' base e v xs := by
  obtain ⟨g, off, cap, cur, rfl, hb, hgg, rest⟩ := h
  refine ⟨g, off, cap, cur, rfl, hb, ?_, rest⟩
  rw [hg.block g (Array.getElem?_eq_some_iff.1 hgg).1 (by simpa [Value.ownBlock] using hne)]
  exact hgg
theorem OffRow.alloc (h : OffRow w base e v xs) (o : Obj) : OffRow (w.alloc o) base e v xs :=
  h.kept (World.grownBy_alloc w o none) (by cases hv : v.ownBlock <;> simp)
theorem OffRow.ne (h : OffRow w base e v xs) {b : Nat} {o : Obj} (hb : w.heap[b]? = some o) (ho : ∀ cs t fr, o ≠ .cells cs t fr) : v.ownBlock = none ∨ v.ownBlock ≠ some b := by
  obtain ⟨g, off, cap, cur, rfl, _, hg, _⟩ := h
  refine .inr fun e' => ?_
  simp [Value.ownBlock] at e'
  subst e'
  rw [hb] at hg
  exact ho _ _ _ (Option.some.inj hg)
theorem OffRow.ne_map (h : OffRow w base e v xs) {b m : Nat} {f : ByteArray → Option Value} (hm : MapV w b m f) : v.ownBlock = none ∨ v.ownBlock ≠ some b := by
  obtain ⟨es, c, hb⟩ := hm.block
  exact h.ne hb (fun _ _ _ h => by cases h)
theorem OffRow.ne_owns (h : OffRow w base e v xs) {b m : Nat} {D : DataW Value} {k : TypeId} (hm : w.ownsMap Tryd.prog k hR b m D) : v.ownBlock = none ∨ v.ownBlock ≠ some b := by
  obtain ⟨es, c, hb, _⟩ := hm
  exact h.ne hb (fun _ _ _ h => by cases h)
theorem OffRow.ne_iter (h : OffRow w base e v xs) {b r m cnt : Nat} {D : DataW Value} {k : TypeId} {lf : Lit → Bool} (hm : w.ranges Tryd.prog k hR b r m D lf cnt) : v.ownBlock = none ∨ v.ownBlock ≠ some r := by
  obtain ⟨es, clock, since, seen, c0, _, _, _, _, hb, _⟩ := hm
  exact h.ne hb (fun _ _ _ h => by cases h)
theorem OffRow.form (h : OffRow w base e v xs) : ∃ g off cap, v = .slice (some ⟨g, off, none⟩) xs.length cap := by
  obtain ⟨g, off, cap, cur, rfl, _⟩ := h
  exact ⟨g, off, cap, rfl⟩
/-- what stands at the front, and the row behind it -/
theorem OffRow.front {x : Value} (h : OffRow w base e v (x :: xs)) : ∃ g off cap, v = .slice (some ⟨g, off, none⟩) (xs.length + 1) cap ∧ g < w.heap.size ∧ xs.length + 1 ≤ cap ∧ w.cell? ⟨g, off, none⟩ = some x ∧
    (cap = 1 → OffRow w base e (.slice (some ⟨g, off, none⟩) xs.length (cap - 1)) xs) ∧ OffRow w base e (.slice (some ⟨g, off + 1, none⟩) xs.length (cap - 1)) xs := by
  obtain ⟨g, off, cap, cur, rfl, hb, hg, hc, hs, ht⟩ := h
  simp only [List.length_cons] at hc ht ⊢
  have ht2 : (cur.toList.drop (off + 1)).take xs.length = xs := by
    apply List.ext_getElem?
    intro j
    have hx := congrArg (fun l => l[j + 1]?) ht
    simp only [List.getElem?_cons_succ, List.getElem?_take, List.getElem?_drop] at hx
    rw [← hx, List.getElem?_take, List.getElem?_drop]
    by_cases hj : j < xs.length
    · rw [if_pos hj, if_pos (by omega)]; congr 1; omega
    · rw [if_neg hj, if_neg (by omega)]
  refine ⟨g, off, cap, rfl, (Array.getElem?_eq_some_iff.1 hg).1, hc, ?_, fun h1 => ?_, g, off + 1, cap - 1, cur, rfl, hb, hg, by omega, by omega, ht2⟩
  · rw [cell_of_row w g off _ _ (0, 0) hg]
    have h0 := congrArg (fun l => l[0]?) ht
    simp only [List.getElem?_cons_zero] at h0
    rw [List.getElem?_take, if_pos (by omega), List.getElem?_drop] at h0
    simpa using h0
  · have hx : xs = [] := List.eq_nil_of_length_eq_zero (by omega)
    subst hx
    exact ⟨g, off, cap - 1, cur, rfl, hb, hg, by simp, by omega, by simp⟩
theorem run_append_off (w : World) (base : Nat) (t ty e : TypeId) (i : TypeInfo) (z : Value) (bytes : Nat) (ht : Tryd.prog.underlying t = some (.slice e)) (hi : Tryd.prog.info? e = some i) (hz : i.zero = some z)
    (hsize : i.size = 1) (hby : i.bytes = bytes) (hzs : z.cells.size = 1) (v : Value) (xs : List Value) (hown : OffRow w base e v xs)
    (a : Addr) (c : Nat) (x : Value) (hnews : ∀ j u, [x][j]? = some u → w.cell? (a.add j) = some u) (h1 : ∀ u ∈ [x], u.oneCell' = true)
    (h63 : xs.length + 1 ≤ maxLen) (hbytes : (xs.length + 1) * bytes ≤ 140737488355328) (hbase : base ≤ w.heap.size) :
    ∃ v' w', (Builtin.append_ #[t, t] ty #[v, .slice (some a) 1 c]).run Tryd.prog w = .ok v' w' ∧ OffRow w' base e v' (xs ++ [x]) ∧ w.grownBy w' v.ownBlock := by
  obtain ⟨g, off, cap, cur, rfl, hb, hg, hc, hs, htk⟩ := hown
  subst hby
  have hf := run_firstCells_some (P := Tryd.prog) w i.size 1 a 1 c [x] (by simp [hsize]) hnews
  rw [hsize] at hf
  have hglt := (Array.getElem?_eq_some_iff.1 hg).1
  by_cases hroom : xs.length + 1 ≤ cap
  · have hst := run_storeCells_at Tryd.prog g (off + xs.length) e [x] 0 cur w hg (by simp; omega) h1
    simp only [Nat.add_zero] at hst
    refine ⟨.slice (some ⟨g, off, none⟩) (xs.length + 1) cap, w.setRow g (cur.toList.take (off + xs.length) ++ [x] ++ cur.toList.drop (off + xs.length + [x].length)).toArray, by simp [Builtin.append_, run_underlying ht, sizeOf, typeInfo, hi, Builtin.lenOf, hroom, hf, Addr.add_lit, hsize, hst], ⟨g, off, cap, _, by simp, hb, setRow_heap w g cur _ e _ hg, by simp; omega, ?_, ?_⟩, ⟨rfl, rfl, rfl, by simp, fun k _ hk => setRow_other w g k _ (fun e => hk (by simp [Value.ownBlock, e]))⟩⟩
    · simp only [List.size_toArray, List.length_append, List.length_take, List.length_drop, Array.length_toList, List.length_cons, List.length_nil]
      omega
    · apply List.ext_getElem?
      intro j
      have hx := fun (j : Nat) => congrArg (fun l : List Value => l[j]?) htk
      simp only [List.getElem?_take, List.getElem?_drop] at hx
      rw [List.getElem?_take, List.getElem?_drop, List.length_append, List.length_singleton]
      by_cases hj : j < xs.length
      · rw [if_pos (by omega), List.append_assoc, List.getElem?_append_left (by simp; omega), List.getElem?_take, if_pos (by omega), List.getElem?_append_left hj, ← hx j, if_pos hj]
      · by_cases hj2 : j = xs.length
        · subst hj2
          rw [if_pos (by omega), List.append_assoc, List.getElem?_append_right (by simp; omega), List.getElem?_append_right (Nat.le_refl _)]
          have e0 : off + xs.length - (List.take (off + xs.length) cur.toList).length = 0 := by simp; omega
          rw [e0]; simp
        · rw [if_neg (by omega), List.getElem?_eq_none (by simp; omega)]
  · have holds : ∀ j u, xs[j]? = some u → w.cell? ((⟨g, off, none⟩ : Addr).add j) = some u := fun j u hu => by
      have hj := (List.getElem?_eq_some_iff.1 hu).1
      have hx := congrArg (fun l : List Value => l[j]?) htk
      simp only [List.getElem?_take, List.getElem?_drop, if_pos hj] at hx
      rw [Addr.add_lit, cell_of_row w g (off + j) _ _ (0, 0) hg]
      rw [← hx] at hu
      simpa using hu
    have hr := run_append_grow (P := Tryd.prog) w t ty e i z ht hi hz ⟨g, off, none⟩ xs.length cap xs (by simp [hsize]) holds a 1 c [x] (by simp [hsize]) hnews (by omega) (by simp only [maxLen] at h63; omega) (growslice_fits (by omega) hbytes)
    have hge := grownCap_ge w (xs.length + 1) cap e
    refine ⟨_, _, hr, ⟨w.heap.size, 0, grownCap w (xs.length + 1) cap e, _, by simp, hbase, heap_alloc_new w.drew _, by simpa using hge, ?_, ?_⟩, ⟨rfl, rfl, rfl, by simp, fun k hk _ => heap_alloc_old w.drew _ hk⟩⟩
    · simp only [Array.size_append, List.size_toArray, size_zeroCells, hzs, List.length_cons, List.length_nil]
      omega
    · simp only [Array.toList_append, List.append_assoc, List.drop_zero]
      rw [← List.append_assoc]
      exact List.take_left
theorem wpList_append_off {w : World} {ops : Array Oper} {rest : List Oper} {o : Oper} {a : Act} {Q : Exit → Act → World → Prop} (hgd : o.guard = none) (s x : Operand) (t : TypeId)
    (ho : o.op = .call { callee := .builtin .append, args := #[s, x], argTypes := #[t, t] })
    (base : Nat) (e : TypeId) (i : TypeInfo) (z : Value) (bytes : Nat) (ht : Tryd.prog.underlying t = some (.slice e)) (hi : Tryd.prog.info? e = some i) (hz : i.zero = some z)
    (hsize : i.size = 1) (hby : i.bytes = bytes) (hzs : z.cells.size = 1) (v : Value) (xs : List Value) (hs : a.eval s = v) (hown : OffRow w base e v xs)
    (ad : Addr) (c : Nat) (y : Value) (hx : a.eval x = .slice (some ad) 1 c) (hnews : ∀ j u, [y][j]? = some u → w.cell? (ad.add j) = some u) (h1 : ∀ u ∈ [y], u.oneCell' = true)
    (h63 : xs.length + 1 ≤ maxLen) (hbytes : (xs.length + 1) * bytes ≤ 140737488355328) (hbase : base ≤ w.heap.size)
    (h : ∀ v' w', OffRow w' base e v' (xs ++ [y]) → w.grownBy w' v.ownBlock → wpList Tryd.prog ops Q rest (a.put o.dst v') w') : wpList Tryd.prog ops Q (o :: rest) a w :=
  wpList_plain hgd fun _ hK => by
    obtain ⟨v', w', hr, h2, h3⟩ := run_append_off w base t o.type e i z bytes ht hi hz hsize hby hzs v xs hown ad c y hnews h1 h63 hbytes hbase
    unfold Oper.wp execOp
    simp only [ho, resolve, invoke, builtin, Sem.run_bind, Sem.run_pure, Result.andThen_ok, List.map_toArray, List.map_cons, List.map_nil, hs, hx, hr]
    exact hK _ _ (h v' w' h2 h3)
end
end Go.Proofs.YtfmhcjhcmoniaaaDoor
