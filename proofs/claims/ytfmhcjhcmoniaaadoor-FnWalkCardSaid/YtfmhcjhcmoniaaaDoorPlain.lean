/-
  Plain mathematics of chapter 1: programs as lists of pairs of texts, what a valid program is. It names no Go and no program. Conditions: none.
-/
namespace Go.Proofs.YtfmhcjhcmoniaaaDoor
abbrev Pr := ByteArray × ByteArray
def e0 : ByteArray := ⟨#[]⟩
def nameAt (l : List Pr) (i : Nat) : ByteArray := (l.getD i (e0, e0)).1
def restAt (l : List Pr) (i : Nat) : ByteArray := (l.getD i (e0, e0)).2
def names (l : List Pr) : List ByteArray := l.map (·.1)
def flip (l : List Pr) : List Pr := l.map fun p => (p.2, p.1)
/-- the byte at a place, as a number -/
def byteAt (s : ByteArray) (i : Nat) : Nat := (s.data.getD i 0).toNat
def isNm (s : ByteArray) : Bool := s.size == 1 && (decide (65 ≤ byteAt s 0) && decide (byteAt s 0 ≤ 73))
def lowB (n : Nat) : Bool := decide (120 ≤ n) && decide (n ≤ 122)
def upB (n : Nat) : Bool := decide (88 ≤ n) && decide (n ≤ 90)
def opB (n : Nat) : Bool := lowB n || upB n
def opsOk (s : ByteArray) : Prop := s.size ≤ 6 ∧ ∀ i, i < s.size → opB (byteAt s i) = true

/-- one comes from a to b along edges -/
inductive Reach (es : List Pr) (a : ByteArray) : ByteArray → Prop
  | refl : Reach es a a
  | step {b c : ByteArray} : Reach es a b → (b, c) ∈ es → Reach es a c

structure BlocksOk (bs : List Pr) : Prop where
  lo : 2 ≤ bs.length
  hi : bs.length ≤ 9
  nm : ∀ p ∈ bs, isNm p.1 = true
  op : ∀ p ∈ bs, opsOk p.2
  nd : (names bs).Nodup
  en : restAt bs 0 = e0
structure EdgesOk (bs es : List Pr) : Prop where
  hi : es.length ≤ 14
  fr : ∀ e ∈ es, e.1 ∈ names bs
  to : ∀ e ∈ es, e.2 ∈ names bs
  nd : es.Nodup
  ne : ∀ e ∈ es, e.2 ≠ nameAt bs 0
  nx : ∀ e ∈ es, e.1 ≠ nameAt bs (bs.length - 1)
structure Valid (bs es : List Pr) : Prop where
  b : BlocksOk bs
  e : EdgesOk bs es
  ra : ∀ p ∈ bs, Reach es (nameAt bs 0) p.1
  rz : ∀ p ∈ bs, Reach (flip es) (nameAt bs (bs.length - 1)) p.1

/-- the first place of an element -/
def idx {α : Type} [DecidableEq α] : List α → α → Option Nat
  | [], _ => none
  | y :: r, x => if y = x then some 0 else (idx r x).map (· + 1)
/-- the first place of a name, -1 if there is none -/
def fnd (l : List Pr) (s : ByteArray) : Int := match idx (names l) s with | some i => (i : Int) | none => -1
/-- the first place of an edge, -1 if there is none -/
def fndE (l : List Pr) (p : Pr) : Int := match idx l p with | some i => (i : Int) | none => -1

theorem nameAt_mem {l : List Pr} {i : Nat} (h : i < l.length) : nameAt l i ∈ names l := by
  unfold nameAt names
  rw [List.getD_eq_getElem?_getD, List.getElem?_eq_getElem h]
  exact List.mem_map.2 ⟨l[i], List.getElem_mem h, rfl⟩
theorem pair_at {l : List Pr} {i : Nat} (h : i < l.length) : l[i] = (nameAt l i, restAt l i) := by
  unfold nameAt restAt
  simp [List.getD_eq_getElem?_getD, List.getElem?_eq_getElem h]
theorem pair_mem {l : List Pr} {i : Nat} (h : i < l.length) : (nameAt l i, restAt l i) ∈ l := by
  rw [← pair_at h]; exact List.getElem_mem h
theorem mem_at {l : List Pr} {p : Pr} (h : p ∈ l) : ∃ i, i < l.length ∧ nameAt l i = p.1 ∧ restAt l i = p.2 := by
  obtain ⟨i, hi, e⟩ := List.getElem_of_mem h
  refine ⟨i, hi, ?_, ?_⟩ <;> have := pair_at hi <;> rw [e] at this <;> simp [this]
theorem names_at {l : List Pr} {i : Nat} (h : i < l.length) : (names l)[i]? = some (nameAt l i) := by
  unfold names
  rw [List.getElem?_map, List.getElem?_eq_getElem h, pair_at h]; rfl
theorem names_length (l : List Pr) : (names l).length = l.length := by simp [names]
theorem mem_names {l : List Pr} {s : ByteArray} (h : s ∈ names l) : ∃ i, i < l.length ∧ nameAt l i = s := by
  obtain ⟨p, hp, rfl⟩ := List.mem_map.1 h
  obtain ⟨i, hi, e, _⟩ := mem_at hp
  exact ⟨i, hi, e⟩
theorem nodup_idx {α : Type} {l : List α} : l.Nodup ↔ ∀ i j, i < j → j < l.length → l[i]? ≠ l[j]? := by
  unfold List.Nodup
  rw [List.pairwise_iff_getElem]
  constructor
  · intro h i j hij hj e
    rw [List.getElem?_eq_getElem (by omega), List.getElem?_eq_getElem hj] at e
    exact h i j (by omega) hj hij (Option.some.inj e)
  · intro h i j hi hj hij e
    exact h i j hij hj (by rw [List.getElem?_eq_getElem (by omega), List.getElem?_eq_getElem hj, e])
theorem names_inj {l : List Pr} (hd : (names l).Nodup) {i j : Nat} (hi : i < l.length) (hj : j < l.length) (h : nameAt l i = nameAt l j) : i = j := by
  have h1 := names_at hi
  have h2 := names_at hj
  rw [h] at h1
  have h3 := h1.trans h2.symm
  rcases Nat.lt_trichotomy i j with h' | h' | h'
  · exact absurd h3 (nodup_idx.1 hd i j h' (by rw [names_length]; exact hj))
  · exact h'
  · exact absurd h3.symm (nodup_idx.1 hd j i h' (by rw [names_length]; exact hi))

/-- what a search from the front finds -/
theorem idx_hit {α : Type} [DecidableEq α] : ∀ (l : List α) (x : α) (k : Nat), l[k]? = some x → (∀ j, j < k → l[j]? ≠ some x) → idx l x = some k
  | [], x, k, h, _ => by simp at h
  | y :: r, x, 0, h, _ => by
    simp at h; subst h; simp [idx]
  | y :: r, x, k + 1, h, hn => by
    have h0 : y ≠ x := by have := hn 0 (by omega); simpa using this
    have ih := idx_hit r x k (by simpa using h) (fun j hj => by have := hn (j + 1) (by omega); simpa using this)
    simp [idx, h0, ih]
theorem idx_some {α : Type} [DecidableEq α] : ∀ (l : List α) (x : α) (k : Nat), idx l x = some k → l[k]? = some x ∧ ∀ j, j < k → l[j]? ≠ some x
  | [], x, k, h => by simp [idx] at h
  | y :: r, x, k, h => by
    by_cases hy : y = x
    · have : k = 0 := by simp [idx, hy] at h; omega
      subst this
      exact ⟨by simpa using hy, fun j hj => absurd hj (Nat.not_lt_zero _)⟩
    · simp [idx, hy] at h
      obtain ⟨k', hk', rfl⟩ := h
      have ih := idx_some r x k' hk'
      refine ⟨by simpa using ih.1, fun j hj => ?_⟩
      cases j with
      | zero => simpa using hy
      | succ j => simpa using ih.2 j (by omega)
theorem idx_eq_none_iff {α : Type} [DecidableEq α] : ∀ (l : List α) (x : α), idx l x = none ↔ x ∉ l
  | [], x => by simp [idx]
  | y :: r, x => by
    have ih := idx_eq_none_iff r x
    by_cases hy : y = x
    · simp [idx, hy]
    · have hy' : ¬ x = y := fun e => hy e.symm
      simp [idx, hy, hy', ih]
theorem idx_none {α : Type} [DecidableEq α] (l : List α) (x : α) (h : ∀ j, j < l.length → l[j]? ≠ some x) : idx l x = none := by
  rw [idx_eq_none_iff]
  intro hm
  obtain ⟨i, hi, e⟩ := List.getElem_of_mem hm
  exact h i hi (by rw [List.getElem?_eq_getElem hi, e])

theorem fnd_hit {l : List Pr} {s : ByteArray} {k : Nat} (hk : k < l.length) (h : nameAt l k = s) (hn : ∀ j, j < k → nameAt l j ≠ s) : fnd l s = k := by
  unfold fnd
  rw [idx_hit (names l) s k (by rw [names_at hk, h]) (fun j hj e => hn j hj (by rw [names_at (by omega)] at e; exact Option.some.inj e))]
theorem fnd_none {l : List Pr} {s : ByteArray} (hn : ∀ j, j < l.length → nameAt l j ≠ s) : fnd l s = -1 := by
  unfold fnd
  rw [idx_none (names l) s (fun j hj e => hn j (by rw [names_length] at hj; exact hj) (by rw [names_at (by rw [names_length] at hj; exact hj)] at e; exact Option.some.inj e))]
theorem fnd_bd (l : List Pr) (s : ByteArray) : -1 ≤ fnd l s ∧ fnd l s < l.length := by
  unfold fnd
  split
  · rename_i i h
    have h1 := (idx_some _ _ _ h).1
    have h2 := (List.getElem?_eq_some_iff.1 h1).1
    rw [names_length] at h2
    omega
  · omega
theorem fnd_yes {l : List Pr} {s : ByteArray} (h : s ∈ names l) : ∃ k, k < l.length ∧ fnd l s = (k : Int) ∧ nameAt l k = s := by
  unfold fnd
  cases hf : idx (names l) s with
  | none => exact absurd h ((idx_eq_none_iff _ _).1 hf)
  | some k =>
    have h1 := (idx_some _ _ _ hf).1
    have h2 := (List.getElem?_eq_some_iff.1 h1).1
    rw [names_length] at h2
    rw [names_at h2] at h1
    exact ⟨k, h2, rfl, Option.some.inj h1⟩
theorem fnd_no {l : List Pr} {s : ByteArray} (h : s ∉ names l) : fnd l s = -1 := by
  unfold fnd
  rw [(idx_eq_none_iff _ _).2 h]
theorem fnd_at {l : List Pr} (hd : (names l).Nodup) {i : Nat} (hi : i < l.length) : fnd l (nameAt l i) = i :=
  fnd_hit hi rfl (fun j hj e => by have := names_inj hd (by omega) hi e; omega)

theorem fndE_hit {l : List Pr} {p : Pr} {k : Nat} (hk : k < l.length) (h : (nameAt l k, restAt l k) = p) (hn : ∀ j, j < k → (nameAt l j, restAt l j) ≠ p) : fndE l p = k := by
  unfold fndE
  rw [idx_hit l p k (by rw [List.getElem?_eq_getElem hk, pair_at hk, h]) (fun j hj e => hn j hj (by rw [List.getElem?_eq_getElem (by omega), pair_at (by omega)] at e; exact Option.some.inj e))]
theorem fndE_none {l : List Pr} {p : Pr} (hn : ∀ j, j < l.length → (nameAt l j, restAt l j) ≠ p) : fndE l p = -1 := by
  unfold fndE
  rw [idx_none l p (fun j hj e => hn j hj (by rw [List.getElem?_eq_getElem hj, pair_at hj] at e; exact Option.some.inj e))]
theorem fndE_bd (l : List Pr) (p : Pr) : -1 ≤ fndE l p ∧ fndE l p < l.length := by
  unfold fndE
  split
  · rename_i i h
    have h1 := (idx_some _ _ _ h).1
    have h2 := (List.getElem?_eq_some_iff.1 h1).1
    omega
  · omega
theorem fndE_yes {l : List Pr} {p : Pr} (h : p ∈ l) : ∃ k, k < l.length ∧ fndE l p = (k : Int) ∧ (nameAt l k, restAt l k) = p := by
  unfold fndE
  cases hf : idx l p with
  | none => exact absurd h ((idx_eq_none_iff _ _).1 hf)
  | some k =>
    have h1 := (idx_some _ _ _ hf).1
    have h2 := (List.getElem?_eq_some_iff.1 h1).1
    rw [List.getElem?_eq_getElem h2, pair_at h2] at h1
    exact ⟨k, h2, rfl, Option.some.inj h1⟩
theorem fndE_no {l : List Pr} {p : Pr} (h : p ∉ l) : fndE l p = -1 := by
  unfold fndE
  rw [(idx_eq_none_iff _ _).2 h]

/-- a name stands ahead of its place exactly if the search finds it earlier -/
theorem fnd_lt {l : List Pr} {i : Nat} (hi : i < l.length) : fnd l (nameAt l i) < i ↔ ∃ j, j < i ∧ nameAt l j = nameAt l i := by
  constructor
  · intro h
    obtain ⟨k, _, e, hn⟩ := fnd_yes (nameAt_mem hi)
    exact ⟨k, by omega, hn⟩
  · rintro ⟨j, hj, e⟩
    obtain ⟨k, hk, ek, hn⟩ := fnd_yes (nameAt_mem hi)
    have := (idx_some (names l) (nameAt l i) k (by unfold fnd at ek; split at ek <;> first | (rename_i h; rw [h]; congr; omega) | omega)).2
    rcases Nat.lt_or_ge j k with h | h
    · exact absurd (by rw [names_at (by omega), e]) (this j h)
    · omega
theorem fndE_lt {l : List Pr} {i : Nat} (hi : i < l.length) : fndE l (nameAt l i, restAt l i) < i ↔ ∃ j, j < i ∧ (nameAt l j, restAt l j) = (nameAt l i, restAt l i) := by
  constructor
  · intro h
    obtain ⟨k, _, e, hn⟩ := fndE_yes (pair_mem hi)
    exact ⟨k, by omega, hn⟩
  · rintro ⟨j, hj, e⟩
    obtain ⟨k, hk, ek, hn⟩ := fndE_yes (pair_mem hi)
    have := (idx_some l (nameAt l i, restAt l i) k (by unfold fndE at ek; split at ek <;> first | (rename_i h; rw [h]; congr; omega) | omega)).2
    rcases Nat.lt_or_ge j k with h | h
    · exact absurd (by rw [List.getElem?_eq_getElem (by omega), pair_at (by omega), e]) (this j h)
    · omega

theorem nodup_iff {l : List Pr} : (names l).Nodup ↔ ∀ i, i < l.length → ∀ j, j < i → nameAt l j ≠ nameAt l i := by
  constructor
  · intro h i hi j hj e
    have := names_inj h (by omega) hi e
    omega
  · intro h
    rw [nodup_idx]
    intro i j hij hj
    rw [names_length] at hj
    rw [names_at (by omega), names_at hj]
    exact fun e => h j hj i hij (Option.some.inj e)
theorem nodupE_iff {l : List Pr} : l.Nodup ↔ ∀ i, i < l.length → ∀ j, j < i → (nameAt l j, restAt l j) ≠ (nameAt l i, restAt l i) := by
  constructor
  · intro h i hi j hj e
    have h2 := nodup_idx.1 h j i hj hi
    rw [List.getElem?_eq_getElem (by omega), List.getElem?_eq_getElem hi, pair_at hi, pair_at (by omega), e] at h2
    exact h2 rfl
  · intro h
    rw [nodup_idx]
    intro i j hij hj
    rw [List.getElem?_eq_getElem (by omega), List.getElem?_eq_getElem hj, pair_at hj, pair_at (by omega)]
    exact fun e => h j hj i hij (Option.some.inj e)
theorem Reach.trans {es : List Pr} {a b c : ByteArray} (h : Reach es a b) (k : Reach es b c) : Reach es a c := by
  induction k with
  | refl => exact h
  | step _ hm ih => exact .step ih hm
theorem mem_flip {es : List Pr} {a b : ByteArray} : (a, b) ∈ flip es ↔ (b, a) ∈ es := by
  unfold flip
  rw [List.mem_map]
  constructor
  · rintro ⟨p, hp, e⟩
    cases e
    exact hp
  · intro h
    exact ⟨(b, a), h, rfl⟩
theorem flip_length (es : List Pr) : (flip es).length = es.length := by simp [flip]
/-- a set that holds a and is closed under the edges holds all that is reached -/
theorem Reach.closed {es : List Pr} {a b : ByteArray} (h : Reach es a b) {S : ByteArray → Prop} (h0 : S a) (hc : ∀ x y, (x, y) ∈ es → S x → S y) : S b := by
  induction h with
  | refl => exact h0
  | step _ hm ih => exact hc _ _ hm ih

theorem byteAt_lt (s : ByteArray) (i : Nat) : byteAt s i < 256 := by
  unfold byteAt; exact (s.data.getD i 0).toNat_lt
theorem byteAt_get {s : ByteArray} {i : Nat} (h : i < s.size) : s[i].toNat = byteAt s i := by
  unfold byteAt
  have h' : i < s.data.size := h
  rw [Array.getD_eq_getD_getElem?, Array.getElem?_eq_getElem h']
  rfl
theorem e0_iff (s : ByteArray) : s = e0 ↔ s.size = 0 := by
  constructor
  · rintro rfl; rfl
  · intro h
    apply ByteArray.ext
    exact Array.eq_empty_of_size_eq_zero h
end Go.Proofs.YtfmhcjhcmoniaaaDoor
