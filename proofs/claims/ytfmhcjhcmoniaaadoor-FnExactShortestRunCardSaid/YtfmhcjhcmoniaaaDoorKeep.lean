/-
  Plain mathematics: of several ways with the same end the first in the order of bytes is kept; level by level the shortest way is found. Conditions: none.
-/
import Derived.Test.YtfmhcjhcmoniaaaDoorShort
namespace Go.Proofs.YtfmhcjhcmoniaaaDoor
open Go.RowKit Go.Maps

/-- the last name of a way -/
def lastC (t : ByteArray) : ByteArray := ch t (t.size - 1)
/-- ways with one more, of those with the same end the first in the order of bytes alone -/
def keepL : List ByteArray → ByteArray → List ByteArray
  | [], w => [w]
  | v :: r, w => if lastC v = lastC w then (if blt w v = true then w else v) :: r else v :: keepL r w
theorem keepL_mem : ∀ (ts : List ByteArray) (w t : ByteArray), t ∈ keepL ts w → t = w ∨ t ∈ ts
  | [], w, t, h => .inl (by simpa [keepL] using h)
  | v :: r, w, t, h => by
    unfold keepL at h
    split at h
    · rcases List.mem_cons.1 h with h | h
      · split at h
        · exact .inl h
        · exact .inr (by rw [h]; exact List.mem_cons_self ..)
      · exact .inr (List.mem_cons_of_mem _ h)
    · rcases List.mem_cons.1 h with h | h
      · exact .inr (by rw [h]; exact List.mem_cons_self ..)
      · rcases keepL_mem r w t h with h | h
        · exact .inl h
        · exact .inr (List.mem_cons_of_mem _ h)
/-- what was covered is, and the new one -/
theorem keepL_cover : ∀ (ts : List ByteArray) (w c : ByteArray), (c = w ∨ ∃ t ∈ ts, lastC t = lastC c ∧ blt c t = false) → ∃ t ∈ keepL ts w, lastC t = lastC c ∧ blt c t = false
  | [], w, c, h => by
    rcases h with rfl | ⟨t, ht, _⟩
    · exact ⟨c, by simp [keepL], rfl, blt_irrefl _⟩
    · cases ht
  | v :: r, w, c, h => by
    unfold keepL
    by_cases e : lastC v = lastC w
    · rw [if_pos e]
      by_cases hb : blt w v = true
      · rw [if_pos hb]
        rcases h with rfl | ⟨t, ht, h1, h2⟩
        · exact ⟨c, List.mem_cons_self .., rfl, blt_irrefl _⟩
        · rcases List.mem_cons.1 ht with rfl | ht
          · refine ⟨w, List.mem_cons_self .., by rw [← e, h1], ?_⟩
            cases hcw : blt c w
            · rfl
            · rw [blt_trans hcw hb] at h2; cases h2
          · exact ⟨t, List.mem_cons_of_mem _ ht, h1, h2⟩
      · rw [if_neg hb]
        rcases h with rfl | ⟨t, ht, h1, h2⟩
        · exact ⟨v, List.mem_cons_self .., e, by simpa using hb⟩
        · rcases List.mem_cons.1 ht with rfl | ht
          · exact ⟨t, List.mem_cons_self .., h1, h2⟩
          · exact ⟨t, List.mem_cons_of_mem _ ht, h1, h2⟩
    · rw [if_neg e]
      rcases h with rfl | ⟨t, ht, h1, h2⟩
      · obtain ⟨t, ht, h1, h2⟩ := keepL_cover r c c (.inl rfl)
        exact ⟨t, List.mem_cons_of_mem _ ht, h1, h2⟩
      · rcases List.mem_cons.1 ht with rfl | ht
        · exact ⟨t, List.mem_cons_self .., h1, h2⟩
        · obtain ⟨t, ht, h1, h2⟩ := keepL_cover r w c (.inr ⟨t, ht, h1, h2⟩)
          exact ⟨t, List.mem_cons_of_mem _ ht, h1, h2⟩
theorem keepL_ends : ∀ (ts : List ByteArray) (w : ByteArray), (∀ t ∈ keepL ts w, ∃ s, (s = w ∨ s ∈ ts) ∧ lastC t = lastC s)
  | ts, w, t, h => by
    rcases keepL_mem ts w t h with rfl | h
    · exact ⟨t, .inl rfl, rfl⟩
    · exact ⟨t, .inr h, rfl⟩
theorem keepL_distinct : ∀ (ts : List ByteArray) (w : ByteArray), ts.Pairwise (fun a b => lastC a ≠ lastC b) → (keepL ts w).Pairwise fun a b => lastC a ≠ lastC b
  | [], w, _ => by simp [keepL]
  | v :: r, w, h => by
    obtain ⟨h1, h2⟩ := List.pairwise_cons.1 h
    unfold keepL
    by_cases e : lastC v = lastC w
    · rw [if_pos e]
      refine List.pairwise_cons.2 ⟨fun t ht => ?_, h2⟩
      split
      · rw [← e]; exact h1 t ht
      · exact h1 t ht
    · rw [if_neg e]
      refine List.pairwise_cons.2 ⟨fun t ht => ?_, keepL_distinct r w h2⟩
      rcases keepL_mem r w t ht with rfl | ht
      · exact e
      · exact h1 t ht
theorem keepL_len (ts : List ByteArray) (w : ByteArray) : (keepL ts w).length ≤ ts.length + 1 := by
  induction ts with
  | nil => simp [keepL]
  | cons v r ih =>
    unfold keepL
    split <;> simp <;> omega
/-- the ways of so many edges: of each end the first -/
structure Lev (es : List Pr) (x : ByteArray) (j : Nat) (ts : List ByteArray) : Prop where
  path : ∀ t ∈ ts, ∃ l, l.length = j ∧ IsPath es x l (lastC t) ∧ t = cat (x :: l)
  cover : ∀ l y, IsPath es x l y → l.length = j → ∃ t ∈ ts, lastC t = y ∧ blt (cat (x :: l)) t = false
  dist : ts.Pairwise fun a b => lastC a ≠ lastC b
theorem lastC_app {t y : ByteArray} (hy : y.size = 1) : lastC (t ++ y) = y := by
  unfold lastC ch
  rw [ByteArray.size_append, hy]
  apply bytes_ext2
  have h1 : (t ++ y).size = t.size + 1 := by rw [ByteArray.size_append, hy]
  simp only [Nat.add_sub_cancel]
  have h2 : y.data.size = 1 := hy
  have h3 : t.data.size = t.size := rfl
  simp [ByteArray.data_extract, ByteArray.data_append, h3]
  exact List.take_of_length_le (by rw [Array.length_toList, h2]; exact Nat.le_refl _)
theorem cat_one (x : ByteArray) : cat [x] = x := by
  rw [cat_cons]
  apply bytes_ext2
  rw [ByteArray.data_append, Array.toList_append]
  have : (cat []).data.toList = [] := rfl
  rw [this, List.append_nil]
theorem lastC_one {x : ByteArray} (hx : x.size = 1) : lastC x = x := by
  have h := lastC_app (t := e0) hx
  have e : e0 ++ x = x := by
    apply bytes_ext2
    rw [ByteArray.data_append, Array.toList_append]
    rfl
  rwa [e] at h
theorem IsPath.snoc {es : List Pr} : ∀ (l : List ByteArray) (x y z : ByteArray), IsPath es x l y → (y, z) ∈ es → IsPath es x (l ++ [z]) z
  | [], x, y, z, h, hE => by have e : x = y := h; subst e; exact ⟨hE, rfl⟩
  | a :: l, x, y, z, h, hE => ⟨h.1, IsPath.snoc l a y z h.2 hE⟩
theorem IsPath.split {es : List Pr} : ∀ (l : List ByteArray) (x z : ByteArray) (j : Nat), IsPath es x l z → l.length = j + 1 → ∃ l' y, l = l' ++ [z] ∧ l'.length = j ∧ IsPath es x l' y ∧ (y, z) ∈ es
  | [], x, z, j, _, hl => by simp at hl
  | [a], x, z, j, h, hl => by
    have e : a = z := h.2
    subst e
    exact ⟨[], x, rfl, by simp at hl; simp [hl], rfl, h.1⟩
  | a :: b :: l, x, z, j, h, hl => by
    obtain ⟨l', y, e, h1, h2, h3⟩ := IsPath.split (b :: l) a z (j - 1) h.2 (by simp at hl ⊢; omega)
    exact ⟨a :: l', y, by rw [e]; rfl, by simp [h1]; simp at hl; omega, ⟨h.1, h2⟩, h3⟩
theorem Lev.start {es : List Pr} {x : ByteArray} (hx : x.size = 1) : Lev es x 0 [x] where
  path t ht := by
    rw [List.mem_singleton.1 ht]
    exact ⟨[], rfl, (lastC_one hx).symm, (cat_one x).symm⟩
  cover l y hp hl := by
    obtain rfl : l = [] := List.eq_nil_of_length_eq_zero hl
    have e : x = y := hp
    exact ⟨x, by simp, by rw [lastC_one hx, e], by rw [cat_one]; exact blt_irrefl _⟩
  dist := by simp
/-- what is kept of the ways with one more name -/
structure Nxt (es : List Pr) (C : ByteArray → Prop) (ks : List ByteArray) : Prop where
  mem : ∀ t ∈ ks, C t
  cover : ∀ c, C c → ∃ t ∈ ks, lastC t = lastC c ∧ blt c t = false
  dist : ks.Pairwise fun a b => lastC a ≠ lastC b
theorem Nxt.start (es : List Pr) : Nxt es (fun _ => False) [] := ⟨(fun _ h => by cases h), (fun _ h => False.elim h), by simp⟩
theorem Nxt.keep {es : List Pr} {C : ByteArray → Prop} {ks : List ByteArray} (h : Nxt es C ks) (w : ByteArray) : Nxt es (fun c => c = w ∨ C c) (keepL ks w) where
  mem t ht := by
    rcases keepL_mem ks w t ht with h' | h'
    · exact .inl h'
    · exact .inr (h.mem t h')
  cover c hc := by
    rcases hc with h' | h'
    · exact keepL_cover ks w c (.inl h')
    · exact keepL_cover ks w c (.inr (h.cover c h'))
  dist := keepL_distinct ks w h.dist
theorem Nxt.same {es : List Pr} {C C' : ByteArray → Prop} {ks : List ByteArray} (h : Nxt es C ks) (e : ∀ c, C c ↔ C' c) : Nxt es C' ks :=
  ⟨fun t ht => (e t).1 (h.mem t ht), fun c hc => h.cover c ((e c).2 hc), h.dist⟩
theorem bl_app_right (z : List UInt8) : ∀ a b : List UInt8, a.length = b.length → Op.bytesLess (a ++ z) (b ++ z) = Op.bytesLess a b
  | [], [], _ => by rw [List.nil_append, bl_irrefl, bl_irrefl]
  | [], _ :: _, h => by simp at h
  | _ :: _, [], h => by simp at h
  | a :: x, b :: y, h => by
    have ih := bl_app_right z x y (by simpa using h)
    simp [Op.bytesLess, ih]
theorem blt_app_right {a b z : ByteArray} (h : a.size = b.size) : blt (a ++ z) (b ++ z) = blt a b := by
  unfold blt
  rw [ByteArray.toList_eq, ByteArray.toList_eq, ByteArray.toList_eq, ByteArray.toList_eq, ByteArray.data_append, ByteArray.data_append, Array.toList_append, Array.toList_append]
  exact bl_app_right _ _ _ (by simpa using h)
theorem path_mem {es : List Pr} (hs : ∀ e ∈ es, e.2.size = 1) : ∀ (l : List ByteArray) (x y : ByteArray), IsPath es x l y → ∀ a ∈ l, a.size = 1
  | [], _, _, _, _, h => by cases h
  | b :: l, x, y, hp, a, h => by
    rcases List.mem_cons.1 h with rfl | h
    · exact hs _ hp.1
    · exact path_mem hs l b y hp.2 a h
theorem path_size {es : List Pr} (hs : ∀ e ∈ es, e.2.size = 1) {x : ByteArray} (hx : x.size = 1) (l : List ByteArray) (y : ByteArray) (hp : IsPath es x l y) : (cat (x :: l)).size = l.length + 1 := by
  rw [cat_size (fun a ha => by
    rcases List.mem_cons.1 ha with rfl | h
    · exact hx
    · exact path_mem hs l x y hp a h), List.length_cons]
/-- all ways with one more name are the next level -/
theorem Lev.next {es : List Pr} {x : ByteArray} {j : Nat} {ts ks : List ByteArray} (hs : ∀ e ∈ es, e.2.size = 1) (hx : x.size = 1) (h : Lev es x j ts) (hk : Nxt es (fun c => ∃ t ∈ ts, ∃ y, (lastC t, y) ∈ es ∧ c = t ++ y) ks) : Lev es x (j + 1) ks where
  path t ht := by
    obtain ⟨t', ht', y, hE, rfl⟩ := hk.mem t ht
    obtain ⟨l, hl, hp, e⟩ := h.path t' ht'
    refine ⟨l ++ [y], by simp [hl], ?_, ?_⟩
    · rw [lastC_app (hs _ hE)]; exact hp.snoc l x _ y hE
    · rw [e, ← List.cons_append, cat_snoc]
  cover l z hp hl := by
    obtain ⟨l', y, rfl, h1, h2, hE⟩ := hp.split l x z j hl
    obtain ⟨t, ht, e1, e2⟩ := h.cover l' y h2 h1
    obtain ⟨s, hs', e3, e4⟩ := hk.cover (t ++ z) ⟨t, ht, z, by rw [e1]; exact hE, rfl⟩
    refine ⟨s, hs', by rw [e3, lastC_app (hs _ hE)], ?_⟩
    have h5 : blt (cat (x :: l') ++ z) (t ++ z) = false := by
      obtain ⟨l2, hl2, hp2, e5⟩ := h.path t ht
      rw [blt_app_right (by rw [e5, path_size hs hx l' y h2, path_size hs hx l2 _ hp2, h1, hl2])]
      exact e2
    rw [← List.cons_append, cat_snoc]
    cases hb : blt (cat (x :: l') ++ z) s
    · rfl
    · cases h7 : blt s (t ++ z)
      · rw [blt_total h7 e4] at hb
        rw [h5] at hb; cases hb
      · rw [blt_trans hb h7] at h5; cases h5
  dist := hk.dist
/-- a level without the exit: nothing so short leads there -/
theorem Lev.not {es : List Pr} {x z : ByteArray} {j : Nat} {ts : List ByteArray} (h : Lev es x j ts) (hn : ∀ t ∈ ts, lastC t ≠ z) (l : List ByteArray) (hp : IsPath es x l z) : l.length ≠ j := fun e => by
  obtain ⟨t, ht, h1, _⟩ := h.cover l z hp e
  exact hn t ht h1
/-- a way of the first level that has the exit is the best -/
theorem Lev.best {es : List Pr} {x z t : ByteArray} {j : Nat} {ts : List ByteArray} (h : Lev es x j ts) (ht : t ∈ ts) (hz : lastC t = z) (hlo : ∀ l, IsPath es x l z → j ≤ l.length) : Best es x z t := by
  obtain ⟨l, hl, hp, e⟩ := h.path t ht
  rw [hz] at hp
  refine ⟨l, hp, e, fun l' hl' => by rw [hl]; exact hlo l' hl', fun l' hl' e' => ?_⟩
  obtain ⟨t', ht', h1, h2⟩ := h.cover l' z hl' (by rw [e', hl])
  have : t' = t := by
    rcases List.mem_iff_getElem.1 ht with ⟨a, ha, ea⟩
    rcases List.mem_iff_getElem.1 ht' with ⟨b, hb, eb⟩
    have hd := List.pairwise_iff_getElem.1 h.dist
    rcases Nat.lt_trichotomy a b with hab | hab | hab
    · exact absurd (by rw [ea, eb, hz, h1]) (hd a b ha hb hab)
    · subst hab; rw [← ea, ← eb]
    · exact absurd (by rw [ea, eb, hz, h1]) (hd b a hb ha hab)
  rw [this] at h2
  exact h2

theorem keepL_hit : ∀ (ts : List ByteArray) (w : ByteArray) (i : Nat) (v : ByteArray), ts[i]? = some v → lastC v = lastC w → (∀ j u, j < i → ts[j]? = some u → lastC u ≠ lastC w) → keepL ts w = ts.set i (if blt w v = true then w else v)
  | [], _, i, _, h, _, _ => by simp at h
  | a :: r, w, 0, v, h, e, _ => by
    have : a = v := by simpa using h
    subst this
    unfold keepL
    rw [if_pos e]; rfl
  | a :: r, w, i + 1, v, h, e, hn => by
    have h0 := hn 0 a (by omega) rfl
    unfold keepL
    rw [if_neg h0, keepL_hit r w i v (by simpa using h) e (fun j u hj hu => hn (j + 1) u (by omega) (by simpa using hu))]
    rfl
theorem keepL_miss : ∀ (ts : List ByteArray) (w : ByteArray), (∀ u ∈ ts, lastC u ≠ lastC w) → keepL ts w = ts ++ [w]
  | [], _, _ => rfl
  | a :: r, w, h => by
    unfold keepL
    rw [if_neg (h a (List.mem_cons_self ..)), keepL_miss r w (fun u hu => h u (List.mem_cons_of_mem _ hu))]
    rfl
/-- a store into a row of one's own -/
theorem own_set {w : World} {base : Nat} {e : TypeId} {n g cap i : Nat} {xs : List Value} {u : Value} (h : w.ownsRow base e 1 (.slice (some ⟨g, 0, none⟩) n cap) n xs) : (w.setCell ⟨g, i, none⟩ u).ownsRow base e 1 (.slice (some ⟨g, 0, none⟩) n cap) n (xs.set i u) := by
  obtain ⟨h1, ⟨hv, _⟩ | ⟨g', cap', cur, hv, hg, hh, hn, hc, hs, ht⟩⟩ := h
  · cases hv
  · simp only [Value.slice.injEq, Option.some.injEq, Addr.mk.injEq, and_true, true_and] at hv
    obtain ⟨rfl, rfl⟩ := hv
    refine ⟨by simpa using h1, .inr ⟨g, cap, _, rfl, hg, heap_setCell_at hh i u, hn, hc, by simpa using hs, ?_⟩⟩
    rw [Array.toList_setIfInBounds, ← ht, List.take_set]
end Go.Proofs.YtfmhcjhcmoniaaaDoor
