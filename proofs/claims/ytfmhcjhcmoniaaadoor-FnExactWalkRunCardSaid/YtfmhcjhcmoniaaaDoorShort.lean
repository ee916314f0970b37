/-
  Plain mathematics of chapter 2: the shortest way to the exit, of several the first in the order of bytes: that a walk which always takes the first name nearer to the exit finds it. Conditions: none.
-/
import Derived.Test.YtfmhcjhcmoniaaaDoorOpsM
import Derived.Test.YtfmhcjhcmoniaaaDoorBytes
namespace Go.Proofs.YtfmhcjhcmoniaaaDoor
open Go.RowKit Go.Maps

/-- one text stands ahead of another in the order of bytes -/
def blt (a b : ByteArray) : Bool := Op.bytesLess a.toList b.toList
theorem bl_irrefl : ∀ l : List UInt8, Op.bytesLess l l = false
  | [] => rfl
  | a :: r => by simp [Op.bytesLess, bl_irrefl r]
theorem bl_trans : ∀ a b c : List UInt8, Op.bytesLess a b = true → Op.bytesLess b c = true → Op.bytesLess a c = true
  | _, [], _, h, _ => by cases ‹List UInt8› <;> simp [Op.bytesLess] at h
  | _, _ :: _, [], _, h => by simp [Op.bytesLess] at h
  | [], _ :: _, _ :: _, _, _ => by simp [Op.bytesLess]
  | a :: x, b :: y, c :: z, h1, h2 => by
    simp only [Op.bytesLess, Bool.or_eq_true, decide_eq_true_eq, Bool.and_eq_true, beq_iff_eq] at h1 h2 ⊢
    rcases h1 with h1 | ⟨rfl, h1⟩
    · rcases h2 with h2 | ⟨rfl, h2⟩
      · exact .inl (UInt8.lt_trans h1 h2)
      · exact .inl h1
    · rcases h2 with h2 | ⟨rfl, h2⟩
      · exact .inl h2
      · exact .inr ⟨rfl, bl_trans x y z h1 h2⟩
theorem bl_total : ∀ a b : List UInt8, Op.bytesLess a b = false → Op.bytesLess b a = false → a = b
  | [], [], _, _ => rfl
  | [], _ :: _, h, _ => by simp [Op.bytesLess] at h
  | _ :: _, [], _, h => by simp [Op.bytesLess] at h
  | a :: x, b :: y, h1, h2 => by
    simp only [Op.bytesLess, Bool.or_eq_false_iff, decide_eq_false_iff_not, Bool.and_eq_false_iff, beq_eq_false_iff_ne] at h1 h2
    have hab : a = b := by
      rcases Nat.lt_trichotomy a.toNat b.toNat with h | h | h
      · exact absurd (UInt8.lt_iff_toNat_lt.2 h) h1.1
      · exact UInt8.toNat_inj.1 h
      · exact absurd (UInt8.lt_iff_toNat_lt.2 h) h2.1
    subst hab
    rw [bl_total x y (by rcases h1.2 with h | h; exact absurd rfl h; exact h) (by rcases h2.2 with h | h; exact absurd rfl h; exact h)]
theorem bl_app (p : List UInt8) : ∀ a b : List UInt8, Op.bytesLess (p ++ a) (p ++ b) = Op.bytesLess a b := by
  induction p with
  | nil => intro a b; rfl
  | cons x r ih => intro a b; simp [Op.bytesLess, ih]
theorem blt_irrefl (a : ByteArray) : blt a a = false := bl_irrefl _
theorem blt_trans {a b c : ByteArray} (h1 : blt a b = true) (h2 : blt b c = true) : blt a c = true := bl_trans _ _ _ h1 h2
theorem blt_total {a b : ByteArray} (h1 : blt a b = false) (h2 : blt b a = false) : a = b := by
  have := bl_total _ _ h1 h2
  rw [ByteArray.toList_eq, ByteArray.toList_eq] at this
  exact bytes_ext2 this
theorem blt_app (p a b : ByteArray) : blt (p ++ a) (p ++ b) = blt a b := by
  unfold blt
  rw [ByteArray.toList_eq, ByteArray.toList_eq, ByteArray.toList_eq, ByteArray.toList_eq, ByteArray.data_append, ByteArray.data_append, Array.toList_append, Array.toList_append]
  exact bl_app _ _ _
theorem cat_cons (x : ByteArray) (l : List ByteArray) : cat (x :: l) = x ++ cat l := by
  apply bytes_ext2
  rw [cat_flat, ByteArray.data_append, Array.toList_append, cat_flat]
  simp
/-- names of one byte: which stands ahead decides -/
theorem blt_head {y y' : ByteArray} (hy : y.size = 1) (hy' : y'.size = 1) (a b : ByteArray) (h : blt y' y = false) (hne : y' ≠ y) : blt (y' ++ a) (y ++ b) = false := by
  have hl : ∀ {z : ByteArray}, z.size = 1 → ∃ c, z.data.toList = [c] := fun {z} hz => List.length_eq_one_iff.1 (by simpa using hz)
  obtain ⟨c, hc⟩ := hl hy
  obtain ⟨c', hc'⟩ := hl hy'
  unfold blt at h ⊢
  rw [ByteArray.toList_eq, ByteArray.toList_eq] at h ⊢
  rw [ByteArray.data_append, ByteArray.data_append, Array.toList_append, Array.toList_append, hc, hc']
  rw [hc, hc'] at h
  have hcc : c' ≠ c := fun e => hne (bytes_ext2 (by rw [hc, hc', e]))
  simp only [Op.bytesLess, List.cons_append, List.nil_append, Bool.or_eq_false_iff, decide_eq_false_iff_not, Bool.and_eq_false_iff, beq_eq_false_iff_ne] at h ⊢
  exact ⟨h.1, .inl hcc⟩

/-- the names behind x along edges, up to y -/
def IsPath (es : List Pr) : ByteArray → List ByteArray → ByteArray → Prop
  | x, [], y => x = y
  | x, a :: l, y => (x, a) ∈ es ∧ IsPath es a l y
theorem path_wk {es : List Pr} {z : ByteArray} : ∀ (l : List ByteArray) (x : ByteArray), IsPath es x l z → Wk (flip es) z l.length x
  | [], x, h => by have e : x = z := h; subst e; exact .nil
  | a :: l, x, h => .snoc (path_wk l a h.2) (mem_flip.2 h.1)
theorem wk_path {es : List Pr} {z : ByteArray} {k : Nat} {x : ByteArray} (h : Wk (flip es) z k x) : ∃ l, l.length = k ∧ IsPath es x l z := by
  induction h with
  | nil => exact ⟨[], rfl, rfl⟩
  | @snoc k b c _ hm ih =>
    obtain ⟨l, hl, hp⟩ := ih
    exact ⟨b :: l, by simp [hl], mem_flip.1 hm, hp⟩
/-- y is nearer to the exit than x -/
def Nearer (D : ByteArray → Option Nat) (x y : ByteArray) : Prop := ∃ i j, D x = some i ∧ D y = some j ∧ j < i
/-- y is the first such name that x leads to -/
def Near (es : List Pr) (D : ByteArray → Option Nat) (x y : ByteArray) : Prop := (x, y) ∈ es ∧ Nearer D x y ∧ ∀ y', (x, y') ∈ es → Nearer D x y' → blt y' y = false
def Gr (es : List Pr) (D : ByteArray → Option Nat) : ByteArray → List ByteArray → Prop
  | x, [] => D x = some 0
  | x, y :: l => Near es D x y ∧ Gr es D y l
theorem Gr.path {es : List Pr} {D : ByteArray → Option Nat} {z : ByteArray} (hF : Far (flip es) z D) : ∀ (l : List ByteArray) (x : ByteArray), Gr es D x l → IsPath es x l z ∧ D x = some l.length
  | [], x, h => by
    have h0 : D x = some 0 := h
    have h1 := ((hF x).1 0 h0).1
    cases h1
    exact ⟨rfl, h0⟩
  | y :: l, x, h => by
    obtain ⟨⟨hE, ⟨i, j, h1, h2, h3⟩, _⟩, hg⟩ := h
    obtain ⟨hp, hd⟩ := Gr.path hF l y hg
    rw [h2] at hd
    cases hd
    have hxp : IsPath es x (y :: l) z := ⟨hE, hp⟩
    have := ((hF x).1 i h1).2 _ (path_wk _ _ hxp)
    simp only [List.length_cons] at this ⊢
    exact ⟨hxp, by rw [h1]; congr 1; omega⟩
theorem Gr.least {es : List Pr} {D : ByteArray → Option Nat} {z : ByteArray} (hF : Far (flip es) z D) (hs : ∀ e ∈ es, e.2.size = 1) : ∀ (l : List ByteArray) (x : ByteArray) (l' : List ByteArray), Gr es D x l → IsPath es x l' z → l'.length = l.length → blt (cat l') (cat l) = false
  | [], x, l', _, _, hl => by
    obtain rfl : l' = [] := List.eq_nil_of_length_eq_zero (by simpa using hl)
    exact blt_irrefl _
  | y :: l, x, [], _, _, hl => by simp at hl
  | y :: l, x, y' :: l', hg, hp, hl => by
    have hgp := Gr.path hF _ _ hg
    obtain ⟨⟨hE, hN, hmin⟩, hg'⟩ := hg
    obtain ⟨hE', hp'⟩ := hp
    simp only [List.length_cons, Nat.add_right_cancel_iff] at hl
    rw [cat_cons, cat_cons]
    by_cases e : y' = y
    · subst e
      rw [blt_app]
      exact Gr.least hF hs l y' l' hg' hp' hl
    · refine blt_head (hs _ hE) (hs _ hE') _ _ (hmin y' hE' ?_) e
      have h1 := path_wk _ _ hp'
      cases hd : D y' with
      | none => exact absurd h1 ((hF y').2 hd _)
      | some j =>
        have h2 := ((hF y').1 j hd).2 _ h1
        exact ⟨_, j, hgp.2, hd, by simp; omega⟩

/-- t is the text of the shortest way from x to z, of several the first in the order of bytes -/
def Best (es : List Pr) (x z t : ByteArray) : Prop :=
  ∃ l, IsPath es x l z ∧ t = cat (x :: l) ∧ (∀ l', IsPath es x l' z → l.length ≤ l'.length) ∧ ∀ l', IsPath es x l' z → l'.length = l.length → blt (cat (x :: l')) t = false
theorem Best.unique {es : List Pr} {x z t t' : ByteArray} (h : Best es x z t) (h' : Best es x z t') : t = t' := by
  obtain ⟨l, h1, rfl, h3, h4⟩ := h
  obtain ⟨m, g1, rfl, g3, g4⟩ := h'
  have e : l.length = m.length := Nat.le_antisymm (h3 m g1) (g3 l h1)
  exact blt_total (g4 l h1 e) (h4 m g1 e.symm)
theorem Gr.best {es : List Pr} {D : ByteArray → Option Nat} {z x : ByteArray} {l : List ByteArray} (hF : Far (flip es) z D) (hs : ∀ e ∈ es, e.2.size = 1) (h : Gr es D x l) : Best es x z (cat (x :: l)) := by
  obtain ⟨hp, hd⟩ := Gr.path hF l x h
  refine ⟨l, hp, rfl, fun l' hl' => ((hF x).1 _ hd).2 _ (path_wk _ _ hl'), fun l' hl' e => ?_⟩
  rw [cat_cons, cat_cons, blt_app]
  exact Gr.least hF hs l x l' h hl' e
/-- a part of such a walk -/
def Ch (es : List Pr) (D : ByteArray → Option Nat) : ByteArray → List ByteArray → ByteArray → Prop
  | x, [], y => x = y
  | x, a :: l, y => Near es D x a ∧ Ch es D a l y
theorem Ch.snoc {es : List Pr} {D : ByteArray → Option Nat} : ∀ (l : List ByteArray) (x y z : ByteArray), Ch es D x l y → Near es D y z → Ch es D x (l ++ [z]) z
  | [], x, y, z, h, hn => by have e : x = y := h; subst e; exact ⟨hn, rfl⟩
  | a :: l, x, y, z, h, hn => ⟨h.1, Ch.snoc l a y z h.2 hn⟩
theorem Ch.gr {es : List Pr} {D : ByteArray → Option Nat} : ∀ (l : List ByteArray) (x y : ByteArray), Ch es D x l y → D y = some 0 → Gr es D x l
  | [], x, y, h, h0 => by have e : x = y := h; subst e; exact h0
  | a :: l, x, y, h, h0 => ⟨h.1, Ch.gr l a y h.2 h0⟩
theorem Near.dist {es : List Pr} {D : ByteArray → Option Nat} {z x y : ByteArray} {k : Nat} (hF : Far (flip es) z D) (h : Near es D x y) (hd : D x = some (k + 1)) : D y = some k := by
  obtain ⟨hE, ⟨i, j, h1, h2, h3⟩, _⟩ := h
  rw [hd] at h1
  cases h1
  obtain ⟨l, hl, hp⟩ := wk_path ((hF y).1 j h2).1
  have := ((hF x).1 _ hd).2 _ (path_wk (y :: l) x ⟨hE, hp⟩)
  simp only [List.length_cons, hl] at this
  rw [h2]; congr 1; omega
theorem exists_nearer {es : List Pr} {D : ByteArray → Option Nat} {z x : ByteArray} {k : Nat} (hF : Far (flip es) z D) (hd : D x = some (k + 1)) : ∃ y, (x, y) ∈ es ∧ Nearer D x y := by
  obtain ⟨l, hl, hp⟩ := wk_path ((hF x).1 _ hd).1
  cases l with
  | nil => simp at hl
  | cons y r =>
    obtain ⟨hE, hp'⟩ := hp
    refine ⟨y, hE, ?_⟩
    have h1 := path_wk _ _ hp'
    cases hy : D y with
    | none => exact absurd h1 ((hF y).2 hy _)
    | some j =>
      have := ((hF y).1 j hy).2 _ h1
      simp only [List.length_cons] at hl
      exact ⟨_, j, hd, hy, by omega⟩
end Go.Proofs.YtfmhcjhcmoniaaaDoor
