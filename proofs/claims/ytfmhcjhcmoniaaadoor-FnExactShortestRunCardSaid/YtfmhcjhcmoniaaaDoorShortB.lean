/-
  Plain mathematics: from each block of a valid program some shortest way leads to the exit, and it has at most eight edges. Conditions: a valid program.
-/
import Derived.Test.YtfmhcjhcmoniaaaDoorKeep
namespace Go.Proofs.YtfmhcjhcmoniaaaDoor
open Go.RowKit Go.Maps

theorem nodup_len {α : Type} [DecidableEq α] : ∀ (l m : List α), l.Nodup → (∀ a ∈ l, a ∈ m) → l.length ≤ m.length
  | [], _, _, _ => Nat.zero_le _
  | a :: r, m, hd, hs => by
    obtain ⟨h1, h2⟩ := List.nodup_cons.1 hd
    have ha := hs a (List.mem_cons_self ..)
    have ih := nodup_len r (m.erase a) h2 fun b hb => (List.mem_erase_of_ne (fun e => h1 (by rw [e] at hb; exact hb))).2 (hs b (List.mem_cons_of_mem _ hb))
    rw [List.length_erase_of_mem ha] at ih
    have hp := List.length_pos_of_mem ha
    simp only [List.length_cons]
    omega
theorem path_suffix {es : List Pr} {z x : ByteArray} : ∀ (r : List ByteArray) (a : ByteArray), IsPath es a r z → x ∈ a :: r → ∃ l, IsPath es x l z ∧ l.length ≤ r.length
  | r, a, hp, hx => by
    rcases List.mem_cons.1 hx with rfl | hx
    · exact ⟨r, hp, Nat.le_refl _⟩
    · match r, hp, hx with
      | b :: r', hp, hx =>
        obtain ⟨l, h1, h2⟩ := path_suffix r' b hp.2 hx
        exact ⟨l, h1, by simp only [List.length_cons]; omega⟩
theorem path_cut {es : List Pr} {z : ByteArray} : ∀ (l : List ByteArray) (x : ByteArray), IsPath es x l z → ¬ (x :: l).Nodup → ∃ l', IsPath es x l' z ∧ l'.length < l.length
  | [], x, _, h => absurd (List.nodup_cons.2 ⟨by simp, List.nodup_nil⟩) h
  | a :: r, x, hp, h => by
    by_cases hr : (a :: r).Nodup
    · have hx : x ∈ a :: r := by
        by_cases hx : x ∈ a :: r
        · exact hx
        · exact absurd (List.nodup_cons.2 ⟨hx, hr⟩) h
      obtain ⟨l, h1, h2⟩ := path_suffix r a hp.2 hx
      exact ⟨l, h1, by simp only [List.length_cons]; omega⟩
    · obtain ⟨l, h1, h2⟩ := path_cut r a hp.2 hr
      exact ⟨a :: l, ⟨hp.1, h1⟩, by simp only [List.length_cons]; omega⟩
theorem path_names {bs es : List Pr} (hV : Valid bs es) {z : ByteArray} : ∀ (l : List ByteArray) (x : ByteArray), IsPath es x l z → ∀ a ∈ l, a ∈ names bs
  | [], _, _, a, h => by cases h
  | b :: r, x, hp, a, h => by
    rcases List.mem_cons.1 h with rfl | h
    · exact hV.e.to _ hp.1
    · exact path_names hV r b hp.2 a h
theorem reach_path {es : List Pr} {z x : ByteArray} (h : Reach (flip es) z x) : ∃ l, IsPath es x l z := by
  induction h with
  | refl => exact ⟨[], rfl⟩
  | step _ hm ih =>
    obtain ⟨l, hl⟩ := ih
    exact ⟨_ :: l, mem_flip.1 hm, hl⟩
theorem least_path {es : List Pr} {z x : ByteArray} : ∀ n, (∃ l, l.length = n ∧ IsPath es x l z) → ∃ l, IsPath es x l z ∧ ∀ l', IsPath es x l' z → l.length ≤ l'.length := by
  intro n
  induction n using Nat.strongRecOn with
  | ind n ih =>
    rintro ⟨l, hl, hp⟩
    by_cases h : ∃ l', IsPath es x l' z ∧ l'.length < n
    · obtain ⟨l', h1, h2⟩ := h
      exact ih l'.length h2 ⟨l', rfl, h1⟩
    · refine ⟨l, hp, fun l' hl' => ?_⟩
      rcases Nat.lt_or_ge l'.length l.length with h2 | h2
      · exact absurd ⟨l', hl', by omega⟩ h
      · exact h2
/-- a shortest way to the exit -/
theorem Valid.least {bs es : List Pr} (hV : Valid bs es) {x : ByteArray} (hx : x ∈ names bs) : ∃ l, IsPath es x l (lastN bs) ∧ l.length ≤ 8 ∧ ∀ l', IsPath es x l' (lastN bs) → l.length ≤ l'.length := by
  obtain ⟨p, hp, rfl⟩ := List.mem_map.1 hx
  obtain ⟨l0, h0⟩ := reach_path (hV.rz p hp)
  obtain ⟨l, h1, h2⟩ := least_path l0.length ⟨l0, rfl, h0⟩
  refine ⟨l, h1, ?_, h2⟩
  have hn : (p.1 :: l).Nodup := by
    by_cases hn : (p.1 :: l).Nodup
    · exact hn
    · obtain ⟨l', h3, h4⟩ := path_cut l p.1 h1 hn
      have := h2 l' h3
      omega
  have h5 := nodup_len (p.1 :: l) (names bs) hn fun a ha => by
    rcases List.mem_cons.1 ha with rfl | ha
    · exact hx
    · exact path_names hV l p.1 h1 a ha
  have h6 := hV.b.hi
  rw [names_length] at h5
  simp only [List.length_cons] at h5
  omega
/-- the text of the shortest way, of several the first in the order of bytes -/
noncomputable def bestT (es : List Pr) (x z : ByteArray) : ByteArray := open Classical in if h : ∃ t, Best es x z t then h.choose else e0
theorem bestT_eq {es : List Pr} {x z t : ByteArray} (h : Best es x z t) : bestT es x z = t := by
  unfold bestT
  have h' : ∃ t, Best es x z t := ⟨t, h⟩
  rw [dif_pos h']
  exact h'.choose_spec.unique h
noncomputable def shortV (bs es : List Pr) : Value := if validB bs es = true then .tuple #[.string (bestT es (nameAt bs 0) (lastN bs)), .bool true] else .tuple #[.string e0, .bool false]
theorem shortV_yes {bs es : List Pr} {t : ByteArray} (h : validB bs es = true) (hb : Best es (nameAt bs 0) (lastN bs) t) : shortV bs es = .tuple #[.string t, .bool true] := by unfold shortV; rw [if_pos h, bestT_eq hb]
theorem shortV_no {bs es : List Pr} (h : validB bs es = false) : shortV bs es = .tuple #[.string e0, .bool false] := by unfold shortV; rw [if_neg (by rw [h]; simp)]
theorem shortV_form (bs es : List Pr) : ∃ (r : ByteArray) (ok : Bool), shortV bs es = .tuple #[.string r, .bool ok] := by
  cases h : validB bs es
  · exact ⟨_, _, shortV_no h⟩
  · exact ⟨_, _, by unfold shortV; rw [if_pos h]⟩
/-- a name out of several one behind the other -/
theorem ch_cat : ∀ {l : List ByteArray} {i : Nat}, (∀ y ∈ l, y.size = 1) → (h : i < l.length) → ch (cat l) i = l[i]
  | y :: r, 0, hs, _ => by
    have hy := hs y (List.mem_cons_self ..)
    apply bytes_ext2
    have h1 : y.data.toList.length = 1 := by simpa using hy
    unfold ch
    rw [cat_cons, ByteArray.data_extract, Array.toList_extract, ByteArray.data_append, Array.toList_append, List.extract_eq_take_drop, List.drop_zero, List.getElem_cons_zero]
    simp [← h1]
  | y :: r, i + 1, hs, h => by
    have hy := hs y (List.mem_cons_self ..)
    have ih := ch_cat (l := r) (i := i) (fun a ha => hs a (List.mem_cons_of_mem _ ha)) (by simpa using h)
    rw [List.getElem_cons_succ, ← ih]
    apply bytes_ext2
    have h1 : y.data.toList.length = 1 := by simpa using hy
    unfold ch
    rw [cat_cons, ByteArray.data_extract, Array.toList_extract, ByteArray.data_extract, Array.toList_extract, ByteArray.data_append, Array.toList_append, List.extract_eq_take_drop, List.extract_eq_take_drop]
    rw [show i + 1 = y.data.toList.length + i by omega, List.drop_append]
    simp
    congr 1
    all_goals first
      | (rw [List.drop_eq_nil_of_le (by rw [h1]; have : y.size = 1 := hy; omega), List.nil_append])
      | omega
end Go.Proofs.YtfmhcjhcmoniaaaDoor
