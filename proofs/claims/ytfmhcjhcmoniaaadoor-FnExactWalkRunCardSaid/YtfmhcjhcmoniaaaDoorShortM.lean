/-
  The model's l2Short: the shortest way to the exit, of several the first in the order of bytes, level by level. Conditions: a valid program; a name of one of its blocks.
-/
import Derived.Test.YtfmhcjhcmoniaaaDoorShortB
import Derived.Test.YtfmhcjhcmoniaaaDoorShortK
namespace Go.Proofs.YtfmhcjhcmoniaaaDoor
open Go.RowKit Go.Maps

/-- the best of the first ways -/
def BestIn (ts : List ByteArray) (z : ByteArray) (m : Nat) (b : ByteArray) : Prop :=
  (b = e0 ∧ ∀ j u, j < m → ts[j]? = some u → lastC u ≠ z) ∨ (∃ j, j < m ∧ ts[j]? = some b ∧ lastC b = z)
theorem BestIn.start (ts : List ByteArray) (z : ByteArray) : BestIn ts z 0 e0 := .inl ⟨rfl, fun _ _ h => absurd h (Nat.not_lt_zero _)⟩
theorem BestIn.miss {ts : List ByteArray} {z b u : ByteArray} {m : Nat} (h : BestIn ts z m b) (hu : ts[m]? = some u) (hn : lastC u ≠ z) : BestIn ts z (m + 1) b := by
  rcases h with ⟨h1, h2⟩ | ⟨j, h1, h2, h3⟩
  · refine .inl ⟨h1, fun j v hj hv => ?_⟩
    rcases Nat.lt_or_ge j m with h | h
    · exact h2 j v h hv
    · obtain rfl : j = m := by omega
      rw [hu] at hv; cases hv; exact hn
  · exact .inr ⟨j, by omega, h2, h3⟩
theorem BestIn.hit {ts : List ByteArray} {z u : ByteArray} {m : Nat} (hu : ts[m]? = some u) (hz : lastC u = z) : BestIn ts z (m + 1) u := .inr ⟨m, by omega, hu, hz⟩
/-- ends are distinct: behind a best one no other ends there -/
theorem BestIn.empty {ts : List ByteArray} {z b u : ByteArray} {m : Nat} (hd : ts.Pairwise fun a b => lastC a ≠ lastC b) (h : BestIn ts z m b) (hu : ts[m]? = some u) (hz : lastC u = z) : b = e0 := by
  rcases h with ⟨h1, _⟩ | ⟨j, h1, h2, h3⟩
  · exact h1
  · obtain ⟨hj, ej⟩ := List.getElem?_eq_some_iff.1 h2
    obtain ⟨hm, em⟩ := List.getElem?_eq_some_iff.1 hu
    have := List.pairwise_iff_getElem.1 hd j m hj hm h1
    rw [ej, em, h3, hz] at this
    exact absurd rfl this
theorem Lev.sizes {bs es : List Pr} {x : ByteArray} {j : Nat} {ts : List ByteArray} (hV : Valid bs es) (hx : x.size = 1) (h : Lev es x j ts) : ∀ u ∈ ts, u.size = j + 1 := fun u hu => by
  obtain ⟨l, hl, hp, e⟩ := h.path u hu
  rw [e, path_size (fun e he => hV.name_size (hV.e.to _ he)) hx l _ hp, hl]
theorem Lev.ends {bs es : List Pr} {x : ByteArray} {j : Nat} {ts : List ByteArray} (hV : Valid bs es) (hx : x ∈ names bs) (h : Lev es x j ts) : ∀ u ∈ ts, lastC u ∈ names bs := fun u hu => by
  obtain ⟨l, hl, hp, e⟩ := h.path u hu
  have key : ∀ (l : List ByteArray) (a b : ByteArray), a ∈ names bs → IsPath es a l b → b ∈ names bs := by
    intro l
    induction l with
    | nil => intro a b ha hp; have e : a = b := hp; rw [← e]; exact ha
    | cons c r ih => intro a b _ hp; exact ih c b (hV.e.to _ hp.1) hp.2
  exact key l x _ hx hp
theorem distinct_len {bs : List Pr} {ks : List ByteArray} (hd : ks.Pairwise fun a b => lastC a ≠ lastC b) (hs : ∀ u ∈ ks, lastC u ∈ names bs) : ks.length ≤ bs.length := by
  have h := nodup_len (ks.map lastC) (names bs) (List.pairwise_map.2 hd) fun a ha => by
    obtain ⟨u, hu, rfl⟩ := List.mem_map.1 ha
    exact hs u hu
  rw [List.length_map, names_length] at h
  exact h
/-- the ways that the second loop has laid: of the first ways all, and of the next one the first names -/
def Made (es : List Pr) (ts : List ByteArray) (m q : Nat) (c : ByteArray) : Prop :=
  (∃ j u y, j < m ∧ ts[j]? = some u ∧ (lastC u, y) ∈ es ∧ c = u ++ y) ∨ (∃ u i y, ts[m]? = some u ∧ i < q ∧ (outL es (lastC u))[i]? = some y ∧ c = u ++ y)
theorem Made.zero {es : List Pr} {ts : List ByteArray} (c : ByteArray) : False ↔ Made es ts 0 0 c :=
  ⟨False.elim, fun h => by rcases h with ⟨j, _, _, h, _⟩ | ⟨_, i, _, _, h, _⟩ <;> exact absurd h (Nat.not_lt_zero _)⟩
theorem Made.name {es : List Pr} {ts : List ByteArray} {m q : Nat} {u y : ByteArray} (hu : ts[m]? = some u) (hy : (outL es (lastC u))[q]? = some y) (c : ByteArray) : (c = u ++ y ∨ Made es ts m q c) ↔ Made es ts m (q + 1) c := by
  constructor
  · rintro (h | h | ⟨v, i, z, h1, h2, h3, h4⟩)
    · exact .inr ⟨u, q, y, hu, by omega, hy, h⟩
    · exact .inl h
    · exact .inr ⟨v, i, z, h1, by omega, h3, h4⟩
  · rintro (h | ⟨v, i, z, h1, h2, h3, h4⟩)
    · exact .inr (.inl h)
    · rcases Nat.lt_or_ge i q with h | h
      · exact .inr (.inr ⟨v, i, z, h1, h, h3, h4⟩)
      · obtain rfl : i = q := by omega
        rw [hu] at h1; cases h1
        rw [hy] at h3; cases h3
        exact .inl h4
theorem Made.way {es : List Pr} {ts : List ByteArray} {m : Nat} {u : ByteArray} (hu : ts[m]? = some u) (c : ByteArray) : Made es ts m (outL es (lastC u)).length c ↔ Made es ts (m + 1) 0 c := by
  constructor
  · rintro (⟨j, v, y, h1, h2, h3, h4⟩ | ⟨v, i, y, h1, h2, h3, h4⟩)
    · exact .inl ⟨j, v, y, by omega, h2, h3, h4⟩
    · rw [hu] at h1; cases h1
      exact .inl ⟨m, u, y, by omega, hu, mem_outL.1 (List.mem_of_getElem? h3), h4⟩
  · rintro (⟨j, v, y, h1, h2, h3, h4⟩ | ⟨_, i, _, _, h, _⟩)
    · rcases Nat.lt_or_ge j m with h | h
      · exact .inl ⟨j, v, y, h, h2, h3, h4⟩
      · obtain rfl : j = m := by omega
        rw [hu] at h2; cases h2
        obtain ⟨i, hi, e⟩ := List.getElem_of_mem (mem_outL.2 h3)
        exact .inr ⟨u, i, y, hu, hi, by rw [List.getElem?_eq_getElem hi, e], h4⟩
    · exact absurd h (Nat.not_lt_zero _)
theorem Made.all {es : List Pr} {ts : List ByteArray} (c : ByteArray) : Made es ts ts.length 0 c ↔ ∃ t ∈ ts, ∃ y, (lastC t, y) ∈ es ∧ c = t ++ y := by
  constructor
  · rintro (⟨j, v, y, h1, h2, h3, h4⟩ | ⟨_, i, _, _, h, _⟩)
    · exact ⟨v, List.mem_of_getElem? h2, y, h3, h4⟩
    · exact absurd h (Nat.not_lt_zero _)
  · rintro ⟨t, ht, y, h3, h4⟩
    obtain ⟨i, hi, e⟩ := List.getElem_of_mem ht
    exact .inl ⟨i, t, y, hi, by rw [List.getElem?_eq_getElem hi, e], h3, h4⟩
theorem Made.info {bs es : List Pr} {x : ByteArray} {j : Nat} {ts : List ByteArray} (hV : Valid bs es) (hx : x.size = 1) (hL : Lev es x j ts) {m q : Nat} {c : ByteArray} (h : Made es ts m q c) : c.size = j + 2 ∧ lastC c ∈ names bs := by
  have key : ∃ u ∈ ts, ∃ y, (lastC u, y) ∈ es ∧ c = u ++ y := by
    rcases h with ⟨i, u, y, _, h2, h3, h4⟩ | ⟨u, i, y, h1, _, h3, h4⟩
    · exact ⟨u, List.mem_of_getElem? h2, y, h3, h4⟩
    · exact ⟨u, List.mem_of_getElem? h1, y, mem_outL.1 (List.mem_of_getElem? h3), h4⟩
  obtain ⟨u, hu, y, hE, rfl⟩ := key
  have hy := hV.e.to _ hE
  have hy1 : y.size = 1 := hV.name_size hy
  exact ⟨by rw [ByteArray.size_append, hL.sizes hV hx u hu, hy1], by rw [lastC_app hy1]; exact hy⟩
end Go.Proofs.YtfmhcjhcmoniaaaDoor
