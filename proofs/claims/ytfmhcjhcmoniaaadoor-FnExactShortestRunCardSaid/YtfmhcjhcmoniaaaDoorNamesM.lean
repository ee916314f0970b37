/-
  Plain mathematics: the names at the other ends of a block's edges, in the order of the edges; Conditions: at most 1048576 blocks and edges, each text at most as many bytes.
-/
import Derived.Test.YtfmhcjhcmoniaaaDoorWith
namespace Go.Proofs.YtfmhcjhcmoniaaaDoor
open Go.RowKit Go.Maps

/-- texts one behind the other -/
def cat (l : List ByteArray) : ByteArray := l.foldl (· ++ ·) e0
theorem cat_nil : cat [] = e0 := rfl
theorem cat_snoc (l : List ByteArray) (x : ByteArray) : cat (l ++ [x]) = cat l ++ x := by simp [cat, List.foldl_append]
open Classical in
noncomputable def outL (E : List Pr) (x : ByteArray) : List ByteArray := (E.filter fun e => decide (e.1 = x)).map (·.2)
theorem outL_nil (x : ByteArray) : outL [] x = [] := rfl
theorem outL_hit {E : List Pr} {x : ByteArray} {p : Pr} (h : p.1 = x) : outL (E ++ [p]) x = outL E x ++ [p.2] := by simp [outL, h]
theorem outL_miss {E : List Pr} {x : ByteArray} {p : Pr} (h : p.1 ≠ x) : outL (E ++ [p]) x = outL E x := by simp [outL, h]
theorem mem_outL {E : List Pr} {x y : ByteArray} : y ∈ outL E x ↔ (x, y) ∈ E := by
  unfold outL
  rw [List.mem_map]
  constructor
  · rintro ⟨p, hp, rfl⟩
    have h := List.mem_filter.1 hp
    have e : p.1 = x := by simpa using h.2
    rw [← e]; exact h.1
  · intro h
    exact ⟨(x, y), List.mem_filter.2 ⟨h, by simp⟩, rfl⟩
theorem outL_length (E : List Pr) (x : ByteArray) : (outL E x).length ≤ E.length := by
  unfold outL
  rw [List.length_map]
  exact List.length_filter_le _ _
theorem cat_size {l : List ByteArray} (h : ∀ x ∈ l, x.size = 1) : (cat l).size = l.length := by
  have key : ∀ (l : List ByteArray) (a : ByteArray), (∀ x ∈ l, x.size = 1) → (l.foldl (· ++ ·) a).size = a.size + l.length := by
    intro l
    induction l with
    | nil => intro a _; simp
    | cons x r ih =>
      intro a h
      rw [List.foldl_cons, ih _ (fun y hy => h y (List.mem_cons_of_mem _ hy)), ByteArray.size_append, h x (List.mem_cons_self ..), List.length_cons]
      omega
  have := key l e0 h
  unfold cat
  rw [this]
  show 0 + _ = _
  omega
theorem isNm_size {s : ByteArray} (h : isNm s = true) : s.size = 1 := by
  unfold isNm at h
  simp at h
  exact h.1
theorem Valid.name_size {bs es : List Pr} (h : Valid bs es) {s : ByteArray} (hs : s ∈ names bs) : s.size = 1 := by
  obtain ⟨p, hp, rfl⟩ := List.mem_map.1 hs
  exact isNm_size (h.b.nm p hp)
theorem Valid.to_size {bs es : List Pr} (h : Valid bs es) {k : Nat} (hk : k < es.length) : (restAt es k).size = 1 := h.name_size (h.e.to _ (pair_mem hk))
theorem Valid.from_size {bs es : List Pr} (h : Valid bs es) {k : Nat} (hk : k < es.length) : (nameAt es k).size = 1 := h.name_size (h.e.fr _ (pair_mem hk))
theorem flip_take (es : List Pr) (k : Nat) : (flip es).take k = flip (es.take k) := by simp [flip, List.map_take]
theorem flip_succ {es : List Pr} {k : Nat} (h : k < es.length) : flip (es.take (k + 1)) = flip (es.take k) ++ [(restAt es k, nameAt es k)] := by rw [take_succ_pr h, flip_snoc]
noncomputable def outV (bs es E : List Pr) (x : ByteArray) : Value := if hasB bs es x = true then .tuple #[.string (cat (outL E x)), .bool true] else .tuple #[.string e0, .bool false]
theorem outV_yes {bs es E : List Pr} {x : ByteArray} (h : hasB bs es x = true) : outV bs es E x = .tuple #[.string (cat (outL E x)), .bool true] := by unfold outV; rw [if_pos h]
theorem outV_no {bs es E : List Pr} {x : ByteArray} (h : hasB bs es x = false) : outV bs es E x = .tuple #[.string e0, .bool false] := by unfold outV; rw [if_neg (by rw [h]; simp)]
/-- the names to, or from, as values of a law's two results -/
noncomputable def outOfV (bs es : List Pr) (x : ByteArray) : Value := outV bs es es x
noncomputable def inOfV (bs es : List Pr) (x : ByteArray) : Value := outV bs es (flip es) x
theorem outOfV_form (bs es : List Pr) (x : ByteArray) : ∃ (r : ByteArray) (ok : Bool), outOfV bs es x = .tuple #[.string r, .bool ok] := by
  cases h : hasB bs es x
  · exact ⟨_, _, outV_no h⟩
  · exact ⟨_, _, outV_yes h⟩
theorem inOfV_form (bs es : List Pr) (x : ByteArray) : ∃ (r : ByteArray) (ok : Bool), inOfV bs es x = .tuple #[.string r, .bool ok] := by
  cases h : hasB bs es x
  · exact ⟨_, _, outV_no h⟩
  · exact ⟨_, _, outV_yes h⟩

end Go.Proofs.YtfmhcjhcmoniaaaDoor
