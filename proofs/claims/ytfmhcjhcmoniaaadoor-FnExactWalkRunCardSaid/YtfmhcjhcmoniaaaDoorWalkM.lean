/-
  Plain mathematics: a walk by picks, and behind it the shortest way. Conditions: a valid program.
-/
import Derived.Test.YtfmhcjhcmoniaaaDoorShortB
import Derived.Test.YtfmhcjhcmoniaaaDoorInts
namespace Go.Proofs.YtfmhcjhcmoniaaaDoor
open Go.RowKit Go.Maps

/-- one pick more -/
noncomputable def stepW (es : List Pr) (z out : ByteArray) (k : Int) : ByteArray := open Classical in
  if lastC out ≠ z ∧ out.size < 20 then out ++ (outL es (lastC out)).getD (k % ((outL es (lastC out)).length : Int)).toNat e0 else out
noncomputable def walkW (es : List Pr) (z out : ByteArray) (ns : List Int) : ByteArray := ns.foldl (stepW es z) out
theorem walkW_snoc (es : List Pr) (z out : ByteArray) (ns : List Int) (k : Int) : walkW es z out (ns ++ [k]) = stepW es z (walkW es z out ns) k := by simp [walkW, List.foldl_append]
theorem take_numAt {ns : List Int} {k : Nat} (h : k < ns.length) : ns.take (k + 1) = ns.take k ++ [numAt ns k] := by
  rw [List.take_succ_eq_append_getElem h]
  congr 1
  simp [numAt, h]
theorem walkW_succ {es : List Pr} {z out : ByteArray} {ns : List Int} {k : Nat} (h : k < ns.length) : walkW es z out (ns.take (k + 1)) = stepW es z (walkW es z out (ns.take k)) (numAt ns k) := by rw [take_numAt h, walkW_snoc]
theorem stepW_stop {es : List Pr} {z out : ByteArray} {k : Int} (h : ¬ (lastC out ≠ z ∧ out.size < 20)) : stepW es z out k = out := by unfold stepW; rw [if_neg h]
theorem stepW_go {es : List Pr} {z out : ByteArray} {k : Int} (h : lastC out ≠ z ∧ out.size < 20) : stepW es z out k = out ++ (outL es (lastC out)).getD (k % ((outL es (lastC out)).length : Int)).toNat e0 := by unfold stepW; rw [if_pos h]
theorem walkW_stop {es : List Pr} {z out : ByteArray} : ∀ (ns : List Int), ¬ (lastC out ≠ z ∧ out.size < 20) → walkW es z out ns = out := by
  intro ns
  induction ns with
  | nil => intro _; rfl
  | cons k r ih =>
    intro h
    show walkW es z (stepW es z out k) r = out
    rw [stepW_stop h]; exact ih h
theorem walkW_app (es : List Pr) (z out : ByteArray) (a b : List Int) : walkW es z out (a ++ b) = walkW es z (walkW es z out a) b := by simp [walkW, List.foldl_append]
theorem walkW_done {es : List Pr} {z out : ByteArray} {ns : List Int} {k : Nat} (h : ¬ (lastC (walkW es z out (ns.take k)) ≠ z ∧ (walkW es z out (ns.take k)).size < 20)) : walkW es z out ns = walkW es z out (ns.take k) := by
  conv => lhs; rw [← List.take_append_drop k ns]
  rw [walkW_app]
  exact walkW_stop _ h
/-- what a walk is on its way -/
structure OnWay (bs : List Pr) (out : ByteArray) : Prop where
  lo : 1 ≤ out.size
  hi : out.size ≤ 20
  at_ : lastC out ∈ names bs
theorem outL_pos {bs es : List Pr} (hV : Valid bs es) {x : ByteArray} (hx : x ∈ names bs) (hz : x ≠ lastN bs) : 0 < (outL es x).length := by
  obtain ⟨l, hp, _, _⟩ := hV.least hx
  match l, hp with
  | [], hp => exact absurd hp hz
  | a :: r, hp => exact List.length_pos_of_mem (mem_outL.2 hp.1)
theorem outL_exit {bs es : List Pr} (hV : Valid bs es) : outL es (lastN bs) = [] :=
  List.eq_nil_iff_forall_not_mem.2 fun _ hy => hV.e.nx _ (mem_outL.1 hy) rfl
/-- the name that a pick takes -/
theorem pick_name {bs es : List Pr} (hV : Valid bs es) {x : ByteArray} (hx : x ∈ names bs) (hz : x ≠ lastN bs) (k : Int) :
    ∃ (i : Nat) (y : ByteArray), k % ((outL es x).length : Int) = (i : Int) ∧ i < (outL es x).length ∧ (outL es x)[i]? = some y ∧ (outL es x).getD (k % ((outL es x).length : Int)).toNat e0 = y ∧ y.size = 1 ∧ y ∈ names bs := by
  have h0 := outL_pos hV hx hz
  have h1 := Int.emod_nonneg k (show ((outL es x).length : Int) ≠ 0 by omega)
  have h2 := Int.emod_lt_of_pos k (show (0 : Int) < ((outL es x).length : Int) by omega)
  obtain ⟨i, hi⟩ : ∃ i : Nat, k % ((outL es x).length : Int) = (i : Int) := ⟨(k % ((outL es x).length : Int)).toNat, by omega⟩
  have hil : i < (outL es x).length := by omega
  have hy := hV.e.to _ (mem_outL.1 (List.getElem_mem hil))
  refine ⟨i, (outL es x)[i], hi, hil, List.getElem?_eq_getElem hil, ?_, hV.name_size hy, hy⟩
  rw [hi]
  simp [List.getD_eq_getElem?_getD, hil]
theorem OnWay.step {bs es : List Pr} {out : ByteArray} (hV : Valid bs es) (h : OnWay bs out) (k : Int) : OnWay bs (stepW es (lastN bs) out k) := by
  by_cases hg : lastC out ≠ lastN bs ∧ out.size < 20
  · obtain ⟨i, y, _, _, _, h4, h5, h6⟩ := pick_name hV h.at_ hg.1 k
    rw [stepW_go hg, h4]
    have := h.lo
    exact ⟨by rw [ByteArray.size_append]; omega, by rw [ByteArray.size_append]; omega, by rw [lastC_app h5]; exact h6⟩
  · rw [stepW_stop hg]; exact h
theorem OnWay.start {bs es : List Pr} (hV : Valid bs es) : OnWay bs (nameAt bs 0) := by
  have hm := nameAt_mem (l := bs) (i := 0) (by have := hV.b.lo; omega)
  have hs := hV.name_size hm
  exact ⟨by omega, by omega, by rw [lastC_one hs]; exact hm⟩
theorem OnWay.walk {bs es : List Pr} (hV : Valid bs es) : ∀ (ns : List Int) (out : ByteArray), OnWay bs out → OnWay bs (walkW es (lastN bs) out ns)
  | [], _, h => h
  | k :: r, out, h => OnWay.walk hV r (stepW es (lastN bs) out k) (h.step hV k)
/-- the walk and the shortest way behind it -/
noncomputable def fullW (bs es : List Pr) (ns : List Int) : ByteArray :=
  walkW es (lastN bs) (nameAt bs 0) ns ++ (bestT es (lastC (walkW es (lastN bs) (nameAt bs 0) ns)) (lastN bs)).extract 1 (bestT es (lastC (walkW es (lastN bs) (nameAt bs 0) ns)) (lastN bs)).size
def picksOk (ns : List Int) : Bool := decide (ns.length ≤ 40) && ns.all fun n => decide (0 ≤ n)
noncomputable def walkV (bs es : List Pr) (ns : List Int) : Value := if (validB bs es && picksOk ns) = true then .tuple #[.string (fullW bs es ns), .bool true] else .tuple #[.string e0, .bool false]
theorem walkV_yes {bs es : List Pr} {ns : List Int} (h : validB bs es = true) (h' : picksOk ns = true) : walkV bs es ns = .tuple #[.string (fullW bs es ns), .bool true] := by unfold walkV; rw [h, h']; rfl
theorem walkV_no1 {bs es : List Pr} {ns : List Int} (h : validB bs es = false) : walkV bs es ns = .tuple #[.string e0, .bool false] := by unfold walkV; rw [h]; rfl
theorem walkV_no2 {bs es : List Pr} {ns : List Int} (h : picksOk ns = false) : walkV bs es ns = .tuple #[.string e0, .bool false] := by unfold walkV; rw [h, Bool.and_false]; rfl
theorem walkV_form (bs es : List Pr) (ns : List Int) : ∃ (r : ByteArray) (ok : Bool), walkV bs es ns = .tuple #[.string r, .bool ok] := by
  cases h : validB bs es
  · exact ⟨_, _, walkV_no1 h⟩
  · cases h' : picksOk ns
    · exact ⟨_, _, walkV_no2 h'⟩
    · exact ⟨_, _, walkV_yes h h'⟩
theorem picksOk_iff {ns : List Int} : picksOk ns = true ↔ ns.length ≤ 40 ∧ ∀ i, i < ns.length → 0 ≤ numAt ns i := by
  unfold picksOk
  simp only [Bool.and_eq_true, decide_eq_true_eq, List.all_eq_true]
  constructor
  · rintro ⟨h1, h2⟩
    refine ⟨h1, fun i hi => ?_⟩
    have := h2 _ (List.getElem_mem hi)
    simpa [numAt, hi] using this
  · rintro ⟨h1, h2⟩
    refine ⟨h1, fun n hn => ?_⟩
    obtain ⟨i, hi, rfl⟩ := List.getElem_of_mem hn
    have := h2 i hi
    simpa [numAt, hi] using this
theorem picksOk_neg {ns : List Int} {k : Nat} (hk : k < ns.length) (h : numAt ns k < 0) : picksOk ns = false := by
  cases hp : picksOk ns
  · rfl
  · have := (picksOk_iff.1 hp).2 k hk; omega
theorem picksOk_long {ns : List Int} (h : 40 < ns.length) : picksOk ns = false := by
  cases hp : picksOk ns
  · rfl
  · have := (picksOk_iff.1 hp).1; omega
/-- the shortest way begins with its first block -/
theorem best_tail {es : List Pr} {x z : ByteArray} {l : List ByteArray} (hx : x.size = 1) (h : Best es x z (cat (x :: l))) : (bestT es x z).extract 1 (bestT es x z).size = cat l := by
  rw [bestT_eq h, cat_cons]
  apply bytes_ext2
  have h1 : x.data.toList.length = 1 := by simpa using hx
  rw [ByteArray.data_extract, Array.toList_extract, ByteArray.data_append, Array.toList_append, ByteArray.size_append, hx, List.extract_eq_take_drop]
  rw [show (1 : Nat) = x.data.toList.length by omega, List.drop_append]
  simp
  first
    | exact List.take_of_length_le (by simp)
    | (rw [List.drop_eq_nil_of_le (by rw [h1, hx]; exact Nat.le_refl _), List.nil_append]; exact List.take_of_length_le (by simp))
theorem best_bd {bs es : List Pr} (hV : Valid bs es) {x t : ByteArray} (hx : x ∈ names bs) (h : Best es x (lastN bs) t) : 1 ≤ (bestT es x (lastN bs)).size ∧ (bestT es x (lastN bs)).size ≤ 9 := by
  rw [bestT_eq h]
  obtain ⟨l, hp, rfl, hmin, _⟩ := h
  obtain ⟨l0, hp0, h8, _⟩ := hV.least hx
  have := hmin l0 hp0
  rw [path_size (fun e he => hV.name_size (hV.e.to _ he)) (hV.name_size hx) l _ hp]
  omega
end Go.Proofs.YtfmhcjhcmoniaaaDoor
