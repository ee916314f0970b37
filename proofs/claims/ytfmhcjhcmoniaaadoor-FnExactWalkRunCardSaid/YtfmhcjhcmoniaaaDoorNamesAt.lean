/-
  namesAt: the names at the other ends of a block's edges, one behind the other. Conditions: at most twelve names, each of one byte; at most 1000 edges.
-/
import Derived.Test.YtfmhcjhcmoniaaaDoorSortN
import Derived.Test.YtfmhcjhcmoniaaaDoorBytes
namespace Go.Proofs.YtfmhcjhcmoniaaaDoor
open Go.RowKit Go.Maps

theorem flip_nodup {es : List Pr} (h : es.Nodup) : (flip es).Nodup := by
  unfold flip
  exact List.pairwise_map.2 (h.imp fun {a b} hab e => hab (by cases a; cases b; simp at e; rw [e.1, e.2]))
theorem join_empty : ∀ xs : List (List UInt8), Lib.join xs [] = xs.flatten
  | [] => by rw [Lib.join_nil]; rfl
  | x :: r => by rw [Lib.join_cons]; simp [Lib.joinTail]
theorem join_cat (l : List ByteArray) : (⟨(Lib.join (l.map (·.data.toList)) (⟨#[]⟩ : ByteArray).data.toList).toArray⟩ : ByteArray) = cat l := by
  apply bytes_ext2
  rw [cat_flat]
  show (Lib.join (l.map (·.data.toList)) []).toArray.toList = _
  rw [join_empty]
theorem join_names (w : World) (v : Value) (l : List ByteArray) (base : Nat) (hl : l.length ≤ 12) (hs : ∀ y ∈ l, y.size = 1) (ho : w.ownsRow base 9 1 v l.length (l.map Value.string)) :
    Calls Tryd.prog 54 #[v, .string ⟨#[]⟩] w fun e w' => e = .returned (.string (cat l)) ∧ Below w.heap.size w w' := by
  obtain ⟨h1, ⟨rfl, h0⟩ | ⟨g, cap, cur, rfl, _, hg, hc, hm, hcs, ht⟩⟩ := ho
  · refine (Tryd.strings_Join_none none 0 ⟨#[]⟩ w).mono fun e w' h => ⟨?_, by rw [h.2]; exact Below.refl _ _⟩
    obtain rfl : l = [] := List.eq_nil_of_length_eq_zero h0
    rw [h.1]; rfl
  · have hj : (Lib.join (l.map (·.data.toList)) (⟨#[]⟩ : ByteArray).data.toList).length ≤ 12 := by
      have := congrArg ByteArray.size (join_cat l)
      rw [cat_size hs] at this
      have h2 : (⟨(Lib.join (l.map (·.data.toList)) (⟨#[]⟩ : ByteArray).data.toList).toArray⟩ : ByteArray).size = (Lib.join (l.map (·.data.toList)) (⟨#[]⟩ : ByteArray).data.toList).length := by simp [ByteArray.size]
      omega
    have := Tryd.strings_Join g 0 cap l ⟨#[]⟩ w (fun j x hx => ?_) (Array.getElem?_eq_some_iff.1 hg).1 (by omega) hc (by omega)
    · rw [join_cat] at this
      exact this
    · have hjl := (List.getElem?_eq_some_iff.1 hx).1
      have hv : (cur.toList.take (l.length * 1))[j]? = some (.string x) := by rw [ht]; simp [hx]
      rw [List.getElem?_take, if_pos (by omega)] at hv
      simp only [Nat.zero_add]
      simp [World.cell?, hg]
      simpa using hv
theorem SortedFunc_nil (W : World) (Bm : Nat) (fv : Value) (hBm : Bm < W.heap.size) (hm : W.cell? ⟨Bm, 0, none⟩ = some (.map none)) :
    Calls Tryd.prog 51 #[.func (.func 67) #[] #[.pointer (some ⟨Bm, 0, none⟩)], fv] W (NamesPost W []) := by
  have hcol := collect_nil Bm W hBm hm
  clear hm
  go_enter Tryd.func51, Tryd.ntmps51
  go_wp2_with fail
  refine hcol.mono ?_
  rintro e w1 ⟨rfl, hb1⟩
  go_wp2_with fail
  refine (sort_none none 0 fv _).mono ?_
  rintro e w2 ⟨rfl, rfl⟩
  go_wp2
  go_ret
  exact ⟨_, rfl, World.ownsRow_nil _ _ _ _, hb1⟩

set_option maxRecDepth 100000 in
theorem namesAt_any (w : World) (lo : Nat) (fp : List Nat) (E : List Pr) (F : ByteArray → Option Value) (x : ByteArray) (hL : Links w lo fp E F) (hfp : ∀ k ∈ fp, k < w.heap.size) (hx : x.size ≤ 1048576) (hE : E.length ≤ 1000) (hnd : E.Nodup) (hl : (outL E x).length ≤ 12) (h1 : ∀ y ∈ outL E x, y.size = 1) :
    Calls Tryd.prog 29 #[.map (some lo), .string x] w fun e w' => e = .returned (.string (cat (outL E x))) ∧ Below w.heap.size w w' := by
  have lk := hL.map.look Tryd.underlying56 (zeroMap w) (mx hx)
  cases hFh : F x with
  | none =>
    rw [hFh] at lk
    simp only [Option.getD_none] at lk
    have hnil : outL E x = [] := List.eq_nil_iff_forall_not_mem.2 fun y hy => hL.none_ x hFh y (mem_outL.1 hy)
    rw [hnil]
    clear hFh hl h1 hnil hL hfp
    go_enter Tryd.func29, Tryd.ntmps29
    go_wp2_with fail
    refine (keys_call none _).mono ?_
    rintro e w1 ⟨rfl, rfl⟩
    go_wp2_with fail
    refine (SortedFunc_nil _ (w.heap.size + 1) _ (by simp) (by go_simp)).mono ?_
    rintro e w2 ⟨v, rfl, hown, hb⟩
    obtain ⟨av, ac, rfl⟩ := own_form hown
    have hj := join_names w2 _ [] _ (by simp) (by simp) hown
    have hz2 := hb.size
    have hbw : Below w.heap.size w w2 := (((Below.refl _ _).alloc (Nat.le_refl _) _).alloc (by simp) _).trans (hb.mono (by simp; omega))
    go_wp2_with fail
    refine hj.mono ?_
    rintro e w3 ⟨rfl, hb3⟩
    go_wp2
    go_ret
    exact ⟨rfl, hbw.trans (hb3.mono hbw.size)⟩
  | some v =>
    obtain ⟨bi, rfl, hbi, hmi, y, hy⟩ := hL.some_ x v hFh
    rw [hFh] at lk
    simp only [Option.getD_some] at lk
    have hbw := hfp bi hbi
    have hne : outL E x ≠ [] := fun e => by have := mem_outL.2 hy; rw [e] at this; cases this
    have hmA : MapV ((w.alloc (.cells #[.map (some bi)] 60)).alloc (.cells #[.map (some bi)] 60)) bi E.length (inner E x) := (hmi.alloc _).alloc _
    have hso := SortedFunc_any ((w.alloc (.cells #[.map (some bi)] 60)).alloc (.cells #[.map (some bi)] 60)) (w.heap.size + 1) w.heap.size bi E.length E x (by simp) (by go_simp) (by simp; omega) (by go_simp) hmA hE hnd hl (fun y hy => by rw [h1 y hy]; decide) hne
    have HL := Lib.hid (And.intro hl h1)
    clear hFh hl h1 hL hfp hmi hmA hne hy
    go_enter Tryd.func29, Tryd.ntmps29
    go_wp2_with fail
    refine (keys_call (some bi) _).mono ?_
    rintro e w1 ⟨rfl, rfl⟩
    go_wp2_with fail
    refine hso.mono ?_
    rintro e w2 ⟨v, rfl, hown, hb⟩
    obtain ⟨av, ac, rfl⟩ := own_form hown
    have hj := join_names w2 _ (outL E x) _ HL.out.1 HL.out.2 hown
    have hbw : Below w.heap.size w w2 := (((Below.refl _ _).alloc (Nat.le_refl _) _).alloc (by simp) _).trans (hb.mono (by simp; omega))
    clear hown
    go_wp2_with fail
    refine hj.mono ?_
    rintro e w3 ⟨rfl, hb3⟩
    go_wp2
    go_ret
    exact ⟨rfl, hbw.trans (hb3.mono hbw.size)⟩
end Go.Proofs.YtfmhcjhcmoniaaaDoor
