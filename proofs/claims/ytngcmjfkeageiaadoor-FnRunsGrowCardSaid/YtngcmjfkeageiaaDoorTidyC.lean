/-
  slices.Clone over edges. Conditions: at most 1048576 edges, each text at most as many bytes.
-/
import Derived.Test.YtngcmjfkeageiaaDoorBlkF
import Derived.Test.YtngcmjfkeageiaaDoorTo
namespace Go.Proofs.YtngcmjfkeageiaaDoor
open Go.RowKit Go.Maps

theorem cellsOf_one : ∀ (l : List Pr), ∀ u ∈ cellsOf l, u.oneCell' = true
  | [], u, h => by cases h
  | p :: r, u, h => by
    simp only [cellsOf, List.mem_cons] at h
    rcases h with rfl | rfl | h
    · rfl
    · rfl
    · exact cellsOf_one r u h
theorem cellsOf_at {l : List Pr} {j : Nat} {u : Value} (h : (cellsOf l)[j]? = some u) : ∃ i, i < l.length ∧ ((j = i * 2 ∧ u = .string (nameAt l i)) ∨ (j = i * 2 + 1 ∧ u = .string (restAt l i))) := by
  have hj : j < l.length * 2 := by have := (List.getElem?_eq_some_iff.1 h).1; rwa [cellsOf_length] at this
  refine ⟨j / 2, by omega, ?_⟩
  have h2 : j / 2 < l.length := by omega
  rcases Nat.mod_two_eq_zero_or_one j with e | e
  · have ej : j = j / 2 * 2 := by omega
    refine .inl ⟨ej, ?_⟩
    have := cellsOf_even l (j / 2) h2
    rw [← ej] at this
    rw [this] at h
    exact (Option.some.inj h).symm
  · have ej : j = j / 2 * 2 + 1 := by omega
    refine .inr ⟨ej, ?_⟩
    have := cellsOf_odd l (j / 2) h2
    rw [← ej] at this
    rw [this] at h
    exact (Option.some.inj h).symm

set_option maxRecDepth 100000 in
set_option maxHeartbeats 1600000 in
theorem cloneE_any (w : World) (es : List Pr) (ae : Option Addr) (ce : Nat) (hpe : PairsAt w ae es) :
    Calls Tryd.prog 74 #[.slice ae es.length ce] w fun e w' => ∃ v, e = .returned v ∧ w'.ownsRow w.heap.size 111 2 v es.length (cellsOf es) ∧ Below w.heap.size w w' := by
  have q22 : ∀ (w : World) (a : Option Addr) (n c n' c' : Nat), (binOp .eql 30 (.slice a n c) (.slice none n' c')).run Tryd.prog w = .ok (.bool a.isNone) w := fun w a n c n' c' => Lib.run_eql_slice_nil w _ _ a n c n' c' Tryd.underlying30
  have hl9 := hpe.len
  cases ae with
  | none =>
    have h0 : es = [] := by
      rcases Nat.eq_zero_or_pos es.length with h | h
      · exact List.length_eq_zero_iff.1 h
      · obtain ⟨b, off, e, _⟩ := hpe.cell 0 h
        cases e
    subst h0
    go_enter Tryd.func74, Tryd.ntmps74
    go_wp2
    go_ret
    exact ⟨_, rfl, World.ownsRow_nil _ _ _ _, Below.refl _ _⟩
  | some ad =>
    obtain ⟨i0, hi, hz0, hz1, hz2⟩ := info_parts Tryd.infoEdge
    have HP := Lib.hid hpe
    clear hpe
    go_enter Tryd.func74, Tryd.ntmps74
    go_wp2_with (at_builtin; refine wpList_append_own _ rfl _ _ 30 rfl w.heap.size 111 i0 (.agg #[.string ⟨#[]⟩, .string ⟨#[]⟩]) 2 32 Tryd.underlying30 hi hz0 hz1 hz2 rfl (by decide) _ _ _ rfl (World.ownsRow_made w #[] 0 (Nat.le_refl _) (Nat.zero_le _) rfl) ad es.length ce (cellsOf es) rfl ?qc1 ?qc2 ?qc3 ?qc4 ?qc5 ?qc6 ?_)
    case qc1 => exact cellsOf_length es
    case qc2 =>
      intro j u hj
      obtain ⟨i, hi, ⟨rfl, rfl⟩ | ⟨rfl, rfl⟩⟩ := cellsOf_at hj
      · obtain ⟨b, off, e, hb, g1, g2⟩ := HP.out.cell i hi
        cases e
        rw [Addr.add_lit]
        exact Lib.cell?_alloc_some _ g1
      · obtain ⟨b, off, e, hb, g1, g2⟩ := HP.out.cell i hi
        cases e
        rw [Addr.add_lit]
        exact Lib.cell?_alloc_some _ g2
    case qc3 => exact cellsOf_one es
    case qc4 => unfold maxLen; omega
    case qc5 => omega
    case qc6 => simp
    intro v' w1 hown hgrow hnil
    go_wp2
    go_ret
    exact ⟨v', rfl, by simpa using hown, ((Below.refl _ w).alloc (Nat.le_refl _) _).grown hgrow (by simp) (by intro k hk; simp [Value.ownBlock] at hk; omega)⟩
end Go.Proofs.YtngcmjfkeageiaaDoor
