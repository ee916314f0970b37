/-
  slices.Concat at rows of letters: a new row that holds all, one behind the other. Conditions: at most a thousand values altogether, at most forty rows.
-/
import Derived.Test.YtecnaabfdogehaaDoorIsRun
import Derived.Test.YtecnaabfdogehaaDoorWriteOps
import Derived.Laws.AppendOwnNone
namespace Go.Proofs.YtecnaabfdogehaaDoor
open Go.RowKit Go.Maps

theorem run_append_zeros (w : World) (t u ty e : TypeId) (i : TypeInfo) (z : Value) (ht : Tryd.prog.underlying t = some (.slice e)) (hu : Tryd.prog.underlying u = some (.int .i64)) (hi : Tryd.prog.info? e = some i) (hz : i.zero = some z) (hs1 : i.size = 1) (hb : i.bytes = 16)
    (n : Nat) (h0 : 0 < n) (hn : n ≤ 1000) :
    (Builtin.append_ #[t, u] ty #[.slice none 0 0, .int .i64 n]).run Tryd.prog w =
      .ok (.slice (some ⟨w.heap.size, 0, none⟩) n (grownCap w n 0 e)) (w.drew.alloc (.cells (Builtin.zeroCells z.cells n ++ Builtin.zeroCells z.cells (grownCap w n 0 e - n)) e)) := by
  have h1 : n ≠ 0 := by omega
  have h2 : IntKind.i64.wrap (n : Int) = (n : Int) := IntWalk.i64_in _ (by omega)
  have h3 : ¬ ((n : Int) < 0) := by omega
  have h4 : ¬ (281474976710656 < (n : Int) * 16) := by omega
  have h63 : ¬ (9223372036854775807 < (n : Int)) := by omega
  have h48 : ¬ (281474976710656 < Builtin.nextslicecap n 0 * 16) := by rw [nextslicecap_zero h0]; omega
  simp [Builtin.append_, run_underlying ht, run_underlying hu, sizeOf, typeInfo, zeroValue, hi, hz, hs1, hb, Builtin.lenOf, h1, h2, h3, h4, h63, h48, asInt, asIntOf, Question.forced, run_firstCells_none, newRow, grownCap]

theorem wpList_append_zeros {w : World} {ops : Array Oper} {rest : List Oper} {o : Oper} {a : Act} {Q : Exit → Act → World → Prop} (hgd : o.guard = none) (s x : Operand) (t u : TypeId)
    (ho : o.op = .call { callee := .builtin .append, args := #[s, x], argTypes := #[t, u] }) (e : TypeId) (i : TypeInfo) (z : Value) (ht : Tryd.prog.underlying t = some (.slice e)) (hu : Tryd.prog.underlying u = some (.int .i64)) (hi : Tryd.prog.info? e = some i) (hz : i.zero = some z) (hs1 : i.size = 1) (hb : i.bytes = 16)
    (n : Nat) (h0 : 0 < n) (hn : n ≤ 1000) (hs : a.eval s = .slice none 0 0) (hx : a.eval x = .int .i64 n)
    (h : wpList Tryd.prog ops Q rest (a.put o.dst (.slice (some ⟨w.heap.size, 0, none⟩) n (grownCap w n 0 e))) (w.drew.alloc (.cells (Builtin.zeroCells z.cells n ++ Builtin.zeroCells z.cells (grownCap w n 0 e - n)) e))) : wpList Tryd.prog ops Q (o :: rest) a w :=
  wpList_plain hgd fun _ hK => by
    have hr := run_append_zeros w t u o.type e i z ht hu hi hz hs1 hb n h0 hn
    unfold Oper.wp execOp
    simp only [ho, resolve, invoke, builtin, Sem.run_bind, Sem.run_pure, Result.andThen_ok, List.map_toArray, List.map_cons, List.map_nil, hs, hx, hr]
    exact hK _ _ h

set_option maxRecDepth 100000 in
theorem Grow_any (w : World) (n : Nat) (hn : n ≤ 1000) :
    Calls Tryd.prog 122 #[.slice none 0 0, .int .i64 n] w fun e w' => ∃ v, e = .returned v ∧ w'.ownsRow w.heap.size 94 1 v 0 [] ∧ Below w.heap.size w w' := by
  obtain ⟨i0, hi, hz0, hz1, hz2⟩ := info_parts Tryd.infoOp
  have hw : IntKind.i64.wrap (n : Int) = (n : Int) := IntWalk.i64_in _ (by omega)
  have h1 : (0 : Int) ≤ (n : Int) := by omega
  by_cases h0 : 0 < n
  · have hge := grownCap_ge w n 0 94
    have hcm := grownCap_le_maxLen w n 0 94 (by unfold maxLen; omega)
    have h2 : (0 : Int) < (n : Int) := by omega
    have Hg := Lib.hid (And.intro hge hcm); clear hge hcm
    go_enter Tryd.func122, Tryd.ntmps122
    go_wp2_with (at_builtin; refine wpList_append_zeros rfl _ _ 91 3 rfl 94 i0 .nilIface Tryd.underlying91 Tryd.underlying3 hi hz0 hz1 hz2 n h0 hn rfl rfl ?_; generalize hcap : grownCap w n 0 94 = cap at *; have hc1 : 0 ≤ cap := Nat.zero_le _)
    go_ret
    refine ⟨_, rfl, ⟨by simp, .inr ⟨w.heap.size, cap, _, rfl, Nat.le_refl _, heap_alloc_new w.drew _, Nat.zero_le _, Hg.out.2, ?_, by simp⟩⟩, (Below.refl _ _).drew.alloc (Nat.le_refl _) _⟩
    have := Hg.out.1
    simp [size_zeroCells]
    omega
  · have h2 : n = 0 := by omega
    subst h2
    go_enter Tryd.func122, Tryd.ntmps122
    go_wp2
    go_ret
    exact ⟨_, rfl, World.ownsRow_nil _ _ _ _, Below.refl _ _⟩

/-- rows one behind the other -/
def flat (X : Nat → List Value) (k : Nat) : List Value := (List.range k).flatMap X
theorem flat_succ (X : Nat → List Value) (k : Nat) : flat X (k + 1) = flat X k ++ X k := by simp [flat, List.range_succ]
theorem flat_len {X : Nat → List Value} {K : Nat} (h : ∀ i, i < K → (X i).length ≤ 6) : ∀ k, k ≤ K → (flat X k).length ≤ 6 * k
  | 0, _ => by simp [flat]
  | k + 1, hk => by
    have h1 := flat_len h k (by omega)
    have h2 := h k (by omega)
    rw [flat_succ, List.length_append]
    omega
set_option maxRecDepth 100000 in
set_option maxHeartbeats 1600000 in
theorem Concat_any (w : World) (b cap K : Nat) (V : Nat → Value) (X : Nat → List Value) (hK : K ≤ 40) (hb : b < w.heap.size) (hcell : ∀ i, i < K → w.cell? ⟨b, i, none⟩ = some (V i)) (hrow : ∀ i, i < K → RowAt w (V i) (X i)) (hsz : ∀ i, i < K → (X i).length ≤ 6) (hone : ∀ i, i < K → ∀ u ∈ X i, u.oneCell' = true) :
    Calls Tryd.prog 77 #[.slice (some ⟨b, 0, none⟩) K cap] w fun e w' => ∃ v, e = .returned v ∧ w'.ownsRow w.heap.size 94 1 v (flat X K).length (flat X K) ∧ Below w.heap.size w w' := by
  obtain ⟨i0, hi, hz0, hz1, hz2⟩ := info_parts Tryd.infoOp
  have hfl := flat_len hsz
  have HX := Lib.hid (And.intro hcell (And.intro hrow (And.intro hsz (And.intro hone hfl))))
  clear hcell hrow hsz hone hfl
  go_enter Tryd.func77, Tryd.ntmps77
  go_wp2
  go_loopw [11, 3] (fun i s wr => ∃ k : Nat, k ≤ K ∧ i = .int .i64 k ∧ s = .int .i64 ((flat X k).length : Nat) ∧ wr = w) (fun i _ _ => K - (intOf i).toNat)
  case atStart => exact ⟨0, Nat.zero_le _, rfl, by simp [flat], rfl⟩
  case round =>
    obtain ⟨k, hk, rfl, rfl, rfl⟩ := hrel
    have hfk := HX.out.2.2.2.2 k hk
    by_cases hlt : k < K
    · obtain ⟨a, c, hv⟩ := row_len (HX.out.2.1 k hlt)
      have d1 := HX.out.1 k hlt
      rw [hv] at d1
      have hf1 := HX.out.2.2.2.2 (k + 1) hlt
      rw [flat_succ, List.length_append] at hf1
      have w1 : IntKind.i64.wrap (((flat X k).length : Int) + ((X k).length : Int)) = ((flat X k).length : Int) + ((X k).length : Int) := IntWalk.i64_in _ (by omega)
      have w2 : ¬ (((flat X k).length : Int) + ((X k).length : Int) < 0) := by omega
      have HF := Lib.hid (show ((flat X (k + 1)).length : Int) = ((flat X k).length : Int) + ((X k).length : Int) by rw [flat_succ, List.length_append]; omega)
      clear hv
      go_wp2
      go_roundw
      case rel => exact ⟨k + 1, by omega, by go_num, by rw [HF.out], by first | rfl | trivial⟩
      case measure => simp [intOf]; omega
    · obtain rfl : k = K := by omega
      obtain ⟨wo, rfl⟩ : ∃ wo : World, wo = wr := ⟨_, rfl⟩
      go_wp2_with fail
      refine (Grow_any _ (flat X k).length (by omega)).mono ?_
      rintro e w1 ⟨v, rfl, hown0, hb1⟩
      have HB := Lib.hid hb1; clear hb1
      go_wp2
      go_loopw [27, 6] (fun i v w2 => ∃ m : Nat, m ≤ k ∧ i = .int .i64 m ∧ w2.ownsRow wo.heap.size 94 1 v (flat X m).length (flat X m) ∧ Below wo.heap.size wo w2) (fun i _ _ => k - (intOf i).toNat)
      case atStart => exact ⟨0, Nat.zero_le _, rfl, hown0, HB.out⟩
      case round =>
        obtain ⟨m, hm, rfl, hown, hbl⟩ := hrel
        have hs2 := hbl.size
        by_cases hlt2 : m < k
        · have hrm := HX.out.2.1 m hlt2
          have hfm := HX.out.2.2.2.2 (m + 1) hlt2
          rw [flat_succ, List.length_append] at hfm
          have d1 := (hbl.cell (p := ⟨b, m, none⟩) hb).trans (HX.out.1 m hlt2)
          obtain ⟨hr1, ⟨hr2, hr3⟩ | ⟨g, c, cur, hr2, _, hr4, hr5, _, hr6, hr7⟩⟩ := hrm
          · have hx0 : X m = [] := List.eq_nil_of_length_eq_zero hr3
            have HE := Lib.hid (show flat X (m + 1) = flat X m by rw [flat_succ, hx0, List.append_nil])
            rw [hr2] at d1
            clear hr1 hr2 hr3 hx0 hfm
            go_wp2_with (at_builtin; refine wpList_append_own_none rfl _ _ 91 rfl wo.heap.size 94 i0 1 Tryd.underlying91 hi _ (flat X m).length (flat X m) rfl hown rfl ?_)
            go_roundw
            case rel => exact ⟨m + 1, by omega, by go_num, by rw [HE.out]; exact hown, hbl⟩
            case measure => simp [intOf]; omega
          · rw [hr2] at d1
            have hgw := (Array.getElem?_eq_some_iff.1 hr4).1
            have hnews : ∀ (j : Nat) (u : Value), (X m)[j]? = some u → wr.cell? ((⟨g, 0, none⟩ : Addr).add j) = some u := fun j u hu => by
              have hj := (List.getElem?_eq_some_iff.1 hu).1
              rw [Addr.add_lit, Nat.zero_add]
              refine (hbl.cell (p := ⟨g, j, none⟩) hgw).trans ?_
              rw [cell_of_row wo g j _ _ (0, 0) hr4]
              rw [← hr7, List.getElem?_take, if_pos (by simpa using hj)] at hu
              simpa using hu
            have HN := Lib.hid hnews
            have HO := Lib.hid (HX.out.2.2.2.1 m hlt2)
            have HF := Lib.hid (flat_succ X m)
            clear hnews hr1 hr2 hr4 hr5 hr6 hr7
            go_wp2_with (at_builtin; refine wpList_append_own _ rfl _ _ 91 rfl wo.heap.size 94 i0 .nilIface 1 16 Tryd.underlying91 hi hz0 hz1 hz2 rfl (by decide) _ (flat X m).length (flat X m) rfl hown ⟨g, 0, none⟩ (X m).length c (X m) rfl (by simp) HN.out HO.out (by unfold maxLen; omega) (by omega) hs2 ?_; intro v' w3 hown3 hgrow3 _)
            have hb3 : Below wo.heap.size wo w3 := hbl.grown hgrow3 hs2 (fun j hj => (hown.lt j hj).1)
            go_roundw
            case rel => exact ⟨m + 1, by omega, by go_num, by rw [HF.out, List.length_append]; exact hown3, hb3⟩
            case measure => simp [intOf]; omega
        · obtain rfl : m = k := by omega
          go_wp2
          go_ret
          exact ⟨_, rfl, hown, hbl⟩
end Go.Proofs.YtecnaabfdogehaaDoor
