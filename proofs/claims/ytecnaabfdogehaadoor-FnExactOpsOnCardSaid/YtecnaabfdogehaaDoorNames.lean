/-
  Plain mathematics: the names at the other ends of a block's edges, in the order of the edges; the model's OutOf and InOf. Conditions: at most 1048576 blocks and edges, each text at most as many bytes.
-/
import Derived.Test.YtecnaabfdogehaaDoorWith
namespace Go.Proofs.YtecnaabfdogehaaDoor
open Go.RowKit Go.Maps

/-- texts one behind the other -/
def cat (l : List ByteArray) : ByteArray := l.foldl (· ++ ·) e0
theorem cat_nil : cat [] = e0 := rfl
theorem cat_snoc (l : List ByteArray) (x : ByteArray) : cat (l ++ [x]) = cat l ++ x := by simp [cat, List.foldl_append]
open Classical in
noncomputable def outL (E : List Pr) (x : ByteArray) : List ByteArray := (E.filter fun e => decide (e.1 = x)).map (·.2)
theorem outL_nil (x : ByteArray) : outL [] x = [] := rfl
theorem outL_hit {E : List Pr} {x : ByteArray} {p : Pr} (h : p.1 = x) : outL (E ++ [p]) x = outL E x ++ [p.2] := by simp [outL, h]
theorem outL_miss {E : List Pr} {x : ByteArray} {p : Pr} (h : p.1 ≠ x) : outL (E ++ [p]) x = outL E x := by simp [outL, h]
theorem mem_outL {E : List Pr} {x y : ByteArray} : y ∈ outL E x ↔ (x, y) ∈ E := by
  unfold outL
  rw [List.mem_map]
  constructor
  · rintro ⟨p, hp, rfl⟩
    have h := List.mem_filter.1 hp
    have e : p.1 = x := by simpa using h.2
    rw [← e]; exact h.1
  · intro h
    exact ⟨(x, y), List.mem_filter.2 ⟨h, by simp⟩, rfl⟩
theorem outL_length (E : List Pr) (x : ByteArray) : (outL E x).length ≤ E.length := by
  unfold outL
  rw [List.length_map]
  exact List.length_filter_le _ _
theorem cat_size {l : List ByteArray} (h : ∀ x ∈ l, x.size = 1) : (cat l).size = l.length := by
  have key : ∀ (l : List ByteArray) (a : ByteArray), (∀ x ∈ l, x.size = 1) → (l.foldl (· ++ ·) a).size = a.size + l.length := by
    intro l
    induction l with
    | nil => intro a _; simp
    | cons x r ih =>
      intro a h
      rw [List.foldl_cons, ih _ (fun y hy => h y (List.mem_cons_of_mem _ hy)), ByteArray.size_append, h x (List.mem_cons_self ..), List.length_cons]
      omega
  have := key l e0 h
  unfold cat
  rw [this]
  show 0 + _ = _
  omega
theorem isNm_size {s : ByteArray} (h : isNm s = true) : s.size = 1 := by
  unfold isNm at h
  simp at h
  exact h.1
theorem Valid.name_size {bs es : List Pr} (h : Valid bs es) {s : ByteArray} (hs : s ∈ names bs) : s.size = 1 := by
  obtain ⟨p, hp, rfl⟩ := List.mem_map.1 hs
  exact isNm_size (h.b.nm p hp)
theorem Valid.to_size {bs es : List Pr} (h : Valid bs es) {k : Nat} (hk : k < es.length) : (restAt es k).size = 1 := h.name_size (h.e.to _ (pair_mem hk))
theorem Valid.from_size {bs es : List Pr} (h : Valid bs es) {k : Nat} (hk : k < es.length) : (nameAt es k).size = 1 := h.name_size (h.e.fr _ (pair_mem hk))
theorem flip_take (es : List Pr) (k : Nat) : (flip es).take k = flip (es.take k) := by simp [flip, List.map_take]
theorem flip_succ {es : List Pr} {k : Nat} (h : k < es.length) : flip (es.take (k + 1)) = flip (es.take k) ++ [(restAt es k, nameAt es k)] := by rw [take_succ_pr h, flip_snoc]
noncomputable def outV (bs es E : List Pr) (x : ByteArray) : Value := if hasB bs es x = true then .tuple #[.string (cat (outL E x)), .bool true] else .tuple #[.string e0, .bool false]
theorem outV_yes {bs es E : List Pr} {x : ByteArray} (h : hasB bs es x = true) : outV bs es E x = .tuple #[.string (cat (outL E x)), .bool true] := by unfold outV; rw [if_pos h]
theorem outV_no {bs es E : List Pr} {x : ByteArray} (h : hasB bs es x = false) : outV bs es E x = .tuple #[.string e0, .bool false] := by unfold outV; rw [if_neg (by rw [h]; simp)]
/-- the names to, or from, as values of a law's two results -/
noncomputable def outOfV (bs es : List Pr) (x : ByteArray) : Value := outV bs es es x
noncomputable def inOfV (bs es : List Pr) (x : ByteArray) : Value := outV bs es (flip es) x
theorem outOfV_form (bs es : List Pr) (x : ByteArray) : ∃ (r : ByteArray) (ok : Bool), outOfV bs es x = .tuple #[.string r, .bool ok] := by
  cases h : hasB bs es x
  · exact ⟨_, _, outV_no h⟩
  · exact ⟨_, _, outV_yes h⟩
theorem inOfV_form (bs es : List Pr) (x : ByteArray) : ∃ (r : ByteArray) (ok : Bool), inOfV bs es x = .tuple #[.string r, .bool ok] := by
  cases h : hasB bs es x
  · exact ⟨_, _, outV_no h⟩
  · exact ⟨_, _, outV_yes h⟩

set_option maxRecDepth 100000 in
set_option maxHeartbeats 1600000 in
theorem OutOf_spec (w : World) (bs es : List Pr) (ab ae : Option Addr) (cb ce : Nat) (x : ByteArray) (hpb : PairsAt w ab bs) (hpe : PairsAt w ae es) :
    Calls Tryd.prog 44 #[.agg #[.slice ab bs.length cb, .slice ae es.length ce], .string x] w fun e w' => e = .returned (outOfV bs es x) ∧ Below w.heap.size w w' := by
  have h1 : Below w.heap.size w (w.alloc (.cells #[.slice ab bs.length cb, .slice ae es.length ce] 31)) := (Below.refl _ _).alloc (Nat.le_refl _) _
  have hpb1 := hpb.below h1
  have hpe1 := hpe.below h1
  have H1 := Lib.hid h1; clear h1
  go_enter Tryd.func44, Tryd.ntmps44
  go_wp2_with fail
  refine (l1Has_any _ bs es _ _ _ _ x hpb1 hpe1).mono ?_
  rintro e w1 ⟨rfl, hb1⟩
  have hall : Below w.heap.size w w1 := H1.out.trans (hb1.mono (by simp))
  have hpe2 := hpe1.below hb1
  have c1 := (hb1.cell (p := ⟨w.heap.size, 1, none⟩) (by simp)).trans (show _ = some (.slice ae es.length ce) by go_simp)
  have hz := hall.size
  cases hv : hasB bs es x
  · have HV := Lib.hid (outV_no (E := es) hv)
    clear hv
    go_wp2
    go_ret2
    exact ⟨by unfold outOfV; rw [HV.out]; rfl, hall⟩
  · have HV := Lib.hid (outV_yes (E := es) hv)
    have HVV := Lib.hid (show Valid bs es by have := (hasB_iff.1 hv).1; simpa [validB] using this)
    clear hv
    have hl14 := HVV.out.e.hi
    go_wp2
    go_loopw [16, 6] (fun i v wr => ∃ k : Nat, k ≤ es.length ∧ i = .int .i64 k ∧ v = .string (cat (outL (es.take k) x)) ∧ Below w1.heap.size w1 wr) (fun i _ _ => es.length - (intOf i).toNat)
    case atStart => exact ⟨0, Nat.zero_le _, rfl, by simp [outL_nil, cat_nil]; rfl, Below.refl _ _⟩
    case round =>
      obtain ⟨k, hk, rfl, rfl, hbl⟩ := hrel
      have hs2 := hbl.size
      by_cases hlt : k < es.length
      · obtain ⟨b, off, rfl, hb, g1, g2⟩ := hpe2.cell k hlt
        have d1 := (hbl.cell (p := ⟨b, off + k * 2, none⟩) hb).trans g1
        have d2 := (hbl.cell (p := ⟨b, off + k * 2 + 1, none⟩) hb).trans g2
        have z1 := HVV.out.to_size hlt
        have z2 : (cat (outL (es.take k) x)).size ≤ 14 := by
          rw [cat_size (fun y hy => HVV.out.name_size (HVV.out.e.to (x, y) (List.mem_of_mem_take (mem_outL.1 hy))))]
          have := outL_length (es.take k) x
          rw [List.length_take] at this
          omega
        have t1 : ¬ 9223372036854775807 < (cat (outL (es.take k) x)).size + (restAt es k).size := by omega
        clear g1 g2
        by_cases e1 : nameAt es k = x
        · have q1 : ((nameAt es k).toList == x.toList) = true := by rw [toList_eq_iff]; simpa using e1
          have HE := Lib.hid (show cat (outL (es.take (k + 1)) x) = cat (outL (es.take k) x) ++ restAt es k by rw [take_succ_pr hlt, outL_hit (p := (nameAt es k, restAt es k)) e1, cat_snoc])
          clear e1
          go_wp2
          go_roundw
          case rel => exact ⟨k + 1, by omega, by go_num, by rw [HE.out], hbl.alloc hs2 _⟩
          case measure => simp [intOf]; omega
        · have q1 : ((nameAt es k).toList == x.toList) = false := by rw [toList_eq_iff]; simpa using e1
          have HE := Lib.hid (show cat (outL (es.take (k + 1)) x) = cat (outL (es.take k) x) by rw [take_succ_pr hlt, outL_miss (p := (nameAt es k, restAt es k)) e1])
          clear e1
          go_wp2
          go_roundw
          case rel => exact ⟨k + 1, by omega, by go_num, by rw [HE.out], hbl.alloc hs2 _⟩
          case measure => simp [intOf]; omega
      · have HE := Lib.hid (show es.take k = es from List.take_of_length_le (by omega))
        go_wp2
        go_ret2
        exact ⟨by unfold outOfV; rw [HV.out, HE.out]; rfl, hall.trans (hbl.mono hz)⟩

set_option maxRecDepth 100000 in
set_option maxHeartbeats 1600000 in
theorem InOf_spec (w : World) (bs es : List Pr) (ab ae : Option Addr) (cb ce : Nat) (x : ByteArray) (hpb : PairsAt w ab bs) (hpe : PairsAt w ae es) :
    Calls Tryd.prog 46 #[.agg #[.slice ab bs.length cb, .slice ae es.length ce], .string x] w fun e w' => e = .returned (inOfV bs es x) ∧ Below w.heap.size w w' := by
  have h1 : Below w.heap.size w (w.alloc (.cells #[.slice ab bs.length cb, .slice ae es.length ce] 31)) := (Below.refl _ _).alloc (Nat.le_refl _) _
  have hpb1 := hpb.below h1
  have hpe1 := hpe.below h1
  have H1 := Lib.hid h1; clear h1
  go_enter Tryd.func46, Tryd.ntmps46
  go_wp2_with fail
  refine (l1Has_any _ bs es _ _ _ _ x hpb1 hpe1).mono ?_
  rintro e w1 ⟨rfl, hb1⟩
  have hall : Below w.heap.size w w1 := H1.out.trans (hb1.mono (by simp))
  have hpe2 := hpe1.below hb1
  have c1 := (hb1.cell (p := ⟨w.heap.size, 1, none⟩) (by simp)).trans (show _ = some (.slice ae es.length ce) by go_simp)
  have hz := hall.size
  cases hv : hasB bs es x
  · have HV := Lib.hid (outV_no (E := flip es) hv)
    clear hv
    go_wp2
    go_ret2
    exact ⟨by unfold inOfV; rw [HV.out]; rfl, hall⟩
  · have HV := Lib.hid (outV_yes (E := flip es) hv)
    have HVV := Lib.hid (show Valid bs es by have := (hasB_iff.1 hv).1; simpa [validB] using this)
    clear hv
    have hl14 := HVV.out.e.hi
    go_wp2
    go_loopw [16, 6] (fun i v wr => ∃ k : Nat, k ≤ es.length ∧ i = .int .i64 k ∧ v = .string (cat (outL (flip (es.take k)) x)) ∧ Below w1.heap.size w1 wr) (fun i _ _ => es.length - (intOf i).toNat)
    case atStart => exact ⟨0, Nat.zero_le _, rfl, rfl, Below.refl _ _⟩
    case round =>
      obtain ⟨k, hk, rfl, rfl, hbl⟩ := hrel
      have hs2 := hbl.size
      by_cases hlt : k < es.length
      · obtain ⟨b, off, rfl, hb, g1, g2⟩ := hpe2.cell k hlt
        have d1 := (hbl.cell (p := ⟨b, off + k * 2, none⟩) hb).trans g1
        have d2 := (hbl.cell (p := ⟨b, off + k * 2 + 1, none⟩) hb).trans g2
        have z1 := HVV.out.from_size hlt
        have z2 : (cat (outL (flip (es.take k)) x)).size ≤ 14 := by
          rw [cat_size (fun y hy => HVV.out.name_size (HVV.out.e.fr (y, x) (List.mem_of_mem_take (mem_flip.1 (mem_outL.1 hy)))))]
          have := outL_length (flip (es.take k)) x
          rw [flip_length, List.length_take] at this
          omega
        have t1 : ¬ 9223372036854775807 < (cat (outL (flip (es.take k)) x)).size + (nameAt es k).size := by omega
        clear g1 g2
        by_cases e1 : restAt es k = x
        · have q1 : ((restAt es k).toList == x.toList) = true := by rw [toList_eq_iff]; simpa using e1
          have HE := Lib.hid (show cat (outL (flip (es.take (k + 1))) x) = cat (outL (flip (es.take k)) x) ++ nameAt es k by rw [flip_succ hlt, outL_hit (p := (restAt es k, nameAt es k)) e1, cat_snoc])
          clear e1
          go_wp2
          go_roundw
          case rel => exact ⟨k + 1, by omega, by go_num, by rw [HE.out], hbl.alloc hs2 _⟩
          case measure => simp [intOf]; omega
        · have q1 : ((restAt es k).toList == x.toList) = false := by rw [toList_eq_iff]; simpa using e1
          have HE := Lib.hid (show cat (outL (flip (es.take (k + 1))) x) = cat (outL (flip (es.take k)) x) by rw [flip_succ hlt, outL_miss (p := (restAt es k, nameAt es k)) e1])
          clear e1
          go_wp2
          go_roundw
          case rel => exact ⟨k + 1, by omega, by go_num, by rw [HE.out], hbl.alloc hs2 _⟩
          case measure => simp [intOf]; omega
      · have HE := Lib.hid (show es.take k = es from List.take_of_length_le (by omega))
        go_wp2
        go_ret2
        exact ⟨by unfold inOfV; rw [HV.out, HE.out]; rfl, hall.trans (hbl.mono hz)⟩
end Go.Proofs.YtecnaabfdogehaaDoor
