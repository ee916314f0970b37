/-
  The laws' toProg and what it calls: copies in new memory. Conditions: at most 1048576 blocks and edges.
-/
import Derived.Test.YtfmhcjhcmoniaaaDoorSz
namespace Go.Proofs.YtfmhcjhcmoniaaaDoor
open Go.RowKit

/-- the cells of a list of pairs -/
def cellsOf : List Pr → List Value
  | [] => []
  | p :: r => .string p.1 :: .string p.2 :: cellsOf r
theorem cellsOf_length : ∀ l : List Pr, (cellsOf l).length = l.length * 2
  | [] => rfl
  | p :: r => by simp [cellsOf, cellsOf_length r]; omega
theorem cellsOf_even : ∀ (l : List Pr) (i : Nat), i < l.length → (cellsOf l)[i * 2]? = some (.string (nameAt l i))
  | [], i, h => by simp at h
  | p :: r, 0, _ => rfl
  | p :: r, i + 1, h => by
    have ih := cellsOf_even r i (by simpa using h)
    rw [show (i + 1) * 2 = i * 2 + 2 by omega]
    simpa [cellsOf, nameAt] using ih
theorem cellsOf_odd : ∀ (l : List Pr) (i : Nat), i < l.length → (cellsOf l)[i * 2 + 1]? = some (.string (restAt l i))
  | [], i, h => by simp at h
  | p :: r, 0, _ => rfl
  | p :: r, i + 1, h => by
    have ih := cellsOf_odd r i (by simpa using h)
    rw [show (i + 1) * 2 + 1 = i * 2 + 1 + 2 by omega]
    simpa [cellsOf, restAt] using ih
theorem cellsOf_set_even : ∀ (l : List Pr) (i : Nat) (a : ByteArray), i < l.length → (cellsOf l).set (i * 2) (.string a) = cellsOf (l.set i (a, restAt l i))
  | [], i, a, h => by simp at h
  | p :: r, 0, a, _ => rfl
  | p :: r, i + 1, a, h => by
    have ih := cellsOf_set_even r i a (by simpa using h)
    rw [show (i + 1) * 2 = i * 2 + 2 by omega]
    simp only [cellsOf, List.set_cons_succ]
    rw [ih]
    simp [restAt]
theorem cellsOf_set_odd : ∀ (l : List Pr) (i : Nat) (a : ByteArray), i < l.length → (cellsOf l).set (i * 2 + 1) (.string a) = cellsOf (l.set i (nameAt l i, a))
  | [], i, a, h => by simp at h
  | p :: r, 0, a, _ => rfl
  | p :: r, i + 1, a, h => by
    have ih := cellsOf_set_odd r i a (by simpa using h)
    simp only [cellsOf, List.set_cons_succ]
    rw [show (i + 1) * 2 = i * 2 + 1 + 1 by omega, List.set_cons_succ, ih]
    simp [nameAt]
theorem nameAt_set (l : List Pr) (i j : Nat) (p : Pr) (hi : i < l.length) : nameAt (l.set i p) j = if j = i then p.1 else nameAt l j := by
  unfold nameAt
  by_cases e : j = i
  · subst e; simp [hi]
  · simp [List.getD_eq_getElem?_getD, e, Ne.symm e]
theorem restAt_set (l : List Pr) (i j : Nat) (p : Pr) (hi : i < l.length) : restAt (l.set i p) j = if j = i then p.2 else restAt l j := by
  unfold restAt
  by_cases e : j = i
  · subst e; simp [hi]
  · simp [List.getD_eq_getElem?_getD, e, Ne.symm e]
theorem ext_at {l l' : List Pr} (hl : l.length = l'.length) (h : ∀ i, i < l.length → nameAt l i = nameAt l' i ∧ restAt l i = restAt l' i) : l = l' := by
  apply List.ext_getElem hl
  intro i h1 h2
  rw [pair_at h1, pair_at h2, (h i h1).1, (h i h1).2]

/-- block g holds just the pairs l -/
def PB (w : World) (g : Nat) (t : TypeId) (l : List Pr) : Prop := w.heap[g]? = some (.cells (cellsOf l).toArray t (0, 0))
section
variable {w w' : World} {g : Nat} {t : TypeId} {l : List Pr}
theorem PB.lt (h : PB w g t l) : g < w.heap.size := by
  rcases Nat.lt_or_ge g w.heap.size with hlt | hge
  · exact hlt
  · unfold PB at h; rw [Array.getElem?_eq_none hge] at h; cases h
theorem PB.cell0 (h : PB w g t l) {i : Nat} (hi : i < l.length) : w.cell? ⟨g, i * 2, none⟩ = some (.string (nameAt l i)) := by
  rw [cell_of_row w g _ _ _ (0, 0) h]
  simpa using cellsOf_even l i hi
theorem PB.cell1 (h : PB w g t l) {i : Nat} (hi : i < l.length) : w.cell? ⟨g, i * 2 + 1, none⟩ = some (.string (restAt l i)) := by
  rw [cell_of_row w g _ _ _ (0, 0) h]
  simpa using cellsOf_odd l i hi
theorem PB.frozen (h : PB w g t l) (i : Nat) : w.frozen? ⟨g, i, none⟩ = false := by
  unfold PB at h
  simp [World.frozen?, h]
theorem PB.block (h : PB w g t l) (e : w'.heap[g]? = w.heap[g]?) : PB w' g t l := e.trans h
theorem PB.below {B : Nat} (h : PB w g t l) (hb : Below B w w') (hg : g < B) : PB w' g t l := h.block (hb.block g hg)
theorem PB.keep (h : PB w g t l) (hb : Below w.heap.size w w') : PB w' g t l := h.below hb h.lt
theorem PB.far (h : PB w g t l) {p : Addr} (hp : g ≠ p.block) (u : Value) : PB (w.setCell p u) g t l := (Below.heap_setCell w p u g hp).trans h
theorem PB.set0 (h : PB w g t l) {i : Nat} (hi : i < l.length) (a : ByteArray) : PB (w.setCell ⟨g, i * 2, none⟩ (.string a)) g t (l.set i (a, restAt l i)) := by
  unfold PB at h ⊢
  rw [← cellsOf_set_even l i a hi]
  simp [World.setCell, Array.getElem?_modify, h]
theorem PB.set1 (h : PB w g t l) {i : Nat} (hi : i < l.length) (a : ByteArray) : PB (w.setCell ⟨g, i * 2 + 1, none⟩ (.string a)) g t (l.set i (nameAt l i, a)) := by
  unfold PB at h ⊢
  rw [← cellsOf_set_odd l i a hi]
  simp [World.setCell, Array.getElem?_modify, h]
theorem PB.ne_ {g' : Nat} {t' : TypeId} {l' : List Pr} (h : PB w g t l) (h' : PB w g' t' l') (hne : t ≠ t') : g ≠ g' := by
  rintro rfl
  unfold PB at h h'
  rw [h] at h'
  simp at h'
  exact hne h'.2
theorem PB.pairs (h : PB w g t l) (hl : l.length ≤ 1048576) (hs : ∀ i, i < l.length → (nameAt l i).size ≤ 1048576 ∧ (restAt l i).size ≤ 1048576) : PairsAt w (some ⟨g, 0, none⟩) l :=
  ⟨hl, hs, fun i hi => ⟨g, 0, rfl, h.lt, by rw [Nat.zero_add]; exact h.cell0 hi, by rw [Nat.zero_add]; exact h.cell1 hi⟩⟩
theorem PB.of_own {base n : Nat} (h : w.ownsRow base t 2 (.slice (some ⟨g, 0, none⟩) n n) n (cellsOf l)) : PB w g t l := by
  obtain ⟨hl, h | ⟨g', cap, cur, hv, hg, hh, hn, hc, hs, ht⟩⟩ := h
  · simp at h
  · simp only [Value.slice.injEq, Option.some.injEq, Addr.mk.injEq] at hv
    obtain ⟨⟨rfl, _⟩, _, rfl⟩ := hv
    unfold PB
    rw [hh]
    have : cur = (cellsOf l).toArray := by
      rw [← ht, List.take_of_length_le (by simp [hs])]
    rw [this]
end
theorem cellsOf_replicate : ∀ n : Nat, cellsOf (List.replicate n (e0, e0)) = (madeCells (Value.agg #[.string e0, .string e0]).cells (n * 2)).toList := by
  intro n
  apply List.ext_getElem?
  intro i
  by_cases hi : i < n * 2
  · have h1 : (madeCells (Value.agg #[.string e0, .string e0]).cells (n * 2)).toList[i]? = some (.string e0) := by
      simp only [madeCells, Value.cells]
      rw [Array.toList_map, List.getElem?_map, Array.toList_range, List.getElem?_range hi]
      rcases Nat.mod_two_eq_zero_or_one i with h | h
      · have : i % (#[Value.string e0, Value.string e0] : Array Value).size = 0 := h
        simp [h]
      · have : i % (#[Value.string e0, Value.string e0] : Array Value).size = 1 := h
        simp [h]
    rw [h1]
    rcases Nat.mod_two_eq_zero_or_one i with h | h
    · obtain ⟨j, rfl⟩ : ∃ j, i = j * 2 := ⟨i / 2, by omega⟩
      rw [cellsOf_even _ _ (by simp; omega)]
      simp [nameAt, List.getElem?_replicate]
      split <;> rfl
    · obtain ⟨j, rfl⟩ : ∃ j, i = j * 2 + 1 := ⟨i / 2, by omega⟩
      rw [cellsOf_odd _ _ (by simp; omega)]
      simp [restAt, List.getElem?_replicate]
      split <;> rfl
  · rw [List.getElem?_eq_none (by rw [cellsOf_length]; simp; omega), List.getElem?_eq_none (by simp [size_madeCells]; omega)]
/-- what a toS function leaves -/
def ToPost (w : World) (t : TypeId) (l : List Pr) (e : Ending) (w' : World) : Prop := ∃ g, e = .returned (.slice (some ⟨g, 0, none⟩) l.length l.length) ∧ w.heap.size ≤ g ∧ PB w' g t l ∧ Below w.heap.size w w'

theorem Tryd.infoBlock : (Tryd.prog.info? 51).map (fun i => (i.zero, i.size, i.bytes)) = some (some (.agg #[.string ⟨#[]⟩, .string ⟨#[]⟩]), 2, 32) := by kernel_rfl
set_option maxRecDepth 100000 in
set_option maxHeartbeats 800000 in
theorem toBlock_any (s t : ByteArray) (w : World) :
    Calls Tryd.prog 44 #[.agg #[.string s, .string t]] w fun e w' => e = .returned (.agg #[.string s, .string t]) ∧ Below w.heap.size w w' := by
  go_enter Tryd.func44, Tryd.ntmps44
  go_wp2
  refine bodyPost_ret (v := .agg #[.string s, .string t]) (by simp [results, Tryd.results44, go_sem]) rfl ⟨rfl, ?_⟩
  exact (((Below.refl _ _).alloc (Nat.le_refl _) _).alloc (by simp) _).alloc (by simp; omega) _

set_option maxRecDepth 100000 in
set_option maxHeartbeats 1600000 in
theorem toBlockS_any (l : List Pr) (a : Option Addr) (cap : Nat) (w : World) (hp : PairsAt w a l) :
    Calls Tryd.prog 21 #[.slice a l.length cap] w (ToPost w 51 l) := by
  have hl := hp.len
  obtain ⟨i0, hi, hz0, hz1, hz2⟩ := info_parts Tryd.infoBlock
  go_enter Tryd.func21, Tryd.ntmps21
  go_wp2_with (at_make; refine wpList_make_full _ rfl _ _ _ rfl w.heap.size 51 i0 (.agg #[.string ⟨#[]⟩, .string ⟨#[]⟩]) 2 Tryd.underlying29 hi hz0 hz1 .i64 .i64 l.length l.length l.length rfl rfl rfl rfl (by rw [hz2]; omega) (by unfold maxLen; omega) (by simp) ?_; intro w1 hown1 hg1)
  have B1 : PB w1 w.heap.size 51 (List.replicate l.length (e0, e0)) := PB.of_own (by rw [cellsOf_replicate]; exact hown1)
  have hb1 : Below w.heap.size w w1 := (Below.refl _ _).grown hg1 (Nat.le_refl _) (fun k h => by cases h)
  clear hown1 hg1 hi hz0 hz1 hz2
  go_loopw [4] (fun i wr => ∃ (k : Nat) (L : List Pr), k ≤ l.length ∧ i = .int .i64 k ∧ L.length = l.length ∧ PB wr w.heap.size 51 L ∧ Below w.heap.size w wr ∧ ∀ j, j < k → nameAt L j = nameAt l j ∧ restAt L j = restAt l j) (fun i _ => l.length - (intOf i).toNat)
  case atStart => exact ⟨0, _, Nat.zero_le _, rfl, by simp, B1, hb1, all_zero⟩
  case round =>
    obtain ⟨k, L, hk, rfl, hLl, BL, hbl, hno⟩ := hrel
    have Hno := Lib.hid hno; clear hno
    have HLl := Lib.hid hLl; clear hLl
    by_cases hlt : k < l.length
    · obtain ⟨b, off, rfl, hb, h1, h2⟩ := hp.cell k hlt
      have d1 := (hbl.cell (p := ⟨b, off + k * 2, none⟩) hb).trans h1
      have d2 := (hbl.cell (p := ⟨b, off + k * 2 + 1, none⟩) hb).trans h2
      clear h1 h2
      go_wp2_with fail
      refine (toBlock_any _ _ _).mono ?_
      rintro e w2 ⟨rfl, hb2⟩
      have BL2 := BL.keep hb2
      have hkL : k < L.length := by rw [HLl.out]; exact hlt
      have q0 := BL2.cell0 hkL
      have q1 := BL2.cell1 hkL
      have f0 := BL2.frozen (k * 2)
      have f1 := BL2.frozen (k * 2 + 1)
      have hbl2 : Below w.heap.size w w2 := hbl.trans (hb2.mono hbl.size)
      have BL3 := (BL2.set0 hkL (nameAt l k)).set1 (i := k) (by simpa using hkL) (restAt l k)
      clear hkL
      go_wp2
      go_roundw
      case rel =>
        refine ⟨k + 1, _, by omega, by go_num, by simp [HLl.out], BL3, (hbl2.setCell (p := ⟨w.heap.size, k * 2, none⟩) (Nat.le_refl _) _).setCell (p := ⟨w.heap.size, k * 2 + 1, none⟩) (Nat.le_refl _) _, fun j hj => ?_⟩
        have hkL : k < L.length := by rw [HLl.out]; exact hlt
        rw [nameAt_set _ _ _ _ (by simpa using hkL), restAt_set _ _ _ _ (by simpa using hkL), nameAt_set _ _ _ _ hkL, restAt_set _ _ _ _ hkL, nameAt_set _ _ _ _ hkL]
        by_cases e : j = k
        · subst e; simp
        · simp only [if_neg e]; exact Hno.out j (by omega)
      case measure => simp [intOf]; omega
    · have hE : L = l := ext_at HLl.out (fun i hi => Hno.out i (by rw [HLl.out] at hi; omega))
      rw [hE] at BL
      clear hE
      go_wp2
      refine bodyPost_ret (v := .slice (some ⟨w.heap.size, 0, none⟩) l.length l.length) (by simp [results, go_sem]) rfl ?_
      exact ⟨w.heap.size, rfl, Nat.le_refl _, BL, hbl⟩


theorem Tryd.infoEdge : (Tryd.prog.info? 81).map (fun i => (i.zero, i.size, i.bytes)) = some (some (.agg #[.string ⟨#[]⟩, .string ⟨#[]⟩]), 2, 32) := by kernel_rfl
set_option maxRecDepth 100000 in
set_option maxHeartbeats 800000 in
theorem toEdge_any (s t : ByteArray) (w : World) :
    Calls Tryd.prog 45 #[.agg #[.string s, .string t]] w fun e w' => e = .returned (.agg #[.string s, .string t]) ∧ Below w.heap.size w w' := by
  go_enter Tryd.func45, Tryd.ntmps45
  go_wp2
  refine bodyPost_ret (v := .agg #[.string s, .string t]) (by simp [results, Tryd.results45, go_sem]) rfl ⟨rfl, ?_⟩
  exact (((Below.refl _ _).alloc (Nat.le_refl _) _).alloc (by simp) _).alloc (by simp; omega) _

set_option maxRecDepth 100000 in
set_option maxHeartbeats 1600000 in
theorem toEdgeS_any (l : List Pr) (a : Option Addr) (cap : Nat) (w : World) (hp : PairsAt w a l) :
    Calls Tryd.prog 22 #[.slice a l.length cap] w (ToPost w 81 l) := by
  have hl := hp.len
  obtain ⟨i0, hi, hz0, hz1, hz2⟩ := info_parts Tryd.infoEdge
  go_enter Tryd.func22, Tryd.ntmps22
  go_wp2_with (at_make; refine wpList_make_full _ rfl _ _ _ rfl w.heap.size 81 i0 (.agg #[.string ⟨#[]⟩, .string ⟨#[]⟩]) 2 Tryd.underlying30 hi hz0 hz1 .i64 .i64 l.length l.length l.length rfl rfl rfl rfl (by rw [hz2]; omega) (by unfold maxLen; omega) (by simp) ?_; intro w1 hown1 hg1)
  have B1 : PB w1 w.heap.size 81 (List.replicate l.length (e0, e0)) := PB.of_own (by rw [cellsOf_replicate]; exact hown1)
  have hb1 : Below w.heap.size w w1 := (Below.refl _ _).grown hg1 (Nat.le_refl _) (fun k h => by cases h)
  clear hown1 hg1 hi hz0 hz1 hz2
  go_loopw [4] (fun i wr => ∃ (k : Nat) (L : List Pr), k ≤ l.length ∧ i = .int .i64 k ∧ L.length = l.length ∧ PB wr w.heap.size 81 L ∧ Below w.heap.size w wr ∧ ∀ j, j < k → nameAt L j = nameAt l j ∧ restAt L j = restAt l j) (fun i _ => l.length - (intOf i).toNat)
  case atStart => exact ⟨0, _, Nat.zero_le _, rfl, by simp, B1, hb1, all_zero⟩
  case round =>
    obtain ⟨k, L, hk, rfl, hLl, BL, hbl, hno⟩ := hrel
    have Hno := Lib.hid hno; clear hno
    have HLl := Lib.hid hLl; clear hLl
    by_cases hlt : k < l.length
    · obtain ⟨b, off, rfl, hb, h1, h2⟩ := hp.cell k hlt
      have d1 := (hbl.cell (p := ⟨b, off + k * 2, none⟩) hb).trans h1
      have d2 := (hbl.cell (p := ⟨b, off + k * 2 + 1, none⟩) hb).trans h2
      clear h1 h2
      go_wp2_with fail
      refine (toEdge_any _ _ _).mono ?_
      rintro e w2 ⟨rfl, hb2⟩
      have BL2 := BL.keep hb2
      have hkL : k < L.length := by rw [HLl.out]; exact hlt
      have q0 := BL2.cell0 hkL
      have q1 := BL2.cell1 hkL
      have f0 := BL2.frozen (k * 2)
      have f1 := BL2.frozen (k * 2 + 1)
      have hbl2 : Below w.heap.size w w2 := hbl.trans (hb2.mono hbl.size)
      have BL3 := (BL2.set0 hkL (nameAt l k)).set1 (i := k) (by simpa using hkL) (restAt l k)
      clear hkL
      go_wp2
      go_roundw
      case rel =>
        refine ⟨k + 1, _, by omega, by go_num, by simp [HLl.out], BL3, (hbl2.setCell (p := ⟨w.heap.size, k * 2, none⟩) (Nat.le_refl _) _).setCell (p := ⟨w.heap.size, k * 2 + 1, none⟩) (Nat.le_refl _) _, fun j hj => ?_⟩
        have hkL : k < L.length := by rw [HLl.out]; exact hlt
        rw [nameAt_set _ _ _ _ (by simpa using hkL), restAt_set _ _ _ _ (by simpa using hkL), nameAt_set _ _ _ _ hkL, restAt_set _ _ _ _ hkL, nameAt_set _ _ _ _ hkL]
        by_cases e : j = k
        · subst e; simp
        · simp only [if_neg e]; exact Hno.out j (by omega)
      case measure => simp [intOf]; omega
    · have hE : L = l := ext_at HLl.out (fun i hi => Hno.out i (by rw [HLl.out] at hi; omega))
      rw [hE] at BL
      clear hE
      go_wp2
      refine bodyPost_ret (v := .slice (some ⟨w.heap.size, 0, none⟩) l.length l.length) (by simp [results, go_sem]) rfl ?_
      exact ⟨w.heap.size, rfl, Nat.le_refl _, BL, hbl⟩

/-- what toProg leaves -/
def ToProgPost (w : World) (bs es : List Pr) (e : Ending) (w' : World) : Prop := ∃ gb ge, e = .returned (.agg #[.slice (some ⟨gb, 0, none⟩) bs.length bs.length, .slice (some ⟨ge, 0, none⟩) es.length es.length]) ∧ w.heap.size ≤ gb ∧ w.heap.size ≤ ge ∧ PB w' gb 51 bs ∧ PB w' ge 81 es ∧ Below w.heap.size w w'
set_option maxRecDepth 100000 in
set_option maxHeartbeats 1600000 in
theorem toProg_any (w : World) (bs es : List Pr) (ab ae : Option Addr) (cb ce : Nat) (hpb : PairsAt w ab bs) (hpe : PairsAt w ae es) :
    Calls Tryd.prog 8 #[.agg #[.slice ab bs.length cb, .slice ae es.length ce]] w (ToProgPost w bs es) := by
  go_enter Tryd.func8, Tryd.ntmps8
  have h3 : Below w.heap.size w (((w.alloc (.cells #[.slice ab bs.length cb, .slice ae es.length ce] 25)).alloc (.cells #[.slice none 0 0, .slice none 0 0] 32)).alloc (.cells #[.slice none 0 0, .slice none 0 0] 32)) := (((Below.refl _ _).alloc (Nat.le_refl _) _).alloc (by simp) _).alloc (by simp; omega) _
  have hpb3 := hpb.below h3
  have H3 := Lib.hid h3
  clear h3
  go_wp2_with fail
  refine (toBlockS_any bs _ _ _ hpb3).mono ?_
  rintro e w1 ⟨gb, rfl, hgb, PBb, hb1⟩
  obtain ⟨p1, p2⟩ := bcell hb1
  have hall : Below w.heap.size w w1 := H3.out.trans (hb1.mono (by simp; omega))
  have hs1 : w.heap.size + 1 + 1 < w1.heap.size := by have := hb1.size; simp at this; omega
  have a1 := (p1 w.heap.size 1 (by simp <;> omega)).trans (show _ = some (.slice ae es.length ce) by go_simp)
  have r0 := (p1 (w.heap.size + 1) 0 (by simp <;> omega)).trans (show _ = some (.slice none 0 0) by go_simp)
  have r1 := (p1 (w.heap.size + 1) 1 (by simp <;> omega)).trans (show _ = some (.slice none 0 0) by go_simp)
  have z0 := (p2 (w.heap.size + 1) 0 (by simp <;> omega)).trans (show _ = false by go_simp)
  have z1 := (p2 (w.heap.size + 1) 1 (by simp <;> omega)).trans (show _ = false by go_simp)
  have l0 := (p1 (w.heap.size + 1 + 1) 0 (by simp)).trans (show _ = some (.slice none 0 0) by go_simp)
  have l1 := (p1 (w.heap.size + 1 + 1) 1 (by simp)).trans (show _ = some (.slice none 0 0) by go_simp)
  have y0 := (p2 (w.heap.size + 1 + 1) 0 (by simp)).trans (show _ = false by go_simp)
  have y1 := (p2 (w.heap.size + 1 + 1) 1 (by simp)).trans (show _ = false by go_simp)
  have hgb' : w.heap.size + 3 ≤ gb := by simp at hgb; omega
  have hs := hall.setCell (p := ⟨w.heap.size + 1 + 1, 0, none⟩) (by simp <;> omega) (.slice (some ⟨gb, 0, none⟩) bs.length bs.length)
  have hpe3 := hpe.below hs
  have PBb2 := PBb.far (p := ⟨w.heap.size + 1 + 1, 0, none⟩) (by simp <;> omega) (.slice (some ⟨gb, 0, none⟩) bs.length bs.length)
  have k0 : (w1.setCell ⟨w.heap.size + 1 + 1, 0, none⟩ (.slice (some ⟨gb, 0, none⟩) bs.length bs.length)).cell? ⟨w.heap.size + 1 + 1, 0, none⟩ = some (.slice (some ⟨gb, 0, none⟩) bs.length bs.length) := World.cell?_setCell_same _ _ _ l0
  have k1 : (w1.setCell ⟨w.heap.size + 1 + 1, 0, none⟩ (.slice (some ⟨gb, 0, none⟩) bs.length bs.length)).cell? ⟨w.heap.size + 1 + 1, 1, none⟩ = some (.slice none 0 0) := (World.cell?_setCell_other _ _ _ _ (by simp)).trans l1
  have k2 : (w1.setCell ⟨w.heap.size + 1 + 1, 0, none⟩ (.slice (some ⟨gb, 0, none⟩) bs.length bs.length)).cell? ⟨w.heap.size + 1, 0, none⟩ = some (.slice none 0 0) := (World.cell?_setCell_other _ _ _ _ (by simp)).trans r0
  have k3 : (w1.setCell ⟨w.heap.size + 1 + 1, 0, none⟩ (.slice (some ⟨gb, 0, none⟩) bs.length bs.length)).cell? ⟨w.heap.size + 1, 1, none⟩ = some (.slice none 0 0) := (World.cell?_setCell_other _ _ _ _ (by simp)).trans r1
  clear p1 p2 hgb
  have HS := Lib.hid hs
  clear hs
  go_wp2_with fail
  refine (toEdgeS_any es _ _ _ hpe3).mono ?_
  rintro e w2 ⟨ge, rfl, hge, PBe, hb2⟩
  have hz : w1.heap.size ≤ w2.heap.size := by have := hb2.size; simpa [World.setCell] using this
  have hge' : w1.heap.size ≤ ge := by simpa [World.setCell] using hge
  have hlt : ∀ k, k < w1.heap.size → k < (w1.setCell ⟨w.heap.size + 1 + 1, 0, none⟩ (.slice (some ⟨gb, 0, none⟩) bs.length bs.length)).heap.size := fun k hk => by simpa [World.setCell] using hk
  have m0 := (hb2.cell (p := ⟨w.heap.size + 1 + 1, 0, none⟩) (hlt _ hs1)).trans k0
  have m1 := (hb2.cell (p := ⟨w.heap.size + 1 + 1, 1, none⟩) (hlt _ hs1)).trans k1
  have m2 := (hb2.cell (p := ⟨w.heap.size + 1, 0, none⟩) (hlt _ (by simp <;> omega))).trans k2
  have m3 := (hb2.cell (p := ⟨w.heap.size + 1, 1, none⟩) (hlt _ (by simp <;> omega))).trans k3
  have n0 := (hb2.frozen (p := ⟨w.heap.size + 1 + 1, 0, none⟩) (hlt _ hs1)).trans ((World.frozen?_setCell _ _ _ _).trans y0)
  have n1 := (hb2.frozen (p := ⟨w.heap.size + 1 + 1, 1, none⟩) (hlt _ hs1)).trans ((World.frozen?_setCell _ _ _ _).trans y1)
  have n2 := (hb2.frozen (p := ⟨w.heap.size + 1, 0, none⟩) (hlt _ (by simp <;> omega))).trans ((World.frozen?_setCell _ _ _ _).trans z0)
  have n3 := (hb2.frozen (p := ⟨w.heap.size + 1, 1, none⟩) (hlt _ (by simp <;> omega))).trans ((World.frozen?_setCell _ _ _ _).trans z1)
  have PBb3 := PBb2.keep hb2
  have hall2 : Below w.heap.size w w2 := HS.out.trans (hb2.mono (by simp [World.setCell]; omega))
  have hgbw := PBb.lt
  have hgew := PBe.lt
  clear k0 k1 k2 k3 hlt hge PBb2 PBb hb2
  go_wp2
  refine bodyPost_ret (v := .agg #[.slice (some ⟨gb, 0, none⟩) bs.length bs.length, .slice (some ⟨ge, 0, none⟩) es.length es.length]) (by simp [results, Tryd.results8, go_sem, m2, m3]) rfl ?_
  exact ⟨gb, ge, rfl, by omega, by omega, by repeat (first | exact PBb3 | refine PB.far ?_ (by simp <;> omega) _), by repeat (first | exact PBe | refine PB.far ?_ (by simp <;> omega) _), by repeat (first | exact hall2 | refine Below.setCell ?_ (by simp <;> omega) _)⟩
end Go.Proofs.YtfmhcjhcmoniaaaDoor
