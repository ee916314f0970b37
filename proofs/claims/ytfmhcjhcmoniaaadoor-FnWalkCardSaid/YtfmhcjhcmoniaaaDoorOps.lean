/-
  The program's chapter 1: opsByName: the map of what blocks do, or an error. Conditions: at most 1048576 blocks, each text at most as many bytes; the errors' variables hold errors.
-/
import Derived.Test.YtfmhcjhcmoniaaaDoorLinks
import Derived.BigQuiet
import Derived.Deep.QuietTactic
import Derived.WalkSmall
import Derived.Test.YtfmhcjhcmoniaaaDoorSpecB
namespace Go.Proofs.YtfmhcjhcmoniaaaDoor
open Go.RowKit Go.Maps

/-- a variable holds an error that is not nil -/
def ErrAt (w : World) (g : Nat) : Prop := g < w.heap.size ∧ ∃ t v, w.cell? ⟨g, 0, none⟩ = some (.iface t v)
theorem ErrAt.below {w w' : World} {g B : Nat} (h : ErrAt w g) (hb : Below B w w') (hg : g < B) : ErrAt w' g := by
  obtain ⟨hg', t, v, hc⟩ := h
  exact ⟨Nat.lt_of_lt_of_le hg' hb.size, t, v, (hb.cell (p := ⟨g, 0, none⟩) hg).trans hc⟩
theorem ErrAt.keep {w w' : World} {g : Nat} (h : ErrAt w g) (hb : Below w.heap.size w w') : ErrAt w' g := h.below hb h.1

/-- a slice of letters' values stands in block cells -/
def RowAt (w : World) (v : Value) (xs : List Value) : Prop := w.ownsRow 0 191 1 v xs.length xs
theorem RowAt.of_own {w : World} {base n : Nat} {v : Value} {xs : List Value} (h : w.ownsRow base 191 1 v n xs) : RowAt w v xs := by
  have hl : xs.length = n := by have := h.1; omega
  subst hl
  obtain ⟨h1, h2⟩ := h
  refine ⟨h1, ?_⟩
  rcases h2 with h2 | ⟨g, cap, cur, a, _, c⟩
  · exact .inl h2
  · exact .inr ⟨g, cap, cur, a, Nat.zero_le _, c⟩
theorem RowAt.same {w w' : World} {v : Value} {xs : List Value} (h : RowAt w v xs) (hs : ∀ (k : Nat) (cs : Array Value) (t : TypeId) (fr : Nat × Nat), w.heap[k]? = some (Obj.cells cs t fr) → w'.heap[k]? = w.heap[k]?) : RowAt w' v xs := by
  obtain ⟨h1, h2⟩ := h
  refine ⟨h1, ?_⟩
  rcases h2 with h2 | ⟨g, cap, cur, a, b, c, d⟩
  · exact .inl h2
  · exact .inr ⟨g, cap, cur, a, b, (hs _ _ _ _ c).trans c, d⟩
/-- only maps have been written -/
theorem RowAt.turns {S : Nat → Prop} {w w' : World} {v : Value} {xs : List Value} (h : RowAt w v xs) (ht : Turns S w w') (hS : ∀ k, S k → ∃ es c, w.heap[k]? = some (Obj.map es c)) : RowAt w' v xs :=
  h.same fun k cs t fr hk => ht.block k (Array.getElem?_eq_some_iff.1 hk).1 (fun hs => by obtain ⟨es, c, e⟩ := hS k hs; rw [hk] at e; cases e)
theorem MapV.block {w : World} {b n : Nat} {f : ByteArray → Option Value} (h : MapV w b n f) : ∃ es c, w.heap[b]? = some (Obj.map es c) := by
  obtain ⟨D, ⟨es, c, e, _⟩, _⟩ := h
  exact ⟨es, c, e⟩

/-- block b is the map of what the blocks do -/
structure OpsMap (w : World) (b : Nat) (l : List Pr) (F : ByteArray → Option Value) : Prop where
  map : MapV w b l.length F
  none_ : ∀ s, F s = none ↔ s ∉ names l
  row : ∀ p ∈ l, ∃ v, F p.1 = some v ∧ RowAt w v (opVals p.2 p.2.size)
theorem OpsMap.turns {S : Nat → Prop} {w w' : World} {b : Nat} {l : List Pr} {F : ByteArray → Option Value} (h : OpsMap w b l F) (ht : Turns S w w') (hS : ∀ k, S k → ∃ es c, w.heap[k]? = some (Obj.map es c)) (hb : ¬ S b) : OpsMap w' b l F where
  map := h.map.same (ht.block b h.map.lt hb)
  none_ := h.none_
  row p hp := by
    obtain ⟨v, hv, hr⟩ := h.row p hp
    exact ⟨v, hv, hr.turns ht hS⟩
theorem OpsMap.below {w w' : World} {b : Nat} {l : List Pr} {F : ByteArray → Option Value} (h : OpsMap w b l F) (hb : Below w.heap.size w w') : OpsMap w' b l F :=
  h.turns (S := fun _ => False) (.of_below hb) (fun _ h => h.elim) (fun h => h)
theorem OpsMap.empty (w : World) : OpsMap (w.alloc (.map #[] 0)) w.heap.size [] (fun _ => none) := ⟨MapV.made w, fun _ => by simp [names], fun p hp => by cases hp⟩
theorem OpsMap.snoc {w w' : World} {b : Nat} {l : List Pr} {F : ByteArray → Option Value} {p : Pr} {v : Value} (h : OpsMap w b l F) (hp : p.1 ∉ names l) (hm : MapV w' b (l.length + 1) (fun z => if z = p.1 then some v else F z)) (hg : w.grownBy w' (some b))
    (hr : RowAt w v (opVals p.2 p.2.size)) : OpsMap w' b (l ++ [p]) (fun z => if z = p.1 then some v else F z) where
  map := hm.mono (by simp)
  none_ s := by
    by_cases e : s = p.1
    · simp [e, names]
    · simp only [if_neg e, h.none_ s]
      simp [names, e]
  row q hq := by
    have hS : ∀ k, some k = some b → ∃ es c, w.heap[k]? = some (Obj.map es c) := fun k e => by cases e; exact h.map.block
    rcases List.mem_append.1 hq with hq | hq
    · obtain ⟨u, hu, hr'⟩ := h.row q hq
      have hne : q.1 ≠ p.1 := fun e => hp (e ▸ List.mem_map.2 ⟨q, hq, rfl⟩)
      exact ⟨u, by rw [if_neg hne]; exact hu, hr'.turns (.of_grown hg) hS⟩
    · rw [List.mem_singleton] at hq
      subst hq
      exact ⟨v, by rw [if_pos rfl], hr.turns (.of_grown hg) hS⟩

/-- names and letters are as they have to be -/
structure LettersOk (bs : List Pr) : Prop where
  nm : ∀ p ∈ bs, isNm p.1 = true
  op : ∀ p ∈ bs, opsOk p.2
  nd : (names bs).Nodup
/-- what opsByName leaves -/
def OpsPost (w : World) (bs : List Pr) (e : Ending) (w' : World) : Prop :=
  Below w.heap.size w w' ∧ ((LettersOk bs ∧ ∃ b F, e = .returned (.tuple #[.map (some b), .nilIface]) ∧ w.heap.size ≤ b ∧ OpsMap w' b bs F) ∨ (¬ LettersOk bs ∧ ∃ t x, e = .returned (.tuple #[.map none, .iface t x])))
theorem zeroOps (w : World) : (zeroValue 125).run Tryd.prog w = .ok (.slice none 0 0) w := by kernel_rfl
theorem take_succ_pr {l : List Pr} {k : Nat} (h : k < l.length) : l.take (k + 1) = l.take k ++ [(nameAt l k, restAt l k)] := by
  rw [List.take_succ_eq_append_getElem h, pair_at h]
theorem mem_take_names {l : List Pr} {k : Nat} (hk : k ≤ l.length) {s : ByteArray} : s ∈ names (l.take k) ↔ ∃ j, j < k ∧ nameAt l j = s := by
  constructor
  · intro h
    obtain ⟨i, hi, e⟩ := mem_names h
    have hi' : i < k := by simp at hi; omega
    refine ⟨i, hi', ?_⟩
    rw [← e]
    unfold nameAt
    simp [List.getD_eq_getElem?_getD, hi']
  · rintro ⟨j, hj, rfl⟩
    have : (nameAt l j, restAt l j) ∈ l.take k := by
      rw [← pair_at (by omega)]
      exact List.mem_take_iff_getElem.2 ⟨j, by omega, rfl⟩
    exact List.mem_map.2 ⟨_, this, rfl⟩
/-- seen from a place -/
def LetAt (l : List Pr) (k : Nat) : Prop := isNm (nameAt l k) = true ∧ opsB (restAt l k) = true ∧ ∀ j, j < k → nameAt l j ≠ nameAt l k
theorem letters_of {l : List Pr} (h : ∀ k, k < l.length → LetAt l k) : LettersOk l where
  nm p hp := by obtain ⟨i, hi, e, _⟩ := mem_at hp; rw [← e]; exact (h i hi).1
  op p hp := by obtain ⟨i, hi, _, e⟩ := mem_at hp; rw [← e]; have := (h i hi).2.1; simpa [opsB] using this
  nd := nodup_iff.2 fun i hi j hj e => (h i hi).2.2 j hj e
theorem at_of_letters {l : List Pr} (h : LettersOk l) {k : Nat} (hk : k < l.length) : LetAt l k :=
  ⟨h.nm _ (pair_mem hk), by simpa [opsB] using h.op _ (pair_mem hk), nodup_iff.1 h.nd k hk⟩

set_option maxRecDepth 100000 in
set_option maxHeartbeats 3200000 in
theorem opsByName_any (w : World) (l : List Pr) (a : Option Addr) (cap : Nat) (hp : PairsAt w a l) (g1 : ErrAt w 2) (g7 : ErrAt w 6) :
    Calls Tryd.prog 60 #[.slice a l.length cap] w (OpsPost w l) := by
  have hl := hp.len
  have hmm := @run_makeMap Tryd.prog
  go_enter Tryd.func60, Tryd.ntmps60
  go_wp2
  go_loopw [14] (fun i wr => ∃ (k : Nat) (F : ByteArray → Option Value), k ≤ l.length ∧ i = .int .i64 k ∧ Below w.heap.size w wr ∧ OpsMap wr w.heap.size (l.take k) F ∧ ∀ j, j < k → LetAt l j) (fun i _ => l.length - (intOf i).toNat)
  case atStart => exact ⟨0, _, Nat.zero_le _, rfl, (Below.refl _ _).alloc (Nat.le_refl _) _, OpsMap.empty w, all_zero⟩
  case round =>
    obtain ⟨k, F, hk, rfl, hbl, hM, hno⟩ := hrel
    have Hno := Lib.hid hno; clear hno
    have hsz := hM.map.lt
    by_cases hlt : k < l.length
    · have hs := hp.size k hlt
      obtain ⟨b, off, rfl, hb, h1, h2⟩ := hp.cell k hlt
      have c1 := (hbl.cell (p := ⟨b, off + k * 2, none⟩) hb).trans h1
      have c2 := (hbl.cell (p := ⟨b, off + k * 2 + 1, none⟩) hb).trans h2
      clear h1 h2
      obtain ⟨gl1, et1, ev1, ec1⟩ := g1.below hbl g1.1
      have hM1 := hM.below ((Below.refl _ _).alloc (Nat.le_refl _) (.cells #[.string (nameAt l k), .string (restAt l k)] 51))
      have lk := hM1.map.look_ok Tryd.underlying54 (zeroOps _) (mx hs.1)
      by_cases t1 : F (nameAt l k) = none
      · rw [t1] at lk
        simp only [Option.getD_none, Option.isSome_none] at lk
        by_cases t2 : isNm (nameAt l k) = true
        · have T1 := Lib.hid t1; clear t1
          go_wp2_with (go_at_call 73; refine (isName_any _ _).mono ?_; rintro e w' ⟨rfl, rfl⟩)
          obtain ⟨gl7, et7, ev7, ec7⟩ := g7.below hbl g7.1
          have ec7' := (World.cell?_alloc_lt wr (.cells #[.string (nameAt l k), .string (restAt l k)] 51) ⟨6, 0, none⟩ gl7).trans ec7
          refine (readOps_any _ _ hs.2 _ _ ec7' (by simp; omega)).mono ?_
          rintro e w1 ⟨hb1, hcase⟩
          have hb2 := (bcell hb1).1
          have hM2 := hM1.below hb1
          have hall : Below w.heap.size w w1 := (hbl.alloc (by omega) _).trans (hb1.mono (by simp; omega))
          have d0 := (hb2 wr.heap.size 0 (by simp)).trans (show _ = some (.string (nameAt l k)) by go_simp)
          have d1 := (hb2 wr.heap.size 1 (by simp)).trans (show _ = some (.string (restAt l k)) by go_simp)
          clear hb2 lk hM1
          rcases hcase with ⟨ho, v, rfl, hrow⟩ | ⟨ho, t, x, rfl⟩
          · have hR := RowAt.of_own hrow
            have Hl := Lib.hid (show LetAt l k from ⟨t2, ho, fun j hj e => ((hM.none_ _).1 T1.out) ((mem_take_names hk).2 ⟨j, hj, e⟩)⟩)
            clear hrow ho t2
            go_wp2_with (at_mapUpdate; refine wpList_putV _ rfl _ _ _ 54 rfl 125 Tryd.underlying54 w.heap.size (l.take k).length F rfl hM2.map (mxl (by simp; omega)) (nameAt l k) rfl (mx hs.1) v rfl ?_; intro w2 hm2 hg2 hs2)
            have hM3 := hM2.snoc (p := (nameAt l k, restAt l k)) ((hM2.none_ _).1 T1.out) hm2 hg2 hR
            rw [← take_succ_pr hlt] at hM3
            have hall2 : Below w.heap.size w w2 := hall.grown hg2 hall.size (fun j hj => by cases hj; exact Nat.le_refl _)
            go_roundw
            case rel => exact ⟨k + 1, _, by omega, by go_num, hall2, hM3, all_step Hno.out Hl.out⟩
            case measure => simp [intOf]; omega
          · have H' := Lib.hid (show ¬ LettersOk l from fun h => by have := (at_of_letters h hlt).2.1; rw [ho] at this; cases this)
            clear ho
            go_wp2
            go_quiet (fail)
            go_wp2
            go_ret2
            exact ⟨below_drewN hall _, .inr ⟨H'.out, _, _, rfl⟩⟩
        · have t2' : isNm (nameAt l k) = false := by simpa using t2
          clear t2
          have H' := Lib.hid (show ¬ LettersOk l from fun h => by have := (at_of_letters h hlt).1; rw [t2'] at this; cases this)
          have T1 := Lib.hid t1; clear t1
          go_wp2_with (go_at_call 73; refine (isName_any _ _).mono ?_; rintro e w' ⟨rfl, rfl⟩)
          go_quiet (fail)
          go_wp2
          go_ret2
          exact ⟨below_drewN (hbl.alloc (by omega) _) _, .inr ⟨H'.out, _, _, rfl⟩⟩
      · have hmem : nameAt l k ∈ names (l.take k) := by
          by_cases h : nameAt l k ∈ names (l.take k)
          · exact h
          · exact absurd ((hM.none_ _).2 h) t1
        have H' := Lib.hid (show ¬ LettersOk l from fun h => by obtain ⟨j, hj, e⟩ := (mem_take_names hk).1 hmem; exact (at_of_letters h hlt).2.2 j hj e)
        obtain ⟨v, hv⟩ := Option.ne_none_iff_exists'.1 t1
        rw [hv] at lk
        simp only [Option.getD_some, Option.isSome_some] at lk
        clear hmem t1 hv
        go_wp2
        go_quiet (fail)
        go_wp2
        go_ret2
        exact ⟨below_drewN (hbl.alloc (by omega) _) _, .inr ⟨H'.out, _, _, rfl⟩⟩
    · have hkk : k = l.length := by omega
      have H' := Lib.hid (letters_of (l := l) fun j hj => Hno.out j (by omega))
      have HM : Hid (OpsMap wr w.heap.size l F) := by rw [hkk, List.take_length] at hM; exact hM
      clear hM
      go_wp2
      go_ret2
      exact ⟨hbl, .inl ⟨H'.out, _, F, rfl, Nat.le_refl _, HM.out⟩⟩
end Go.Proofs.YtfmhcjhcmoniaaaDoor
