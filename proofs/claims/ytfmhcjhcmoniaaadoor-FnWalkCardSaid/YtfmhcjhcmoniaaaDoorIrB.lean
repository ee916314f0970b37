import Derived.Test.YtfmhcjhcmoniaaaDoorIrA
section
/-
  The model's l2Out and l2Keep. Conditions: a valid program.
-/
namespace Go.Proofs.YtfmhcjhcmoniaaaDoor
open Go.RowKit Go.Maps

set_option maxRecDepth 100000 in
set_option maxHeartbeats 1600000 in
theorem l2Out_any (w : World) (bs es : List Pr) (ab ae : Option Addr) (cb ce : Nat) (x : ByteArray) (hv : Valid bs es) (hpe : PairsAt w ae es) :
    Calls Tryd.prog 27 #[.agg #[.slice ab bs.length cb, .slice ae es.length ce], .string x] w fun e w' => e = .returned (.string (cat (outL es x))) ∧ Below w.heap.size w w' := by
  have h1 : Below w.heap.size w (w.alloc (.cells #[.slice ab bs.length cb, .slice ae es.length ce] 32)) := (Below.refl _ _).alloc (Nat.le_refl _) _
  have hpe1 := hpe.below h1
  have H1 := Lib.hid h1; clear h1
  have HVV := Lib.hid hv; clear hv
  have hz : w.heap.size ≤ (w.alloc (.cells #[.slice ab bs.length cb, .slice ae es.length ce] 32)).heap.size := by simp
  have hl14 := HVV.out.e.hi
  go_enter Tryd.func27, Tryd.ntmps27
  go_wp2
  go_loopw [11, 5] (fun i v wr => ∃ k : Nat, k ≤ es.length ∧ i = .int .i64 k ∧ v = .string (cat (outL (es.take k) x)) ∧ Below (w.alloc (.cells #[.slice ab bs.length cb, .slice ae es.length ce] 32)).heap.size (w.alloc (.cells #[.slice ab bs.length cb, .slice ae es.length ce] 32)) wr) (fun i _ _ => es.length - (intOf i).toNat)
  case atStart => exact ⟨0, Nat.zero_le _, rfl, by simp [outL_nil, cat_nil]; rfl, Below.refl _ _⟩
  case round =>
    obtain ⟨k, hk, rfl, rfl, hbl⟩ := hrel
    have hs2 := hbl.size
    by_cases hlt : k < es.length
    · obtain ⟨b, off, rfl, hb, g1, g2⟩ := hpe1.cell k hlt
      have d1 := (hbl.cell (p := ⟨b, off + k * 2, none⟩) hb).trans g1
      have d2 := (hbl.cell (p := ⟨b, off + k * 2 + 1, none⟩) hb).trans g2
      have z1 := HVV.out.to_size hlt
      have z2 : (cat (outL (es.take k) x)).size ≤ 14 := by
        rw [cat_size (fun y hy => HVV.out.name_size (HVV.out.e.to (x, y) (List.mem_of_mem_take (mem_outL.1 hy))))]
        have := outL_length (es.take k) x
        rw [List.length_take] at this
        omega
      have t1 : ¬ 9223372036854775807 < (cat (outL (es.take k) x)).size + (restAt es k).size := by omega
      clear g1 g2
      by_cases e1 : nameAt es k = x
      · have q1 : ((nameAt es k).toList == x.toList) = true := by rw [toList_eq_iff]; simpa using e1
        have HE := Lib.hid (show cat (outL (es.take (k + 1)) x) = cat (outL (es.take k) x) ++ restAt es k by rw [take_succ_pr hlt, outL_hit (p := (nameAt es k, restAt es k)) e1, cat_snoc])
        clear e1
        go_wp2
        go_roundw
        case rel => exact ⟨k + 1, by omega, by go_num, by rw [HE.out], hbl.alloc hs2 _⟩
        case measure => simp [intOf]; omega
      · have q1 : ((nameAt es k).toList == x.toList) = false := by rw [toList_eq_iff]; simpa using e1
        have HE := Lib.hid (show cat (outL (es.take (k + 1)) x) = cat (outL (es.take k) x) by rw [take_succ_pr hlt, outL_miss (p := (nameAt es k, restAt es k)) e1])
        clear e1
        go_wp2
        go_roundw
        case rel => exact ⟨k + 1, by omega, by go_num, by rw [HE.out], hbl.alloc hs2 _⟩
        case measure => simp [intOf]; omega
    · have HE := Lib.hid (show es.take k = es from List.take_of_length_le (by omega))
      go_wp2
      go_ret
      exact ⟨by rw [HE.out]; rfl, H1.out.trans (hbl.mono hz)⟩
end Go.Proofs.YtfmhcjhcmoniaaaDoor
end

section
/-
  The model's l2Keep. Conditions: a row of the caller's own, no text empty.
-/
namespace Go.Proofs.YtfmhcjhcmoniaaaDoor
open Go.RowKit Go.Maps

theorem lastC_data {u : ByteArray} {n : Nat} (h : u.size = n + 1) : (lastC u).data.toList = [u.data.getD n 0] := by
  have hl : n < u.data.toList.length := by rw [Array.length_toList]; show n < u.size; omega
  have hs : n < u.data.size := by show n < u.size; omega
  unfold lastC ch
  rw [h, ByteArray.data_extract, Array.toList_extract]
  simp only [Nat.add_sub_cancel]
  rw [List.extract_eq_take_drop, show n + 1 - n = 1 by omega, List.drop_eq_getElem_cons hl, List.take_succ_cons, List.take_zero]
  congr 1
  unfold Array.getD
  rw [dif_pos hs]
  rfl
theorem lastC_iff {u t : ByteArray} {n m : Nat} (h : u.size = n + 1) (h' : t.size = m + 1) : lastC u = lastC t ↔ byteAt u n = byteAt t m := by
  constructor
  · intro e
    have := congrArg (fun z : ByteArray => z.data.toList) e
    simp only [lastC_data h, lastC_data h', List.cons.injEq, and_true] at this
    unfold byteAt
    rw [this]
  · intro e
    apply bytes_ext2
    rw [lastC_data h, lastC_data h']
    congr 1
    exact UInt8.toNat_inj.1 e
theorem lastC_get {u t : ByteArray} {n m : Nat} (h : u.size = n + 1) (h' : t.size = m + 1) (hu : n < u.size) (ht : m < t.size) : lastC u = lastC t ↔ u[n] = t[m] := by
  rw [lastC_iff h h', ← byteAt_get hu, ← byteAt_get ht]
  exact UInt8.toNat_inj
theorem set_same {l : List ByteArray} {m : Nat} {u : ByteArray} (h : l[m]? = some u) : l.set m u = l := by
  apply List.ext_getElem?
  intro i
  rw [List.getElem?_set]
  split
  · next e => subst e; split
              · exact h.symm
              · next h2 => rw [List.getElem?_eq_none (by omega)] at h; cases h
  · rfl
theorem own_unfrozen {w : World} {base : Nat} {e : TypeId} {n g cap : Nat} {xs : List Value} (h : w.ownsRow base e 1 (.slice (some ⟨g, 0, none⟩) n cap) n xs) (i : Nat) : w.frozen? ⟨g, i, none⟩ = false := by
  obtain ⟨h1, ⟨hv, _⟩ | ⟨g', cap', cur, hv, hg, hh, hn, hc, hs, ht⟩⟩ := h
  · cases hv
  · simp only [Value.slice.injEq, Option.some.injEq, Addr.mk.injEq, and_true, true_and] at hv
    obtain ⟨rfl, rfl⟩ := hv
    simp [World.frozen?, hh]
theorem own_below {w w' : World} {base : Nat} {e : TypeId} {size n : Nat} {v : Value} {xs : List Value} (h : w.ownsRow base e size v n xs) (hb : Below w.heap.size w w') : w'.ownsRow base e size v n xs := ownsRow_below h hb

set_option maxRecDepth 100000 in
set_option maxHeartbeats 1600000 in
theorem l2Keep_any (w : World) (base : Nat) (vv : Value) (ts : List ByteArray) (t : ByteArray) (hbase : base ≤ w.heap.size) (hts : ∀ u ∈ ts, 1 ≤ u.size ∧ u.size ≤ 1000) (ht : 1 ≤ t.size ∧ t.size ≤ 1000) (hn : ts.length ≤ 1000) (hown : w.ownsRow base 9 1 vv ts.length (ts.map Value.string)) :
    Calls Tryd.prog 43 #[vv, .string t] w fun e w' => (∃ v', e = .returned v' ∧ w'.ownsRow base 9 1 v' (keepL ts t).length ((keepL ts t).map Value.string)) ∧ Below base w w' := by
  obtain ⟨ga, gc, rfl⟩ := own_form hown
  obtain ⟨tn, htn⟩ : ∃ tn, t.size = tn + 1 := ⟨t.size - 1, by omega⟩
  have hw1 : IntKind.i64.wrap ((t.size : Int) - 1) = (tn : Int) := by rw [show (t.size : Int) - 1 = (tn : Int) by omega]; exact IntWalk.i64_in _ (by omega)
  have hi2 : (tn : Int) < (t.size : Int) := by omega
  have hlt1 : tn < t.size := by omega
  have HT := Lib.hid (And.intro htn ht); clear ht htn
  have HO := Lib.hid hown
  have Hts := Lib.hid hts; clear hts hown
  obtain ⟨i0, hi, hz0, hz1, hz2⟩ := info_parts Tryd.infoStr
  go_enter Tryd.func43, Tryd.ntmps43
  go_wp2
  go_loopw [9] (fun i wr => ∃ m : Nat, m ≤ ts.length ∧ i = .int .i64 m ∧ Below w.heap.size w wr ∧ ∀ j u, j < m → ts[j]? = some u → lastC u ≠ lastC t) (fun i _ => ts.length - (intOf i).toNat)
  case atStart => exact ⟨0, Nat.zero_le _, rfl, Below.refl _ _, fun j u hj _ => absurd hj (Nat.not_lt_zero _)⟩
  case round =>
    obtain ⟨m, hm, rfl, hbl, hno⟩ := hrel
    have hs := hbl.size
    have hownr := own_below HO.out hbl
    have HB := Lib.hid (And.intro hbl hno); clear hbl hno
    by_cases hlt : m < ts.length
    · obtain ⟨u, hu⟩ : ∃ u, ts[m]? = some u := ⟨ts[m], List.getElem?_eq_getElem hlt⟩
      have hu1 := Hts.out u (List.mem_of_getElem? hu)
      obtain ⟨un, hun⟩ : ∃ un, u.size = un + 1 := ⟨u.size - 1, by omega⟩
      have hw2 : IntKind.i64.wrap ((u.size : Int) - 1) = (un : Int) := by rw [show (u.size : Int) - 1 = (un : Int) by omega]; exact IntWalk.i64_in _ (by omega)
      have hi3 : (un : Int) < (u.size : Int) := by omega
      have hlt2 : un < u.size := by omega
      obtain ⟨n', hn'⟩ : ∃ n', ts.length = n' + 1 := ⟨ts.length - 1, by omega⟩
      have hown2 : wr.ownsRow base 9 1 (.slice ga ts.length gc) (n' + 1) (ts.map Value.string) := by rw [← hn']; exact hownr
      obtain ⟨g, cap, hv, hgb, hgw, hfr, _, hcells⟩ := own_last hown2
      rw [← hn'] at hv
      cases hv
      have hfz := own_unfrozen (g := g) (cap := gc) hownr m
      have hcu := hcells m (.string u) (by rw [List.getElem?_map, hu]; rfl)
      have HU := Lib.hid (And.intro hu (And.intro hun (And.intro hu1 hn'))); clear hu hun hu1 hn' hown2 hcells
      by_cases hc : u[un] = t[tn]
      · have HC := Lib.hid ((lastC_get HU.out.2.1 HT.out.1 hlt2 hlt1).2 hc)
        cases hb : blt t u
        · have hb2 : Op.bytesLess t.toList u.toList = false := hb
          have HK := Lib.hid (show keepL ts t = ts by
            rw [keepL_hit ts t m u HU.out.1 HC.out HB.out.2, hb, if_neg (by simp)]
            exact set_same HU.out.1)
          clear hb
          go_wp2
          go_quiet (fail)
          go_wp2
          go_ret
          exact ⟨⟨_, rfl, by rw [HK.out]; exact own_below HO.out (below_drewN HB.out.1 _)⟩, (below_drewN HB.out.1 _).mono hbase⟩
        · have hb2 : Op.bytesLess t.toList u.toList = true := hb
          have HK := Lib.hid (show keepL ts t = ts.set m t by
            rw [keepL_hit ts t m u HU.out.1 HC.out HB.out.2, hb, if_pos rfl])
          clear hb
          go_wp2
          go_quiet (fail)
          have hownq := own_below HO.out (below_drewN HB.out.1 nq)
          have HQ := Lib.hid hownq; clear hownq
          go_wp2
          go_ret
          refine ⟨⟨_, rfl, ?_⟩, ((below_drewN HB.out.1 nq).mono hbase).setCell (p := ⟨g, m, none⟩) hgb _⟩
          rw [HK.out, List.length_set, List.map_set]
          exact own_set HQ.out
      · have hcb : ((u[un].toNat : Int) == (t[tn].toNat : Int)) = false := by
          rw [beq_eq_false_iff_ne]
          exact fun e => hc (UInt8.toNat_inj.1 (by omega))
        have HC := Lib.hid (show lastC u ≠ lastC t from fun e => hc ((lastC_get HU.out.2.1 HT.out.1 hlt2 hlt1).1 e))
        go_wp2
        go_quiet (fail)
        go_wp2
        go_roundw
        case rel =>
          refine ⟨m + 1, by omega, by go_num, below_drewN HB.out.1 _, fun j y hj hy => ?_⟩
          rcases Nat.lt_or_ge j m with h | h
          · exact HB.out.2 j y h hy
          · obtain rfl : j = m := by omega
            rw [HU.out.1] at hy; cases hy; exact HC.out
        case measure => simp [intOf]; omega
    · have hall : ∀ u ∈ ts, lastC u ≠ lastC t := fun u hu => by
        obtain ⟨j, hj, e⟩ := List.getElem_of_mem hu
        exact HB.out.2 j u (by omega) (by rw [List.getElem?_eq_getElem hj, e])
      have HK := Lib.hid (keepL_miss ts t hall)
      clear hall
      obtain rfl : m = ts.length := by omega
      go_wp2_with (at_builtin; refine wpList_append_lies _ rfl _ _ 59 rfl base 9 i0 (.string ⟨#[]⟩) 1 16 Tryd.underlying59 hi hz0 hz1 hz2 rfl (by decide) _ _ _ rfl (hownr.alloc _) ⟨wr.heap.size, 0, none⟩ 1 1 [.string t] rfl rfl (cell_one_new _ _ _) (one_one _ rfl) (by decide) (by unfold maxLen; omega) (by omega) (by simp; omega) _ rfl ?_; intro g' cap' w3 hown3 hgrow3 _ _)
      go_wp2
      go_ret
      refine ⟨⟨_, rfl, ?_⟩, ?_⟩
      · rw [HK.out, List.length_append, List.map_append]
        exact hown3
      · exact ((HB.out.1.mono hbase).alloc (by omega) _).grown hgrow3 (by simp; omega) (fun j hj => by have := (hownr.lt j hj).1; omega)
end Go.Proofs.YtfmhcjhcmoniaaaDoor
end

section
/-
  The model's l2Short: the shortest way to the exit, of several the first in the order of bytes, level by level. Conditions: a valid program; a name of one of its blocks.
-/
namespace Go.Proofs.YtfmhcjhcmoniaaaDoor
open Go.RowKit Go.Maps

/-- the best of the first ways -/
def BestIn (ts : List ByteArray) (z : ByteArray) (m : Nat) (b : ByteArray) : Prop :=
  (b = e0 ∧ ∀ j u, j < m → ts[j]? = some u → lastC u ≠ z) ∨ (∃ j, j < m ∧ ts[j]? = some b ∧ lastC b = z)
theorem BestIn.start (ts : List ByteArray) (z : ByteArray) : BestIn ts z 0 e0 := .inl ⟨rfl, fun _ _ h => absurd h (Nat.not_lt_zero _)⟩
theorem BestIn.miss {ts : List ByteArray} {z b u : ByteArray} {m : Nat} (h : BestIn ts z m b) (hu : ts[m]? = some u) (hn : lastC u ≠ z) : BestIn ts z (m + 1) b := by
  rcases h with ⟨h1, h2⟩ | ⟨j, h1, h2, h3⟩
  · refine .inl ⟨h1, fun j v hj hv => ?_⟩
    rcases Nat.lt_or_ge j m with h | h
    · exact h2 j v h hv
    · obtain rfl : j = m := by omega
      rw [hu] at hv; cases hv; exact hn
  · exact .inr ⟨j, by omega, h2, h3⟩
theorem BestIn.hit {ts : List ByteArray} {z u : ByteArray} {m : Nat} (hu : ts[m]? = some u) (hz : lastC u = z) : BestIn ts z (m + 1) u := .inr ⟨m, by omega, hu, hz⟩
/-- ends are distinct: behind a best one no other ends there -/
theorem BestIn.empty {ts : List ByteArray} {z b u : ByteArray} {m : Nat} (hd : ts.Pairwise fun a b => lastC a ≠ lastC b) (h : BestIn ts z m b) (hu : ts[m]? = some u) (hz : lastC u = z) : b = e0 := by
  rcases h with ⟨h1, _⟩ | ⟨j, h1, h2, h3⟩
  · exact h1
  · obtain ⟨hj, ej⟩ := List.getElem?_eq_some_iff.1 h2
    obtain ⟨hm, em⟩ := List.getElem?_eq_some_iff.1 hu
    have := List.pairwise_iff_getElem.1 hd j m hj hm h1
    rw [ej, em, h3, hz] at this
    exact absurd rfl this
theorem Lev.sizes {bs es : List Pr} {x : ByteArray} {j : Nat} {ts : List ByteArray} (hV : Valid bs es) (hx : x.size = 1) (h : Lev es x j ts) : ∀ u ∈ ts, u.size = j + 1 := fun u hu => by
  obtain ⟨l, hl, hp, e⟩ := h.path u hu
  rw [e, path_size (fun e he => hV.name_size (hV.e.to _ he)) hx l _ hp, hl]
theorem Lev.ends {bs es : List Pr} {x : ByteArray} {j : Nat} {ts : List ByteArray} (hV : Valid bs es) (hx : x ∈ names bs) (h : Lev es x j ts) : ∀ u ∈ ts, lastC u ∈ names bs := fun u hu => by
  obtain ⟨l, hl, hp, e⟩ := h.path u hu
  have key : ∀ (l : List ByteArray) (a b : ByteArray), a ∈ names bs → IsPath es a l b → b ∈ names bs := by
    intro l
    induction l with
    | nil => intro a b ha hp; have e : a = b := hp; rw [← e]; exact ha
    | cons c r ih => intro a b _ hp; exact ih c b (hV.e.to _ hp.1) hp.2
  exact key l x _ hx hp
theorem distinct_len {bs : List Pr} {ks : List ByteArray} (hd : ks.Pairwise fun a b => lastC a ≠ lastC b) (hs : ∀ u ∈ ks, lastC u ∈ names bs) : ks.length ≤ bs.length := by
  have h := nodup_len (ks.map lastC) (names bs) (List.pairwise_map.2 hd) fun a ha => by
    obtain ⟨u, hu, rfl⟩ := List.mem_map.1 ha
    exact hs u hu
  rw [List.length_map, names_length] at h
  exact h
/-- the ways that the second loop has laid: of the first ways all, and of the next one the first names -/
def Made (es : List Pr) (ts : List ByteArray) (m q : Nat) (c : ByteArray) : Prop :=
  (∃ j u y, j < m ∧ ts[j]? = some u ∧ (lastC u, y) ∈ es ∧ c = u ++ y) ∨ (∃ u i y, ts[m]? = some u ∧ i < q ∧ (outL es (lastC u))[i]? = some y ∧ c = u ++ y)
theorem Made.zero {es : List Pr} {ts : List ByteArray} (c : ByteArray) : False ↔ Made es ts 0 0 c :=
  ⟨False.elim, fun h => by rcases h with ⟨j, _, _, h, _⟩ | ⟨_, i, _, _, h, _⟩ <;> exact absurd h (Nat.not_lt_zero _)⟩
theorem Made.name {es : List Pr} {ts : List ByteArray} {m q : Nat} {u y : ByteArray} (hu : ts[m]? = some u) (hy : (outL es (lastC u))[q]? = some y) (c : ByteArray) : (c = u ++ y ∨ Made es ts m q c) ↔ Made es ts m (q + 1) c := by
  constructor
  · rintro (h | h | ⟨v, i, z, h1, h2, h3, h4⟩)
    · exact .inr ⟨u, q, y, hu, by omega, hy, h⟩
    · exact .inl h
    · exact .inr ⟨v, i, z, h1, by omega, h3, h4⟩
  · rintro (h | ⟨v, i, z, h1, h2, h3, h4⟩)
    · exact .inr (.inl h)
    · rcases Nat.lt_or_ge i q with h | h
      · exact .inr (.inr ⟨v, i, z, h1, h, h3, h4⟩)
      · obtain rfl : i = q := by omega
        rw [hu] at h1; cases h1
        rw [hy] at h3; cases h3
        exact .inl h4
theorem Made.way {es : List Pr} {ts : List ByteArray} {m : Nat} {u : ByteArray} (hu : ts[m]? = some u) (c : ByteArray) : Made es ts m (outL es (lastC u)).length c ↔ Made es ts (m + 1) 0 c := by
  constructor
  · rintro (⟨j, v, y, h1, h2, h3, h4⟩ | ⟨v, i, y, h1, h2, h3, h4⟩)
    · exact .inl ⟨j, v, y, by omega, h2, h3, h4⟩
    · rw [hu] at h1; cases h1
      exact .inl ⟨m, u, y, by omega, hu, mem_outL.1 (List.mem_of_getElem? h3), h4⟩
  · rintro (⟨j, v, y, h1, h2, h3, h4⟩ | ⟨_, i, _, _, h, _⟩)
    · rcases Nat.lt_or_ge j m with h | h
      · exact .inl ⟨j, v, y, h, h2, h3, h4⟩
      · obtain rfl : j = m := by omega
        rw [hu] at h2; cases h2
        obtain ⟨i, hi, e⟩ := List.getElem_of_mem (mem_outL.2 h3)
        exact .inr ⟨u, i, y, hu, hi, by rw [List.getElem?_eq_getElem hi, e], h4⟩
    · exact absurd h (Nat.not_lt_zero _)
theorem Made.all {es : List Pr} {ts : List ByteArray} (c : ByteArray) : Made es ts ts.length 0 c ↔ ∃ t ∈ ts, ∃ y, (lastC t, y) ∈ es ∧ c = t ++ y := by
  constructor
  · rintro (⟨j, v, y, h1, h2, h3, h4⟩ | ⟨_, i, _, _, h, _⟩)
    · exact ⟨v, List.mem_of_getElem? h2, y, h3, h4⟩
    · exact absurd h (Nat.not_lt_zero _)
  · rintro ⟨t, ht, y, h3, h4⟩
    obtain ⟨i, hi, e⟩ := List.getElem_of_mem ht
    exact .inl ⟨i, t, y, hi, by rw [List.getElem?_eq_getElem hi, e], h3, h4⟩
theorem Made.info {bs es : List Pr} {x : ByteArray} {j : Nat} {ts : List ByteArray} (hV : Valid bs es) (hx : x.size = 1) (hL : Lev es x j ts) {m q : Nat} {c : ByteArray} (h : Made es ts m q c) : c.size = j + 2 ∧ lastC c ∈ names bs := by
  have key : ∃ u ∈ ts, ∃ y, (lastC u, y) ∈ es ∧ c = u ++ y := by
    rcases h with ⟨i, u, y, _, h2, h3, h4⟩ | ⟨u, i, y, h1, _, h3, h4⟩
    · exact ⟨u, List.mem_of_getElem? h2, y, h3, h4⟩
    · exact ⟨u, List.mem_of_getElem? h1, y, mem_outL.1 (List.mem_of_getElem? h3), h4⟩
  obtain ⟨u, hu, y, hE, rfl⟩ := key
  have hy := hV.e.to _ hE
  have hy1 : y.size = 1 := hV.name_size hy
  exact ⟨by rw [ByteArray.size_append, hL.sizes hV hx u hu, hy1], by rw [lastC_app hy1]; exact hy⟩
end Go.Proofs.YtfmhcjhcmoniaaaDoor
end

section
/-
  The model's l2Short: the walk. Conditions: a valid program; a name of one of its blocks.
-/
namespace Go.Proofs.YtfmhcjhcmoniaaaDoor
open Go.RowKit Go.Maps

theorem lastC_ext {u : ByteArray} {n : Nat} (h : u.size = n + 1) : u.extract n u.size = lastC u := by
  unfold lastC ch
  rw [h]; rfl
/-- 's[i:]' of a text -/
theorem run_slice_end (s : ByteArray) (i : Int) (a : Nat) (hi : i = a) (ha : a ≤ s.size) (W : World) :
    (Instr.slice 9 (.string s) (some (.int .i64 i)) none none).run Tryd.prog W = .ok (.string (s.extract a s.size)) W := by
  subst hi
  have h2 : (a : Int) ≤ s.size := by omega
  simp [Instr.slice, Instr.sliceBounds, Instr.sliceBound, run_underlying Tryd.underlying9, asIntOf, ha]
theorem own_empty (w : World) (e : TypeId) : (w.alloc (.cells #[] e)).ownsRow w.heap.size e 1 (.slice (some ⟨w.heap.size, 0, none⟩) 0 0) 0 [] :=
  ⟨rfl, .inr ⟨w.heap.size, 0, #[], rfl, Nat.le_refl _, heap_alloc_new w _, Nat.le_refl _, by decide, rfl, rfl⟩⟩

set_option maxRecDepth 100000 in
set_option maxHeartbeats 6400000 in
theorem l2Short_best (w : World) (bs es : List Pr) (ab ae : Option Addr) (cb ce : Nat) (x : ByteArray) (hV : Valid bs es) (hx : x ∈ names bs) (hpb : PairsAt w ab bs) (hpe : PairsAt w ae es) :
    Calls Tryd.prog 20 #[.agg #[.slice ab bs.length cb, .slice ae es.length ce], .string x] w fun e w' => (e = .returned (.string (bestT es x (lastN bs))) ∧ ∃ t, Best es x (lastN bs) t) ∧ Below w.heap.size w w' := by
  have h1 : Below w.heap.size w (w.alloc (.cells #[.slice ab bs.length cb, .slice ae es.length ce] 32)) := (Below.refl _ _).alloc (Nat.le_refl _) _
  have hpb1 := hpb.below h1
  have hpe1 := hpe.below h1
  have hx1 : x.size = 1 := hV.name_size hx
  obtain ⟨l0, hp0, hl8, hmin⟩ := hV.least hx
  obtain ⟨d, hd⟩ : ∃ d, d = l0.length := ⟨_, rfl⟩
  have hlb := hV.b.hi
  obtain ⟨n, hn⟩ : ∃ n, bs.length = n + 1 := ⟨bs.length - 1, by have := hV.b.lo; omega⟩
  obtain ⟨b, off, rfl, hb, g1, g2⟩ := hpb1.cell n (by omega)
  have hzN : nameAt bs n = lastN bs := by unfold lastN; rw [hn]; rfl
  rw [hzN] at g1
  have hw1 : IntKind.i64.wrap ((bs.length : Int) - 1) = (n : Int) := by rw [hn, show ((n + 1 : Nat) : Int) - 1 = (n : Int) by omega]; exact IntWalk.i64_in _ (by omega)
  have hi1 : (n : Int) < (bs.length : Int) := by omega
  have hi2 : (0 : Int) ≤ (n : Int) := by omega
  have y0 : (w.alloc (.cells #[.slice (some ⟨b, off, none⟩) bs.length cb, .slice ae es.length ce] 32)).cell? ⟨w.heap.size, 0, none⟩ = some (.slice (some ⟨b, off, none⟩) bs.length cb) := by go_simp
  have y1 : (w.alloc (.cells #[.slice (some ⟨b, off, none⟩) bs.length cb, .slice ae es.length ce] 32)).cell? ⟨w.heap.size, 1, none⟩ = some (.slice ae es.length ce) := by go_simp
  have hsA : w.heap.size < (w.alloc (.cells #[.slice (some ⟨b, off, none⟩) bs.length cb, .slice ae es.length ce] 32)).heap.size := by simp
  have HV := Lib.hid (And.intro hV (And.intro hx (And.intro hx1 (And.intro hp0 (And.intro hmin hd)))))
  have HA := Lib.hid (And.intro h1 (And.intro hpb1 hpe1))
  have hd8 : d ≤ 8 := by omega
  clear hV hx hx1 hp0 hmin hd hn hzN h1 hpb1 hpe1 g2 hl8 hpb hpe
  go_enter Tryd.func20, Tryd.ntmps20
  go_wp2
  generalize hwA : w.alloc (.cells #[.slice (some ⟨b, off, none⟩) bs.length cb, .slice ae es.length ce] 32) = wA at *
  have hzA : wA.heap.size = w.heap.size + 1 := by rw [← hwA]; simp
  have hst : (wA.alloc (.cells #[.string x] 9)).ownsRow wA.heap.size 9 1 (.slice (some ⟨w.heap.size + 1, 0, none⟩) 1 1) 1 [.string x] := by
    rw [← hzA]; exact own_one _ _ _
  have HH := Lib.hid (And.intro hst hzA); clear hst hzA hwA hw1 hi1 hi2 g1
  go_loopg [6] d (fun n' v wr => ∃ (j : Nat) (ts : List ByteArray), n' + j = d ∧ wr.ownsRow wA.heap.size 9 1 v ts.length (ts.map Value.string) ∧ Lev es x j ts ∧ Below wA.heap.size wA wr)
  case atStart => exact ⟨0, [x], by omega, HH.out.1, Lev.start HV.out.2.2.1, (Below.refl _ _).alloc (Nat.le_refl _) _⟩
  case round =>
    obtain ⟨j, ts, hgk, hown, hL, hbl⟩ := hrel
    have hsz := hL.sizes HV.out.1 HV.out.2.2.1
    have hlen := distinct_len hL.dist (hL.ends HV.out.1 HV.out.2.1)
    have hj8 : j ≤ 8 := by omega
    have hs1 := hbl.size
    obtain ⟨ga, gc, rfl⟩ := own_form hown
    have HL := Lib.hid (And.intro hL (And.intro hgk (And.intro hown (And.intro hbl hsz)))); clear hL hgk hown hbl hsz
    have htl : ts.length ≤ 9 := by omega
    clear hlen
    obtain ⟨wo, rfl⟩ : ∃ wo : World, wo = wr := ⟨_, rfl⟩
    have hownE := own_empty wo 9
    have hbE : Below wo.heap.size wo (wo.alloc (.cells #[] 9)) := (Below.refl _ _).alloc (Nat.le_refl _) _
    have hownB := own_below HL.out.2.2.1 hbE
    have HE := Lib.hid (And.intro hownE (And.intro hbE hownB)); clear hownE hbE hownB
    go_wp2
    generalize wo.alloc (.cells #[] 9) = wB at *
    go_loop [29, 8] (fun i bv => ∃ (m : Nat) (bb : ByteArray), m ≤ ts.length ∧ i = .int .i64 m ∧ bv = .string bb ∧ BestIn ts (lastN bs) m bb) (fun i _ => ts.length - (intOf i).toNat)
    case atStart => exact ⟨0, e0, Nat.zero_le _, rfl, rfl, BestIn.start _ _⟩
    case round =>
      obtain ⟨m, bb, hm, rfl, rfl, hB⟩ := hrel
      have HB := Lib.hid hB; clear hB
      by_cases hlt : m < ts.length
      · obtain ⟨u, hu⟩ : ∃ u, ts[m]? = some u := ⟨ts[m], List.getElem?_eq_getElem hlt⟩
        have hus := HL.out.2.2.2.2 u (List.mem_of_getElem? hu)
        obtain ⟨n', hn'⟩ : ∃ n', ts.length = n' + 1 := ⟨ts.length - 1, by omega⟩
        have hown2 : wB.ownsRow wA.heap.size 9 1 (.slice ga ts.length gc) (n' + 1) (ts.map Value.string) := by rw [← hn']; exact HE.out.2.2
        obtain ⟨g, cap, hv, hgb, hgw, hfr, _, hcells⟩ := own_last hown2
        rw [← hn'] at hv
        cases hv
        have hcu := hcells m (.string u) (by rw [List.getElem?_map, hu]; rfl)
        have hw2 : IntKind.i64.wrap ((u.size : Int) - 1) = (j : Int) := by rw [hus, show ((j + 1 : Nat) : Int) - 1 = (j : Int) by omega]; exact IntWalk.i64_in _ (by omega)
        have s3 : ∀ W : World, (Instr.slice 9 (.string u) (some (.int .i64 (j : Int))) none none).run Tryd.prog W = .ok (.string (lastC u)) W := fun W => by
          rw [← lastC_ext hus]; exact run_slice_end u (j : Int) j rfl (by omega) W
        have HU := Lib.hid (And.intro hu hus); clear hu hus hn' hown2 hcells
        by_cases hz : lastC u = lastN bs
        · have q1 : ((lastC u).toList == (lastN bs).toList) = true := by rw [toList_eq_iff]; exact decide_eq_true hz
          have hb0 := HB.out.empty HL.out.1.dist HU.out.1 hz
          have HZ := Lib.hid (BestIn.hit HU.out.1 hz); clear hz
          subst hb0
          have z1 : e0.toList = [] := by rw [ByteArray.toList_eq]; rfl
          have z2 : e0.toList.isEmpty = true := by rw [z1]; rfl
          go_wp2
          go_round
          case rel => exact ⟨m + 1, u, by omega, by go_num, rfl, HZ.out⟩
          case measure => simp [intOf]; omega
        · have q1 : ((lastC u).toList == (lastN bs).toList) = false := by rw [toList_eq_iff]; exact decide_eq_false hz
          have HZ := Lib.hid (HB.out.miss HU.out.1 hz); clear hz
          go_wp2
          go_round
          case rel => exact ⟨m + 1, bb, by omega, by go_num, rfl, HZ.out⟩
          case measure => simp [intOf]; omega
      · obtain rfl : m = ts.length := by omega
        rcases HB.out with ⟨hb0, hnone⟩ | ⟨jj, hjj, hbj, hzj⟩
        · subst hb0
          have HN := Lib.hid hnone
          have hj1 : j < d := by
            have h1 := HL.out.2.1
            rcases Nat.lt_or_ge j d with h2 | h2
            · exact h2
            · exfalso
              have h3 := HV.out.2.2.2.2.2
              obtain ⟨t, ht, h4, _⟩ := HL.out.1.cover l0 _ HV.out.2.2.2.1 (by omega)
              obtain ⟨k, hk, ek⟩ := List.getElem_of_mem ht
              exact hnone k t hk (by rw [List.getElem?_eq_getElem hk, ek]) h4
          clear hnone hlt
          have z1 : e0.toList = [] := by rw [ByteArray.toList_eq]; rfl
          have z2 : e0.toList.isEmpty = true := by rw [z1]; rfl
          go_wp2
          clear z1 z2
          go_loopw [56, 7] (fun i nv wq => ∃ (m : Nat) (ks : List ByteArray), m ≤ ts.length ∧ i = .int .i64 m ∧ wq.ownsRow wo.heap.size 9 1 nv ks.length (ks.map Value.string) ∧ Nxt es (Made es ts m 0) ks ∧ Below wo.heap.size wo wq) (fun i _ _ => ts.length - (intOf i).toNat)
          case atStart => exact ⟨0, [], Nat.zero_le _, rfl, HE.out.1, (Nxt.start es).same Made.zero, HE.out.2.1⟩
          case round =>
            obtain ⟨m, ks, hm, rfl, hownK, hN, hblq⟩ := hrel
            have HK := Lib.hid (And.intro hownK (And.intro hN hblq)); clear hownK hN
            have hsq := hblq.size
            have hbAq := HL.out.2.2.2.1.trans (hblq.mono hs1)
            have x0 := (hbAq.cell (p := ⟨w.heap.size, 0, none⟩) hsA).trans y0
            have x1 := (hbAq.cell (p := ⟨w.heap.size, 1, none⟩) hsA).trans y1
            have HBA := Lib.hid hbAq; clear hbAq
            by_cases hlt : m < ts.length
            · obtain ⟨u, hu⟩ : ∃ u, ts[m]? = some u := ⟨ts[m], List.getElem?_eq_getElem hlt⟩
              have hus := HL.out.2.2.2.2 u (List.mem_of_getElem? hu)
              obtain ⟨n', hn'⟩ : ∃ n', ts.length = n' + 1 := ⟨ts.length - 1, by omega⟩
              have hown2 : wr.ownsRow wA.heap.size 9 1 (.slice ga ts.length gc) (n' + 1) (ts.map Value.string) := by rw [← hn']; exact own_below HL.out.2.2.1 hblq
              obtain ⟨g, cap, hv, hgb, hgw, hfr, _, hcells⟩ := own_last hown2
              rw [← hn'] at hv
              cases hv
              have hcu := hcells m (.string u) (by rw [List.getElem?_map, hu]; rfl)
              have hw2 : IntKind.i64.wrap ((u.size : Int) - 1) = (j : Int) := by rw [hus, show ((j + 1 : Nat) : Int) - 1 = (j : Int) by omega]; exact IntWalk.i64_in _ (by omega)
              have s3 : ∀ W : World, (Instr.slice 9 (.string u) (some (.int .i64 (j : Int))) none none).run Tryd.prog W = .ok (.string (lastC u)) W := fun W => by
                rw [← lastC_ext hus]; exact run_slice_end u (j : Int) j rfl (by omega) W
              have hn1 : w.heap.size < wr.heap.size := by have := HBA.out.size; omega
              have HU := Lib.hid (And.intro hu hus); clear hu hus hn' hown2 hcells hblq
              go_wp2
              go_region_held3 (fun w' => w'.cell? ⟨w.heap.size, 0, none⟩ = some (.slice (some ⟨b, off, none⟩) bs.length cb) ∧ w'.cell? ⟨w.heap.size, 1, none⟩ = some (.slice ae es.length ce) ∧ Below wr.heap.size wr w')
                (first
                  | exact ⟨x0, x1, (Below.refl _ _).drew⟩
                  | (have hq := below_new (‹_ ∧ _ ∧ Below wr.heap.size wr _›).2.2 hbN; exact ⟨(hq.cell (p := ⟨w.heap.size, 0, none⟩) hn1).trans x0, (hq.cell (p := ⟨w.heap.size, 1, none⟩) hn1).trans x1, hq⟩))
                (first
                  | (go_at_call 27; refine (l2Out_any _ bs es _ _ _ _ (lastC u) HV.out.1 ?_).mono ?_; (exact HA.out.2.2.below (HBA.out.trans ((‹_ ∧ _ ∧ Below wr.heap.size wr _›).2.2.mono HBA.out.size))); rintro e wN ⟨rfl, hbN⟩))
              have hbQ := (‹_ ∧ _ ∧ Below wr.heap.size wr wN›).2.2
              have HQ := Lib.hid hbQ; clear hbQ
              have hL1 : ∀ y ∈ outL es (lastC u), y.size = 1 := fun y hy => HV.out.1.name_size (HV.out.1.e.to _ (mem_outL.1 hy))
              have hcs := cat_size hL1
              have hc14 : (cat (outL es (lastC u))).size ≤ 14 := by have := outL_length es (lastC u); have := HV.out.1.e.hi; omega
              have HC := Lib.hid (And.intro hcs hL1); clear hcs hL1
              obtain ⟨wp, rfl⟩ : ∃ wp : World, wp = wr := ⟨_, rfl⟩
              go_wp2
              go_loopw [69, 7] (fun i nv wz => ∃ (q : Nat) (ks' : List ByteArray), q ≤ (cat (outL es (lastC u))).size ∧ i = .int .i64 q ∧ wz.ownsRow wo.heap.size 9 1 nv ks'.length (ks'.map Value.string) ∧ Nxt es (Made es ts m q) ks' ∧ Below wo.heap.size wo wz) (fun i _ _ => (cat (outL es (lastC u))).size - (intOf i).toNat)
              case atStart => exact ⟨0, ks, Nat.zero_le _, rfl, own_below HK.out.1 HQ.out, HK.out.2.1, HK.out.2.2.trans (HQ.out.mono hsq)⟩
              case round =>
                obtain ⟨q, ks', hq, rfl, hownZ, hNz, hblz⟩ := hrel
                obtain ⟨gz, gy, rfl⟩ := own_form hownZ
                have HZ := Lib.hid (And.intro hownZ (And.intro hNz hblz)); clear hownZ hNz
                have hsz := hblz.size
                clear hblz
                by_cases hltq : q < (cat (outL es (lastC u))).size
                · have hql : q < (outL es (lastC u)).length := by rw [← HC.out.1]; exact hltq
                  obtain ⟨y, hy⟩ : ∃ y, (outL es (lastC u))[q]? = some y := ⟨(outL es (lastC u))[q], List.getElem?_eq_getElem hql⟩
                  have hy1 : y.size = 1 := HC.out.2 y (List.mem_of_getElem? hy)
                  have hchy : ch (cat (outL es (lastC u))) q = y := by
                    rw [ch_cat HC.out.2 hql]
                    rw [List.getElem?_eq_getElem hql] at hy
                    exact Option.some.inj hy
                  have w4 : IntKind.i64.wrap ((q : Int) + 1) = (q : Int) + 1 := IntWalk.i64_in _ (by omega)
                  have s4 : ∀ W : World, (Instr.slice 9 (.string (cat (outL es (lastC u)))) (some (.int .i64 (q : Int))) (some (.int .i64 ((q : Int) + 1))) none).run Tryd.prog W = .ok (.string y) W := fun W => by
                    rw [← hchy]; exact run_slice_str (cat (outL es (lastC u))) ((q : Int)) ((q : Int) + 1) q (q + 1) rfl (by omega) (by omega) (by omega) W
                  have t1 : ¬ 9223372036854775807 < u.size + y.size := by have := HU.out.2; omega
                  have hinfo := fun c hc => Made.info HV.out.1 HV.out.2.2.1 HL.out.1 (m := m) (q := q) (c := c) hc
                  have hks : ∀ c ∈ ks', 1 ≤ c.size ∧ c.size ≤ 1000 := fun c hc => by have := (hinfo c (HZ.out.2.1.mem c hc)).1; omega
                  have hkl : ks'.length ≤ 1000 := by have := distinct_len HZ.out.2.1.dist (fun c hc => (hinfo c (HZ.out.2.1.mem c hc)).2); omega
                  have huy : 1 ≤ (u ++ y).size ∧ (u ++ y).size ≤ 1000 := by rw [ByteArray.size_append, hy1, HU.out.2]; omega
                  have HY := Lib.hid (And.intro hks (And.intro hkl (And.intro huy ((HZ.out.2.1.keep (u ++ y)).same (Made.name HU.out.1 hy)))))
                  clear hinfo hks hkl huy hy hy1 hchy hql
                  go_wp2_with fail
                  refine (l2Keep_any _ wo.heap.size _ ks' (u ++ y) hsz HY.out.1 HY.out.2.2.1 HY.out.2.1 HZ.out.1).mono ?_
                  rintro e w5 ⟨⟨v5, rfl, hown5⟩, hb5⟩
                  have HR := Lib.hid (And.intro hown5 (HZ.out.2.2.trans hb5)); clear hown5 hb5
                  go_wp2
                  go_roundw
                  case rel => exact ⟨q + 1, _, by omega, by go_num, HR.out.1, HY.out.2.2.2, HR.out.2⟩
                  case measure => simp [intOf]; omega
                · obtain rfl : q = (cat (outL es (lastC u))).size := by omega
                  have HN2 : Hid (Nxt es (Made es ts (m + 1) 0) ks') := Lib.hid (by
                    have h5 := HZ.out.2.1
                    rw [HC.out.1] at h5
                    exact h5.same (Made.way HU.out.1))
                  go_wp2
                  go_roundw
                  case rel => exact ⟨m + 1, ks', by omega, by go_num, HZ.out.1, HN2.out, HZ.out.2.2⟩
                  case measure => simp [intOf]; omega
            · obtain rfl : m = ts.length := by omega
              obtain ⟨gz, gy, rfl⟩ := own_form HK.out.1
              have hs1' := fun (e : Pr) (he : e ∈ es) => HV.out.1.name_size (HV.out.1.e.to _ he)
              have HX := Lib.hid (HL.out.1.next hs1' HV.out.2.2.1 (HK.out.2.1.same Made.all)); clear hs1'
              have HW := Lib.hid (own_base HK.out.1 hs1)
              go_wp2
              go_roundg (d - (j + 1))
              case measure => have := HL.out.2.1; omega
              case rel => exact ⟨j + 1, ks, by omega, HW.out, HX.out, HBA.out⟩
        · have hbs := HL.out.2.2.2.2 bb (List.mem_of_getElem? hbj)
          have hne : bb.toList.isEmpty = false := by rw [isEmpty_eq]; exact decide_eq_false fun e => by rw [e] at hbs; cases hbs
          have hne2 : ¬ bb.toList = [] := fun e => by rw [e] at hne; cases hne
          have hbest : Best es x (lastN bs) bb := HL.out.1.best (List.mem_of_getElem? hbj) hzj fun l hl => by
            have h1 := HV.out.2.2.2.2.1 l hl
            have h2 := HL.out.2.1
            have h3 := HV.out.2.2.2.2.2
            omega
          have HX := Lib.hid (And.intro (bestT_eq hbest) (show ∃ t, Best es x (lastN bs) t from ⟨_, hbest⟩))
          clear hbj hzj hjj hbs hbest hlt
          go_wp2
          go_ret
          exact ⟨⟨by rw [HX.out.1]; rfl, HX.out.2⟩, HA.out.1.trans ((HL.out.2.2.2.1.trans (HE.out.2.1.mono hs1)).mono HA.out.1.size)⟩
theorem l2Short_any (w : World) (bs es : List Pr) (ab ae : Option Addr) (cb ce : Nat) (x : ByteArray) (hV : Valid bs es) (hx : x ∈ names bs) (hpb : PairsAt w ab bs) (hpe : PairsAt w ae es) :
    Calls Tryd.prog 20 #[.agg #[.slice ab bs.length cb, .slice ae es.length ce], .string x] w fun e w' => e = .returned (.string (bestT es x (lastN bs))) ∧ Below w.heap.size w w' :=
  (l2Short_best w bs es ab ae cb ce x hV hx hpb hpe).mono fun _ _ h => ⟨h.1.1, h.2⟩
end Go.Proofs.YtfmhcjhcmoniaaaDoor
end

section
/-
  WalkRun of the model. Conditions: at most 1048576 blocks, edges and picks, each text at most as many bytes.
-/
namespace Go.Proofs.YtfmhcjhcmoniaaaDoor
open Go.RowKit Go.Maps

set_option maxRecDepth 100000 in
set_option maxHeartbeats 6400000 in
theorem WalkRun_spec (w : World) (bs es : List Pr) (ab ae : Option Addr) (cb ce : Nat) (ns : List Int) (an : Option Addr) (cn : Nat) (hpb : PairsAt w ab bs) (hpe : PairsAt w ae es) (hpn : IntsAt w an ns) :
    Calls Tryd.prog 11 #[.agg #[.slice ab bs.length cb, .slice ae es.length ce], .slice an ns.length cn] w fun e w' => e = .returned (walkV bs es ns) ∧ Below w.heap.size w w' := by
  have h1 : Below w.heap.size w (w.alloc (.cells #[.slice ab bs.length cb, .slice ae es.length ce] 32)) := (Below.refl _ _).alloc (Nat.le_refl _) _
  have hpb1 := hpb.below h1
  have hpe1 := hpe.below h1
  have hpn1 := hpn.below h1
  have hnl := hpn.len
  have H1 := Lib.hid h1; clear h1
  go_enter Tryd.func11, Tryd.ntmps11
  go_wp2_with fail
  refine (ProgValid_spec _ bs es _ _ _ _ hpb1 hpe1).mono ?_
  rintro e w1 ⟨rfl, hb1⟩
  have hall : Below w.heap.size w w1 := H1.out.trans (hb1.mono (by simp))
  have hpb2 := hpb1.below hb1
  have hpe2 := hpe1.below hb1
  have hpn2 := hpn1.below hb1
  have c0 := (hb1.cell (p := ⟨w.heap.size, 0, none⟩) (by simp)).trans (show _ = some (.slice ab bs.length cb) by go_simp)
  have c1 := (hb1.cell (p := ⟨w.heap.size, 1, none⟩) (by simp)).trans (show _ = some (.slice ae es.length ce) by go_simp)
  have hz := hall.size
  have hz1 : w.heap.size < w1.heap.size := by have := hb1.size; simp at this; omega
  cases hv : validB bs es
  · have HN := Lib.hid (walkV_no1 (ns := ns) hv)
    clear hv
    go_wp2
    go_ret2
    exact ⟨by rw [HN.out]; rfl, hall⟩
  · by_cases h40 : (40 : Int) < (ns.length : Int)
    · have HN := Lib.hid (walkV_no2 (bs := bs) (es := es) (picksOk_long (ns := ns) (by omega)))
      have d1 : decide ((40 : Int) < (ns.length : Int)) = true := by simpa using h40
      clear hv
      go_wp2
      go_ret2
      exact ⟨by rw [HN.out]; rfl, hall⟩
    have HVB := Lib.hid hv
    have hV : Valid bs es := by simpa [validB] using hv
    have d1 : decide ((40 : Int) < (ns.length : Int)) = false := by simpa using h40
    have hn40 : (ns.length : Int) ≤ 40 := by omega
    have hlb := hV.b.hi
    obtain ⟨n, hn⟩ : ∃ n, bs.length = n + 1 := ⟨bs.length - 1, by have := hV.b.lo; omega⟩
    obtain ⟨b, off, rfl, hb, g1, g2⟩ := hpb2.cell n (by omega)
    obtain ⟨b', off', e', hb', g0, _⟩ := hpb2.cell 0 (by omega)
    cases e'
    simp only [Nat.zero_mul, Nat.add_zero] at g0
    have hzN : nameAt bs n = lastN bs := by unfold lastN; rw [hn]; rfl
    rw [hzN] at g1
    have hw1 : IntKind.i64.wrap ((bs.length : Int) - 1) = (n : Int) := by rw [hn, show ((n + 1 : Nat) : Int) - 1 = (n : Int) by omega]; exact IntWalk.i64_in _ (by omega)
    have hi1 : (n : Int) < (bs.length : Int) := by omega
    have hi2 : (0 : Int) ≤ (n : Int) := by omega
    have hi0 : (0 : Int) < (bs.length : Int) := by omega
    have HV := Lib.hid (And.intro hV (And.intro hpb2 (And.intro hpe2 (And.intro hpn2 hall))))
    clear hv h40 hV hpb2 hpe2 hpn2 hzN hn g2 hpb1 hpe1 hpn1 hb1 hpb hpe hpn hall
    go_wp2
    clear hw1 hi1 hi2 hi0 g0 g1
    go_loopw [37, 6] (fun i v wr => ∃ k : Nat, k ≤ ns.length ∧ i = .int .i64 k ∧ v = .string (walkW es (lastN bs) (nameAt bs 0) (ns.take k)) ∧ Below w1.heap.size w1 wr ∧ ∀ j, j < k → 0 ≤ numAt ns j) (fun i _ _ => ns.length - (intOf i).toNat)
    case atStart => exact ⟨0, Nat.zero_le _, rfl, rfl, Below.refl _ _, fun j hj => absurd hj (Nat.not_lt_zero _)⟩
    case round =>
      obtain ⟨k, hk, rfl, rfl, hbl, hpos⟩ := hrel
      have HP := Lib.hid hpos; clear hpos
      have hs2 := hbl.size
      obtain ⟨O, hO⟩ : ∃ O, O = walkW es (lastN bs) (nameAt bs 0) (ns.take k) := ⟨_, rfl⟩
      have hW : OnWay bs O := by rw [hO]; exact OnWay.walk HV.out.1 _ _ (OnWay.start HV.out.1)
      rw [← hO]
      obtain ⟨m, hm⟩ : ∃ m, O.size = m + 1 := ⟨O.size - 1, by have := hW.lo; omega⟩
      have hO20 := hW.hi
      have hw2 : IntKind.i64.wrap ((O.size : Int) - 1) = (m : Int) := by rw [hm, show ((m + 1 : Nat) : Int) - 1 = (m : Int) by omega]; exact IntWalk.i64_in _ (by omega)
      have s3 : ∀ W : World, (Instr.slice 9 (.string O) (some (.int .i64 (m : Int))) none none).run Tryd.prog W = .ok (.string (lastC O)) W := fun W => by
        rw [← lastC_ext hm]; exact run_slice_end O (m : Int) m rfl (by omega) W
      have HO := Lib.hid (And.intro hO (And.intro hW hm)); clear hO hW hm
      have x0 := (hbl.cell (p := ⟨w.heap.size, 0, none⟩) hz1).trans c0
      have x1 := (hbl.cell (p := ⟨w.heap.size, 1, none⟩) hz1).trans c1
      have hn1 : w.heap.size < wr.heap.size := by omega
      by_cases hlt : k < ns.length
      · obtain ⟨bn, on, rfl, hbn, hcn⟩ := HV.out.2.2.2.1.cell k hlt
        have d3 := (hbl.cell (p := ⟨bn, on + k, none⟩) hbn).trans hcn
        clear hcn
        by_cases hneg : numAt ns k < 0
        · have HN := Lib.hid (walkV_no2 (bs := bs) (es := es) (picksOk_neg hlt hneg))
          have hfin := HV.out.2.2.2.2.trans (hbl.mono hz)
          go_wp2
          go_ret2
          exact ⟨by rw [HN.out]; rfl, hfin⟩
        · have hge : 0 ≤ numAt ns k := by omega
          have HS := Lib.hid (walkW_succ (es := es) (z := lastN bs) (out := nameAt bs 0) hlt)
          have HPn := Lib.hid (show ∀ j, j < k + 1 → 0 ≤ numAt ns j from all_step HP.out hge)
          clear hneg
          by_cases hzz : lastC O = lastN bs
          · have q1 : ((lastC O).toList == (lastN bs).toList) = true := by rw [toList_eq_iff]; exact decide_eq_true hzz
            have q2 : ((lastC O).toList != (lastN bs).toList) = false := by rw [bne, q1]; rfl
            have HE := Lib.hid (show stepW es (lastN bs) O (numAt ns k) = O from stepW_stop fun h => h.1 hzz)
            clear hzz
            go_wp2
            go_roundw
            case rel => exact ⟨k + 1, by omega, by go_num, by rw [HS.out, ← HO.out.1, HE.out], hbl, HPn.out⟩
            case measure => simp [intOf]; omega
          · have q1 : ((lastC O).toList == (lastN bs).toList) = false := by rw [toList_eq_iff]; exact decide_eq_false hzz
            have q2 : ((lastC O).toList != (lastN bs).toList) = true := by rw [bne, q1]; rfl
            by_cases h20 : (O.size : Int) < 20
            · obtain ⟨i, y, hi, hil, hy, hgd, hy1, hyn⟩ := pick_name HV.out.1 HO.out.2.1.at_ hzz (numAt ns k)
              have HE := Lib.hid (show stepW es (lastN bs) O (numAt ns k) = O ++ y by rw [stepW_go ⟨hzz, by omega⟩, hgd])
              have hL1 : ∀ y ∈ outL es (lastC O), y.size = 1 := fun y hy => HV.out.1.name_size (HV.out.1.e.to _ (mem_outL.1 hy))
              have hcs := cat_size hL1
              have hc0 : 0 < (cat (outL es (lastC O))).size := by omega
              have hc1 : (0 : Int) < ((cat (outL es (lastC O))).size : Int) := by omega
              have hc2 : ¬ ((cat (outL es (lastC O))).size : Int) = 0 := by omega
              have hmod : numAt ns k % ((cat (outL es (lastC O))).size : Int) = (i : Int) := by rw [hcs]; exact hi
              have hchy : ch (cat (outL es (lastC O))) i = y := by
                rw [ch_cat hL1 hil]
                rw [List.getElem?_eq_getElem hil] at hy
                exact Option.some.inj hy
              have w4 : IntKind.i64.wrap ((i : Int) + 1) = (i : Int) + 1 := IntWalk.i64_in _ (by have := HV.out.1.e.hi; have := outL_length es (lastC O); omega)
              have s4 : ∀ W : World, (Instr.slice 9 (.string (cat (outL es (lastC O)))) (some (.int .i64 (i : Int))) (some (.int .i64 ((i : Int) + 1))) none).run Tryd.prog W = .ok (.string y) W := fun W => by
                rw [← hchy]; exact run_slice_str (cat (outL es (lastC O))) ((i : Int)) ((i : Int) + 1) i (i + 1) rfl (by omega) (by omega) (by omega) W
              have t1 : ¬ 9223372036854775807 < O.size + y.size := by omega
              have hbl' := hbl.size
              have HB := Lib.hid hbl
              clear hzz hi hil hy hgd hy1 hyn hcs hL1 hchy hbl
              go_wp2_with fail
              refine (l2Out_any _ bs es _ _ _ _ (lastC O) HV.out.1 (HV.out.2.2.1.below HB.out)).mono ?_
              rintro e w5 ⟨rfl, hb5⟩
              have HB5 := Lib.hid (HB.out.trans (hb5.mono hbl')); clear hb5
              go_wp2
              go_roundw
              case rel => exact ⟨k + 1, by omega, by go_num, by rw [HS.out, ← HO.out.1, HE.out], HB5.out, HPn.out⟩
              case measure => simp [intOf]; omega
            · have HE := Lib.hid (show stepW es (lastN bs) O (numAt ns k) = O from stepW_stop fun h => h20 (by omega))
              have h20' : (20 : Int) ≤ (O.size : Int) := by omega
              clear hzz h20
              go_wp2
              go_roundw
              case rel => exact ⟨k + 1, by omega, by go_num, by rw [HS.out, ← HO.out.1, HE.out], hbl, HPn.out⟩
              case measure => simp [intOf]; omega
      · obtain rfl : k = ns.length := by omega
        have hpk : picksOk ns = true := picksOk_iff.2 ⟨by omega, fun i hi => HP.out i hi⟩
        have HN := Lib.hid (show walkV bs es ns = .tuple #[.string (O ++ (bestT es (lastC O) (lastN bs)).extract 1 (bestT es (lastC O) (lastN bs)).size), .bool true] by
          rw [walkV_yes HVB.out hpk]
          unfold fullW
          have := HO.out.1
          rw [List.take_length] at this
          rw [← this])
        have HB := Lib.hid hbl
        clear hpk hbl hlt
        obtain ⟨E, hE⟩ : ∃ E, E = (bestT es (lastC O) (lastN bs)).extract 1 (bestT es (lastC O) (lastN bs)).size := ⟨_, rfl⟩
        rw [← hE] at HN
        have HEx := Lib.hid hE; clear hE
        go_wp2
        go_region_held3 (fun w' => w'.cell? ⟨w.heap.size, 0, none⟩ = some (.slice (some ⟨b, off, none⟩) bs.length cb) ∧ w'.cell? ⟨w.heap.size, 1, none⟩ = some (.slice ae es.length ce) ∧ Below wr.heap.size wr w')
          (first
            | exact ⟨x0, x1, (Below.refl _ _).drew⟩
            | (have hq := below_new (‹_ ∧ _ ∧ Below wr.heap.size wr _›).2.2 hbN; exact ⟨(hq.cell (p := ⟨w.heap.size, 0, none⟩) hn1).trans x0, (hq.cell (p := ⟨w.heap.size, 1, none⟩) hn1).trans x1, hq⟩))
          (first
            | (go_at_call 20; refine (l2Short_best _ bs es _ _ _ _ (lastC O) HV.out.1 HO.out.2.1.at_ ?_ ?_).mono ?_; (exact HV.out.2.1.below (HB.out.trans ((‹_ ∧ _ ∧ Below wr.heap.size wr _›).2.2.mono HB.out.size))); (exact HV.out.2.2.1.below (HB.out.trans ((‹_ ∧ _ ∧ Below wr.heap.size wr _›).2.2.mono HB.out.size))); rintro e wN ⟨⟨rfl, hbt⟩, hbN⟩; obtain ⟨tt, hbest⟩ := hbt; have hbd := best_bd HV.out.1 HO.out.2.1.at_ hbest; have s5 := run_slice_end (bestT es (lastC O) (lastN bs)) 1 1 rfl hbd.1; rw [← HEx.out] at s5; have t5 : ¬ (O.size + E.size > 9223372036854775807) := (by rw [HEx.out, ByteArray.size_extract]; omega); clear hbest hbd))
        have hfin := HV.out.2.2.2.2.trans ((HB.out.trans ((‹_ ∧ _ ∧ Below wr.heap.size wr wN›).2.2.mono hs2)).mono hz)
        go_wp2
        go_ret2
        exact ⟨by rw [HN.out]; rfl, hfin⟩
end Go.Proofs.YtfmhcjhcmoniaaaDoor
end

section
/-
  Plain mathematics: the walk by picks with the shortest way behind it is a run, no longer than twenty blocks and the program's; no run is shorter than the shortest. Conditions: a valid program.
-/
namespace Go.Proofs.YtfmhcjhcmoniaaaDoor
open Go.RowKit Go.Maps

theorem ch_app_left {a b : ByteArray} {i : Nat} (h : i < a.size) : ch (a ++ b) i = ch a i := by
  unfold ch
  apply bytes_ext2
  have h1 : i < a.data.toList.length := by simpa using h
  simp only [ByteArray.data_extract, ByteArray.data_append, Array.toList_extract, Array.toList_append, List.extract_eq_take_drop]
  rw [List.drop_append_of_le_length (by omega), List.take_append_of_le_length (by simp only [List.length_drop]; omega)]
theorem ch_app_right {a b : ByteArray} (i : Nat) : ch (a ++ b) (a.size + i) = ch b i := by
  unfold ch
  apply bytes_ext2
  have h1 : a.data.toList.length = a.size := by simp
  simp only [ByteArray.data_extract, ByteArray.data_append, Array.toList_extract, Array.toList_append, List.extract_eq_take_drop]
  rw [← h1, List.drop_append, show a.data.toList.length + i + 1 - (a.data.toList.length + i) = i + 1 - i by omega, show a.data.toList.length + i - a.data.toList.length = i by omega, List.drop_eq_nil_of_le (by omega), List.nil_append]
theorem ch_one {y : ByteArray} (h : y.size = 1) : ch y 0 = y := by have := lastC_one h; unfold lastC at this; rw [h] at this; exact this
/-- a text along edges from a block -/
structure Trail (es : List Pr) (x out : ByteArray) : Prop where
  lo : 1 ≤ out.size
  st : ch out 0 = x
  ed : ∀ m, m + 1 < out.size → (ch out m, ch out (m + 1)) ∈ es
theorem Trail.one {es : List Pr} {x : ByteArray} (h : x.size = 1) : Trail es x x := ⟨by omega, ch_one h, fun m hm => by omega⟩
theorem Trail.snoc {es : List Pr} {x out y : ByteArray} (h : Trail es x out) (hy : y.size = 1) (he : (lastC out, y) ∈ es) : Trail es x (out ++ y) := by
  have h1 := h.lo
  refine ⟨by rw [ByteArray.size_append]; omega, by rw [ch_app_left h1]; exact h.st, fun m hm => ?_⟩
  rw [ByteArray.size_append, hy] at hm
  by_cases hl : m + 1 < out.size
  · rw [ch_app_left (by omega), ch_app_left hl]; exact h.ed m hl
  · have e : m + 1 = out.size + 0 := by omega
    rw [ch_app_left (by omega), e, ch_app_right, ch_one hy]
    have : lastC out = ch out m := by unfold lastC; rw [show out.size - 1 = m by omega]
    rw [← this]; exact he
theorem Trail.step {bs es : List Pr} {x out : ByteArray} (hV : Valid bs es) (h : Trail es x out) (hw : OnWay bs out) (k : Int) : Trail es x (stepW es (lastN bs) out k) := by
  by_cases hg : lastC out ≠ lastN bs ∧ out.size < 20
  · obtain ⟨i, y, _, hi, h3, h4, h5, _⟩ := pick_name hV hw.at_ hg.1 k
    rw [stepW_go hg, h4]
    refine h.snoc h5 (mem_outL.1 ?_)
    rw [List.getElem?_eq_getElem hi] at h3
    rw [← Option.some.inj h3]
    exact List.getElem_mem hi
  · rw [stepW_stop hg]; exact h
theorem Trail.walk {bs es : List Pr} (hV : Valid bs es) {x : ByteArray} : ∀ (ns : List Int) (out : ByteArray), Trail es x out → OnWay bs out → Trail es x (walkW es (lastN bs) out ns)
  | [], _, h, _ => h
  | k :: r, out, h, hw => Trail.walk hV r (stepW es (lastN bs) out k) (h.step hV hw k) (hw.step hV k)
theorem app_assocW (a b c : ByteArray) : a ++ (b ++ c) = (a ++ b) ++ c := by
  apply bytes_ext2
  simp only [ByteArray.data_append, Array.toList_append, List.append_assoc]
theorem app_e0 (a : ByteArray) : a ++ e0 = a := by
  apply bytes_ext2
  rw [ByteArray.data_append, Array.toList_append]
  exact List.append_nil _
theorem Trail.path {es : List Pr} (hs : ∀ e ∈ es, e.2.size = 1) {x z : ByteArray} : ∀ (l : List ByteArray) (out : ByteArray), Trail es x out → IsPath es (lastC out) l z → Trail es x (out ++ cat l) ∧ lastC (out ++ cat l) = z ∧ (out ++ cat l).size = out.size + l.length
  | [], out, h, hp => by
    rw [cat_nil, app_e0]
    exact ⟨h, hp, rfl⟩
  | a :: l, out, h, hp => by
    obtain ⟨he, hp⟩ := hp
    have ha := hs _ he
    rw [cat_cons, app_assocW]
    obtain ⟨h1, h2, h3⟩ := Trail.path hs l (out ++ a) (h.snoc ha he) (by rw [lastC_app ha]; exact hp)
    exact ⟨h1, h2, by rw [h3, ByteArray.size_append, ha, List.length_cons]; omega⟩
theorem ends_ne {bs es : List Pr} (hV : Valid bs es) : nameAt bs 0 ≠ lastN bs := fun e => by
  have h2 := hV.b.lo
  have := names_inj hV.b.nd (by omega) (by omega) (show nameAt bs 0 = nameAt bs (bs.length - 1) from e)
  omega
theorem Trail.run {bs es : List Pr} {out : ByteArray} (hV : Valid bs es) (h : Trail es (nameAt bs 0) out) (hz : lastC out = lastN bs) (h40 : out.size ≤ 40) : RunOk bs es out := by
  refine ⟨?_, h40, h.st, h.ed, hz⟩
  have h1 := h.lo
  rcases Nat.lt_or_ge out.size 2 with h2 | h2
  · exfalso
    have e : out.size - 1 = 0 := by omega
    unfold lastC at hz
    rw [e, h.st] at hz
    exact ends_ne hV hz
  · exact h2
/-- what a run is as a path -/
theorem RunOk.path {bs es : List Pr} {run : ByteArray} (h : RunOk bs es run) : ∃ l, IsPath es (nameAt bs 0) l (lastN bs) ∧ run.size = l.length + 1 := by
  have key : ∀ j k, k + j + 1 = run.size → ∃ l, IsPath es (ch run k) l (ch run (run.size - 1)) ∧ l.length = j := by
    intro j
    induction j with
    | zero =>
      intro k hk
      exact ⟨[], by show ch run k = _; rw [show run.size - 1 = k by omega], rfl⟩
    | succ j ih =>
      intro k hk
      obtain ⟨l, hp, hl⟩ := ih (k + 1) (by omega)
      exact ⟨ch run (k + 1) :: l, ⟨h.ed k (by omega), hp⟩, by simp [hl]⟩
  have h2 := h.lo
  obtain ⟨l, hp, hl⟩ := key (run.size - 1) 0 (by omega)
  rw [h.st, h.en] at hp
  exact ⟨l, hp, by omega⟩
/-- the first of some texts in the order of bytes -/
theorem blt_min : ∀ (L : List ByteArray), L ≠ [] → ∃ y ∈ L, ∀ y' ∈ L, blt y' y = false
  | [], h => absurd rfl h
  | [a], _ => ⟨a, List.mem_singleton.2 rfl, fun y' hy => by rw [List.mem_singleton.1 hy]; exact blt_irrefl a⟩
  | a :: b :: r, _ => by
    obtain ⟨m, hm, hmin⟩ := blt_min (b :: r) (by simp)
    cases h : blt a m
    · refine ⟨m, List.mem_cons_of_mem _ hm, fun y' hy => ?_⟩
      rcases List.mem_cons.1 hy with rfl | hy
      · exact h
      · exact hmin y' hy
    · refine ⟨a, List.mem_cons_self .., fun y' hy => ?_⟩
      rcases List.mem_cons.1 hy with rfl | hy
      · exact blt_irrefl _
      · cases h' : blt y' a
        · rfl
        · have := blt_trans h' h
          rw [hmin y' hy] at this
          cases this
theorem first_path {es : List Pr} (hs : ∀ e ∈ es, e.2.size = 1) {z : ByteArray} : ∀ (n : Nat) (x : ByteArray), (∃ l, IsPath es x l z ∧ l.length = n) → ∃ l, IsPath es x l z ∧ l.length = n ∧ ∀ l', IsPath es x l' z → l'.length = n → blt (cat l') (cat l) = false
  | 0, x, ⟨l, hp, hl⟩ => ⟨l, hp, hl, fun l' _ hl' => by
      rw [List.eq_nil_of_length_eq_zero hl, List.eq_nil_of_length_eq_zero hl']; exact blt_irrefl _⟩
  | n + 1, x, ⟨l, hp, hl⟩ => by
    classical
    have hne : (outL es x).filter (fun y => decide (∃ r, IsPath es y r z ∧ r.length = n)) ≠ [] := by
      match l, hp, hl with
      | a :: r, hp, hl =>
        exact List.ne_nil_of_mem (List.mem_filter.2 ⟨mem_outL.2 hp.1, decide_eq_true ⟨r, hp.2, by simpa using hl⟩⟩)
    obtain ⟨y, hy, hmin⟩ := blt_min _ hne
    obtain ⟨hyo, hyr⟩ := List.mem_filter.1 hy
    obtain ⟨r, h1, h2, h3⟩ := first_path hs n y (of_decide_eq_true hyr)
    have hye := mem_outL.1 hyo
    refine ⟨y :: r, ⟨hye, h1⟩, by simp [h2], fun l' hp' hl' => ?_⟩
    match l', hp', hl' with
    | a :: r', hp', hl' =>
      have hr' : r'.length = n := by simpa using hl'
      rw [cat_cons, cat_cons]
      by_cases e : a = y
      · subst e
        rw [blt_app]
        exact h3 r' hp'.2 hr'
      · exact blt_head (hs _ hye) (hs _ hp'.1) _ _ (hmin a (List.mem_filter.2 ⟨mem_outL.2 hp'.1, decide_eq_true ⟨r', hp'.2, hr'⟩⟩)) e
theorem Valid.best {bs es : List Pr} (hV : Valid bs es) {x : ByteArray} (hx : x ∈ names bs) : ∃ l, Best es x (lastN bs) (cat (x :: l)) ∧ IsPath es x l (lastN bs) ∧ l.length + 1 ≤ bs.length ∧ ∀ l', IsPath es x l' (lastN bs) → l.length ≤ l'.length := by
  obtain ⟨l0, hp0, _, hmin⟩ := hV.least hx
  obtain ⟨l, hp, hl, hb⟩ := first_path (fun e he => hV.name_size (hV.e.to _ he)) l0.length x ⟨l0, hp0, rfl⟩
  have hm : ∀ l', IsPath es x l' (lastN bs) → l.length ≤ l'.length := fun l' h => by rw [hl]; exact hmin l' h
  refine ⟨l, ⟨l, hp, rfl, hm, fun l' h' e => by rw [cat_cons, cat_cons, blt_app]; exact hb l' h' (e.trans hl)⟩, hp, ?_, hm⟩
  have hn : (x :: l).Nodup := by
    by_cases hn : (x :: l).Nodup
    · exact hn
    · obtain ⟨l', h3, h4⟩ := path_cut l x hp hn
      have := hm l' h3
      omega
  have h5 := nodup_len (x :: l) (names bs) hn fun a ha => by
    rcases List.mem_cons.1 ha with rfl | ha
    · exact hx
    · exact path_names hV l x hp a ha
  rw [names_length] at h5
  simpa using h5
/-- the walk with the shortest way behind it -/
theorem full_run {bs es : List Pr} (hV : Valid bs es) (ns : List Int) : RunOk bs es (fullW bs es ns) ∧ (fullW bs es ns).size ≤ 20 + bs.length := by
  have hs : ∀ e ∈ es, e.2.size = 1 := fun e he => hV.name_size (hV.e.to _ he)
  have h0 := nameAt_mem (l := bs) (i := 0) (by have := hV.b.lo; omega)
  have hT := Trail.walk hV ns (nameAt bs 0) (Trail.one (es := es) (hV.name_size h0)) (OnWay.start hV)
  have hW := OnWay.walk hV ns _ (OnWay.start hV)
  unfold fullW
  generalize walkW es (lastN bs) (nameAt bs 0) ns = O at *
  obtain ⟨l, hb, hp, hl, _⟩ := hV.best hW.at_
  rw [best_tail (hV.name_size hW.at_) hb]
  obtain ⟨h1, h2, h3⟩ := Trail.path hs l O hT hp
  have h4 := hW.hi
  have h5 := hV.b.hi
  exact ⟨h1.run hV h2 (by omega), by omega⟩
/-- the shortest run -/
theorem short_run {bs es : List Pr} (hV : Valid bs es) : RunOk bs es (bestT es (nameAt bs 0) (lastN bs)) ∧ ∀ run, RunOk bs es run → (bestT es (nameAt bs 0) (lastN bs)).size ≤ run.size := by
  have hs : ∀ e ∈ es, e.2.size = 1 := fun e he => hV.name_size (hV.e.to _ he)
  have h0 := nameAt_mem (l := bs) (i := 0) (by have := hV.b.lo; omega)
  have hz := hV.name_size h0
  obtain ⟨l, hb, hp, hl, hmin⟩ := hV.best h0
  rw [bestT_eq hb, cat_cons]
  obtain ⟨h1, h2, h3⟩ := Trail.path hs l (nameAt bs 0) (Trail.one hz) (by rw [lastC_one hz]; exact hp)
  have h5 := hV.b.hi
  refine ⟨h1.run hV h2 (by omega), fun run hr => ?_⟩
  obtain ⟨l', hp', hl'⟩ := hr.path
  have := hmin l' hp'
  omega
theorem full_nil {bs es : List Pr} (hV : Valid bs es) : fullW bs es [] = bestT es (nameAt bs 0) (lastN bs) := by
  have h0 := nameAt_mem (l := bs) (i := 0) (by have := hV.b.lo; omega)
  have hz := hV.name_size h0
  obtain ⟨l, hb, _, _, _⟩ := hV.best h0
  unfold fullW
  rw [show walkW es (lastN bs) (nameAt bs 0) [] = nameAt bs 0 from rfl, lastC_one hz, best_tail hz hb, bestT_eq hb, cat_cons]
end Go.Proofs.YtfmhcjhcmoniaaaDoor
end
