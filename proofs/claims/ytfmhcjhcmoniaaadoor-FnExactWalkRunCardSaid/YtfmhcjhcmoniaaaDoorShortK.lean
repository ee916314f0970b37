/-
  The model's l2Keep. Conditions: a row of the caller's own, no text empty.
-/
import Derived.Test.YtfmhcjhcmoniaaaDoorShortS
namespace Go.Proofs.YtfmhcjhcmoniaaaDoor
open Go.RowKit Go.Maps

theorem lastC_data {u : ByteArray} {n : Nat} (h : u.size = n + 1) : (lastC u).data.toList = [u.data.getD n 0] := by
  have hl : n < u.data.toList.length := by rw [Array.length_toList]; show n < u.size; omega
  have hs : n < u.data.size := by show n < u.size; omega
  unfold lastC ch
  rw [h, ByteArray.data_extract, Array.toList_extract]
  simp only [Nat.add_sub_cancel]
  rw [List.extract_eq_take_drop, show n + 1 - n = 1 by omega, List.drop_eq_getElem_cons hl, List.take_succ_cons, List.take_zero]
  congr 1
  unfold Array.getD
  rw [dif_pos hs]
  rfl
theorem lastC_iff {u t : ByteArray} {n m : Nat} (h : u.size = n + 1) (h' : t.size = m + 1) : lastC u = lastC t ↔ byteAt u n = byteAt t m := by
  constructor
  · intro e
    have := congrArg (fun z : ByteArray => z.data.toList) e
    simp only [lastC_data h, lastC_data h', List.cons.injEq, and_true] at this
    unfold byteAt
    rw [this]
  · intro e
    apply bytes_ext2
    rw [lastC_data h, lastC_data h']
    congr 1
    exact UInt8.toNat_inj.1 e
theorem lastC_get {u t : ByteArray} {n m : Nat} (h : u.size = n + 1) (h' : t.size = m + 1) (hu : n < u.size) (ht : m < t.size) : lastC u = lastC t ↔ u[n] = t[m] := by
  rw [lastC_iff h h', ← byteAt_get hu, ← byteAt_get ht]
  exact UInt8.toNat_inj
theorem set_same {l : List ByteArray} {m : Nat} {u : ByteArray} (h : l[m]? = some u) : l.set m u = l := by
  apply List.ext_getElem?
  intro i
  rw [List.getElem?_set]
  split
  · next e => subst e; split
              · exact h.symm
              · next h2 => rw [List.getElem?_eq_none (by omega)] at h; cases h
  · rfl
theorem own_unfrozen {w : World} {base : Nat} {e : TypeId} {n g cap : Nat} {xs : List Value} (h : w.ownsRow base e 1 (.slice (some ⟨g, 0, none⟩) n cap) n xs) (i : Nat) : w.frozen? ⟨g, i, none⟩ = false := by
  obtain ⟨h1, ⟨hv, _⟩ | ⟨g', cap', cur, hv, hg, hh, hn, hc, hs, ht⟩⟩ := h
  · cases hv
  · simp only [Value.slice.injEq, Option.some.injEq, Addr.mk.injEq, and_true, true_and] at hv
    obtain ⟨rfl, rfl⟩ := hv
    simp [World.frozen?, hh]
theorem own_below {w w' : World} {base : Nat} {e : TypeId} {size n : Nat} {v : Value} {xs : List Value} (h : w.ownsRow base e size v n xs) (hb : Below w.heap.size w w') : w'.ownsRow base e size v n xs := ownsRow_below h hb

set_option maxRecDepth 100000 in
set_option maxHeartbeats 1600000 in
theorem l2Keep_any (w : World) (base : Nat) (vv : Value) (ts : List ByteArray) (t : ByteArray) (hbase : base ≤ w.heap.size) (hts : ∀ u ∈ ts, 1 ≤ u.size ∧ u.size ≤ 1000) (ht : 1 ≤ t.size ∧ t.size ≤ 1000) (hn : ts.length ≤ 1000) (hown : w.ownsRow base 9 1 vv ts.length (ts.map Value.string)) :
    Calls Tryd.prog 43 #[vv, .string t] w fun e w' => (∃ v', e = .returned v' ∧ w'.ownsRow base 9 1 v' (keepL ts t).length ((keepL ts t).map Value.string)) ∧ Below base w w' := by
  obtain ⟨ga, gc, rfl⟩ := own_form hown
  obtain ⟨tn, htn⟩ : ∃ tn, t.size = tn + 1 := ⟨t.size - 1, by omega⟩
  have hw1 : IntKind.i64.wrap ((t.size : Int) - 1) = (tn : Int) := by rw [show (t.size : Int) - 1 = (tn : Int) by omega]; exact IntWalk.i64_in _ (by omega)
  have hi2 : (tn : Int) < (t.size : Int) := by omega
  have hlt1 : tn < t.size := by omega
  have HT := Lib.hid (And.intro htn ht); clear ht htn
  have HO := Lib.hid hown
  have Hts := Lib.hid hts; clear hts hown
  obtain ⟨i0, hi, hz0, hz1, hz2⟩ := info_parts Tryd.infoStr
  go_enter Tryd.func43, Tryd.ntmps43
  go_wp2
  go_loopw [9] (fun i wr => ∃ m : Nat, m ≤ ts.length ∧ i = .int .i64 m ∧ Below w.heap.size w wr ∧ ∀ j u, j < m → ts[j]? = some u → lastC u ≠ lastC t) (fun i _ => ts.length - (intOf i).toNat)
  case atStart => exact ⟨0, Nat.zero_le _, rfl, Below.refl _ _, fun j u hj _ => absurd hj (Nat.not_lt_zero _)⟩
  case round =>
    obtain ⟨m, hm, rfl, hbl, hno⟩ := hrel
    have hs := hbl.size
    have hownr := own_below HO.out hbl
    have HB := Lib.hid (And.intro hbl hno); clear hbl hno
    by_cases hlt : m < ts.length
    · obtain ⟨u, hu⟩ : ∃ u, ts[m]? = some u := ⟨ts[m], List.getElem?_eq_getElem hlt⟩
      have hu1 := Hts.out u (List.mem_of_getElem? hu)
      obtain ⟨un, hun⟩ : ∃ un, u.size = un + 1 := ⟨u.size - 1, by omega⟩
      have hw2 : IntKind.i64.wrap ((u.size : Int) - 1) = (un : Int) := by rw [show (u.size : Int) - 1 = (un : Int) by omega]; exact IntWalk.i64_in _ (by omega)
      have hi3 : (un : Int) < (u.size : Int) := by omega
      have hlt2 : un < u.size := by omega
      obtain ⟨n', hn'⟩ : ∃ n', ts.length = n' + 1 := ⟨ts.length - 1, by omega⟩
      have hown2 : wr.ownsRow base 9 1 (.slice ga ts.length gc) (n' + 1) (ts.map Value.string) := by rw [← hn']; exact hownr
      obtain ⟨g, cap, hv, hgb, hgw, hfr, _, hcells⟩ := own_last hown2
      rw [← hn'] at hv
      cases hv
      have hfz := own_unfrozen (g := g) (cap := gc) hownr m
      have hcu := hcells m (.string u) (by rw [List.getElem?_map, hu]; rfl)
      have HU := Lib.hid (And.intro hu (And.intro hun (And.intro hu1 hn'))); clear hu hun hu1 hn' hown2 hcells
      by_cases hc : u[un] = t[tn]
      · have HC := Lib.hid ((lastC_get HU.out.2.1 HT.out.1 hlt2 hlt1).2 hc)
        cases hb : blt t u
        · have hb2 : Op.bytesLess t.toList u.toList = false := hb
          have HK := Lib.hid (show keepL ts t = ts by
            rw [keepL_hit ts t m u HU.out.1 HC.out HB.out.2, hb, if_neg (by simp)]
            exact set_same HU.out.1)
          clear hb
          go_wp2
          go_quiet (fail)
          go_wp2
          go_ret
          exact ⟨⟨_, rfl, by rw [HK.out]; exact own_below HO.out (below_drewN HB.out.1 _)⟩, (below_drewN HB.out.1 _).mono hbase⟩
        · have hb2 : Op.bytesLess t.toList u.toList = true := hb
          have HK := Lib.hid (show keepL ts t = ts.set m t by
            rw [keepL_hit ts t m u HU.out.1 HC.out HB.out.2, hb, if_pos rfl])
          clear hb
          go_wp2
          go_quiet (fail)
          have hownq := own_below HO.out (below_drewN HB.out.1 nq)
          have HQ := Lib.hid hownq; clear hownq
          go_wp2
          go_ret
          refine ⟨⟨_, rfl, ?_⟩, ((below_drewN HB.out.1 nq).mono hbase).setCell (p := ⟨g, m, none⟩) hgb _⟩
          rw [HK.out, List.length_set, List.map_set]
          exact own_set HQ.out
      · have hcb : ((u[un].toNat : Int) == (t[tn].toNat : Int)) = false := by
          rw [beq_eq_false_iff_ne]
          exact fun e => hc (UInt8.toNat_inj.1 (by omega))
        have HC := Lib.hid (show lastC u ≠ lastC t from fun e => hc ((lastC_get HU.out.2.1 HT.out.1 hlt2 hlt1).1 e))
        go_wp2
        go_quiet (fail)
        go_wp2
        go_roundw
        case rel =>
          refine ⟨m + 1, by omega, by go_num, below_drewN HB.out.1 _, fun j y hj hy => ?_⟩
          rcases Nat.lt_or_ge j m with h | h
          · exact HB.out.2 j y h hy
          · obtain rfl : j = m := by omega
            rw [HU.out.1] at hy; cases hy; exact HC.out
        case measure => simp [intOf]; omega
    · have hall : ∀ u ∈ ts, lastC u ≠ lastC t := fun u hu => by
        obtain ⟨j, hj, e⟩ := List.getElem_of_mem hu
        exact HB.out.2 j u (by omega) (by rw [List.getElem?_eq_getElem hj, e])
      have HK := Lib.hid (keepL_miss ts t hall)
      clear hall
      obtain rfl : m = ts.length := by omega
      go_wp2_with (at_builtin; refine wpList_append_lies _ rfl _ _ 59 rfl base 9 i0 (.string ⟨#[]⟩) 1 16 Tryd.underlying59 hi hz0 hz1 hz2 rfl (by decide) _ _ _ rfl (hownr.alloc _) ⟨wr.heap.size, 0, none⟩ 1 1 [.string t] rfl rfl (cell_one_new _ _ _) (one_one _ rfl) (by decide) (by unfold maxLen; omega) (by omega) (by simp; omega) _ rfl ?_; intro g' cap' w3 hown3 hgrow3 _ _)
      go_wp2
      go_ret
      refine ⟨⟨_, rfl, ?_⟩, ?_⟩
      · rw [HK.out, List.length_append, List.map_append]
        exact hown3
      · exact ((HB.out.1.mono hbase).alloc (by omega) _).grown hgrow3 (by simp; omega) (fun j hj => by have := (hownr.lt j hj).1; omega)
end Go.Proofs.YtfmhcjhcmoniaaaDoor
