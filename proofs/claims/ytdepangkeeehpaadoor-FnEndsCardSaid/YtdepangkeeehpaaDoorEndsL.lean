import Derived.Test.YtdepangkeeehpaaDoorEndsG
import Derived.Test.YtdepangkeeehpaaDoorDrawD
import Derived.Deep.CutRange
import Derived.Test.YtdepangkeeehpaaDoorEndsH
section
/-
  The walk of the law FnEdgeOf. Conditions: what came in are bytes; the errors' variables hold errors.
-/
namespace Go.Proofs.YtdepangkeeehpaaDoor
open Go.RowKit Go.Maps

section
variable (w : World) (bs es : List Pr) (ab ae : Option Addr) (cb ce : Nat) (x y : ByteArray)
theorem EdgeOf_implB (b : Int) (h : edgeV bs es x y = b) (hx : x.size ≤ 1048576) (hy : y.size ≤ 1048576) (hpb : PairsAt w ab bs) (hpe : PairsAt w ae es) (hg : Errs w) :
    Calls Tryd.prog 32 #[.agg #[.slice ab bs.length cb, .slice ae es.length ce], .string x, .string y] w fun e w' => e = .returned (.int .i64 b) ∧ Below w.heap.size w w' := by
  subst h; exact EdgeOf_impl w bs es ab ae cb ce x y hx hy hpb hpe hg
theorem EdgeOf_specB (b : Int) (h : edgeV bs es x y = b) (hpb : PairsAt w ab bs) (hpe : PairsAt w ae es) :
    Calls Tryd.prog 33 #[.agg #[.slice ab bs.length cb, .slice ae es.length ce], .string x, .string y] w fun e w' => e = .returned (.int .i64 b) ∧ Below w.heap.size w w' := by
  subst h; exact EdgeOf_spec w bs es ab ae cb ce x y hpb hpe
end
theorem edge_ways (bs es : List Pr) (x y : ByteArray) : edgeV bs es x y = -1 ∨ ∃ k : Nat, edgeV bs es x y = (k : Int) ∧ k < es.length ∧ ∀ j, j < es.length → ((nameAt es j = x ∧ restAt es j = y) ↔ j = k) := by
  unfold edgeV
  by_cases hv : validB bs es = true
  · rw [if_pos hv]
    have hV : Valid bs es := by simpa [validB] using hv
    by_cases hm : (x, y) ∈ es
    · obtain ⟨k, hk, e, hp⟩ := fndE_yes hm
      refine .inr ⟨k, e, hk, fun j hj => ⟨fun ⟨h1, h2⟩ => ?_, fun h => ?_⟩⟩
      · have h3 : (nameAt es j, restAt es j) = (nameAt es k, restAt es k) := by rw [hp, h1, h2]
        rcases Nat.lt_trichotomy j k with h | h | h
        · exact absurd h3 (nodupE_iff.1 hV.e.nd k hk j h)
        · exact h
        · exact absurd h3.symm (nodupE_iff.1 hV.e.nd j hj k h)
      · subst h
        simp only [Prod.mk.injEq] at hp
        exact hp
    · exact .inl (fndE_no hm)
  · rw [if_neg hv]; exact .inl rfl

set_option maxRecDepth 100000 in
set_option maxHeartbeats 6400000 in
theorem LawFnEdgeOf_any (w : World) (a : Option Addr) (n cap : Nat) (hby : BytesRaw w a n cap) (hg : Errs w) :
    Calls Tryd.prog 7 #[.slice a n cap] w fun e w' => e = .returned (.bool true) ∧ Below w.heap.size w w' := by
  go_enter Tryd.func7, Tryd.ntmps7
  by_cases hL : (1048576 : Int) < (n : Int)
  · go_wp2
    go_ret
    exact ⟨rfl, Below.refl _ _⟩
  have HG := Lib.hid hg
  clear hg
  go_wp2_with fail
  refine (DrawEdgeOf_any w a n cap hby).mono ?_
  rintro e w1 ⟨bs, es, ab, ae, cb, ce, x, y, rfl, hSb, hSe, hxs, hys, hPb, hPe, hb1⟩
  have hx : x.size ≤ 1048576 := by omega
  have hy : y.size ≤ 1048576 := by omega
  have hel : es.length ≤ 1000 := hSe.1
  have hW : Below w1.heap.size w1 (w1.alloc (.cells #[.slice ab bs.length cb, .slice ae es.length ce] 30)) := (Below.refl _ _).alloc (Nat.le_refl _) _
  have hP := PAt.new ab ae cb ce hPb hPe
  have hall : Below w.heap.size w (w1.alloc (.cells #[.slice ab bs.length cb, .slice ae es.length ce] 30)) := hb1.trans (hW.mono hb1.size)
  go_upto_region 4 with fail
  generalize hwP : w1.alloc (.cells #[.slice ab bs.length cb, .slice ae es.length ce] 30) = wP at *
  have hz1 : w1.heap.size < wP.heap.size := by rw [← hwP]; simp
  have HSm := Lib.hid (show ∀ W', Below wP.heap.size wP W' → (W'.cell? ⟨w1.heap.size, 0, none⟩ = some (.slice ab bs.length cb) ∧ W'.cell? ⟨w1.heap.size, 1, none⟩ = some (.slice ae es.length ce) ∧ w1.heap.size < W'.heap.size) from fun W' hB => ⟨(hP.below hB).c0, (hP.below hB).c1, Nat.lt_of_lt_of_le hz1 hB.size⟩)
  have HPP := Lib.hid (show ∀ W', Below wP.heap.size wP W' → (PairsAt W' ab bs ∧ PairsAt W' ae es ∧ Errs W') from fun W' hB => ⟨(hP.below hB).b, (hP.below hB).e, HG.out.keep (hall.trans (hB.mono hall.size))⟩)
  have HF := Lib.hid (show ∀ W', Below wP.heap.size wP W' → Below w.heap.size w W' from fun W' hB => hall.trans (hB.mono hall.size))
  obtain ⟨c0, c1, _⟩ := HSm.out _ (Below.refl _ _)
  generalize w1.heap.size = q at *
  clear hwP hW hP hPb hPe hb1 hSb hSe hxs hys hby hall HG hz1
  rcases edge_ways bs es x y with hE | ⟨k, hE, hk, hiff⟩
  · have HE := Lib.hid hE
    clear hE
    go_wp2_with fail
    refine (EdgeOf_implB _ bs es _ _ _ _ x y _ HE.out hx hy (HPP.out _ (Below.refl _ _)).1 (HPP.out _ (Below.refl _ _)).2.1 (HPP.out _ (Below.refl _ _)).2.2).mono ?_
    rintro e w2 ⟨rfl, hb2⟩
    have HQ2 := Lib.hid hb2
    obtain ⟨c0, c1, _⟩ := HSm.out _ HQ2.out
    clear hb2
    go_wp2_with fail
    refine (EdgeOf_specB _ bs es _ _ _ _ x y _ HE.out (HPP.out _ HQ2.out).1 (HPP.out _ HQ2.out).2.1).mono ?_
    rintro e w3 ⟨rfl, hb3⟩
    have HQ3 := Lib.hid (below_new HQ2.out hb3)
    obtain ⟨c0, c1, _⟩ := HSm.out _ HQ3.out
    clear hb3 HQ2
    go_wp2_with fail
    refine (EdgeOf_specB _ bs es _ _ _ _ x y _ HE.out (HPP.out _ HQ3.out).1 (HPP.out _ HQ3.out).2.1).mono ?_
    rintro e w4 ⟨rfl, hb4⟩
    have HQ4 := Lib.hid (HF.out _ (below_new HQ3.out hb4))
    clear hb4 HQ3
    go_wp2
    go_ret
    exact ⟨rfl, HQ4.out⟩
  · have HE := Lib.hid (And.intro hE hiff)
    have hk0 : ¬ ((k : Int) < 0) := by omega
    have hkl : (k : Int) < (es.length : Int) := by omega
    clear hE hiff
    go_wp2_with fail
    refine (EdgeOf_implB _ bs es _ _ _ _ x y _ HE.out.1 hx hy (HPP.out _ (Below.refl _ _)).1 (HPP.out _ (Below.refl _ _)).2.1 (HPP.out _ (Below.refl _ _)).2.2).mono ?_
    rintro e w2 ⟨rfl, hb2⟩
    have HQ2 := Lib.hid hb2
    obtain ⟨c0, c1, _⟩ := HSm.out _ HQ2.out
    clear hb2
    go_wp2_with fail
    refine (EdgeOf_specB _ bs es _ _ _ _ x y _ HE.out.1 (HPP.out _ HQ2.out).1 (HPP.out _ HQ2.out).2.1).mono ?_
    rintro e w3 ⟨rfl, hb3⟩
    have HQ3 := Lib.hid (below_new HQ2.out hb3)
    obtain ⟨c0, c1, _⟩ := HSm.out _ HQ3.out
    clear hb3 HQ2
    go_wp2
    go_loopw [45] (fun i wr => ∃ j : Nat, j ≤ es.length ∧ i = .int .i64 j ∧ Below wP.heap.size wP wr) (fun i _ => es.length - (intOf i).toNat)
    case atStart => exact ⟨0, Nat.zero_le _, rfl, HQ3.out⟩
    case round =>
      obtain ⟨j, hj, rfl, hbl⟩ := hrel
      obtain ⟨c0, c1, _⟩ := HSm.out _ hbl
      have hsz := hbl.size
      by_cases hlt : j < es.length
      · obtain ⟨b, off, rfl, hb, g1, g2⟩ := (HPP.out _ hbl).2.1.cell j hlt
        have HB := Lib.hid hbl
        have hij := HE.out.2 j hlt
        have x1 : (0 : Int) ≤ (j : Int) := by omega
        have x2 : (j : Int) < (es.length : Int) := by omega
        clear hbl
        by_cases hjk : j = k
        · subst hjk
          obtain ⟨h1, h2⟩ := hij.2 rfl
          rw [h1] at g1
          rw [h2] at g2
          clear hij h1 h2
          go_wp2
          go_roundw
          case rel => exact ⟨j + 1, by omega, by go_num, HB.out.alloc HB.out.size _⟩
          case measure => simp [intOf]; omega
        · have d1 : ((j : Int) == (k : Int)) = false := by simp; omega
          by_cases h1 : nameAt es j = x
          · have h2 : restAt es j ≠ y := fun h2 => hjk (hij.1 ⟨h1, h2⟩)
            have d2 : ((nameAt es j).toList == x.toList) = true := by rw [toList_eq_iff]; exact decide_eq_true h1
            have d3 : ((restAt es j).toList == y.toList) = false := by rw [toList_eq_iff]; exact decide_eq_false h2
            clear hij h1 h2 hjk
            go_wp2
            go_roundw
            case rel => exact ⟨j + 1, by omega, by go_num, HB.out.alloc HB.out.size _⟩
            case measure => simp [intOf]; omega
          · have d2 : ((nameAt es j).toList == x.toList) = false := by rw [toList_eq_iff]; exact decide_eq_false h1
            clear hij h1 hjk
            go_wp2
            go_roundw
            case rel => exact ⟨j + 1, by omega, by go_num, HB.out.alloc HB.out.size _⟩
            case measure => simp [intOf]; omega
      · have HX := Lib.hid (HF.out _ hbl)
        clear hbl
        go_wp2
        go_ret
        exact ⟨rfl, HX.out⟩
end Go.Proofs.YtdepangkeeehpaaDoor
end

section
/-
  The walk of the law FnEnds. Conditions: what came in are bytes; the errors' variables hold errors.
-/
namespace Go.Proofs.YtdepangkeeehpaaDoor
open Go.RowKit Go.Maps

section
variable (w : World) (bs es : List Pr) (ab ae : Option Addr) (cb ce : Nat) (x : ByteArray)
theorem OutOf_implB (r : ByteArray) (b : Bool) (h : outOfV bs es x = .tuple #[.string r, .bool b]) (hx : x.size ≤ 1048576) (hpb : PairsAt w ab bs) (hpe : PairsAt w ae es) (hg : Errs w) :
    Calls Tryd.prog 35 #[.agg #[.slice ab bs.length cb, .slice ae es.length ce], .string x] w fun e w' => e = .returned (.tuple #[.string r, .bool b]) ∧ Below w.heap.size w w' :=
  (OutOf_impl w bs es ab ae cb ce x hx hpb hpe hg).mono fun e w' k => ⟨by rw [k.1, h], k.2⟩
theorem InOf_implB (r : ByteArray) (b : Bool) (h : inOfV bs es x = .tuple #[.string r, .bool b]) (hx : x.size ≤ 1048576) (hpb : PairsAt w ab bs) (hpe : PairsAt w ae es) (hg : Errs w) :
    Calls Tryd.prog 36 #[.agg #[.slice ab bs.length cb, .slice ae es.length ce], .string x] w fun e w' => e = .returned (.tuple #[.string r, .bool b]) ∧ Below w.heap.size w w' :=
  (InOf_impl w bs es ab ae cb ce x hx hpb hpe hg).mono fun e w' k => ⟨by rw [k.1, h], k.2⟩
theorem OutOf_specB (r : ByteArray) (b : Bool) (h : outOfV bs es x = .tuple #[.string r, .bool b]) (hpb : PairsAt w ab bs) (hpe : PairsAt w ae es) :
    Calls Tryd.prog 37 #[.agg #[.slice ab bs.length cb, .slice ae es.length ce], .string x] w fun e w' => e = .returned (.tuple #[.string r, .bool b]) ∧ Below w.heap.size w w' :=
  (OutOf_spec w bs es ab ae cb ce x hpb hpe).mono fun e w' k => ⟨by rw [k.1, h], k.2⟩
theorem InOf_specB (r : ByteArray) (b : Bool) (h : inOfV bs es x = .tuple #[.string r, .bool b]) (hpb : PairsAt w ab bs) (hpe : PairsAt w ae es) :
    Calls Tryd.prog 38 #[.agg #[.slice ab bs.length cb, .slice ae es.length ce], .string x] w fun e w' => e = .returned (.tuple #[.string r, .bool b]) ∧ Below w.heap.size w w' :=
  (InOf_spec w bs es ab ae cb ce x hpb hpe).mono fun e w' k => ⟨by rw [k.1, h], k.2⟩
end

set_option maxRecDepth 100000 in
set_option maxHeartbeats 6400000 in
theorem LawFnEnds_any (w : World) (a : Option Addr) (n cap : Nat) (hby : BytesRaw w a n cap) (hg : Errs w) :
    Calls Tryd.prog 8 #[.slice a n cap] w fun e w' => e = .returned (.bool true) ∧ Below w.heap.size w w' := by
  go_enter Tryd.func8, Tryd.ntmps8
  by_cases hL : (1048576 : Int) < (n : Int)
  · go_wp2
    go_ret
    exact ⟨rfl, Below.refl _ _⟩
  have HG := Lib.hid hg
  clear hg
  go_wp2_with fail
  refine (DrawOutOf_any w a n cap hby).mono ?_
  rintro e w1 ⟨bs, es, ab, ae, cb, ce, x, rfl, hSb, hSe, hxs, hPb, hPe, hb1⟩
  have hx : x.size ≤ 1048576 := by omega
  have hbl9 : bs.length ≤ 1000 := hSb.1
  have hW : Below w1.heap.size w1 (w1.alloc (.cells #[.slice ab bs.length cb, .slice ae es.length ce] 30)) := (Below.refl _ _).alloc (Nat.le_refl _) _
  have hP := PAt.new ab ae cb ce hPb hPe
  have hall : Below w.heap.size w (w1.alloc (.cells #[.slice ab bs.length cb, .slice ae es.length ce] 30)) := hb1.trans (hW.mono hb1.size)
  have HSb := Lib.hid hSb
  go_upto_region 4 with fail
  generalize hwP : w1.alloc (.cells #[.slice ab bs.length cb, .slice ae es.length ce] 30) = wP at *
  have hz1 : w1.heap.size < wP.heap.size := by rw [← hwP]; simp
  have HSm := Lib.hid (show ∀ W', Below wP.heap.size wP W' → (W'.cell? ⟨w1.heap.size, 0, none⟩ = some (.slice ab bs.length cb) ∧ W'.cell? ⟨w1.heap.size, 1, none⟩ = some (.slice ae es.length ce) ∧ w1.heap.size < W'.heap.size) from fun W' hB => ⟨(hP.below hB).c0, (hP.below hB).c1, Nat.lt_of_lt_of_le hz1 hB.size⟩)
  have HPP := Lib.hid (show ∀ W', Below wP.heap.size wP W' → (PairsAt W' ab bs ∧ PairsAt W' ae es ∧ Errs W') from fun W' hB => ⟨(hP.below hB).b, (hP.below hB).e, HG.out.keep (hall.trans (hB.mono hall.size))⟩)
  have HF := Lib.hid (show ∀ W', Below wP.heap.size wP W' → Below w.heap.size w W' from fun W' hB => hall.trans (hB.mono hall.size))
  obtain ⟨c0, c1, _⟩ := HSm.out _ (Below.refl _ _)
  generalize w1.heap.size = q at *
  clear hwP hW hP hPb hPe hb1 hSb hSe hxs hby hall HG hz1
  cases hh : hasB bs es x
  · have HE := Lib.hid (And.intro (show outOfV bs es x = .tuple #[.string e0, .bool false] from outV_no hh) (show inOfV bs es x = .tuple #[.string e0, .bool false] from outV_no hh))
    clear hh
    go_wp2_with fail
    refine (OutOf_implB _ bs es _ _ _ _ x _ _ HE.out.1 hx (HPP.out _ (Below.refl _ _)).1 (HPP.out _ (Below.refl _ _)).2.1 (HPP.out _ (Below.refl _ _)).2.2).mono ?_
    rintro e w2 ⟨rfl, hb2⟩
    have HQ2 := Lib.hid hb2
    obtain ⟨c0, c1, _⟩ := HSm.out _ HQ2.out
    clear hb2
    go_wp2_with fail
    refine (InOf_implB _ bs es _ _ _ _ x _ _ HE.out.2 hx (HPP.out _ HQ2.out).1 (HPP.out _ HQ2.out).2.1 (HPP.out _ HQ2.out).2.2).mono ?_
    rintro e w3 ⟨rfl, hb3⟩
    have HQ3 := Lib.hid (below_new HQ2.out hb3)
    obtain ⟨c0, c1, _⟩ := HSm.out _ HQ3.out
    clear hb3 HQ2
    go_wp2_with fail
    refine (OutOf_specB _ bs es _ _ _ _ x _ _ HE.out.1 (HPP.out _ HQ3.out).1 (HPP.out _ HQ3.out).2.1).mono ?_
    rintro e w4 ⟨rfl, hb4⟩
    have HQ4 := Lib.hid (below_new HQ3.out hb4)
    obtain ⟨c0, c1, _⟩ := HSm.out _ HQ4.out
    clear hb4 HQ3
    go_wp2_with fail
    refine (InOf_specB _ bs es _ _ _ _ x _ _ HE.out.2 (HPP.out _ HQ4.out).1 (HPP.out _ HQ4.out).2.1).mono ?_
    rintro e w5 ⟨rfl, hb5⟩
    have HQ5 := Lib.hid (HF.out _ (below_new HQ4.out hb5))
    clear hb5 HQ4
    go_wp2
    go_ret
    exact ⟨rfl, HQ5.out⟩
  · have HE := Lib.hid (And.intro (show outOfV bs es x = .tuple #[.string (outT es x), .bool true] from outV_yes hh) (show inOfV bs es x = .tuple #[.string (inT es x), .bool true] from outV_yes hh))
    have HV := Lib.hid (show Valid bs es by simpa [validB] using (hasB_iff.1 hh).1)
    have HM := Lib.hid (hasB_iff.1 hh).2
    have hO := outT_size HV.out x
    have hI := inT_size HV.out x
    clear hh
    go_wp2_with fail
    refine (OutOf_implB _ bs es _ _ _ _ x _ _ HE.out.1 hx (HPP.out _ (Below.refl _ _)).1 (HPP.out _ (Below.refl _ _)).2.1 (HPP.out _ (Below.refl _ _)).2.2).mono ?_
    rintro e w2 ⟨rfl, hb2⟩
    have HQ2 := Lib.hid hb2
    obtain ⟨c0, c1, _⟩ := HSm.out _ HQ2.out
    clear hb2
    go_wp2_with fail
    refine (InOf_implB _ bs es _ _ _ _ x _ _ HE.out.2 hx (HPP.out _ HQ2.out).1 (HPP.out _ HQ2.out).2.1 (HPP.out _ HQ2.out).2.2).mono ?_
    rintro e w3 ⟨rfl, hb3⟩
    have HQ3 := Lib.hid (below_new HQ2.out hb3)
    obtain ⟨c0, c1, _⟩ := HSm.out _ HQ3.out
    clear hb3 HQ2
    go_wp2_with fail
    refine (OutOf_specB _ bs es _ _ _ _ x _ _ HE.out.1 (HPP.out _ HQ3.out).1 (HPP.out _ HQ3.out).2.1).mono ?_
    rintro e w4 ⟨rfl, hb4⟩
    have HQ4 := Lib.hid (below_new HQ3.out hb4)
    obtain ⟨c0, c1, _⟩ := HSm.out _ HQ4.out
    clear hb4 HQ3
    go_wp2_with fail
    refine (InOf_specB _ bs es _ _ _ _ x _ _ HE.out.2 (HPP.out _ HQ4.out).1 (HPP.out _ HQ4.out).2.1).mono ?_
    rintro e w5 ⟨rfl, hb5⟩
    have HQ5 := Lib.hid (below_new HQ4.out hb5)
    obtain ⟨c0, c1, _⟩ := HSm.out _ HQ5.out
    clear hb5 HQ4
    have HOe := Lib.hid (outT_end HV.out HM.out)
    have HIe := Lib.hid (inT_end HV.out HM.out)
    have HSame := Lib.hid (fun y => has_same HV.out x y)
    have HSameI := Lib.hid (fun y => has_same HV.out y x)
    have HEdge := Lib.hid (fun y => has_edge HV.out x y)
    go_wp2
    go_loopw [95] (fun i wr => ∃ k : Nat, k ≤ bs.length ∧ i = .int .i64 k ∧ Below wP.heap.size wP wr) (fun i _ => bs.length - (intOf i).toNat)
    case atStart => exact ⟨0, Nat.zero_le _, rfl, HQ5.out⟩
    case round =>
      obtain ⟨k, hk, rfl, hbl⟩ := hrel
      obtain ⟨c0, c1, hql⟩ := HSm.out _ hbl
      have hsz := hbl.size
      by_cases hlt : k < bs.length
      · obtain ⟨b, off, rfl, hb, g1, g2⟩ := (HPP.out _ hbl).1.cell k hlt
        have hmk := nameAt_mem hlt
        have hnm : (nameAt bs k).size ≤ 1048576 := by rw [HV.out.name_size hmk]; decide
        have hhk : hasB bs es (nameAt bs k) = true := hasB_iff.2 ⟨by simpa [validB] using HV.out, hmk⟩
        have HN := Lib.hid (And.intro (show outOfV bs es (nameAt bs k) = .tuple #[.string (outT es (nameAt bs k)), .bool true] from outV_yes hhk) (show inOfV bs es (nameAt bs k) = .tuple #[.string (inT es (nameAt bs k)), .bool true] from outV_yes hhk))
        have hOk := outT_size HV.out (nameAt bs k)
        have hIk := inT_size HV.out (nameAt bs k)
        have hu1 := HSame.out (nameAt bs k)
        have hv1 := HSameI.out (nameAt bs k)
        have hed := HEdge.out (nameAt bs k)
        obtain ⟨v, hv⟩ : ∃ v, hasC (inT es x) (nameAt bs k) (inT es x).size = v := ⟨_, rfl⟩
        rw [hv] at hv1
        have HB := Lib.hid (show Below wP.heap.size wP (wr.alloc (.cells #[.string (nameAt bs k), .string (restAt bs k)] 62)) from hbl.alloc hsz _)
        have x1 : (0 : Int) ≤ (k : Int) := by omega
        have x2 : (k : Int) < (bs.length : Int) := by omega
        obtain ⟨u, V, hU, hVe, hVs⟩ : ∃ (u : Bool) (V : Int), hasC (outT es x) (nameAt bs k) (outT es x).size = u ∧ edgeV bs es x (nameAt bs k) = V ∧ ((u = false ∧ V = -1) ∨ (u = true ∧ ∃ kk : Nat, V = (kk : Int))) := by
          rcases hed with ⟨h1, h2⟩ | ⟨h1, kk, h2⟩
          · exact ⟨_, _, h1, h2, .inl ⟨rfl, rfl⟩⟩
          · exact ⟨_, _, h1, h2, .inr ⟨rfl, kk, rfl⟩⟩
        rw [hU] at hu1
        have HU := Lib.hid (And.intro hU (And.intro hu1 (And.intro hv (And.intro hv1.symm hVe))))
        clear hed hu1 hv1 hv hU hVe hhk hbl
        generalize nameAt bs k = nm at *
        rcases hVs with ⟨rfl, rfl⟩ | ⟨rfl, kk, rfl⟩
        all_goals
          (try have hkk : (0 : Int) ≤ (kk : Int) := by omega)
          go_wp2_with fail
          refine (InOf_implB _ bs es _ _ _ _ nm _ _ HN.out.2 hnm (HPP.out _ HB.out).1 (HPP.out _ HB.out).2.1 (HPP.out _ HB.out).2.2).mono ?_
          rintro e w6 ⟨rfl, hb6⟩
          have HQ6 := Lib.hid (below_new HB.out hb6)
          have n0 := (hb6.cell (p := ⟨wr.heap.size, 0, none⟩) (by simp)).trans (show _ = some (.string nm) by go_simp)
          have hl6 : wr.heap.size < w6.heap.size := by have := hb6.size; simp at this; omega
          obtain ⟨c0, c1, _⟩ := HSm.out _ HQ6.out
          clear hb6
          go_wp2_with fail
          refine (OutOf_implB _ bs es _ _ _ _ nm _ _ HN.out.1 hnm (HPP.out _ HQ6.out).1 (HPP.out _ HQ6.out).2.1 (HPP.out _ HQ6.out).2.2).mono ?_
          rintro e w7 ⟨rfl, hb7⟩
          have HQ7 := Lib.hid (below_new HQ6.out hb7)
          have n1 := (hb7.cell (p := ⟨wr.heap.size, 0, none⟩) hl6).trans n0
          have hl7 := Nat.lt_of_lt_of_le hl6 hb7.size
          obtain ⟨c0, c1, _⟩ := HSm.out _ HQ7.out
          clear hb7
          go_wp2_with fail
          refine (EdgeOf_implB _ bs es _ _ _ _ x nm _ HU.out.2.2.2.2 hx hnm (HPP.out _ HQ7.out).1 (HPP.out _ HQ7.out).2.1 (HPP.out _ HQ7.out).2.2).mono ?_
          rintro e w8 ⟨rfl, hb8⟩
          have HQ8 := Lib.hid (below_new HQ7.out hb8)
          have n2 := (hb8.cell (p := ⟨wr.heap.size, 0, none⟩) hl7).trans n1
          clear hb8 HQ7 HQ6 n0 n1 c0 c1
          go_wp2_with (first
            | (go_at_call 39; (with_reducible show Calls _ _ #[Value.string (outT es x), _] _ _); refine (owHas_any (outT es x) nm _ HU.out.1 w8 (by omega)).mono ?_; rintro e w' ⟨rfl, rfl⟩)
            | (go_at_call 39; (with_reducible show Calls _ _ #[Value.string (inT es nm), _] _ _); refine (owHas_any (inT es nm) x _ HU.out.2.1 w8 (by omega)).mono ?_; rintro e w' ⟨rfl, rfl⟩)
            | (go_at_call 39; (with_reducible show Calls _ _ #[Value.string (inT es x), _] _ _); refine (owHas_any (inT es x) nm _ HU.out.2.2.1 w8 (by omega)).mono ?_; rintro e w' ⟨rfl, rfl⟩)
            | (go_at_call 39; (with_reducible show Calls _ _ #[Value.string (outT es nm), _] _ _); refine (owHas_any (outT es nm) x _ HU.out.2.2.2.1 w8 (by omega)).mono ?_; rintro e w' ⟨rfl, rfl⟩))
          go_roundw
          case rel => exact ⟨k + 1, by omega, by go_num, HQ8.out⟩
          case measure => simp [intOf]; omega
      · have hlen := HV.out.b.lo
        obtain ⟨b, off, rfl, hb, g1, _⟩ := (HPP.out _ hbl).1.cell (bs.length - 1) (by omega)
        obtain ⟨b', off', e', hb', g0, _⟩ := (HPP.out _ hbl).1.cell 0 (by omega)
        cases e'
        simp only [Nat.zero_mul, Nat.add_zero] at g0
        rw [show nameAt bs (bs.length - 1) = lastN bs from rfl] at g1
        have hw1 : IntKind.i64.wrap ((bs.length : Int) - 1) = ((bs.length - 1 : Nat) : Int) := by rw [show (bs.length : Int) - 1 = ((bs.length - 1 : Nat) : Int) by omega]; exact IntWalk.i64_in _ (by omega)
        have x1 : (0 : Int) ≤ ((bs.length - 1 : Nat) : Int) := by omega
        have x2 : ((bs.length - 1 : Nat) : Int) < (bs.length : Int) := by omega
        have x3 : (0 : Int) < (bs.length : Int) := by omega
        have HX := Lib.hid (HF.out _ hbl)
        have z0 : (⟨#[]⟩ : ByteArray).toList = [] := by rw [ByteArray.toList_eq]
        clear hbl hO hI
        have ne_form : ∀ s : ByteArray, s ≠ e0 → (s.toList == []) = false ∧ s.toList.isEmpty = false := by
          intro s hs
          have h1 : s.toList ≠ [] := by
            intro h
            apply hs
            rw [ByteArray.toList_eq] at h
            exact ByteArray.ext (Array.toList_inj.1 h)
          exact ⟨by simpa using h1, by simpa using h1⟩
        have nO := ne_form (outT es x)
        have nI := ne_form (inT es x)
        clear ne_form
        by_cases eO : outT es x = e0
        · have d2 : (x.toList == (lastN bs).toList) = true := by rw [toList_eq_iff]; exact decide_eq_true (HOe.out.1 eO)
          have a1 : (outT es x).toList = [] := by rw [eO]; exact z0
          clear eO nO
          by_cases eI : inT es x = e0
          · have d3 : (x.toList == (nameAt bs 0).toList) = true := by rw [toList_eq_iff]; exact decide_eq_true (HIe.out.1 eI)
            have b1 : (inT es x).toList = [] := by rw [eI]; exact z0
            clear eI nI
            go_wp2
            go_ret
            exact ⟨rfl, HX.out⟩
          · have d3 : (x.toList == (nameAt bs 0).toList) = false := by rw [toList_eq_iff]; exact decide_eq_false (fun h => eI (HIe.out.2 h))
            obtain ⟨b1, b2⟩ := nI eI
            clear eI nI
            go_wp2
            go_ret
            exact ⟨rfl, HX.out⟩
        · have d2 : (x.toList == (lastN bs).toList) = false := by rw [toList_eq_iff]; exact decide_eq_false (fun h => eO (HOe.out.2 h))
          obtain ⟨a1, a2⟩ := nO eO
          clear eO nO
          by_cases eI : inT es x = e0
          · have d3 : (x.toList == (nameAt bs 0).toList) = true := by rw [toList_eq_iff]; exact decide_eq_true (HIe.out.1 eI)
            have b1 : (inT es x).toList = [] := by rw [eI]; exact z0
            clear eI nI
            go_wp2
            go_ret
            exact ⟨rfl, HX.out⟩
          · have d3 : (x.toList == (nameAt bs 0).toList) = false := by rw [toList_eq_iff]; exact decide_eq_false (fun h => eI (HIe.out.2 h))
            obtain ⟨b1, b2⟩ := nI eI
            clear eI nI
            go_wp2
            go_ret
            exact ⟨rfl, HX.out⟩
end Go.Proofs.YtdepangkeeehpaaDoor
end
