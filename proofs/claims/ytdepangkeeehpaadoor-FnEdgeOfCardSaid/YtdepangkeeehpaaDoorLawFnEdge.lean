/-
  The walk of the law FnEdgeOf. Conditions: what came in are bytes; the errors' variables hold errors.
-/
import Derived.Test.YtdepangkeeehpaaDoorValid
import Derived.Test.YtdepangkeeehpaaDoorDrawD
import Derived.Test.YtdepangkeeehpaaDoorEdgeOf
import Derived.Deep.CutRange
namespace Go.Proofs.YtdepangkeeehpaaDoor
open Go.RowKit Go.Maps

section
variable (w : World) (bs es : List Pr) (ab ae : Option Addr) (cb ce : Nat) (x y : ByteArray)
theorem EdgeOf_implB (b : Int) (h : edgeV bs es x y = b) (hx : x.size ≤ 1048576) (hy : y.size ≤ 1048576) (hpb : PairsAt w ab bs) (hpe : PairsAt w ae es) (hg : Errs w) :
    Calls Tryd.prog 32 #[.agg #[.slice ab bs.length cb, .slice ae es.length ce], .string x, .string y] w fun e w' => e = .returned (.int .i64 b) ∧ Below w.heap.size w w' := by
  subst h; exact EdgeOf_impl w bs es ab ae cb ce x y hx hy hpb hpe hg
theorem EdgeOf_specB (b : Int) (h : edgeV bs es x y = b) (hpb : PairsAt w ab bs) (hpe : PairsAt w ae es) :
    Calls Tryd.prog 33 #[.agg #[.slice ab bs.length cb, .slice ae es.length ce], .string x, .string y] w fun e w' => e = .returned (.int .i64 b) ∧ Below w.heap.size w w' := by
  subst h; exact EdgeOf_spec w bs es ab ae cb ce x y hpb hpe
end
theorem edge_ways (bs es : List Pr) (x y : ByteArray) : edgeV bs es x y = -1 ∨ ∃ k : Nat, edgeV bs es x y = (k : Int) ∧ k < es.length ∧ ∀ j, j < es.length → ((nameAt es j = x ∧ restAt es j = y) ↔ j = k) := by
  unfold edgeV
  by_cases hv : validB bs es = true
  · rw [if_pos hv]
    have hV : Valid bs es := by simpa [validB] using hv
    by_cases hm : (x, y) ∈ es
    · obtain ⟨k, hk, e, hp⟩ := fndE_yes hm
      refine .inr ⟨k, e, hk, fun j hj => ⟨fun ⟨h1, h2⟩ => ?_, fun h => ?_⟩⟩
      · have h3 : (nameAt es j, restAt es j) = (nameAt es k, restAt es k) := by rw [hp, h1, h2]
        rcases Nat.lt_trichotomy j k with h | h | h
        · exact absurd h3 (nodupE_iff.1 hV.e.nd k hk j h)
        · exact h
        · exact absurd h3.symm (nodupE_iff.1 hV.e.nd j hj k h)
      · subst h
        simp only [Prod.mk.injEq] at hp
        exact hp
    · exact .inl (fndE_no hm)
  · rw [if_neg hv]; exact .inl rfl

set_option maxRecDepth 100000 in
set_option maxHeartbeats 6400000 in
theorem LawFnEdgeOf_any (w : World) (a : Option Addr) (n cap : Nat) (hby : BytesRaw w a n cap) (hg : Errs w) :
    Calls Tryd.prog 7 #[.slice a n cap] w fun e w' => e = .returned (.bool true) ∧ Below w.heap.size w w' := by
  go_enter Tryd.func7, Tryd.ntmps7
  by_cases hL : (1048576 : Int) < (n : Int)
  · go_wp2
    go_ret
    exact ⟨rfl, Below.refl _ _⟩
  have HG := Lib.hid hg
  clear hg
  go_wp2_with fail
  refine (DrawEdgeOf_any w a n cap hby).mono ?_
  rintro e w1 ⟨bs, es, ab, ae, cb, ce, x, y, rfl, hSb, hSe, hxs, hys, hPb, hPe, hb1⟩
  have hx : x.size ≤ 1048576 := by omega
  have hy : y.size ≤ 1048576 := by omega
  have hel : es.length ≤ 1000 := hSe.1
  have hW : Below w1.heap.size w1 (w1.alloc (.cells #[.slice ab bs.length cb, .slice ae es.length ce] 30)) := (Below.refl _ _).alloc (Nat.le_refl _) _
  have hP := PAt.new ab ae cb ce hPb hPe
  have hall : Below w.heap.size w (w1.alloc (.cells #[.slice ab bs.length cb, .slice ae es.length ce] 30)) := hb1.trans (hW.mono hb1.size)
  go_upto_region 4 with fail
  generalize hwP : w1.alloc (.cells #[.slice ab bs.length cb, .slice ae es.length ce] 30) = wP at *
  have hz1 : w1.heap.size < wP.heap.size := by rw [← hwP]; simp
  have HSm := Lib.hid (show ∀ W', Below wP.heap.size wP W' → (W'.cell? ⟨w1.heap.size, 0, none⟩ = some (.slice ab bs.length cb) ∧ W'.cell? ⟨w1.heap.size, 1, none⟩ = some (.slice ae es.length ce) ∧ w1.heap.size < W'.heap.size) from fun W' hB => ⟨(hP.below hB).c0, (hP.below hB).c1, Nat.lt_of_lt_of_le hz1 hB.size⟩)
  have HPP := Lib.hid (show ∀ W', Below wP.heap.size wP W' → (PairsAt W' ab bs ∧ PairsAt W' ae es ∧ Errs W') from fun W' hB => ⟨(hP.below hB).b, (hP.below hB).e, HG.out.keep (hall.trans (hB.mono hall.size))⟩)
  have HF := Lib.hid (show ∀ W', Below wP.heap.size wP W' → Below w.heap.size w W' from fun W' hB => hall.trans (hB.mono hall.size))
  obtain ⟨c0, c1, _⟩ := HSm.out _ (Below.refl _ _)
  generalize w1.heap.size = q at *
  clear hwP hW hP hPb hPe hb1 hSb hSe hxs hys hby hall HG hz1
  rcases edge_ways bs es x y with hE | ⟨k, hE, hk, hiff⟩
  · have HE := Lib.hid hE
    clear hE
    go_wp2_with fail
    refine (EdgeOf_implB _ bs es _ _ _ _ x y _ HE.out hx hy (HPP.out _ (Below.refl _ _)).1 (HPP.out _ (Below.refl _ _)).2.1 (HPP.out _ (Below.refl _ _)).2.2).mono ?_
    rintro e w2 ⟨rfl, hb2⟩
    have HQ2 := Lib.hid hb2
    obtain ⟨c0, c1, _⟩ := HSm.out _ HQ2.out
    clear hb2
    go_wp2_with fail
    refine (EdgeOf_specB _ bs es _ _ _ _ x y _ HE.out (HPP.out _ HQ2.out).1 (HPP.out _ HQ2.out).2.1).mono ?_
    rintro e w3 ⟨rfl, hb3⟩
    have HQ3 := Lib.hid (below_new HQ2.out hb3)
    obtain ⟨c0, c1, _⟩ := HSm.out _ HQ3.out
    clear hb3 HQ2
    go_wp2_with fail
    refine (EdgeOf_specB _ bs es _ _ _ _ x y _ HE.out (HPP.out _ HQ3.out).1 (HPP.out _ HQ3.out).2.1).mono ?_
    rintro e w4 ⟨rfl, hb4⟩
    have HQ4 := Lib.hid (HF.out _ (below_new HQ3.out hb4))
    clear hb4 HQ3
    go_wp2
    go_ret
    exact ⟨rfl, HQ4.out⟩
  · have HE := Lib.hid (And.intro hE hiff)
    have hk0 : ¬ ((k : Int) < 0) := by omega
    have hkl : (k : Int) < (es.length : Int) := by omega
    clear hE hiff
    go_wp2_with fail
    refine (EdgeOf_implB _ bs es _ _ _ _ x y _ HE.out.1 hx hy (HPP.out _ (Below.refl _ _)).1 (HPP.out _ (Below.refl _ _)).2.1 (HPP.out _ (Below.refl _ _)).2.2).mono ?_
    rintro e w2 ⟨rfl, hb2⟩
    have HQ2 := Lib.hid hb2
    obtain ⟨c0, c1, _⟩ := HSm.out _ HQ2.out
    clear hb2
    go_wp2_with fail
    refine (EdgeOf_specB _ bs es _ _ _ _ x y _ HE.out.1 (HPP.out _ HQ2.out).1 (HPP.out _ HQ2.out).2.1).mono ?_
    rintro e w3 ⟨rfl, hb3⟩
    have HQ3 := Lib.hid (below_new HQ2.out hb3)
    obtain ⟨c0, c1, _⟩ := HSm.out _ HQ3.out
    clear hb3 HQ2
    go_wp2
    go_loopw [45] (fun i wr => ∃ j : Nat, j ≤ es.length ∧ i = .int .i64 j ∧ Below wP.heap.size wP wr) (fun i _ => es.length - (intOf i).toNat)
    case atStart => exact ⟨0, Nat.zero_le _, rfl, HQ3.out⟩
    case round =>
      obtain ⟨j, hj, rfl, hbl⟩ := hrel
      obtain ⟨c0, c1, _⟩ := HSm.out _ hbl
      have hsz := hbl.size
      by_cases hlt : j < es.length
      · obtain ⟨b, off, rfl, hb, g1, g2⟩ := (HPP.out _ hbl).2.1.cell j hlt
        have HB := Lib.hid hbl
        have hij := HE.out.2 j hlt
        have x1 : (0 : Int) ≤ (j : Int) := by omega
        have x2 : (j : Int) < (es.length : Int) := by omega
        clear hbl
        by_cases hjk : j = k
        · subst hjk
          obtain ⟨h1, h2⟩ := hij.2 rfl
          rw [h1] at g1
          rw [h2] at g2
          clear hij h1 h2
          go_wp2
          go_roundw
          case rel => exact ⟨j + 1, by omega, by go_num, HB.out.alloc HB.out.size _⟩
          case measure => simp [intOf]; omega
        · have d1 : ((j : Int) == (k : Int)) = false := by simp; omega
          by_cases h1 : nameAt es j = x
          · have h2 : restAt es j ≠ y := fun h2 => hjk (hij.1 ⟨h1, h2⟩)
            have d2 : ((nameAt es j).toList == x.toList) = true := by rw [toList_eq_iff]; exact decide_eq_true h1
            have d3 : ((restAt es j).toList == y.toList) = false := by rw [toList_eq_iff]; exact decide_eq_false h2
            clear hij h1 h2 hjk
            go_wp2
            go_roundw
            case rel => exact ⟨j + 1, by omega, by go_num, HB.out.alloc HB.out.size _⟩
            case measure => simp [intOf]; omega
          · have d2 : ((nameAt es j).toList == x.toList) = false := by rw [toList_eq_iff]; exact decide_eq_false h1
            clear hij h1 hjk
            go_wp2
            go_roundw
            case rel => exact ⟨j + 1, by omega, by go_num, HB.out.alloc HB.out.size _⟩
            case measure => simp [intOf]; omega
      · have HX := Lib.hid (HF.out _ hbl)
        clear hbl
        go_wp2
        go_ret
        exact ⟨rfl, HX.out⟩
end Go.Proofs.YtdepangkeeehpaaDoor
