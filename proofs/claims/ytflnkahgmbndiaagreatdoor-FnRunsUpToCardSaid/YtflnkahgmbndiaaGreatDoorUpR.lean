import Derived.Test.YtflnkahgmbndiaaGreatDoorPlan
import Derived.Test.YtflnkahgmbndiaaGreatDoorEq
import Derived.Test.YtflnkahgmbndiaaGreatDoorUpA
import Derived.Test.YtflnkahgmbndiaaGreatDoorRows4
import Derived.Test.YtflnkahgmbndiaaGreatDoorRuns
import Derived.Test.YtflnkahgmbndiaaGreatDoorSpecD
import Derived.Deep.RegionHeldLaw
import Derived.Test.YtflnkahgmbndiaaGreatDoorCourse
import Derived.RangeFuncKeeps
import Derived.RangeFuncNested
import Derived.RangeFuncBound
import Derived.RangeFuncCalls
import Derived.RangeFuncLeaves
import Derived.RangeFuncBox
import Derived.Shelf.Abstract
import Derived.WalkKit
import Derived.OwnWalkIn
import Derived.TacticsInMore
import Derived.LoopNIn
import Derived.LoopIn
import Derived.BigFrameIn
import Derived.StillTailTactics
import Derived.Deep.CutRange
section
/-
  eqProg of a program with itself: what LawValid (P1) holds ahead of its law, for seats without that law. Conditions: none.
-/
namespace Go.Proofs.YtflnkahgmbndiaaGreatDoor
open Go.RowKit

theorem eqProg_same (w : World) (bs es : List Pr) (ab ae ab' ae' : Option Addr) (cb ce cb' ce' : Nat) (hb : PairsAt w ab bs) (he : PairsAt w ae es) (hb' : PairsAt w ab' bs) (he' : PairsAt w ae' es) :
    Calls Tryz.prog 20 #[.agg #[.slice ab bs.length cb, .slice ae es.length ce], .agg #[.slice ab' bs.length cb', .slice ae' es.length ce']] w fun e w' => e = .returned (.bool true) ∧ Below w.heap.size w w' :=
  (eqProg_any w bs es bs es ab ae ab' ae' cb ce cb' ce' hb he hb' he').mono fun e w' h => ⟨by rw [h.1]; simp [sameL], h.2⟩

end Go.Proofs.YtflnkahgmbndiaaGreatDoor
end

section
/-
  RunsUpTo of the model: l2All. Conditions: a valid program, at most 12 blocks.
-/
namespace Go.Proofs.YtflnkahgmbndiaaGreatDoor
open Go.RowKit Go.Maps

/-- a list of texts in a row of one's own that grew -/
def ListPostR (base : Nat) (w : World) (v : Value) (M : List ByteArray) (e : Ending) (w' : World) : Prop :=
  ∃ v', e = .returned v' ∧ w'.ownsRow base 9 1 v' M.length (M.map Value.string) ∧ w.grownBy w' v.ownBlock ∧ (v'.ownBlock = v.ownBlock ∨ ∃ j, w.heap.size ≤ j ∧ v'.ownBlock = some j)
theorem grownR {w w1 w2 : World} {r r1 : Option Nat} (h : w.grownBy w1 r) (h1 : w1.grownBy w2 r1) (hr : r1 = r ∨ ∃ j, w.heap.size ≤ j ∧ r1 = some j) : w.grownBy w2 r :=
  ⟨h1.os.trans h.os, h1.tape.trans h.tape, h1.output.trans h.output, Nat.le_trans h.size h1.size, fun k hk hne => by
    rw [h1.block k (Nat.lt_of_lt_of_le hk h.size) ?_, h.block k hk hne]
    rcases hr with rfl | ⟨j, hj, rfl⟩
    · exact hne
    · intro e; cases e; omega⟩
theorem grown_of_below {w w1 : World} (h : Below w.heap.size w w1) (r : Option Nat) : w.grownBy w1 r := ⟨h.os, h.tape, h.output, h.size, fun k hk _ => h.block k hk⟩
theorem own_farR {a b : Nat} {v v1 v2 : Option Nat} (hab : a ≤ b) (h1 : v1 = v ∨ ∃ j, a ≤ j ∧ v1 = some j) (h2 : v2 = v1 ∨ ∃ j, b ≤ j ∧ v2 = some j) : v2 = v ∨ ∃ j, a ≤ j ∧ v2 = some j := by
  rcases h2 with rfl | ⟨j, hj, rfl⟩
  · exact h1
  · exact .inr ⟨j, by omega, rfl⟩
theorem name_sizeR {bs : List Pr} (h : BlocksOk bs) {i : Nat} (hi : i < bs.length) : (nameAt bs i).size = 1 := by
  have := h.nm (bs.getD i (e0, e0)) (by rw [List.getD_eq_getElem?_getD, List.getElem?_eq_getElem hi]; simp)
  unfold isNm at this
  simp at this
  exact this.1
theorem app_lastR {t y : ByteArray} (hy : y.size = 1) : (t ++ y).extract ((t ++ y).size - 1) (t ++ y).size = y := by
  rw [ByteArray.size_append, hy]
  apply bytes_ext2
  simp only [Nat.add_sub_cancel]
  have h2 : y.data.size = 1 := hy
  have h3 : t.data.size = t.size := rfl
  simp [ByteArray.data_extract, ByteArray.data_append, h3]
  exact List.take_of_length_le (by rw [Array.length_toList, h2]; exact Nat.le_refl _)
theorem slice_lastR (way h : ByteArray) (hw0 : 0 < way.size) (hh : way.extract (way.size - 1) way.size = h) : ∀ W : World, (Instr.slice 9 (.string way) (some (.int .i64 ((way.size : Int) - 1))) none none).run Tryz.prog W = .ok (.string h) W := fun W => by
  have h2 : (way.size : Int) - 1 ≤ way.size := by omega
  have h4 : ¬ (way.size : Int) < 1 := by omega
  have e3 : ((way.size : Int) - 1).toNat = way.size - 1 := by omega
  simp [Instr.slice, Instr.sliceBounds, Instr.sliceBound, run_underlying Tryz.underlying9, asIntOf, h2, h4, e3, hh]
set_option maxRecDepth 100000 in
set_option maxHeartbeats 3200000 in
theorem l2All_end (wB : World) (bs es : List Pr) (ab ae : Option Addr) (cb ce : Nat) (hV : Valid bs es) (hpb : PairsAt wB ab bs) (_ : PairsAt wB ae es) (K : Nat) (hK : K ≤ 12) (n : Nat) (way h : ByteArray) (L : List ByteArray) (v : Value) (w : World) (hn : way.size + n = K) (hw0 : 0 < way.size) (hh : way.extract (way.size - 1) way.size = h) (hL : L.length ≤ 300) (hown : w.ownsRow wB.heap.size 9 1 v L.length (L.map Value.string)) (hbl : Below wB.heap.size wB w) (hz : h = lastN bs) :
    Calls Tryz.prog 35 #[.agg #[.slice ab bs.length cb, .slice ae es.length ce], .string way, .int .i64 (K : Int), v] w (ListPostR wB.heap.size w v (cut301 (L ++ runsF bs es (lastN bs) n h way))) := by
  obtain ⟨i0, hi, hz0, hz1, hz2⟩ := info_parts Tryz.infoStr
  have hlb := hV.b.lo
  have hhb := hV.b.hi
  have hsz := hbl.size
  obtain ⟨b, off, hpe0, hb, g1, g2⟩ := hpb.cell (bs.length - 1) (by omega)
  obtain ⟨wa, wc, rfl⟩ := own_form hown
  have hb1 : Below wB.heap.size wB (w.alloc (.cells #[.slice ab bs.length cb, .slice ae es.length ce] 26)) := hbl.alloc hsz _
  have d1 := (hb1.cell (p := ⟨b, off + (bs.length - 1) * 2, none⟩) hb).trans g1
  subst hpe0
  have l1 : (0 : Int) ≤ (bs.length : Int) - 1 := by omega
  have l2 : (bs.length : Int) - 1 < (bs.length : Int) := by omega
  have l4 : (1 : Int) ≤ (bs.length : Int) := by omega
  have l5 : 1 ≤ bs.length := by omega
  have l7 : (1 : Int) ≤ (way.size : Int) := by omega
  have e1 : IntKind.i64.wrap ((bs.length : Int) - 1) = (bs.length : Int) - 1 := IntWalk.i64_in _ (by omega)
  have e2 : ((bs.length : Int) - 1).toNat = bs.length - 1 := by omega
  have e3 : ((way.size : Int) - 1).toNat = way.size - 1 := by omega
  have e4 : IntKind.i64.wrap ((way.size : Int) - 1) = (way.size : Int) - 1 := IntWalk.i64_in _ (by omega)
  have s1 := slice_lastR way h hw0 hh
  have t1 : (h.toList == (nameAt bs (bs.length - 1)).toList) = true := by rw [toList_eq_iff]; exact decide_eq_true hz
  have HM := Lib.hid (show cut301 (L ++ runsF bs es (lastN bs) n h way) = L ++ [way] from by rw [hz, runsF_end]; unfold cut301; exact List.take_of_length_le (by simp; omega))
  clear hz
  go_enter Tryz.func35, Tryz.ntmps35
  go_wp2_with (at_builtin; refine wpList_append_own_at _ rfl _ _ 29 rfl wB.heap.size 9 i0 (.string ⟨#[]⟩) 1 16 Tryz.underlying29 hi hz0 hz1 hz2 rfl (by decide) _ _ _ rfl ((hown.alloc _).alloc _) ⟨w.heap.size + 1, 0, none⟩ 1 1 [.string way] rfl rfl (fun j u hj => by have := cell_one_new (w.alloc (.cells #[.slice (some ⟨b, off, none⟩) bs.length cb, .slice ae es.length ce] 26)) (.string way) 9 j u hj; simpa using this) (one_one _ rfl) (by unfold maxLen; omega) (by omega) (by simp; omega) ?_; intro v' w4 hown4 hgrow4 _ how4)
  go_ret
  refine ⟨v', rfl, by rw [HM.out]; simpa using hown4, grownR (grown_of_below (((Below.refl _ w).alloc (Nat.le_refl _) _).alloc (by simp) _) _) hgrow4 (.inl rfl), ?_⟩
  rcases how4 with h | h
  · exact .inl h
  · exact .inr ⟨_, by simp; omega, h⟩
set_option maxRecDepth 100000 in
set_option maxHeartbeats 3200000 in
theorem l2All_last (wB : World) (bs es : List Pr) (ab ae : Option Addr) (cb ce : Nat) (hV : Valid bs es) (hpb : PairsAt wB ab bs) (_ : PairsAt wB ae es) (K : Nat) (hK : K ≤ 12) (way h : ByteArray) (L : List ByteArray) (v : Value) (w : World) (hn : way.size = K) (hw0 : 0 < way.size) (hh : way.extract (way.size - 1) way.size = h) (hL : L.length ≤ 300) (hown : w.ownsRow wB.heap.size 9 1 v L.length (L.map Value.string)) (hbl : Below wB.heap.size wB w) (hz : h ≠ lastN bs) :
    Calls Tryz.prog 35 #[.agg #[.slice ab bs.length cb, .slice ae es.length ce], .string way, .int .i64 (K : Int), v] w (ListPostR wB.heap.size w v (cut301 (L ++ runsF bs es (lastN bs) 0 h way))) := by
  have hlb := hV.b.lo
  have hhb := hV.b.hi
  have hsz := hbl.size
  obtain ⟨b, off, hpe0, hb, g1, g2⟩ := hpb.cell (bs.length - 1) (by omega)
  obtain ⟨wa, wc, rfl⟩ := own_form hown
  have hb1 : Below wB.heap.size wB (w.alloc (.cells #[.slice ab bs.length cb, .slice ae es.length ce] 26)) := hbl.alloc hsz _
  have d1 := (hb1.cell (p := ⟨b, off + (bs.length - 1) * 2, none⟩) hb).trans g1
  subst hpe0
  have l1 : (0 : Int) ≤ (bs.length : Int) - 1 := by omega
  have l2 : (bs.length : Int) - 1 < (bs.length : Int) := by omega
  have l4 : (1 : Int) ≤ (bs.length : Int) := by omega
  have l5 : 1 ≤ bs.length := by omega
  have l7 : (1 : Int) ≤ (way.size : Int) := by omega
  have e1 : IntKind.i64.wrap ((bs.length : Int) - 1) = (bs.length : Int) - 1 := IntWalk.i64_in _ (by omega)
  have e2 : ((bs.length : Int) - 1).toNat = bs.length - 1 := by omega
  have e3 : ((way.size : Int) - 1).toNat = way.size - 1 := by omega
  have e4 : IntKind.i64.wrap ((way.size : Int) - 1) = (way.size : Int) - 1 := IntWalk.i64_in _ (by omega)
  have s1 := slice_lastR way h hw0 hh
  have t1 : (h.toList == (nameAt bs (bs.length - 1)).toList) = false := by rw [toList_eq_iff]; exact decide_eq_false hz
  have t2 : ((way.size : Int) == (K : Int)) = true := by simp; omega
  have HM := Lib.hid (show cut301 (L ++ runsF bs es (lastN bs) 0 h way) = L from by rw [runsF_last hz]; unfold cut301; rw [List.append_nil]; exact List.take_of_length_le (by omega))
  clear hz hn
  go_enter Tryz.func35, Tryz.ntmps35
  go_wp2
  go_ret
  exact ⟨_, rfl, by rw [HM.out]; exact hown.alloc _, grown_of_below ((Below.refl _ w).alloc (Nat.le_refl _) _) _, .inl rfl⟩
set_option maxRecDepth 100000 in
set_option maxHeartbeats 3200000 in
theorem l2All_any (wB : World) (bs es : List Pr) (ab ae : Option Addr) (cb ce : Nat) (hV : Valid bs es) (hpb : PairsAt wB ab bs) (hpe : PairsAt wB ae es) (K : Nat) (hK : K ≤ 12) :
    ∀ (n : Nat) (way h : ByteArray) (L : List ByteArray) (v : Value) (w : World) (_ : way.size + n = K) (_ : 0 < way.size) (_ : way.extract (way.size - 1) way.size = h) (_ : L.length ≤ 300) (_ : w.ownsRow wB.heap.size 9 1 v L.length (L.map Value.string)) (_ : Below wB.heap.size wB w),
    Calls Tryz.prog 35 #[.agg #[.slice ab bs.length cb, .slice ae es.length ce], .string way, .int .i64 (K : Int), v] w (ListPostR wB.heap.size w v (cut301 (L ++ runsF bs es (lastN bs) n h way))) := by
  intro n
  induction n with
  | zero =>
    intro way h L v w hn hw0 hh hL hown hbl
    by_cases hz : h = lastN bs
    · exact l2All_end wB bs es ab ae cb ce hV hpb hpe K hK 0 way h L v w hn hw0 hh hL hown hbl hz
    · exact l2All_last wB bs es ab ae cb ce hV hpb hpe K hK way h L v w hn hw0 hh hL hown hbl hz
  | succ n ih =>
    intro way h L v w hn hw0 hh hL hown hbl
    by_cases hz : h = lastN bs
    · exact l2All_end wB bs es ab ae cb ce hV hpb hpe K hK (n + 1) way h L v w hn hw0 hh hL hown hbl hz
    have hlb := hV.b.lo
    have hhb := hV.b.hi
    have hsz := hbl.size
    obtain ⟨b, off, hpe0, hb, g1, g2⟩ := hpb.cell (bs.length - 1) (by omega)
    obtain ⟨wa, wc, rfl⟩ := own_form hown
    have hb1 : Below wB.heap.size wB (w.alloc (.cells #[.slice ab bs.length cb, .slice ae es.length ce] 26)) := hbl.alloc hsz _
    have d1 := (hb1.cell (p := ⟨b, off + (bs.length - 1) * 2, none⟩) hb).trans g1
    subst hpe0
    have l1 : (0 : Int) ≤ (bs.length : Int) - 1 := by omega
    have l2 : (bs.length : Int) - 1 < (bs.length : Int) := by omega
    have l4 : (1 : Int) ≤ (bs.length : Int) := by omega
    have l5 : 1 ≤ bs.length := by omega
    have l7 : (1 : Int) ≤ (way.size : Int) := by omega
    have e1 : IntKind.i64.wrap ((bs.length : Int) - 1) = (bs.length : Int) - 1 := IntWalk.i64_in _ (by omega)
    have e2 : ((bs.length : Int) - 1).toNat = bs.length - 1 := by omega
    have e3 : ((way.size : Int) - 1).toNat = way.size - 1 := by omega
    have e4 : IntKind.i64.wrap ((way.size : Int) - 1) = (way.size : Int) - 1 := IntWalk.i64_in _ (by omega)
    have s1 := slice_lastR way h hw0 hh
    have t1 : (h.toList == (nameAt bs (bs.length - 1)).toList) = false := by rw [toList_eq_iff]; exact decide_eq_false hz
    have t2 : ((way.size : Int) == (K : Int)) = false := by simp; omega
    obtain ⟨G, hG⟩ : ∃ G : Nat → List ByteArray, ∀ m, cut301 (L ++ runsP bs es (lastN bs) n h way m) = G m := ⟨_, fun _ => rfl⟩
    have G0 : G 0 = L := by rw [← hG, runsP_zero, List.append_nil]; unfold cut301; exact List.take_of_length_le (by omega)
    have Ge : cut301 (L ++ runsF bs es (lastN bs) (n + 1) h way) = G bs.length := by rw [← hG, runsF_on hz]
    have Gy : ∀ m, (h, nameAt bs m) ∈ es → (G m).length ≤ 300 → cut301 (G m ++ runsF bs es (lastN bs) n (nameAt bs m) (way ++ nameAt bs m)) = G (m + 1) := fun m he hl => by
      rw [← hG] at hl
      rw [← hG, ← hG, cut301_few hl, runsP_yes he, List.append_assoc]
    have Gn : ∀ m, (h, nameAt bs m) ∉ es → G m = G (m + 1) := fun m he => by rw [← hG, ← hG, runsP_no he]
    have Gm : ∀ m, ¬ (G m).length ≤ 300 → G m = G (m + 1) := fun m hl => by
      rw [← hG] at hl
      by_cases he : (h, nameAt bs m) ∈ es
      · rw [← hG, ← hG, runsP_yes he, ← List.append_assoc, cut301_many hl]
      · exact Gn m he
    have Gl : ∀ m, (G m).length ≤ 301 := fun m => by rw [← hG]; exact cut301_len _
    have HG := Lib.hid (And.intro Ge (And.intro Gy (And.intro Gn (And.intro Gm Gl))))
    have HV := Lib.hid hV
    have hown1 := hown.alloc (.cells #[.slice (some ⟨b, off, none⟩) bs.length cb, .slice ae es.length ce] 26)
    obtain ⟨ob, hob⟩ : ∃ ob, (Value.slice wa L.length wc).ownBlock = ob := ⟨_, rfl⟩
    have hlt0 : ∀ j, ob = some j → wB.heap.size ≤ j ∧ j < w.heap.size := fun j hj => hown.lt j (hob.trans hj)
    have HH := Lib.hid hh
    have HN := Lib.hid hn
    have HG0 := Lib.hid G0
    have hgw := grown_of_below ((Below.refl w.heap.size w).alloc (Nat.le_refl _) (.cells #[.slice (some ⟨b, off, none⟩) bs.length cb, .slice ae es.length ce] 26)) ob
    have y0 : (w.alloc (.cells #[.slice (some ⟨b, off, none⟩) bs.length cb, .slice ae es.length ce] 26)).cell? ⟨w.heap.size, 0, none⟩ = some (.slice (some ⟨b, off, none⟩) bs.length cb) := by go_simp
    have y1 : (w.alloc (.cells #[.slice (some ⟨b, off, none⟩) bs.length cb, .slice ae es.length ce] 26)).cell? ⟨w.heap.size, 1, none⟩ = some (.slice ae es.length ce) := by go_simp
    have hszA : w.heap.size < (w.alloc (.cells #[.slice (some ⟨b, off, none⟩) bs.length cb, .slice ae es.length ce] 26)).heap.size := by simp
    have HP := Lib.hid (And.intro hpb hpe)
    clear Ge Gy Gn Gm Gl hG hz hV hh hn G0 hown hpb hpe hbl
    go_enter Tryz.func35, Tryz.ntmps35
    go_wp2
    generalize w.alloc (.cells #[.slice (some ⟨b, off, none⟩) bs.length cb, .slice ae es.length ce] 26) = wA at *
    have HA := Lib.hid (And.intro hb1 (And.intro hgw (And.intro y0 y1)))
    have HO := Lib.hid hob
    clear hb1 hgw y0 y1 d1 g1 g2 t1 t2 s1
    go_loopw [3, 40] (fun o i wr => ∃ m : Nat, m ≤ bs.length ∧ i = .int .i64 m ∧ wr.ownsRow wB.heap.size 9 1 o (G m).length ((G m).map Value.string) ∧ wA.grownBy wr ob ∧ (o.ownBlock = ob ∨ ∃ j, wA.heap.size ≤ j ∧ o.ownBlock = some j)) (fun _ i _ => bs.length - (intOf i).toNat)
    case atStart => exact ⟨0, Nat.zero_le _, rfl, by rw [HG0.out]; exact hown1, grown_of_below (Below.refl _ _) _, .inl HO.out⟩
    case round =>
      obtain ⟨m, hm, rfl, howr, hgr, hfar⟩ := hrel
      have hzr := hgr.size
      have x0 := (World.cell?_of_block (a := ⟨w.heap.size, 0, none⟩) (hgr.block w.heap.size hszA (fun e => by have := (hlt0 _ e.symm).2; omega))).trans HA.out.2.2.1
      have x1 := (World.cell?_of_block (a := ⟨w.heap.size, 1, none⟩) (hgr.block w.heap.size hszA (fun e => by have := (hlt0 _ e.symm).2; omega))).trans HA.out.2.2.2
      have hbr : Below wB.heap.size wB wr := HA.out.1.grown hgr (by have := HA.out.1.size; omega) (fun k hk => (hlt0 k hk).1)
      obtain ⟨oa, oc, rfl⟩ := own_form howr
      have HR := Lib.hid (And.intro howr (And.intro hgr (And.intro hfar hbr)))
      clear howr hgr hfar
      by_cases hlt : m < bs.length
      · obtain ⟨b', off', e', hb', c1, c2⟩ := HP.out.1.cell m hlt
        have eb : b' = b ∧ off' = off := by simp at e'; exact ⟨e'.1.symm, e'.2.symm⟩
        obtain ⟨rfl, rfl⟩ := eb
        have d1 := (hbr.cell (p := ⟨b', off' + m * 2, none⟩) hb').trans c1
        have d2 := (hbr.cell (p := ⟨b', off' + m * 2 + 1, none⟩) hb').trans c2
        have z0 := (World.cell?_of_block (a := ⟨w.heap.size, 0, none⟩) (Below.heap_alloc wr (.cells #[.string (nameAt bs m), .string (restAt bs m)] 82) w.heap.size (by omega))).trans x0
        have z1 := (World.cell?_of_block (a := ⟨w.heap.size, 1, none⟩) (Below.heap_alloc wr (.cells #[.string (nameAt bs m), .string (restAt bs m)] 82) w.heap.size (by omega))).trans x1
        have z2 : (wr.alloc (.cells #[.string (nameAt bs m), .string (restAt bs m)] 82)).cell? ⟨wr.heap.size, 0, none⟩ = some (.string (nameAt bs m)) := by go_simp
        have hbb := hbr.alloc hbr.size (.cells #[.string (nameAt bs m), .string (restAt bs m)] 82)
        have hob2 := HR.out.1.alloc (.cells #[.string (nameAt bs m), .string (restAt bs m)] 82)
        have hgb := grownR HR.out.2.1 (grown_of_below ((Below.refl wr.heap.size wr).alloc (Nat.le_refl _) (.cells #[.string (nameAt bs m), .string (restAt bs m)] 82)) ob) (.inl rfl)
        have hzb : wr.heap.size < (wr.alloc (.cells #[.string (nameAt bs m), .string (restAt bs m)] 82)).heap.size := by simp
        clear c1 c2 hb' e' hbr
        by_cases hle : (G m).length ≤ 300
        · have dle : ((G m).length : Int) ≤ 300 := by omega
          have hnm := name_sizeR HV.out.b hlt
          have t3 : ¬ 9223372036854775807 < way.size + (nameAt bs m).size := by have := HN.out; omega
          have t4 : ¬ 9223372036854775807 < way.size + 1 := by have := HN.out; omega
          have HNm := Lib.hid hnm
          clear hnm
          by_cases he : (h, nameAt bs m) ∈ es
          · obtain ⟨kk, _, hk, _⟩ := fndE_yes he
            have HK := Lib.hid hk
            have HE := Lib.hid (HG.out.2.1 m he hle)
            clear hk he
            go_wp2_with fail
            generalize wr.alloc (.cells #[.string (nameAt bs m), .string (restAt bs m)] 82) = wb at *
            refine (l1Edge_yes h (nameAt bs m) _ es _ _ _ kk HK.out (HP.out.2.below hbb)).mono ?_
            rintro e wN ⟨rfl, hbN⟩
            have hzn := hbN.size
            have u0 := (hbN.cell (p := ⟨w.heap.size, 0, none⟩) (by show w.heap.size < _; omega)).trans z0
            have u1 := (hbN.cell (p := ⟨w.heap.size, 1, none⟩) (by show w.heap.size < _; omega)).trans z1
            have u2 := (hbN.cell (p := ⟨wr.heap.size, 0, none⟩) hzb).trans z2
            have hoN := ownsRow_below hob2 hbN
            have hgN := grownR hgb (grown_of_below hbN ob) (.inl rfl)
            have hBN : Below wB.heap.size wB wN := hbb.trans (hbN.mono hbb.size)
            have HNN := Lib.hid (And.intro hoN (And.intro hgN hBN))
            clear z0 z1 z2 hob2 hgb hbb hbN hoN hgN hBN
            go_wp2_with fail
            refine (ih (way ++ nameAt bs m) (nameAt bs m) (G m) _ wN (by rw [ByteArray.size_append, HNm.out]; have := HN.out; omega) (by rw [ByteArray.size_append, HNm.out]; omega) (app_lastR HNm.out) hle HNN.out.1 HNN.out.2.2).mono ?_
            rintro e wM ⟨v', rfl, hoM, hgM, hfM⟩
            have hfar2 := own_farR (v2 := v'.ownBlock) (Nat.le_trans HR.out.2.1.size (by omega)) HR.out.2.2.1 hfM
            have hgM2 := grownR HNN.out.2.1 hgM HR.out.2.2.1
            rw [HE.out] at hoM
            have HM := Lib.hid (And.intro hoM (And.intro hgM2 hfar2))
            clear hoM hgM hfM hgM2 hfar2
            go_wp2
            go_roundw
            case rel => exact ⟨m + 1, by omega, by go_num, HM.out⟩
            case measure => simp [intOf]; omega
          · have HE := Lib.hid (HG.out.2.2.1 m he)
            have HI := Lib.hid he
            clear he
            go_wp2_with fail
            generalize wr.alloc (.cells #[.string (nameAt bs m), .string (restAt bs m)] 82) = wb at *
            refine (l1Edge_no h (nameAt bs m) _ es _ _ _ HI.out (HP.out.2.below hbb)).mono ?_
            rintro e wN ⟨rfl, hbN⟩
            have hzn := hbN.size
            have HNN := Lib.hid (And.intro (ownsRow_below hob2 hbN) (grownR hgb (grown_of_below hbN ob) (.inl rfl)))
            clear hob2 hgb hbN
            go_wp2
            go_roundw
            case rel => exact ⟨m + 1, by omega, by go_num, by rw [← HE.out]; exact HNN.out.1, HNN.out.2, HR.out.2.2.1⟩
            case measure => simp [intOf]; omega
        · have dle : ¬ ((G m).length : Int) ≤ 300 := by omega
          have ddle : decide (((G m).length : Int) ≤ 300) = false := decide_eq_false dle
          have HE := Lib.hid (HG.out.2.2.2.1 m hle)
          go_wp2
          go_roundw
          case rel => exact ⟨m + 1, by omega, by go_num, by rw [← HE.out]; exact hob2, hgb, HR.out.2.2.1⟩
          case measure => simp [intOf]; omega
      · obtain rfl : m = bs.length := by omega
        go_wp2
        go_ret
        exact ⟨_, rfl, by rw [HG.out.1]; exact HR.out.1, by rw [HO.out]; exact grownR HA.out.2.1 HR.out.2.1 (.inl rfl), by rw [HO.out]; exact own_farR (by omega) (.inl rfl) HR.out.2.2.1⟩
open Classical in
/-- what RunsUpTo answers -/
noncomputable def runsR (bs es : List Pr) (k : Int) : List ByteArray × Bool :=
  if validB bs es = true ∧ inB k 0 12 = true ∧ (allRuns bs es k.toNat).length ≤ 300 then (allRuns bs es k.toNat, true) else ([], false)
def RunsPost (w : World) (r : List ByteArray × Bool) (e : Ending) (w' : World) : Prop :=
  ∃ v, e = .returned (.tuple #[v, .bool r.2]) ∧ w'.ownsRow w.heap.size 9 1 v r.1.length (r.1.map Value.string) ∧ Below w.heap.size w w'
theorem runsR_no1 {bs es : List Pr} {k : Int} (h : validB bs es = false) : runsR bs es k = ([], false) := by unfold runsR; rw [if_neg (fun h' => by rw [h] at h'; exact absurd h'.1 (by decide))]
theorem runsR_no2 {bs es : List Pr} {k : Int} (h : inB k 0 12 = false) : runsR bs es k = ([], false) := by unfold runsR; rw [if_neg (fun h' => by rw [h] at h'; exact absurd h'.2.1 (by decide))]
theorem runsR_no3 {bs es : List Pr} {k : Nat} (h : ¬ (allRuns bs es k).length ≤ 300) : runsR bs es (k : Int) = ([], false) := by unfold runsR; rw [Int.toNat_natCast, if_neg (fun h' => h h'.2.2)]
theorem runsR_yes {bs es : List Pr} {k : Nat} (hv : validB bs es = true) (hk : inB (k : Int) 0 12 = true) (h : (allRuns bs es k).length ≤ 300) : runsR bs es (k : Int) = (allRuns bs es k, true) := by unfold runsR; rw [Int.toNat_natCast, if_pos ⟨hv, hk, h⟩]
theorem allRuns_few {bs es : List Pr} {k : Nat} (h : k ≤ 1) : allRuns bs es k = [] := by unfold allRuns; rw [if_neg (by omega)]
theorem allRuns_more {bs es : List Pr} {k : Nat} (h : 1 < k) : allRuns bs es k = runsF bs es (lastN bs) (k - 1) (nameAt bs 0) (nameAt bs 0) := by unfold allRuns; rw [if_pos h]; rfl
theorem one_lastR {y : ByteArray} (hy : y.size = 1) : y.extract (y.size - 1) y.size = y := by
  apply bytes_ext2
  have h2 : y.data.size = 1 := hy
  simp [ByteArray.data_extract, hy]
  exact List.take_of_length_le (by rw [Array.length_toList, h2]; exact Nat.le_refl _)
theorem l1In_at (n lo hi : Int) (b : Bool) (h : inB n lo hi = b) (w : World) :
    Calls Tryz.prog 34 #[.int .i64 n, .int .i64 lo, .int .i64 hi] w fun e w' => e = .returned (.bool b) ∧ w = w' := by subst h; exact l1In_any n lo hi w

set_option maxRecDepth 100000 in
set_option maxHeartbeats 3200000 in
theorem RunsUpTo_spec (w : World) (bs es : List Pr) (ab ae : Option Addr) (cb ce : Nat) (k : Int) (hpb : PairsAt w ab bs) (hpe : PairsAt w ae es) :
    Calls Tryz.prog 8 #[.agg #[.slice ab bs.length cb, .slice ae es.length ce], .int .i64 k] w (RunsPost w (runsR bs es k)) := by
  have h1 : Below w.heap.size w (w.alloc (.cells #[.slice ab bs.length cb, .slice ae es.length ce] 26)) := (Below.refl _ _).alloc (Nat.le_refl _) _
  have hpb1 := hpb.below h1
  have hpe1 := hpe.below h1
  have H1 := Lib.hid h1; clear h1
  cases hv : validB bs es
  · have HV := Lib.hid (show validB bs es = false from hv)
    have HR := Lib.hid (runsR_no1 (k := k) hv)
    clear hv
    go_enter Tryz.func8, Tryz.ntmps8
    go_wp2_with fail
    refine (ProgValid_spec _ bs es _ _ _ _ hpb1 hpe1).mono ?_
    rintro e w1 ⟨rfl, hb1⟩
    rw [HV.out]
    have hall : Below w.heap.size w w1 := H1.out.trans (hb1.mono (by simp))
    go_wp2
    go_ret2
    exact ⟨_, by rw [HR.out]; rfl, by rw [HR.out]; exact World.ownsRow_made w1 #[] 0 hall.size (Nat.zero_le _) rfl, hall.alloc hall.size _⟩
  · have HV := Lib.hid (show validB bs es = true from hv)
    clear hv
    cases hk : inB k 0 12
    · have HK := Lib.hid hk
      have HR := Lib.hid (runsR_no2 (bs := bs) (es := es) hk)
      clear hk
      go_enter Tryz.func8, Tryz.ntmps8
      go_wp2_with fail
      refine (ProgValid_spec _ bs es _ _ _ _ hpb1 hpe1).mono ?_
      rintro e w1 ⟨rfl, hb1⟩
      rw [HV.out]
      have hall : Below w.heap.size w w1 := H1.out.trans (hb1.mono (by simp))
      clear hb1
      go_wp2_with fail
      refine (l1In_at k 0 12 false HK.out w1).mono ?_
      rintro e w2 ⟨rfl, rfl⟩
      go_wp2
      go_ret2
      exact ⟨_, by rw [HR.out]; rfl, by rw [HR.out]; exact World.ownsRow_made w1 #[] 0 hall.size (Nat.zero_le _) rfl, hall.alloc hall.size _⟩
    · obtain ⟨K, rfl, hK⟩ : ∃ K : Nat, k = (K : Int) ∧ K ≤ 12 := by
        have := hk
        simp [inB] at this
        exact ⟨k.toNat, by omega, by omega⟩
      have HK := Lib.hid hk
      clear hk
      by_cases hK1 : K ≤ 1
      · have HR := Lib.hid (runsR_yes HV.out HK.out (by rw [allRuns_few hK1]; exact Nat.zero_le _))
        have HA := Lib.hid (allRuns_few (bs := bs) (es := es) hK1)
        have t1 : ¬ (1 : Int) < (K : Int) := by omega
        clear hK1 hK
        go_enter Tryz.func8, Tryz.ntmps8
        go_wp2_with fail
        refine (ProgValid_spec _ bs es _ _ _ _ hpb1 hpe1).mono ?_
        rintro e w1 ⟨rfl, hb1⟩
        rw [HV.out]
        have hall : Below w.heap.size w w1 := H1.out.trans (hb1.mono (by simp))
        clear hb1
        go_wp2_with fail
        refine (l1In_at (K : Int) 0 12 true HK.out w1).mono ?_
        rintro e w2 ⟨rfl, rfl⟩
        go_wp2
        go_ret2
        exact ⟨_, by rw [HR.out]; rfl, by rw [HR.out, HA.out]; exact World.ownsRow_made w1 #[] 0 hall.size (Nat.zero_le _) rfl, hall.alloc hall.size _⟩
      · have hV : Valid bs es := by simpa [validB] using HV.out
        have hlb := hV.b.lo
        have hnm := name_sizeR hV.b (i := 0) (by omega)
        have HA := Lib.hid (allRuns_more (bs := bs) (es := es) (k := K) (by omega))
        have t1 : (1 : Int) < (K : Int) := by omega
        obtain ⟨b, off, rfl, hb, g1, _⟩ := hpb.cell 0 (by omega)
        simp only [Nat.zero_mul, Nat.add_zero] at g1
        have h0 : (0 : Int) < (bs.length : Int) := by omega
        have h00 : 0 < bs.length := by omega
        have HX := Lib.hid (And.intro hV (And.intro hnm hK1))
        clear hV hnm hK1
        go_enter Tryz.func8, Tryz.ntmps8
        go_wp2_with fail
        refine (ProgValid_spec _ bs es _ _ _ _ hpb1 hpe1).mono ?_
        rintro e w1 ⟨rfl, hb1⟩
        rw [HV.out]
        have hall : Below w.heap.size w w1 := H1.out.trans (hb1.mono (by simp))
        have hszq : w.heap.size < w1.heap.size := by have := hb1.size; simp at this; omega
        have c0 := (hb1.cell (p := ⟨w.heap.size, 0, none⟩) (by simp)).trans (show _ = some (.slice (some ⟨b, off, none⟩) bs.length cb) by go_simp)
        have c1 := (hb1.cell (p := ⟨w.heap.size, 1, none⟩) (by simp)).trans (show _ = some (.slice ae es.length ce) by go_simp)
        have c2 := (hall.cell (p := ⟨b, off, none⟩) hb).trans g1
        have hzb : b < w1.heap.size := by have := hall.size; omega
        have HP := Lib.hid (And.intro hall (And.intro (hpb.below hall) (hpe.below hall)))
        clear hb1 hall hpb1 hpe1 g1
        go_wp2_with fail
        refine (l1In_at (K : Int) 0 12 true HK.out w1).mono ?_
        rintro e w2 ⟨rfl, rfl⟩
        go_wp2
        have x0 := (World.cell?_of_block (a := ⟨w.heap.size, 0, none⟩) (Below.heap_alloc w1 (.cells #[] 9) w.heap.size hszq)).trans c0
        have x1 := (World.cell?_of_block (a := ⟨w.heap.size, 1, none⟩) (Below.heap_alloc w1 (.cells #[] 9) w.heap.size hszq)).trans c1
        have x2 := (World.cell?_of_block (a := ⟨b, off, none⟩) (Below.heap_alloc w1 (.cells #[] 9) b hzb)).trans c2
        have how : (w1.alloc (.cells #[] 9)).ownsRow w1.heap.size 9 1 (.slice (some ⟨w1.heap.size, 0, none⟩) 0 0) 0 [] := World.ownsRow_made w1 #[] 0 (Nat.le_refl _) (Nat.zero_le _) rfl
        have hbX : Below w1.heap.size w1 (w1.alloc (.cells #[] 9)) := (Below.refl _ _).alloc (Nat.le_refl _) _
        have hzX : w1.heap.size < (w1.alloc (.cells #[] 9)).heap.size := by simp
        clear c0 c1 c2
        generalize w1.alloc (.cells #[] 9) = wX at *
        have HO := Lib.hid (And.intro how hbX)
        have HC := Lib.hid (show ∀ W', wX.drew.grownBy W' (some w1.heap.size) → (W'.cell? ⟨w.heap.size, 0, none⟩ = some (.slice (some ⟨b, off, none⟩) bs.length cb) ∧ W'.cell? ⟨w.heap.size, 1, none⟩ = some (.slice ae es.length ce) ∧ W'.cell? ⟨b, off, none⟩ = some (.string (nameAt bs 0))) from fun W' hg =>
          ⟨(World.cell?_of_block (a := ⟨w.heap.size, 0, none⟩) (hg.block w.heap.size (by show w.heap.size < wX.heap.size; omega) (fun e => by have := Option.some.inj e; omega))).trans x0, (World.cell?_of_block (a := ⟨w.heap.size, 1, none⟩) (hg.block w.heap.size (by show w.heap.size < wX.heap.size; omega) (fun e => by have := Option.some.inj e; omega))).trans x1, (World.cell?_of_block (a := ⟨b, off, none⟩) (hg.block b (by show b < wX.heap.size; omega) (fun e => by have := Option.some.inj e; omega))).trans x2⟩)
        clear how hbX
        go_region_held_law (fun w' => w'.cell? ⟨w.heap.size, 0, none⟩ = some (.slice (some ⟨b, off, none⟩) bs.length cb) ∧ w'.cell? ⟨w.heap.size, 1, none⟩ = some (.slice ae es.length ce) ∧ w'.cell? ⟨b, off, none⟩ = some (.string (nameAt bs 0)))
          (first
            | with_reducible exact HC.out _ (grown_of_below (Below.refl _ _) _)
            | with_reducible exact ⟨x0, x1, x2⟩)
          (first
            | (go_at_call 35; refine (l2All_any w1 bs es _ _ cb ce HX.out.1 HP.out.2.1 HP.out.2.2 K hK (K - 1) (nameAt bs 0) (nameAt bs 0) [] _ wX.drew (by rw [HX.out.2.1]; have := HX.out.2.2; omega) (by rw [HX.out.2.1]; omega) (one_lastR HX.out.2.1) (Nat.zero_le _) (ownsRow_below HO.out.1 (Below.refl _ _).drew) HO.out.2.drew).mono ?_; rintro e wM ⟨v', rfl, hoM, hgM, hfM⟩; obtain ⟨x0, x1, x2⟩ := HC.out _ hgM))
        rw [List.nil_append, ← HA.out] at hoM
        obtain ⟨va, vc, rfl⟩ := own_form hoM
        have hbM : Below w1.heap.size w1 wM := HO.out.2.drew.grown hgM (by show w1.heap.size ≤ wX.heap.size; omega) (fun k hk => by simp [Value.ownBlock] at hk; omega)
        have HM := Lib.hid (And.intro (own_base hoM HP.out.1.size) (below_new HP.out.1 hbM))
        clear hoM hgM hfM hbM x0 x1 x2
        by_cases hl : (cut301 (allRuns bs es K)).length ≤ 300
        · have t2 : ¬ (300 : Int) < ((cut301 (allRuns bs es K)).length : Int) := by omega
          have HR := Lib.hid (runsR_yes HV.out HK.out (by rw [← cut301_few hl]; exact hl))
          have HE := Lib.hid (cut301_few hl)
          clear hl
          go_wp2
          go_ret2
          exact ⟨_, by rw [HR.out]; rfl, by rw [HR.out]; have := HM.out.1; rw [HE.out] at this ⊢; exact this, HM.out.2⟩
        · have t2 : (300 : Int) < ((cut301 (allRuns bs es K)).length : Int) := by omega
          have HR := Lib.hid (runsR_no3 (bs := bs) (es := es) (k := K) (fun h => hl (by unfold cut301; rw [List.length_take]; omega)))
          clear hl
          go_wp2
          go_ret2
          exact ⟨_, by rw [HR.out]; rfl, by rw [HR.out]; exact World.ownsRow_made wM #[] 0 HM.out.2.size (Nat.zero_le _) rfl, HM.out.2.alloc HM.out.2.size _⟩
end Go.Proofs.YtflnkahgmbndiaaGreatDoor
end

section
/-
  yieldRuns: the runs that begin with a way, one by one. Conditions: a course of a valid program, at most 12 blocks; what is done with a run keeps all below the course's end, and all courses.
-/
namespace Go.Proofs.YtflnkahgmbndiaaGreatDoor
open Go.RowKit Go.Maps Go.Shelf

attribute [local go_sem] Oper.semAt_some

theorem name_size' {bs : List Pr} (h : BlocksOk bs) {i : Nat} (hi : i < bs.length) : (nameAt bs i).size = 1 := by
  have := h.nm (bs.getD i (e0, e0)) (by rw [List.getD_eq_getElem?_getD, List.getElem?_eq_getElem hi]; simp)
  unfold isNm at this
  simp at this
  exact this.1
theorem ch_app' {t y : ByteArray} (hy : y.size = 1) : ch (t ++ y) ((t ++ y).size - 1) = y := by
  unfold ch
  rw [ByteArray.size_append, hy]
  apply bytes_ext2
  simp only [Nat.add_sub_cancel]
  have h2 : y.data.size = 1 := hy
  have h3 : t.data.size = t.size := rfl
  simp [ByteArray.data_extract, ByteArray.data_append, h3]
  exact List.take_of_length_le (by rw [Array.length_toList, h2]; exact Nat.le_refl _)
/-- what a round keeps -/
structure KpR (n₀ : Nat) (W W' : World) : Prop where
  below : Below n₀ W W'
  course : ∀ (k : Nat) (cs : Array Value) (fr : Nat × Nat), W.heap[k]? = some (Obj.cells cs 72 fr) → W'.heap[k]? = some (Obj.cells cs 72 fr)
theorem KpR.refl (n₀ : Nat) (W : World) : KpR n₀ W W := ⟨Below.refl _ _, fun _ _ _ h => h⟩
theorem KpR.trans {n₀ : Nat} {A B C : World} (h : KpR n₀ A B) (k : KpR n₀ B C) : KpR n₀ A C := ⟨h.below.trans k.below, fun i cs fr h' => k.course i cs fr (h.course i cs fr h')⟩
theorem KpR.alloc (n₀ : Nat) (W : World) (o : Obj) (hn : n₀ ≤ W.heap.size) : KpR n₀ W (W.alloc o) := ⟨(Below.refl _ _).alloc hn o, fun k _ _ h => (Below.heap_alloc W o k (Array.getElem?_eq_some_iff.1 h).1).trans h⟩
theorem KpR.drew {n₀ : Nat} {W W' : World} (h : KpR n₀ W W') : KpR n₀ W W'.drew := ⟨h.below.drew, h.course⟩

theorem anyDepth {m : Nat} (m' : Nat) {P : Program} {l : Nat} {args : Array Value} {W : World} {R : Ending → World → Prop} (h : YieldAt Fence.wide m P l args W R) : YieldAt Fence.wide m' P l args W R := by
  obtain ⟨fn, tmps, assign, body, hy, hR⟩ := h
  exact ⟨fn, tmps, assign, body, hy, hR.1, fun c cs _ => hR.2 c cs (fun d h => by cases h)⟩

/-- 'far' of a block, in a later world -/
theorem far_lookR {wB W : World} {o lo li f : Nat} {vn : Value} {bs es : List Pr} {D : ByteArray → Option Nat} (hC : CourseAt wB o lo li vn f bs es D) (hB : Below wB.heap.size wB W) {h : ByteArray} (hs : h.size ≤ 1048576) {d : Nat} (hd : D h = some d) :
    (Instr.lookup 70 (.map (some f)) (.string h) false).run Tryz.prog W = .ok (.int .i64 (d : Int)) W := by
  obtain ⟨n, hm⟩ := (hC.keep hB).far
  have lk := hm.look Tryz.underlying70 (zeroInt _) (mx hs)
  rw [hd] at lk
  exact lk

variable (wB : World) (o lo li f : Nat) (ga : Option Addr) (gc : Nat) (bs es : List Pr) (D : ByteArray → Option Nat)

set_option maxRecDepth 100000 in
set_option maxHeartbeats 3200000 in
theorem yield_far (hC : CourseAt wB o lo li (.slice ga bs.length gc) f bs es D) (K : Nat) (l m : Nat) (way h : ByteArray) (W : World) (J : World → Prop) (hJA : ∀ W W', J W → W.grownBy W' none → J W') (hw0 : 0 < way.size) (hw1 : way.size ≤ 12) (hh : ch way (way.size - 1) = h) (hs : h.size ≤ 1048576) (d : Nat) (hd : D h = some d) (hd2 : d ≤ 16) (hfar : K < way.size + d) (hJ : J W) (hB : Below wB.heap.size wB W) :
    CallsIn Fence.wide m Tryz.prog 68 #[.agg #[.map (some o), .map (some lo), .map (some li), .slice ga bs.length gc, .map (some f)], .string way, .int .i64 (K : Int), .func (.yield l) #[] #[]] W fun e W' => e = .returned (.bool true) ∧ J W' ∧ KpR wB.heap.size W W' := by
  have hsz := hB.size
  have hdd : ∀ k : Nat, (Fence.wide.depth.isSome = true → 1 ≤ k) := fun k h => by cases h
  have lk := far_lookR hC (hB.alloc hsz (.cells #[.map (some o), .map (some lo), .map (some li), .slice ga bs.length gc, .map (some f)] 72)) hs hd
  have e5 : IntKind.i64.wrap ((way.size : Int) + (d : Int)) = (way.size : Int) + (d : Int) := IntWalk.i64_in _ (by omega)
  have t1 : (K : Int) < (way.size : Int) + (d : Int) := by omega
  have hlo := lastOf_any way (way.size - 1) (by omega) (by omega) (W.alloc (.cells #[.map (some o), .map (some lo), .map (some li), .slice ga bs.length gc, .map (some f)] 72))
  rw [hh] at hlo
  have HL := Lib.hid hlo
  have HH := Lib.hid (And.intro (hJA _ _ hJ (World.grownBy_alloc W (.cells #[.map (some o), .map (some lo), .map (some li), .slice ga bs.length gc, .map (some f)] 72) none)) (KpR.alloc wB.heap.size W (.cells #[.map (some o), .map (some lo), .map (some li), .slice ga bs.length gc, .map (some f)] 72) hsz))
  clear hlo hh hd hfar hB hJ hC
  refine callsIn_of_wp Tryz.func68 rfl trivial ?_ rfl
  simp only [Tryz.ntmps68, List.size_toArray, List.length_cons, List.length_nil, Nat.reduceAdd, Nat.reduceSub, Array.replicate_succ, Array.replicate_zero, List.push_toArray, List.append_toArray, List.nil_append, List.cons_append]
  gi_wp2_with ((try refine ⟨trivial, hdd _, ?_⟩); gi_at_call 41; refine (callsIn_wide.2 HL.out).mono ?_; rintro e w' ⟨rfl, rfl⟩)
  go_ret
  exact ⟨rfl, HH.out⟩
set_option maxRecDepth 100000 in
set_option maxHeartbeats 3200000 in
theorem yield_end (hC : CourseAt wB o lo li (.slice ga bs.length gc) f bs es D) (K : Nat) (l m : Nat) (way h : ByteArray) (W : World) (J Jx : World → Prop) (hw0 : 0 < way.size) (hw1 : way.size ≤ 12) (hh : ch way (way.size - 1) = h) (hs : h.size ≤ 1048576) (hd : D h = some 0) (hK : way.size ≤ K)
    (hY : ∀ m', YieldAt Fence.wide m' Tryz.prog l #[.string way] (W.alloc (.cells #[.map (some o), .map (some lo), .map (some li), .slice ga bs.length gc, .map (some f)] 72)) fun e W' => (e = .returned (.bool true) ∧ J W' ∧ KpR wB.heap.size W W') ∨ (e = .returned (.bool false) ∧ Jx W')) (hB : Below wB.heap.size wB W) :
    CallsIn Fence.wide m Tryz.prog 68 #[.agg #[.map (some o), .map (some lo), .map (some li), .slice ga bs.length gc, .map (some f)], .string way, .int .i64 (K : Int), .func (.yield l) #[] #[]] W fun e W' => (e = .returned (.bool true) ∧ J W' ∧ KpR wB.heap.size W W') ∨ (e = .returned (.bool false) ∧ Jx W') := by
  have hsz := hB.size
  have hdd : ∀ k : Nat, (Fence.wide.depth.isSome = true → 1 ≤ k) := fun k h => by cases h
  have lk := far_lookR hC (hB.alloc hsz (.cells #[.map (some o), .map (some lo), .map (some li), .slice ga bs.length gc, .map (some f)] 72)) hs hd
  have e5 : IntKind.i64.wrap ((way.size : Int) + ((0 : Nat) : Int)) = (way.size : Int) := by rw [Int.natCast_zero, Int.add_zero]; exact IntWalk.i64_in _ (by omega)
  have e6 : IntKind.i64.wrap (way.size : Int) = (way.size : Int) := IntWalk.i64_in _ (by omega)
  have t1 : ¬ (K : Int) < (way.size : Int) := by omega
  have hlo := lastOf_any way (way.size - 1) (by omega) (by omega) (W.alloc (.cells #[.map (some o), .map (some lo), .map (some li), .slice ga bs.length gc, .map (some f)] 72))
  rw [hh] at hlo
  have HL := Lib.hid hlo
  obtain ⟨fn, tmps, assign, body, hy, hR⟩ := hY (m - 1)
  clear hlo hh hd hB hC hK hY
  refine callsIn_of_wp Tryz.func68 rfl trivial ?_ rfl
  simp only [Tryz.ntmps68, List.size_toArray, List.length_cons, List.length_nil, Nat.reduceAdd, Nat.reduceSub, Array.replicate_succ, Array.replicate_zero, List.push_toArray, List.append_toArray, List.nil_append, List.cons_append]
  gi_wp2_with (first
    | ((try refine ⟨trivial, hdd _, ?_⟩); gi_at_call 41; refine (callsIn_wide.2 HL.out).mono ?_; rintro e w' ⟨rfl, rfl⟩)
    | ((try refine ⟨trivial, hdd _, ?_⟩); (try refine ⟨hdd _, ?_⟩); refine hR.mono ?_; clear hR; rintro e W2 (⟨rfl, hJ2, hb2⟩ | ⟨rfl, hx2⟩)))
  · go_ret
    exact .inl ⟨rfl, hJ2, hb2⟩
  · go_ret
    exact .inr ⟨rfl, hx2⟩
theorem runsP_pre {bs es : List Pr} {z h way : ByteArray} {n : Nat} {q k : Nat} (hqk : q ≤ k) : runsP bs es z n h way q <+: runsP bs es z n h way k := by
  induction k with
  | zero => obtain rfl : q = 0 := by omega
            exact List.prefix_refl _
  | succ k ih =>
    rcases Nat.lt_or_ge k q with h1 | h1
    · obtain rfl : q = k + 1 := by omega
      exact List.prefix_refl _
    · refine (ih h1).trans ?_
      by_cases he : (h, nameAt bs k) ∈ es
      · rw [runsP_yes he]; exact List.prefix_append _ _
      · rw [runsP_no he]; exact List.prefix_refl _
theorem runsP_len (bs es : List Pr) (z : ByteArray) (n : Nat) (h way : ByteArray) {q N : Nat} (hq : q < bs.length) {pre : List ByteArray} (hl : pre.length + (runsP bs es z n h way bs.length).length ≤ N) (he : (h, nameAt bs q) ∈ es) :
    (pre ++ runsP bs es z n h way q).length + (runsF bs es z n (nameAt bs q) (way ++ nameAt bs q)).length ≤ N := by
  have h1 := (runsP_pre (bs := bs) (es := es) (z := z) (h := h) (way := way) (n := n) (show q + 1 ≤ bs.length from hq)).length_le
  rw [runsP_yes he, List.length_append] at h1
  rw [List.length_append]; omega
theorem runsP_stop {bs es : List Pr} {z h way : ByteArray} {n q : Nat} (hq : q < bs.length) (he : (h, nameAt bs q) ∈ es) {q' : List ByteArray} (hp : q' <+: runsF bs es z n (nameAt bs q) (way ++ nameAt bs q)) :
    runsP bs es z n h way q ++ q' <+: runsP bs es z n h way bs.length := by
  refine List.IsPrefix.trans ?_ (runsP_pre (show q + 1 ≤ bs.length from hq))
  rw [runsP_yes he]
  exact (List.prefix_append_right_inj _).2 hp
theorem name_memR {bs : List Pr} {q : Nat} (hq : q < bs.length) : nameAt bs q ∈ names bs := by
  unfold nameAt names
  rw [List.getD_eq_getElem?_getD, List.getElem?_eq_getElem hq]
  exact List.mem_map.2 ⟨_, List.getElem_mem hq, rfl⟩
/-- what comes of a call: all runs, or those ahead of a 'no more' -/
def YieldPost (n₀ : Nat) (J Jx : List ByteArray → World → Prop) (pre R : List ByteArray) (W : World) (e : Ending) (W' : World) : Prop :=
  (e = .returned (.bool true) ∧ J (pre ++ R) W' ∧ KpR n₀ W W') ∨ (e = .returned (.bool false) ∧ ∃ q, q <+: R ∧ Jx (pre ++ q) W')

open Classical in
set_option maxRecDepth 100000 in
set_option maxHeartbeats 6400000 in
theorem yieldRuns_in (hV : Valid bs es) (hC : CourseAt wB o lo li (.slice ga bs.length gc) f bs es D) (K : Nat) (hK : K ≤ 12) (l N : Nat) (J Jx : List ByteArray → World → Prop) (hJA : ∀ s W W', J s W → W.grownBy W' none → J s W')
    (hY : ∀ m pre x W, J pre W → Below wB.heap.size wB W → pre.length < N → YieldAt Fence.wide m Tryz.prog l #[.string x] W fun e W' => (e = .returned (.bool true) ∧ J (pre ++ [x]) W' ∧ KpR wB.heap.size W W') ∨ (e = .returned (.bool false) ∧ Jx (pre ++ [x]) W')) :
    ∀ (n m : Nat) (way h : ByteArray) (pre : List ByteArray) (W : World), way.size + n = K → 0 < way.size → ch way (way.size - 1) = h → h ∈ names bs → J pre W → Below wB.heap.size wB W → pre.length + (runsF bs es (lastN bs) n h way).length ≤ N →
    CallsIn Fence.wide m Tryz.prog 68 #[.agg #[.map (some o), .map (some lo), .map (some li), .slice ga bs.length gc, .map (some f)], .string way, .int .i64 (K : Int), .func (.yield l) #[] #[]] W (YieldPost wB.heap.size J Jx pre (runsF bs es (lastN bs) n h way) W) := by
  have hdd : ∀ k : Nat, (Fence.wide.depth.isSome = true → 1 ≤ k) := fun k h => by cases h
  have hD : ∀ h, h ∈ names bs → ∃ d, D h = some d ∧ d ≤ 16 := fun h hh => by
    obtain ⟨p, hp, hpe⟩ := List.mem_map.1 hh
    obtain ⟨d, hd⟩ := hC.least.reach (show Reach (flip es) (lastN bs) h by have := hV.rz p hp; rw [hpe] at this; exact this)
    exact ⟨d, hd, by have := hC.bound _ _ hd; have := hV.e.hi; omega⟩
  have hfarC : ∀ (n m : Nat) (way h : ByteArray) (pre : List ByteArray) (W : World) (d : Nat), way.size + n = K → 0 < way.size → ch way (way.size - 1) = h → h.size ≤ 1048576 → D h = some d → d ≤ 16 → n < d → J pre W → Below wB.heap.size wB W →
      CallsIn Fence.wide m Tryz.prog 68 #[.agg #[.map (some o), .map (some lo), .map (some li), .slice ga bs.length gc, .map (some f)], .string way, .int .i64 (K : Int), .func (.yield l) #[] #[]] W (YieldPost wB.heap.size J Jx pre (runsF bs es (lastN bs) n h way) W) := fun n m way h pre W d hn hw0 hh hs hd hd2 hlt hJ hB =>
    (yield_far wB o lo li f ga gc bs es D hC K l m way h W (J pre) (fun _ _ => hJA pre _ _) hw0 (by omega) hh hs d hd hd2 (by omega) hJ hB).mono fun e W' hp => .inl ⟨hp.1, by rw [runsF_far hC.least hd hlt, List.append_nil]; exact hp.2.1, hp.2.2⟩
  have hendC : ∀ (n m : Nat) (way h : ByteArray) (pre : List ByteArray) (W : World), way.size + n = K → 0 < way.size → ch way (way.size - 1) = h → h.size ≤ 1048576 → D h = some 0 → J pre W → Below wB.heap.size wB W → pre.length + (runsF bs es (lastN bs) n h way).length ≤ N →
      CallsIn Fence.wide m Tryz.prog 68 #[.agg #[.map (some o), .map (some lo), .map (some li), .slice ga bs.length gc, .map (some f)], .string way, .int .i64 (K : Int), .func (.yield l) #[] #[]] W (YieldPost wB.heap.size J Jx pre (runsF bs es (lastN bs) n h way) W) := fun n m way h pre W hn hw0 hh hs hd hJ hB hl => by
    have hz : h = lastN bs := (far_exit hC.least hd).1 rfl
    have hr : runsF bs es (lastN bs) n h way = [way] := by rw [hz]; exact runsF_end bs es n way
    rw [hr] at hl ⊢
    have hka := KpR.alloc wB.heap.size W (.cells #[.map (some o), .map (some lo), .map (some li), .slice ga bs.length gc, .map (some f)] 72) hB.size
    refine (yield_end wB o lo li f ga gc bs es D hC K l m way h W (J (pre ++ [way])) (Jx (pre ++ [way])) hw0 (by omega) hh hs hd (by omega) (fun m' => ?_) hB).mono fun e W' hp => ?_
    · exact (hY m' pre way _ (hJA pre _ _ hJ (World.grownBy_alloc W _ none)) (hB.alloc hB.size _) (by simp at hl; omega)).mono fun e W' hp => hp.elim (fun h => .inl ⟨h.1, h.2.1, hka.trans h.2.2⟩) .inr
    · exact hp.elim .inl (fun h => .inr ⟨h.1, [way], List.prefix_refl _, h.2⟩)
  intro n
  induction n with
  | zero =>
    intro m way h pre W hn hw0 hh hm hJ hB hl
    obtain ⟨d, hd, hd2⟩ := hD h hm
    have hs : h.size ≤ 1048576 := by rw [hV.name_size hm]; decide
    rcases Nat.eq_zero_or_pos d with h0 | h0
    · subst h0
      exact hendC 0 m way h pre W hn hw0 hh hs hd hJ hB hl
    · exact hfarC 0 m way h pre W d hn hw0 hh hs hd hd2 h0 hJ hB
  | succ n ih =>
    intro m way h pre W hn hw0 hh hm hJ hB hl
    obtain ⟨d, hd, hd2⟩ := hD h hm
    have hs : h.size ≤ 1048576 := by rw [hV.name_size hm]; decide
    rcases Nat.eq_zero_or_pos d with h0 | h0
    · subst h0
      exact hendC (n + 1) m way h pre W hn hw0 hh hs hd hJ hB hl
    · rcases Nat.lt_or_ge (n + 1) d with h1 | h1
      · exact hfarC (n + 1) m way h pre W d hn hw0 hh hs hd hd2 h1 hJ hB
      have hsz := hB.size
      have hz : h ≠ lastN bs := fun e => by have := (far_exit hC.least hd).2 e; omega
      rw [runsF_on hz] at hl ⊢
      have lk := far_lookR hC (hB.alloc hsz (.cells #[.map (some o), .map (some lo), .map (some li), .slice ga bs.length gc, .map (some f)] 72)) hs hd
      have e5 : IntKind.i64.wrap ((way.size : Int) + (d : Int)) = (way.size : Int) + (d : Int) := IntWalk.i64_in _ (by omega)
      have t1 : ¬ (K : Int) < (way.size : Int) + (d : Int) := by omega
      have t2 : ((d : Int) == 0) = false := by simp; omega
      have hlo := lastOf_any way (way.size - 1) (by omega) (by omega) (W.alloc (.cells #[.map (some o), .map (some lo), .map (some li), .slice ga bs.length gc, .map (some f)] 72))
      rw [hh] at hlo
      have HL := Lib.hid hlo
      have hkb : (W.alloc (.cells #[.map (some o), .map (some lo), .map (some li), .slice ga bs.length gc, .map (some f)] 72)).heap[W.heap.size]? = some (.cells #[.map (some o), .map (some lo), .map (some li), .slice ga bs.length gc, .map (some f)] 72 (0, 0)) := heap_alloc_new W _
      have hJ1 := hJA pre _ _ hJ (World.grownBy_alloc W (.cells #[.map (some o), .map (some lo), .map (some li), .slice ga bs.length gc, .map (some f)] 72) none)
      have hB1 := hB.alloc hsz (.cells #[.map (some o), .map (some lo), .map (some li), .slice ga bs.length gc, .map (some f)] 72)
      have hka := KpR.alloc wB.heap.size W (.cells #[.map (some o), .map (some lo), .map (some li), .slice ga bs.length gc, .map (some f)] 72) hsz
      have HH := Lib.hid (And.intro hV (And.intro hC (And.intro hz (And.intro hh hn))))
      have HA := Lib.hid (And.intro hkb (And.intro hJ1 (And.intro hB1 (And.intro hka hl))))
      have HI := Lib.hid ih
      clear hlo hh hd hB hJ hC hV hJ1 hB1 hka hz hl h1 hfarC hendC hD hn ih hY hJA hm
      refine callsIn_of_wp Tryz.func68 rfl trivial ?_ rfl
      simp only [Tryz.ntmps68, List.size_toArray, List.length_cons, List.length_nil, Nat.reduceAdd, Nat.reduceSub, Array.replicate_succ, Array.replicate_zero, List.push_toArray, List.append_toArray, List.nil_append, List.cons_append]
      gi_wp2_with (first | ((try refine ⟨trivial, hdd _, ?_⟩); gi_at_call 41; refine (callsIn_wide.2 HL.out).mono ?_; rintro e w' ⟨rfl, rfl⟩))
      generalize W.alloc (.cells #[.map (some o), .map (some lo), .map (some li), .slice ga bs.length gc, .map (some f)] 72) = W1 at *
      clear lk t1 t2 e5
      gi_loopw [36] (fun i wr => ∃ q : Nat, q ≤ bs.length ∧ i = .int .i64 q ∧ J (pre ++ runsP bs es (lastN bs) n h way q) wr ∧ KpR wB.heap.size W1 wr) (fun i _ => bs.length - (intOf i).toNat)
      case atStart => exact ⟨0, Nat.zero_le _, rfl, by rw [runsP_zero, List.append_nil]; exact HA.out.2.1, KpR.refl _ _⟩
      case round =>
        obtain ⟨q, hq, rfl, hJr, hKr⟩ := hrel
        have hkr := hKr.course _ _ _ HA.out.1
        obtain ⟨⟨x0, x1, x2, x3, x4⟩, _⟩ := block5 hkr
        have hBr : Below wB.heap.size wB wr := HA.out.2.2.1.trans hKr.below
        have hlb := HH.out.1.b.lo
        have hhb := HH.out.1.b.hi
        have HR := Lib.hid (And.intro hJr (And.intro hKr hBr))
        clear hJr hKr hkr
        by_cases hlt : q < bs.length
        · have hCr := HH.out.2.1.keep hBr
          obtain ⟨g, cap, hgv, hgw, hcells⟩ := names_cells hCr.names (show bs.length = (bs.length - 1) + 1 by omega)
          obtain ⟨hga, hgl, hgc⟩ := Value.slice.inj hgv
          clear hgl
          subst hga hgc
          have c1 := hcells q (by omega)
          have hnm := name_size' HH.out.1.b hlt
          obtain ⟨fp, FL, hL, hfp⟩ := hCr.plan.out
          obtain ⟨r, v, lk1, lk2⟩ := hL.look2 h (nameAt bs q) hs (by rw [hnm]; decide)
          have HNm := Lib.hid hnm
          have hlt' : (q : Int) < (bs.length : Int) := by omega
          have t3 : ¬ 9223372036854775807 < way.size + (nameAt bs q).size := by have := HH.out.2.2.2.2; omega
          have t4 : ¬ 9223372036854775807 < way.size + 1 := by have := HH.out.2.2.2.2; omega
          clear hgv hgw hcells hnm hL hfp hCr hBr
          by_cases he : (h, nameAt bs q) ∈ es
          · rw [decide_eq_true he] at lk2
            have HE := Lib.hid he
            clear he
            have hlq := runsP_len bs es (lastN bs) n h way hlt HA.out.2.2.2.2 HE.out
            have hrec := HI.out (m - 1) (way ++ nameAt bs q) (nameAt bs q) (pre ++ runsP bs es (lastN bs) n h way q) wr (by rw [ByteArray.size_append, HNm.out]; have := HH.out.2.2.2.2; omega) (by rw [ByteArray.size_append, HNm.out]; omega) (ch_app' HNm.out) (name_memR hlt) HR.out.1 HR.out.2.2 hlq
            have HC := Lib.hid hrec
            clear hrec hlq
            gi_wp2_with ((try refine ⟨trivial, hdd _, ?_⟩); gi_at_call 68; refine HC.out.mono ?_; rintro e W2 (⟨rfl, hJ2, hk2⟩ | ⟨rfl, q', hq', hx2⟩))
            · go_roundw
              case rel => exact ⟨q + 1, by omega, by go_num, by rw [runsP_yes HE.out, ← List.append_assoc]; exact hJ2, HR.out.2.1.trans hk2⟩
              case measure => simp [intOf]; omega
            · go_ret
              exact .inr ⟨rfl, runsP bs es (lastN bs) n h way q ++ q', runsP_stop hlt HE.out hq', by rw [← List.append_assoc]; exact hx2⟩
          · rw [decide_eq_false he] at lk2
            have HE := Lib.hid he
            clear he
            gi_wp2
            refine ⟨trivial, ?_⟩
            gi_wp2
            go_roundw
            case rel => exact ⟨q + 1, by omega, by go_num, by rw [runsP_no HE.out]; exact HR.out.1, HR.out.2.1⟩
            case measure => simp [intOf]; omega
        · obtain rfl : q = bs.length := by omega
          gi_wp2
          go_ret
          exact .inl ⟨rfl, HR.out.1, HA.out.2.2.2.1.trans HR.out.2.1⟩
theorem first_ne_lastR {bs : List Pr} (hb : BlocksOk bs) : nameAt bs 0 ≠ lastN bs := fun e => by
  have h2 := hb.lo
  have h0 : (names bs)[0]? = some (nameAt bs 0) := by unfold names nameAt; rw [List.getElem?_map, List.getD_eq_getElem?_getD, List.getElem?_eq_getElem (by omega)]; rfl
  have h1 : (names bs)[bs.length - 1]? = some (lastN bs) := by unfold names lastN nameAt; rw [List.getElem?_map, List.getD_eq_getElem?_getD, List.getElem?_eq_getElem (by omega)]; rfl
  have hl : (names bs).length = bs.length := by unfold names; simp
  have := (List.getElem?_inj (by omega) hb.nd).1 (h0.trans (e ▸ h1.symm))
  omega
theorem ch_oneR {y : ByteArray} (hy : y.size = 1) : ch y (y.size - 1) = y := by
  unfold ch
  apply bytes_ext2
  have h2 : y.data.size = 1 := hy
  simp [ByteArray.data_extract, hy]
  exact List.take_of_length_le (by rw [Array.length_toList, h2]; exact Nat.le_refl _)

set_option maxRecDepth 100000 in
set_option maxHeartbeats 3200000 in
/-- 'func(yield func(string) bool) { c.yieldRuns(..) }' -/
theorem runs1_in (hV : Valid bs es) (hC : CourseAt wB o lo li (.slice ga bs.length gc) f bs es D) (K : Nat) (hK : K ≤ 12) (m l Bc Bk : Nat) (J Jx : List ByteArray → World → Prop) (hJA : ∀ s W W', J s W → W.grownBy W' none → J s W')
    (hY : ∀ m pre x W, J pre W → Below wB.heap.size wB W → pre.length < (allRuns bs es K).length → YieldAt Fence.wide m Tryz.prog l #[.string x] W fun e W' => (e = .returned (.bool true) ∧ J (pre ++ [x]) W' ∧ KpR wB.heap.size W W') ∨ (e = .returned (.bool false) ∧ Jx (pre ++ [x]) W'))
    (W : World) (hB : Below wB.heap.size wB W) (hc : W.heap[Bc]? = some (.cells #[.map (some o), .map (some lo), .map (some li), .slice ga bs.length gc, .map (some f)] 72 (0, 0))) (hk : W.cell? ⟨Bk, 0, none⟩ = some (.int .i64 (K : Int))) (hJ : J [] W) :
    CallsIn Fence.wide m Tryz.prog 67 #[.func (.yield l) #[] #[], .pointer (some ⟨Bc, 0, none⟩), .pointer (some ⟨Bk, 0, none⟩)] W fun e W' => (∃ v, e = .returned v) ∧ ((∃ xs, xs = allRuns bs es K ∧ J xs W') ∨ (∃ pre, pre <+: allRuns bs es K ∧ Jx pre W')) := by
  have hlb := hV.b.lo
  have hCr := hC.keep hB
  obtain ⟨g, cap, hgv, hgw, hcells⟩ := names_cells hCr.names (show bs.length = (bs.length - 1) + 1 by omega)
  obtain ⟨hga, hgl, hgc⟩ := Value.slice.inj hgv
  clear hgl
  subst hga hgc
  have c1 := hcells 0 (by omega)
  have hnm := name_size' hV.b (i := 0) (by omega)
  obtain ⟨⟨x0, x1, x2, x3, x4⟩, _⟩ := block5 hc
  have h0 : (0 : Int) < (bs.length : Int) := by omega
  have h00 : 0 < bs.length := by omega
  have hy : CallsIn Fence.wide m Tryz.prog 68 #[.agg #[.map (some o), .map (some lo), .map (some li), .slice (some ⟨g, 0, none⟩) bs.length gc, .map (some f)], .string (nameAt bs 0), .int .i64 (K : Int), .func (.yield l) #[] #[]] W.drew (YieldPost wB.heap.size J Jx [] (allRuns bs es K) W.drew) := by
    have hJd : J [] W.drew := hJA _ _ _ hJ ⟨rfl, rfl, rfl, Nat.le_refl _, fun _ _ _ => rfl⟩
    rcases Nat.eq_zero_or_pos K with rfl | hK0
    · obtain ⟨p, hp, hpe⟩ := List.mem_map.1 (name_memR (bs := bs) (q := 0) h00)
      obtain ⟨d, hd⟩ := hC.least.reach (show Reach (flip es) (lastN bs) (nameAt bs 0) by have := hV.rz p hp; rw [hpe] at this; exact this)
      refine (yield_far wB o lo li f _ gc bs es D hC 0 l m (nameAt bs 0) (nameAt bs 0) W.drew (J []) (fun _ _ => hJA [] _ _) (by omega) (by omega) (ch_oneR hnm) (by rw [hnm]; decide) d hd (by have := hC.bound _ _ hd; have := hV.e.hi; omega) (by omega) hJd hB.drew).mono fun e W' hp => .inl ⟨hp.1, ?_, hp.2.2⟩
      rw [show allRuns bs es 0 = [] by unfold allRuns; rw [if_neg (by omega)], List.append_nil]
      exact hp.2.1
    · have hR : allRuns bs es K = runsF bs es (lastN bs) (K - 1) (nameAt bs 0) (nameAt bs 0) := by
        by_cases h1 : 1 < K
        · unfold allRuns; rw [if_pos h1]; rfl
        · obtain rfl : K = 1 := by omega
          unfold allRuns
          rw [if_neg (by omega), runsF_last (first_ne_lastR hV.b)]
      rw [hR] at hY ⊢
      exact yieldRuns_in wB o lo li f _ gc bs es D hV hC K hK l _ J Jx hJA hY (K - 1) m (nameAt bs 0) (nameAt bs 0) [] W.drew (by omega) (by omega) (ch_oneR hnm) (name_memR h00) hJd hB.drew (by simp)
  have HY := Lib.hid hy
  clear hy hY hJA hcells hgv hgw hCr hJ hC hV hc hnm hB
  refine callsIn_wide.2 ?_
  go_enter Tryz.func67, Tryz.ntmps67
  go_wp2
  go_still_tail 7, (by kernel_rfl)
  change wpList _ _ _ _ _ W.drew
  have HZ := Lib.hid (callsIn_wide.1 HY.out)
  generalize W.drew = w2 at *
  clear HY x0 x1 x2 x3 x4 c1 hk
  go_wp2_with fail
  refine HZ.out.mono ?_
  rintro e W2 (⟨rfl, hJ2, hk2⟩ | ⟨rfl, q', hq', hx2⟩)
  · go_wp2
    go_end0
    exact ⟨⟨_, rfl⟩, .inl ⟨_, rfl, by simpa using hJ2⟩⟩
  · go_wp2
    go_end0
    exact ⟨⟨_, rfl⟩, .inr ⟨q', hq', by simpa using hx2⟩⟩

set_option maxRecDepth 100000 in
/-- runs: the course and the bound boxed -/
theorem runs_any (K : Nat) (w : World) :
    Calls Tryz.prog 32 #[.agg #[.map (some o), .map (some lo), .map (some li), .slice ga bs.length gc, .map (some f)], .int .i64 (K : Int)] w fun e w' =>
      e = .returned (.func (.func 67) #[] #[.pointer (some ⟨w.heap.size, 0, none⟩), .pointer (some ⟨w.heap.size + 1, 0, none⟩)]) ∧ w' = (w.alloc (.cells #[.map (some o), .map (some lo), .map (some li), .slice ga bs.length gc, .map (some f)] 72)).alloc (.cells #[.int .i64 (K : Int)] 3) := by
  go_enter Tryz.func32, Tryz.ntmps32
  go_wp2
  go_ret
  exact ⟨rfl, rfl⟩
end Go.Proofs.YtflnkahgmbndiaaGreatDoor
end

section
/-
  RunsUpTo of the program. Conditions: at most 1048576 blocks and edges, each text at most as many bytes; the errors' variables hold errors.
-/
namespace Go.Proofs.YtflnkahgmbndiaaGreatDoor
open Go.RowKit Go.Maps Go.Shelf

attribute [local go_sem] Oper.semAt_some

theorem box_not_row {W : World} {B : Nat} {cs : Array Value} {t e : TypeId} {fr : Nat × Nat} (h : W.heap[B]? = some (.cells cs t fr)) (hte : t ≠ e) {base size k : Nat} {v : Value} {xs : List Value} (hr : W.ownsRow base e size v k xs) : some B ≠ v.ownBlock := by
  rcases hr.2 with ⟨rfl, _⟩ | ⟨g, cap, cur, rfl, _, hgb, _⟩
  · simp [Value.ownBlock]
  · intro e'
    obtain rfl : B = g := by simpa [Value.ownBlock] using e'
    have := h.symm.trans hgb
    simp at this
    exact hte this.2.1
theorem KpR.appended {W w1 : World} {n₀ B : Nat} {size : Nat} {v v' : Value} {k : Nat} {xs : List Value} {tmp : Obj} (hv : Boxed W B 29 v) (hrow : W.ownsRow n₀ 9 size v k xs) (hgrow : (W.alloc tmp).grownBy w1 v.ownBlock) (hb : Below n₀ W (w1.setCell ⟨B, 0, none⟩ v')) :
    KpR n₀ W (w1.setCell ⟨B, 0, none⟩ v') := ⟨hb, fun j cs fr hj => by
  have hlt := (Array.getElem?_eq_some_iff.1 hj).1
  have hne : j ≠ B := fun e => by
    subst e
    have := hj.symm.trans (show W.heap[j]? = _ from hv)
    simp at this
  rw [Below.heap_setCell _ _ _ _ (by simpa using hne), hgrow.block j (by simp; omega) (box_not_row hj (by decide) hrow), Below.heap_alloc _ _ _ hlt]
  exact hj⟩

/-- what a return gives whose two results lie in cells -/
theorem results43 (tmps : Array Value) (W : World) {a b : Nat} {v : Value} {r : Bool} (h4 : tmps[4]?.getD undef = .pointer (some ⟨a, 0, none⟩)) (h5 : tmps[5]?.getD undef = .pointer (some ⟨b, 0, none⟩)) {x : Option Addr} {m c : Nat} (hv : v = .slice x m c) (ha : Boxed W a 29 v) (hb : Boxed W b 4 (.bool r)) :
    (results Tryz.f7 tmps).run Tryz.prog W = .ok (.tuple #[v, .bool r]) W := by
  subst hv
  have c4 := ha.cell
  have c5 := hb.cell
  simp [results, Tryz.results7, h4, h5, go_sem, c4, c5]
variable (bs es : List Pr)
/-- a return without runs -/
theorem runs_no (w W : World) (k : Int) (b4 : Boxed W (w.heap.size + 1) 29 (.slice none 0 0)) (b5 : Boxed W (w.heap.size + 1 + 1) 4 (.bool false)) (hall : Below w.heap.size w W) (hr : runsR bs es k = ([], false)) (tmps : Array Value)
    (h4 : tmps[4]?.getD undef = .pointer (some ⟨w.heap.size + 1, 0, none⟩)) (h5 : tmps[5]?.getD undef = .pointer (some ⟨w.heap.size + 1 + 1, 0, none⟩)) :
    bodyPostM Fence.wide 6 Tryz.prog Tryz.f7 (RunsPost w (runsR bs es k)) Exit.ret { tmps := tmps, defers := [] } ((W.setCell ⟨w.heap.size + 1, 0, none⟩ (.slice none 0 0)).setCell ⟨w.heap.size + 1 + 1, 0, none⟩ (.bool false)) := by
  have hb : Below w.heap.size w ((W.setCell ⟨w.heap.size + 1, 0, none⟩ (.slice none 0 0)).setCell ⟨w.heap.size + 1 + 1, 0, none⟩ (.bool false)) := (hall.setCell (p := ⟨w.heap.size + 1, 0, none⟩) (by simp) _).setCell (p := ⟨w.heap.size + 1 + 1, 0, none⟩) (by simp; omega) _
  refine ⟨_, results43 tmps _ h4 h5 rfl ((b4.set _).other (by omega) _) ((b5.other (by omega) _).set _), _, by rw [hr], by rw [hr]; exact World.ownsRow_nil _ _ _ _, hb⟩
set_option maxRecDepth 100000 in
set_option maxHeartbeats 6400000 in
theorem RunsUpTo_impl (w : World) (ab ae : Option Addr) (cb ce : Nat) (k : Int) (hpb : PairsAt w ab bs) (hpe : PairsAt w ae es) (hg : Errs w) :
    Calls Tryz.prog 7 #[.agg #[.slice ab bs.length cb, .slice ae es.length ce], .int .i64 k] w (RunsPost w (runsR bs es k)) := by
  have h1 : Below w.heap.size w (((w.alloc (.cells #[.slice ab bs.length cb, .slice ae es.length ce] 26)).alloc (.cells #[.slice none 0 0] 29)).alloc (.cells #[.bool false] 4)) := (((Below.refl _ _).alloc (Nat.le_refl _) _).alloc (by simp) _).alloc (by simp; omega) _
  have hpb1 := hpb.below h1
  have hpe1 := hpe.below h1
  have hg1 := hg.keep h1
  have H1 := Lib.hid h1; clear h1
  refine (callsIn_wide (n := 6)).1 ?_
  refine callsIn_of_wp_marks Tryz.func7 rfl trivial ?_ rfl
  simp only [Tryz.ntmps7, List.size_toArray, List.length_cons, List.length_nil, Nat.reduceAdd, Nat.reduceSub, Array.replicate_succ, Array.replicate_zero, List.push_toArray, List.append_toArray, List.nil_append, List.cons_append]
  obtain ⟨i0, hi, hz0, hz1, hz2⟩ := info_parts Tryz.infoStr
  have HCO := Lib.hid (courseOf_any _ bs es _ _ cb ce hpb1 hpe1 hg1)
  clear hpb1 hpe1 hg1
  gi_wp2_with fail
  refine ⟨trivial, ?_⟩
  refine (callsIn_wide.2 HCO.out).mono ?_
  rintro e w1 ⟨hb1, hcase⟩
  have hall : Below w.heap.size w w1 := H1.out.trans (hb1.mono (by simp; omega))
  have hzw : w.heap.size + 1 + 1 < w1.heap.size := by have := hb1.size; simp at this; omega
  have b4 : Boxed w1 (w.heap.size + 1) 29 (.slice none 0 0) := (hb1.block (w.heap.size + 1) (by simp)).trans (by
    have h := Boxed.new (w.alloc (.cells #[.slice ab bs.length cb, .slice ae es.length ce] 26)) 29 (.slice none 0 0)
    rw [World.size_alloc] at h
    exact h.alloc _)
  have b5 : Boxed w1 (w.heap.size + 1 + 1) 4 (.bool false) := (hb1.block (w.heap.size + 1 + 1) (by simp)).trans (by
    have h := Boxed.new ((w.alloc (.cells #[.slice ab bs.length cb, .slice ae es.length ce] 26)).alloc (.cells #[.slice none 0 0] 29)) 4 (.bool false)
    rw [World.size_alloc, World.size_alloc] at h
    exact h)
  clear hb1 HCO H1
  rcases hcase with ⟨hv, o, lo, li, vn, f, D, rfl, hC⟩ | ⟨hv, rfl⟩
  · obtain ⟨ga, gc, rfl⟩ := own_form hC.names
    have hba : Below w1.heap.size w1 (w1.alloc (.cells #[.map (some o), .map (some lo), .map (some li), .slice ga bs.length gc, .map (some f)] 72)) := (Below.refl _ _).alloc (Nat.le_refl _) _
    have hC1 := hC.keep hba
    have b4' := b4.alloc (.cells #[.map (some o), .map (some lo), .map (some li), .slice ga bs.length gc, .map (some f)] 72)
    have b5' := b5.alloc (.cells #[.map (some o), .map (some lo), .map (some li), .slice ga bs.length gc, .map (some f)] 72)
    have hall' := hall.alloc hall.size (.cells #[.map (some o), .map (some lo), .map (some li), .slice ga bs.length gc, .map (some f)] 72)
    have hkc : (w1.alloc (.cells #[.map (some o), .map (some lo), .map (some li), .slice ga bs.length gc, .map (some f)] 72)).heap[w1.heap.size]? = some (.cells #[.map (some o), .map (some lo), .map (some li), .slice ga bs.length gc, .map (some f)] 72 (0, 0)) := heap_alloc_new w1 _
    obtain ⟨⟨x0, x1, x2, x3, x4⟩, xf⟩ := block5 hkc
    have hzv : w.heap.size + 1 + 1 < (w1.alloc (.cells #[.map (some o), .map (some lo), .map (some li), .slice ga bs.length gc, .map (some f)] 72)).heap.size := by simp; omega
    have HF := Lib.hid (And.intro b4' (And.intro b5' (And.intro hall' (And.intro hC1 (And.intro hkc hv)))))
    have c4 := b4'.cell
    have f4 := b4'.frozen
    have c5 := b5'.cell
    have f5 := b5'.frozen
    clear hall b4 b5 b4' b5' hall' hC hC1 hba hkc hv xf
    by_cases hk0 : k < 0
    · have HR := Lib.hid (runsR_no2 (bs := bs) (es := es) (show inB k 0 12 = false by simp [inB]; omega))
      gi_wp2
      exact runs_no bs es w _ k HF.out.1 HF.out.2.1 HF.out.2.2.1 HR.out _ rfl rfl
    by_cases hk12 : 12 < k
    · have HR := Lib.hid (runsR_no2 (bs := bs) (es := es) (show inB k 0 12 = false by simp [inB]; omega))
      gi_wp2
      exact runs_no bs es w _ k HF.out.1 HF.out.2.1 HF.out.2.2.1 HR.out _ rfl rfl
    obtain ⟨K, rfl⟩ : ∃ K : Nat, k = (K : Int) := ⟨k.toNat, by omega⟩
    have hK : K ≤ 12 := by omega
    have d1 : decide ((K : Int) < 0) = false := by simp
    have d2 : decide ((12 : Int) < (K : Int)) = false := by simp; omega
    gi_wp2_with fail
    refine ⟨trivial, ?_⟩
    refine (callsIn_wide.2 (runs_any o lo li f ga gc bs K _)).mono ?_
    rintro e w5 ⟨rfl, hw5⟩
    gi_wp2
    clear hw5
    have hzB : (w1.alloc (.cells #[.map (some o), .map (some lo), .map (some li), .slice ga bs.length gc, .map (some f)] 72)).heap.size = w1.heap.size + 1 := by simp
    obtain ⟨WB, hWB⟩ : ∃ WB, w1.alloc (.cells #[.map (some o), .map (some lo), .map (some li), .slice ga bs.length gc, .map (some f)] 72) = WB := ⟨_, rfl⟩
    rw [hWB] at HF hzB ⊢
    clear hWB x0 x1 x2 x3 x4 c4 f4 c5 f5
    obtain ⟨b4, b5, hall, hC, hkc, hV⟩ := HF.out
    have bL := Boxed.new WB 29 (.slice none 0 0)
    rw [hzB] at bL
    have hbL : Below WB.heap.size WB (((WB.alloc (.cells #[.slice none 0 0] 29)).alloc (.cells #[.map (some o), .map (some lo), .map (some li), .slice ga bs.length gc, .map (some f)] 72)).alloc (.cells #[.int .i64 (K : Int)] 3)) := (((Below.refl _ _).alloc (Nat.le_refl _) _).alloc (by simp) _).alloc (by simp; omega) _
    have hcb : (((WB.alloc (.cells #[.slice none 0 0] 29)).alloc (.cells #[.map (some o), .map (some lo), .map (some li), .slice ga bs.length gc, .map (some f)] 72)).alloc (.cells #[.int .i64 (K : Int)] 3)).heap[w1.heap.size + 1 + 1]? = some (.cells #[.map (some o), .map (some lo), .map (some li), .slice ga bs.length gc, .map (some f)] 72 (0, 0)) := by
      have h := heap_alloc_new (WB.alloc (.cells #[.slice none 0 0] 29)) (.cells #[.map (some o), .map (some lo), .map (some li), .slice ga bs.length gc, .map (some f)] 72)
      rw [World.size_alloc, hzB] at h
      exact (Below.heap_alloc _ _ _ (by simp; omega)).trans h
    have hkb : (((WB.alloc (.cells #[.slice none 0 0] 29)).alloc (.cells #[.map (some o), .map (some lo), .map (some li), .slice ga bs.length gc, .map (some f)] 72)).alloc (.cells #[.int .i64 (K : Int)] 3)).cell? ⟨w1.heap.size + 1 + 1 + 1, 0, none⟩ = some (.int .i64 (K : Int)) := by
      have h := Boxed.new ((WB.alloc (.cells #[.slice none 0 0] 29)).alloc (.cells #[.map (some o), .map (some lo), .map (some li), .slice ga bs.length gc, .map (some f)] 72)) 3 (.int .i64 (K : Int))
      rw [World.size_alloc, World.size_alloc, hzB] at h
      exact h.cell
    have bL5 := (bL.alloc (.cells #[.map (some o), .map (some lo), .map (some li), .slice ga bs.length gc, .map (some f)] 72)).alloc (.cells #[.int .i64 (K : Int)] 3)
    have b45 := ((b4.alloc (.cells #[.slice none 0 0] 29)).alloc (.cells #[.map (some o), .map (some lo), .map (some li), .slice ga bs.length gc, .map (some f)] 72)).alloc (.cells #[.int .i64 (K : Int)] 3)
    have b55 := ((b5.alloc (.cells #[.slice none 0 0] 29)).alloc (.cells #[.map (some o), .map (some lo), .map (some li), .slice ga bs.length gc, .map (some f)] 72)).alloc (.cells #[.int .i64 (K : Int)] 3)
    have hz5 : (((WB.alloc (.cells #[.slice none 0 0] 29)).alloc (.cells #[.map (some o), .map (some lo), .map (some li), .slice ga bs.length gc, .map (some f)] 72)).alloc (.cells #[.int .i64 (K : Int)] 3)).heap.size = w1.heap.size + 1 + 1 + 1 + 1 := by simp; omega
    have hall5 : Below w.heap.size w (((WB.alloc (.cells #[.slice none 0 0] 29)).alloc (.cells #[.map (some o), .map (some lo), .map (some li), .slice ga bs.length gc, .map (some f)] 72)).alloc (.cells #[.int .i64 (K : Int)] 3)) := hall.trans (hbL.mono (by have := hall.size; omega))
    obtain ⟨W5, hW5⟩ : ∃ W5, ((WB.alloc (.cells #[.slice none 0 0] 29)).alloc (.cells #[.map (some o), .map (some lo), .map (some li), .slice ga bs.length gc, .map (some f)] 72)).alloc (.cells #[.int .i64 (K : Int)] 3) = W5 := ⟨_, rfl⟩
    rw [hW5] at hbL hcb hkb bL5 b45 b55 hz5 hall5 ⊢
    clear hW5
    have hseq : SeqStopsK Fence.wide 5 Tryz.prog 67 #[.pointer (some ⟨w1.heap.size + 1 + 1, 0, none⟩), .pointer (some ⟨w1.heap.size + 1 + 1 + 1, 0, none⟩)] (fun x : ByteArray => #[Value.string x]) (KpR WB.heap.size) (fun ys => ys = allRuns bs es K) (fun pre => pre <+: allRuns bs es K) (allRuns bs es K).length W5 := fun l J Jx W hW hJ _ hY h0 =>
      runs1_in WB o lo li f ga gc bs es D hV hC K hK 5 l (w1.heap.size + 1 + 1) (w1.heap.size + 1 + 1 + 1) J Jx (fun s A B hs hg => hJ s A B none hs hg (fun r e => by cases e)) (fun m pre x W1 hj _ hl => anyDepth m (hY pre x W1 hj hl)) W
        (hbL.trans (hW.mono hbL.size)) ((hW.block _ (by omega)).trans hcb) ((hW.cell (p := ⟨w1.heap.size + 1 + 1 + 1, 0, none⟩) (by show w1.heap.size + 1 + 1 + 1 < W5.heap.size; omega)).trans hkb) h0
    have hInv : OwnFrom W5.heap.size (fun (pre : List ByteArray) W => (∃ v, Boxed W (w1.heap.size + 1) 29 v ∧ W.ownsRow (w1.heap.size + 1) 9 1 v pre.length (pre.map Value.string) ∧ True) ∧ (Boxed W (w.heap.size + 1) 29 (.slice none 0 0) ∧ (Boxed W (w.heap.size + 1 + 1) 4 (.bool false) ∧ (Below w.heap.size w W ∧ pre.length ≤ 300)))) :=
      OwnFrom.and (Own.from (holdsRow_own (w1.heap.size + 1) (w1.heap.size + 1) 29 9 1 (fun pre : List ByteArray => pre.length) (fun pre => pre.map Value.string) (fun _ _ => True)) _) (OwnFrom.and (Own.from (boxed_own (w.heap.size + 1) 29 (fun _ => .slice none 0 0)) _) (OwnFrom.and (Own.from (boxed_own (w.heap.size + 1 + 1) 4 (fun _ => .bool false)) _) (OwnFrom.and (ownFrom_below (Nat.le_refl _) (by have := hall5.size; omega)) (ownFrom_pure _ _))))
    have hInx : ∀ c : Code, OwnFrom W5.heap.size (fun (pre : List ByteArray) W => (c = .ret ∧ 300 < pre.length) ∧ (Boxed W (w.heap.size + 1) 29 (.slice none 0 0) ∧ (Boxed W (w.heap.size + 1 + 1) 4 (.bool false) ∧ Below w.heap.size w W))) := fun c =>
      OwnFrom.and (ownFrom_pure _ _) (OwnFrom.and (Own.from (boxed_own (w.heap.size + 1) 29 (fun _ => .slice none 0 0)) _) (OwnFrom.and (Own.from (boxed_own (w.heap.size + 1 + 1) 4 (fun _ => .bool false)) _) (ownFrom_below (Nat.le_refl _) (by have := hall5.size; omega))))
    refine wpIn_rangeFunc_ownG rfl (by omega) (gf := 67) rfl trivial (enters_of Tryz.func67 (by kernel_rfl) rfl)
      hseq (fun h k => h.trans k) (fun W l o₁ o' hl h hc _ => ?_) (Below.refl _ _) (fun _ => rfl) _ (fun c pre W => (c = .ret ∧ 300 < pre.length) ∧ (Boxed W (w.heap.size + 1) 29 (.slice none 0 0) ∧ (Boxed W (w.heap.size + 1 + 1) 4 (.bool false) ∧ Below w.heap.size w W))) hInv hInx
      ⟨⟨_, bL5, World.ownsRow_nil _ _ _ _, trivial⟩, b45, b55, hall5, Nat.zero_le _⟩
      (fun x => { tmps := #[.agg #[.slice ab bs.length cb, .slice ae es.length ce], .int .i64 (K : Int), .pointer (some ⟨w.heap.size, 0, none⟩), undef, .pointer (some ⟨w.heap.size + 1, 0, none⟩), .pointer (some ⟨w.heap.size + 1 + 1, 0, none⟩), .pointer (some ⟨w1.heap.size, 0, none⟩), .bool true, .pointer (some ⟨w1.heap.size + 1, 0, none⟩), .string x, .tuple #[.agg #[.map (some o), .map (some lo), .map (some li), .slice ga bs.length gc, .map (some f)], .bool true], .agg #[.slice ab bs.length cb, .slice ae es.length ce], .tuple #[.agg #[.map (some o), .map (some lo), .map (some li), .slice ga bs.length gc, .map (some f)], .bool true], .agg #[.map (some o), .map (some lo), .map (some li), .slice ga bs.length gc, .map (some f)], .bool true, .bool true, .bool false, .bool false, .int .i64 (K : Int), .bool false, .bool false, .bool false, .int .i64 (K : Int), .bool false, .bool false, .agg #[.map (some o), .map (some lo), .map (some li), .slice ga bs.length gc, .map (some f)], .int .i64 (K : Int), .func (.func 67) #[] #[.pointer (some ⟨w1.heap.size + 1 + 1, 0, none⟩), .pointer (some ⟨w1.heap.size + 1 + 1 + 1, 0, none⟩)], .string x, undef, undef, undef, undef, undef, undef, undef, undef], defers := [] }) ?assign ?body ?done ?stop
    · refine ⟨(Below.refl _ _).trans ⟨rfl, rfl, rfl, by simp [World.putObj], fun k hk => World.putObj_heap_other (by omega)⟩, fun j cs fr hj => (World.putObj_heap_other (fun e => ?_)).trans hj⟩
      subst e
      rw [hj] at h; cases h; cases hc
    case assign =>
      intro l x W K' hK'
      gi_wp2
      exact hK'
    case body =>
      rintro l pre x W ⟨⟨v, hv, hrow, _⟩, hb4, hb5, hB, hlen⟩ hlt
      obtain ⟨va, vc, rfl⟩ := own_form hrow
      have q0 := hv.cell
      have q4 := hb4.cell
      have g4 := hb4.frozen
      have q5 := hb5.cell
      have g5 := hb5.frozen
      have hn0 : w1.heap.size + 1 ≤ W.heap.size := by have := hv.lt; omega
      by_cases h300 : pre.length = 300
      · have e1 : (((pre.length : Nat) : Int) == 300) = true := by simp; omega
        have HW := Lib.hid (And.intro hb4 (And.intro hb5 (And.intro hB h300)))
        clear hv hrow hb4 hb5 hB hlen h300
        gi_wp2
        exact ⟨((KeepsOthers.setCell W _ _).trans (KeepsOthers.setCell _ _ _)).from _, ⟨rfl, by simp; have := HW.out.2.2.2; omega⟩, (HW.out.1.set _).other (by omega) _, (HW.out.2.1.other (by omega) _).set _, (HW.out.2.2.1.setCell (p := ⟨w.heap.size + 1, 0, none⟩) (by simp) _).setCell (p := ⟨w.heap.size + 1 + 1, 0, none⟩) (by simp; omega) _⟩
      · have e1 : (((pre.length : Nat) : Int) == 300) = false := by simp; omega
        gi_wp2_with (gi_at_builtin; refine wpListIn_append_own _ rfl _ _ 29 rfl (w1.heap.size + 1) 9 i0 (.string ⟨#[]⟩) 1 16 Tryz.underlying29 hi hz0 hz1 hz2 rfl (by decide) _ _ _ rfl (hrow.alloc _) ⟨W.heap.size, 0, none⟩ 1 1 [.string x] rfl rfl (cell_one_new _ _ _) (one_one _ rfl) (by unfold maxLen; omega) (by omega) (by simp; omega) ?_; intro v' w9 hown' hgrow _; obtain ⟨g', cap', rfl⟩ := ownsRow_succ hown'; obtain ⟨hv1, hv2, hr2, hk2, hb2⟩ := hv.appended (by decide) hrow hn0 (Nat.le_refl _) hown' hgrow; have hc1 := hv1.cell; have hf1 := hv1.frozen)
        have hb4' := ((hb4.alloc (.cells #[.string x] 9)).kept hgrow (hb4.not_row (by decide) hrow)).other (show w.heap.size + 1 ≠ w1.heap.size + 1 by omega) (.slice (some ⟨g', 0, none⟩) (pre.length + 1) cap')
        have hb5' := ((hb5.alloc (.cells #[.string x] 9)).kept hgrow (hb5.not_row (by decide) hrow)).other (show w.heap.size + 1 + 1 ≠ w1.heap.size + 1 by omega) (.slice (some ⟨g', 0, none⟩) (pre.length + 1) cap')
        exact ⟨hk2.from _, by rw [hzB]; exact KpR.appended hv hrow hgrow hb2, ⟨_, hv2, by simpa using hr2, trivial⟩, hb4', hb5', hB.trans (hb2.mono (by omega)), by simp; omega⟩
    case done =>
      rintro D' ys W hD rfl ⟨⟨v, hv, hrow, _⟩, hb4, hb5, hB, hlen⟩ hK'
      obtain ⟨va, vc, rfl⟩ := own_form hrow
      have q0 := hv.cell
      have q4 := hb4.cell
      have g4 := hb4.frozen
      have q5 := hb5.cell
      have g5 := hb5.frozen
      have HR := Lib.hid (runsR_yes (bs := bs) (es := es) (k := K) (show validB bs es = true by simpa [validB] using hV) (show inB (K : Int) 0 12 = true by simp [inB]; omega) hlen)
      have HW := Lib.hid (And.intro hv (And.intro hrow (And.intro hb4 (And.intro hb5 (And.intro hB (And.intro hlen hK'))))))
      clear hv hrow hb4 hb5 hB hlen
      gi_wp2
      obtain ⟨hv, hrow, hb4, hb5, hB, hlen, hK'⟩ := HW.out
      have hKs : ((W.setCell ⟨w.heap.size + 1, 0, none⟩ (.slice va (allRuns bs es K).length vc)).setCell ⟨w.heap.size + 1 + 1, 0, none⟩ (.bool true)).heap[D']? = some (.deferred (some [])) :=
        (Below.heap_setCell _ _ _ _ (by show D' ≠ w.heap.size + 1 + 1; omega)).trans ((Below.heap_setCell _ _ _ _ (by show D' ≠ w.heap.size + 1; omega)).trans hK')
      refine ⟨by simp, .inl ⟨_, _, rfl, run_takeDeferred hKs, ?_⟩⟩
      have hr1 := (hrow.kept (grownBy_setCell' W (w.heap.size + 1) (.slice va (allRuns bs es K).length vc)) (.inr (hb4.not_row (by decide) hrow).symm))
      have hr2 := hr1.kept (grownBy_setCell' _ (w.heap.size + 1 + 1) (.bool true)) (.inr ((hb5.other (by omega) _).not_row (by decide) hr1).symm)
      exact ⟨_, results43 _ _ rfl rfl rfl (((hb4.set _).other (by omega) _).kept (grownBy_putObj' _ _ _) (fun e => by have := Option.some.inj e; omega)) (((hb5.other (by omega) _).set _).kept (grownBy_putObj' _ _ _) (fun e => by have := Option.some.inj e; omega)), _, by rw [HR.out],
        by rw [HR.out]; exact own_base (ownsRow_putObj hr2 _ hKs rfl) (by omega), ((hB.setCell (p := ⟨w.heap.size + 1, 0, none⟩) (by simp) _).setCell (p := ⟨w.heap.size + 1 + 1, 0, none⟩) (by simp; omega) _).trans (belowK_b (w := w) (Nat.le_refl _) _ D' _ _ (by omega) hKs rfl rfl)⟩
    case stop =>
      rintro D' c pre W hD hpre ⟨⟨rfl, hlen⟩, hb4, hb5, hB⟩ hK'
      have hle := hpre.length_le
      have HR := runsR_no3 (bs := bs) (es := es) (k := K) (by omega)
      gi_wp2
      refine ⟨by simp, .inl ⟨_, _, rfl, run_takeDeferred hK', ?_⟩⟩
      exact ⟨_, results43 _ _ rfl rfl rfl (hb4.kept (grownBy_putObj' _ _ _) (fun e => by have := Option.some.inj e; omega)) (hb5.kept (grownBy_putObj' _ _ _) (fun e => by have := Option.some.inj e; omega)), _, by rw [HR], by rw [HR]; exact World.ownsRow_nil _ _ _ _, hB.trans (belowK_b (w := w) (Nat.le_refl _) W D' _ _ (by omega) hK' rfl rfl)⟩
  · have HR := Lib.hid (runsR_no1 (bs := bs) (es := es) (k := k) (show validB bs es = false by simpa [validB] using hv))
    clear hv
    have b4' := b4.alloc (.cells #[.map none, .map none, .map none, .slice none 0 0, .map none] 72)
    have b5' := b5.alloc (.cells #[.map none, .map none, .map none, .slice none 0 0, .map none] 72)
    have hall' := hall.alloc hall.size (.cells #[.map none, .map none, .map none, .slice none 0 0, .map none] 72)
    have HF := Lib.hid (And.intro b4' (And.intro b5' hall'))
    have c4 := b4'.cell
    have f4 := b4'.frozen
    have c5 := b5'.cell
    have f5 := b5'.frozen
    clear hall b4 b5 b4' b5' hall'
    gi_wp2
    exact runs_no bs es w _ k HF.out.1 HF.out.2.1 HF.out.2.2 HR.out _ rfl rfl
end Go.Proofs.YtflnkahgmbndiaaGreatDoor
end

section
/-
  RunsUpTo of both sides at a known result. Conditions: the errors' variables hold errors.
-/
namespace Go.Proofs.YtflnkahgmbndiaaGreatDoor
open Go.RowKit Go.Maps

def RunsPostL (w : World) (L : List ByteArray) (b : Bool) (e : Ending) (w' : World) : Prop :=
  ∃ a c, e = .returned (.tuple #[.slice a L.length c, .bool b]) ∧ w'.ownsRow w.heap.size 9 1 (.slice a L.length c) L.length (L.map Value.string) ∧ Below w.heap.size w w'
theorem RunsPost.lit {w w' : World} {r : List ByteArray × Bool} {L : List ByteArray} {b : Bool} {e : Ending} (hr : r = (L, b)) (h : RunsPost w r e w') : RunsPostL w L b e w' := by
  subst hr
  obtain ⟨v, rfl, ho, hb⟩ := h
  obtain ⟨a, c, rfl⟩ := own_form ho
  exact ⟨a, c, rfl, ho, hb⟩
theorem RunsUpTo_implL (L : List ByteArray) (b : Bool) (bs es : List Pr) (w : World) (ab ae : Option Addr) (cb ce : Nat) (k : Int) (hr : runsR bs es k = (L, b)) (hpb : PairsAt w ab bs) (hpe : PairsAt w ae es) (hg : Errs w) :
    Calls Tryz.prog 7 #[.agg #[.slice ab bs.length cb, .slice ae es.length ce], .int .i64 k] w (RunsPostL w L b) :=
  (RunsUpTo_impl bs es w ab ae cb ce k hpb hpe hg).mono fun _ _ h => h.lit hr
theorem RunsUpTo_specL (L : List ByteArray) (b : Bool) (bs es : List Pr) (w : World) (ab ae : Option Addr) (cb ce : Nat) (k : Int) (hr : runsR bs es k = (L, b)) (hpb : PairsAt w ab bs) (hpe : PairsAt w ae es) :
    Calls Tryz.prog 8 #[.agg #[.slice ab bs.length cb, .slice ae es.length ce], .int .i64 k] w (RunsPostL w L b) :=
  (RunsUpTo_spec w bs es ab ae cb ce k hpb hpe).mono fun _ _ h => h.lit hr
theorem own_atR {w : World} {base n : Nat} {a : Option Addr} {c : Nat} {L : List ByteArray} (h : w.ownsRow base 9 1 (.slice a n c) L.length (L.map Value.string)) {i : Nat} {x : ByteArray} (hi : L[i]? = some x) : ∃ g, a = some ⟨g, 0, none⟩ ∧ w.cell? ⟨g, i, none⟩ = some (.string x) := by
  have hx : (L.map Value.string)[i]? = some (.string x) := by rw [List.getElem?_map, hi]; rfl
  rcases h.2 with ⟨h1, h2⟩ | ⟨g, cap, cur, e1, h2⟩
  · have : L.length = 0 := by omega
    have := List.length_eq_zero_iff.1 this
    subst this
    cases hi
  · have hv : (Value.slice a n c).ownBlock = some g := by rw [e1]; rfl
    have := h.cells hv i _ hx
    refine ⟨g, (Value.slice.inj e1).1, ?_⟩
    rcases Nat.eq_zero_or_pos i with h0 | h0
    · subst h0; simpa [Addr.add] using this
    · simpa [Addr.add, show i ≠ 0 by omega] using this
theorem filter_hit {p : ByteArray → Bool} : ∀ (L : List ByteArray) (m : Nat) (x : ByteArray), L[m]? = some x → p x = true → (L.filter p)[((L.take m).filter p).length]? = some x
  | [], m, x, h, _ => by simp at h
  | y :: r, 0, x, h, hp => by
    simp at h; subst h
    simp [hp]
  | y :: r, m + 1, x, h, hp => by
    have ih := filter_hit r m x (by simpa using h) hp
    cases hy : p y <;> simp [hy, ih]
theorem filter_take_succ {p : ByteArray → Bool} {L : List ByteArray} {m : Nat} {x : ByteArray} (h : L[m]? = some x) : ((L.take (m + 1)).filter p).length = ((L.take m).filter p).length + (if p x then 1 else 0) := by
  rw [List.take_add_one, h]
  cases hp : p x <;> simp [hp]
/-- the two lists of the law -/
structure Grow (K : Int) (L1 L2 : List ByteArray) : Prop where
  few : L2.length ≤ 300
  le : ∀ x ∈ L2, (x.size : Int) ≤ K + 1
  eq : L2.filter (fun r => decide ((r.size : Int) ≤ K)) = L1
theorem runs_grow {bs es : List Pr} {k : Int} {L1 L2 : List ByteArray} {b1 b2 : Bool} (h1 : runsR bs es k = (L1, b1)) (h2 : runsR bs es (k + 1) = (L2, b2)) :
    (b2 = false) ∨ (b1 = false ∧ k < 0) ∨ (b1 = true ∧ b2 = true ∧ Grow k L1 L2) := by
  unfold runsR at h1 h2
  by_cases c2 : validB bs es = true ∧ inB (k + 1) 0 12 = true ∧ (allRuns bs es (k + 1).toNat).length ≤ 300
  · rw [if_pos c2] at h2
    cases h2
    refine .inr ?_
    by_cases hk : k < 0
    · rw [if_neg (fun h => by have := h.2.1; simp [inB] at this; omega)] at h1
      cases h1
      exact .inl ⟨rfl, hk⟩
    · obtain ⟨K, rfl⟩ : ∃ K : Nat, k = (K : Int) := ⟨k.toNat, by omega⟩
      have hV : Valid bs es := by simpa [validB] using c2.1
      have hlo := hV.b.lo
      have hg := allRuns_grow (es := es) (fun i hi => name_sizeR hV.b hi) (by omega) (first_ne_lastR hV.b) K
      have e1 : ((K : Int) + 1).toNat = K + 1 := by omega
      have c2' := c2
      rw [e1] at c2'
      have hl : (allRuns bs es K).length ≤ 300 := by rw [← hg]; exact Nat.le_trans (List.length_filter_le _ _) c2'.2.2
      have hin := c2.2.1
      rw [if_pos ⟨c2.1, by simp [inB] at hin ⊢; omega, by rw [Int.toNat_natCast]; exact hl⟩] at h1
      cases h1
      refine .inr ⟨rfl, rfl, c2.2.2, fun x hx => ?_, ?_⟩
      · have := allRuns_size (fun i hi => name_sizeR hV.b hi) (by omega) _ hx
        omega
      · rw [e1, Int.toNat_natCast, ← hg]
        simp
  · rw [if_neg c2] at h2
    cases h2
    exact .inl rfl
end Go.Proofs.YtflnkahgmbndiaaGreatDoor
end

section
/-
  The laws' owProg: whether two programs are the same. Conditions: at most 1048576 blocks and edges, each text at most as many bytes.
-/
namespace Go.Proofs.YtflnkahgmbndiaaGreatDoor
open Go.RowKit

theorem sameL_no {a b : List Pr} (h : a ≠ b) : sameL a b = false := by simpa [sameL] using h
theorem sameL_yes {a b : List Pr} (h : a = b) : sameL a b = true := by simpa [sameL] using h
theorem eql_len (n m : Nat) : ((n : Int) == (m : Int)) = decide (n = m) := by
  by_cases h : n = m
  · subst h; simp
  · rw [decide_eq_false h]; simp; omega
set_option maxRecDepth 100000 in
set_option maxHeartbeats 3200000 in
theorem owProg_any (w : World) (bs es bs' es' : List Pr) (ab ae ab' ae' : Option Addr) (cb ce cb' ce' : Nat) (hb : PairsAt w ab bs) (he : PairsAt w ae es) (hb' : PairsAt w ab' bs') (he' : PairsAt w ae' es') :
    Calls Tryz.prog 13 #[.agg #[.slice ab bs.length cb, .slice ae es.length ce], .agg #[.slice ab' bs'.length cb', .slice ae' es'.length ce']] w fun e w' => e = .returned (.bool (sameL bs bs' && sameL es es')) ∧ Below w.heap.size w w' := by
  have h2 : Below w.heap.size w ((w.alloc (.cells #[.slice ab bs.length cb, .slice ae es.length ce] 26)).alloc (.cells #[.slice ab' bs'.length cb', .slice ae' es'.length ce'] 26)) := ((Below.refl _ _).alloc (Nat.le_refl _) _).alloc (by simp) _
  have q0 : ((w.alloc (.cells #[.slice ab bs.length cb, .slice ae es.length ce] 26)).alloc (.cells #[.slice ab' bs'.length cb', .slice ae' es'.length ce'] 26)).cell? ⟨w.heap.size, 0, none⟩ = some (.slice ab bs.length cb) := by go_simp
  have q1 : ((w.alloc (.cells #[.slice ab bs.length cb, .slice ae es.length ce] 26)).alloc (.cells #[.slice ab' bs'.length cb', .slice ae' es'.length ce'] 26)).cell? ⟨w.heap.size, 1, none⟩ = some (.slice ae es.length ce) := by go_simp
  have q2 : ((w.alloc (.cells #[.slice ab bs.length cb, .slice ae es.length ce] 26)).alloc (.cells #[.slice ab' bs'.length cb', .slice ae' es'.length ce'] 26)).cell? ⟨w.heap.size + 1, 0, none⟩ = some (.slice ab' bs'.length cb') := by go_simp
  have q3 : ((w.alloc (.cells #[.slice ab bs.length cb, .slice ae es.length ce] 26)).alloc (.cells #[.slice ab' bs'.length cb', .slice ae' es'.length ce'] 26)).cell? ⟨w.heap.size + 1, 1, none⟩ = some (.slice ae' es'.length ce') := by go_simp
  have hz : ((w.alloc (.cells #[.slice ab bs.length cb, .slice ae es.length ce] 26)).alloc (.cells #[.slice ab' bs'.length cb', .slice ae' es'.length ce'] 26)).heap.size = w.heap.size + 2 := by simp
  have l1 := hb.len
  have l2 := hb'.len
  have l3 := he.len
  have l4 := he'.len
  go_enter Tryz.func13, Tryz.ntmps13
  go_upto_region 1 with fail
  generalize (w.alloc (.cells #[.slice ab bs.length cb, .slice ae es.length ce] 26)).alloc (.cells #[.slice ab' bs'.length cb', .slice ae' es'.length ce'] 26) = wA at *
  have HA := Lib.hid (And.intro h2 (And.intro (hb.below h2) (And.intro (he.below h2) (And.intro (hb'.below h2) (he'.below h2)))))
  have hs0 : w.heap.size < wA.heap.size := by omega
  have hs1 : w.heap.size + 1 < wA.heap.size := by omega
  clear h2 hb he hb' he' hz
  rcases Nat.lt_or_ge bs'.length bs.length with hm | hm
  all_goals
    (try have hm' : ¬ bs'.length < bs.length := by omega)
    go_wp2
    go_loopw [14] (fun i wr => ∃ k : Nat, k ≤ bs.length ∧ k ≤ bs'.length ∧ i = .int .i64 k ∧ Below wA.heap.size wA wr ∧ ∀ j, j < k → nameAt bs j = nameAt bs' j ∧ restAt bs j = restAt bs' j) (fun i _ => bs.length - (intOf i).toNat)
    case atStart => exact ⟨0, Nat.zero_le _, Nat.zero_le _, rfl, Below.refl _ _, all_zero⟩
    case round =>
      obtain ⟨k, hk1, hk2, rfl, hbl, hno⟩ := hrel
      have Hno := Lib.hid hno; clear hno
      have y0 := (hbl.cell (p := ⟨w.heap.size, 0, none⟩) hs0).trans q0
      have y1 := (hbl.cell (p := ⟨w.heap.size, 1, none⟩) hs0).trans q1
      have y2 := (hbl.cell (p := ⟨w.heap.size + 1, 0, none⟩) hs1).trans q2
      have y3 := (hbl.cell (p := ⟨w.heap.size + 1, 1, none⟩) hs1).trans q3
      have hbw : Below w.heap.size w wr := HA.out.1.trans (hbl.mono (by omega))
      by_cases hlt : k < bs.length ∧ k < bs'.length
      · obtain ⟨t1, t2⟩ := hlt
        obtain ⟨b, off, rfl, hb0, g1, g2⟩ := HA.out.2.1.cell k t1
        obtain ⟨b', off', rfl, hb0', g3, g4⟩ := HA.out.2.2.2.1.cell k t2
        have d1 := (hbl.cell (p := ⟨b, off + k * 2, none⟩) hb0).trans g1
        have d2 := (hbl.cell (p := ⟨b, off + k * 2 + 1, none⟩) hb0).trans g2
        have d3 := (hbl.cell (p := ⟨b', off' + k * 2, none⟩) hb0').trans g3
        have d4 := (hbl.cell (p := ⟨b', off' + k * 2 + 1, none⟩) hb0').trans g4
        clear g1 g2 g3 g4
        have i1 : (k : Int) < (bs.length : Int) := by omega
        have i2 : (k : Int) < (bs'.length : Int) := by omega
        have i3 : (0 : Int) ≤ (k : Int) := by omega
        have HB := Lib.hid (And.intro hbl hbw)
        clear hbl hbw
        by_cases n1 : nameAt bs k = nameAt bs' k
        · have e1 : ((nameAt bs k).toList == (nameAt bs' k).toList) = true := by rw [toList_eq_iff]; exact decide_eq_true n1
          by_cases n2 : restAt bs k = restAt bs' k
          · have e2 : ((restAt bs k).toList == (restAt bs' k).toList) = true := by rw [toList_eq_iff]; exact decide_eq_true n2
            have HN := Lib.hid (And.intro n1 n2)
            clear n1 n2
            go_wp2
            go_region
            all_goals
              go_wp2
              go_roundw
              case rel => exact ⟨k + 1, by omega, by omega, by go_num, HB.out.1.drew, all_step Hno.out HN.out⟩
              case measure => simp [intOf]; omega
          · have e2 : ((restAt bs k).toList == (restAt bs' k).toList) = false := by rw [toList_eq_iff]; exact decide_eq_false n2
            have HN := Lib.hid (sameL_no (a := bs) (b := bs') fun e => n2 (by rw [e]))
            clear n1 n2
            go_wp2
            go_region
            all_goals
              go_wp2
              go_ret
              exact ⟨ret_bool (by rw [HN.out]; rfl), HB.out.2.drew⟩
        · have e1 : ((nameAt bs k).toList == (nameAt bs' k).toList) = false := by rw [toList_eq_iff]; exact decide_eq_false n1
          have HN := Lib.hid (sameL_no (a := bs) (b := bs') fun e => n1 (by rw [e]))
          clear n1
          go_wp2
          go_region
          all_goals
            go_wp2
            go_ret
            exact ⟨ret_bool (by rw [HN.out]; rfl), HB.out.2.drew⟩
      · (first | (have t : ¬ k < bs'.length := by omega) | (have t : ¬ k < bs.length := by omega))
        have Hb := Lib.hid (show bs.length = bs'.length → bs = bs' from fun e => ext_at e (fun i hi => Hno.out i (by omega)))
        have HB := Lib.hid hbl
        have hsr := hbl.size
        obtain ⟨wB, rfl⟩ : ∃ wB, wB = wr := ⟨_, rfl⟩
        clear hlt hbl hbw hk1 hk2
        rcases Nat.lt_or_ge es'.length es.length with hx | hx
        all_goals
          (try have hx' : ¬ es'.length < es.length := by omega)
          go_wp2
          go_loopw [36] (fun i wr => ∃ m : Nat, m ≤ es.length ∧ m ≤ es'.length ∧ i = .int .i64 m ∧ Below wA.heap.size wA wr ∧ ∀ j, j < m → nameAt es j = nameAt es' j ∧ restAt es j = restAt es' j) (fun i _ => es.length - (intOf i).toNat)
          case atStart => exact ⟨0, Nat.zero_le _, Nat.zero_le _, rfl, HB.out, all_zero⟩
          case round =>
            obtain ⟨m, hk1, hk2, rfl, hbl, hno⟩ := hrel
            have Hne := Lib.hid hno; clear hno
            have z0 := (hbl.cell (p := ⟨w.heap.size, 0, none⟩) hs0).trans q0
            have z1 := (hbl.cell (p := ⟨w.heap.size, 1, none⟩) hs0).trans q1
            have z2 := (hbl.cell (p := ⟨w.heap.size + 1, 0, none⟩) hs1).trans q2
            have z3 := (hbl.cell (p := ⟨w.heap.size + 1, 1, none⟩) hs1).trans q3
            have hbw : Below w.heap.size w wr := HA.out.1.trans (hbl.mono (by omega))
            by_cases hlt : m < es.length ∧ m < es'.length
            · obtain ⟨t1, t2⟩ := hlt
              obtain ⟨b, off, rfl, hb0, g1, g2⟩ := HA.out.2.2.1.cell m t1
              obtain ⟨b', off', rfl, hb0', g3, g4⟩ := HA.out.2.2.2.2.cell m t2
              have d1 := (hbl.cell (p := ⟨b, off + m * 2, none⟩) hb0).trans g1
              have d2 := (hbl.cell (p := ⟨b, off + m * 2 + 1, none⟩) hb0).trans g2
              have d3 := (hbl.cell (p := ⟨b', off' + m * 2, none⟩) hb0').trans g3
              have d4 := (hbl.cell (p := ⟨b', off' + m * 2 + 1, none⟩) hb0').trans g4
              clear g1 g2 g3 g4
              have i1 : (m : Int) < (es.length : Int) := by omega
              have i2 : (m : Int) < (es'.length : Int) := by omega
              have i3 : (0 : Int) ≤ (m : Int) := by omega
              have HC := Lib.hid (And.intro hbl hbw)
              clear hbl hbw
              by_cases n1 : nameAt es m = nameAt es' m
              · have e1 : ((nameAt es m).toList == (nameAt es' m).toList) = true := by rw [toList_eq_iff]; exact decide_eq_true n1
                by_cases n2 : restAt es m = restAt es' m
                · have e2 : ((restAt es m).toList == (restAt es' m).toList) = true := by rw [toList_eq_iff]; exact decide_eq_true n2
                  have HN := Lib.hid (And.intro n1 n2)
                  clear n1 n2
                  go_wp2
                  go_region
                  all_goals
                    go_wp2
                    go_roundw
                    case rel => exact ⟨m + 1, by omega, by omega, by go_num, HC.out.1.drew, all_step Hne.out HN.out⟩
                    case measure => simp [intOf]; omega
                · have e2 : ((restAt es m).toList == (restAt es' m).toList) = false := by rw [toList_eq_iff]; exact decide_eq_false n2
                  have HN := Lib.hid (sameL_no (a := es) (b := es') fun e => n2 (by rw [e]))
                  clear n1 n2
                  go_wp2
                  go_region
                  all_goals
                    go_wp2
                    go_ret
                    exact ⟨ret_bool (by rw [HN.out, Bool.and_false]), HC.out.2.drew⟩
              · have e1 : ((nameAt es m).toList == (nameAt es' m).toList) = false := by rw [toList_eq_iff]; exact decide_eq_false n1
                have HN := Lib.hid (sameL_no (a := es) (b := es') fun e => n1 (by rw [e]))
                clear n1
                go_wp2
                go_region
                all_goals
                  go_wp2
                  go_ret
                  exact ⟨ret_bool (by rw [HN.out, Bool.and_false]), HC.out.2.drew⟩
            · (first | (have t' : ¬ m < es'.length := by omega) | (have t' : ¬ m < es.length := by omega))
              have He := Lib.hid (show es.length = es'.length → es = es' from fun e => ext_at e (fun i hi => Hne.out i (by omega)))
              have HC := Lib.hid hbw
              clear hlt hbl hbw hk1 hk2
              by_cases c1 : bs.length = bs'.length
              · have Ha := Lib.hid (sameL_yes (Hb.out c1))
                have c1' : ((bs.length : Int) == (bs'.length : Int)) = true := by rw [eql_len]; exact decide_eq_true c1
                by_cases c2 : es.length = es'.length
                · have Hc := Lib.hid (sameL_yes (He.out c2))
                  have c2' : ((es.length : Int) == (es'.length : Int)) = true := by rw [eql_len]; exact decide_eq_true c2
                  clear c1 c2
                  go_wp2
                  go_ret
                  exact ⟨ret_bool (by rw [Ha.out, Hc.out]; rfl), HC.out⟩
                · have Hc := Lib.hid (sameL_no (a := es) (b := es') fun e => c2 (by rw [e]))
                  have c2' : ((es.length : Int) == (es'.length : Int)) = false := by rw [eql_len]; exact decide_eq_false c2
                  clear c1 c2
                  go_wp2
                  go_ret
                  exact ⟨ret_bool (by rw [Hc.out, Bool.and_false]), HC.out⟩
              · have Ha := Lib.hid (sameL_no (a := bs) (b := bs') fun e => c1 (by rw [e]))
                have c1' : ((bs.length : Int) == (bs'.length : Int)) = false := by rw [eql_len]; exact decide_eq_false c1
                clear c1
                go_wp2
                go_ret
                exact ⟨ret_bool (by rw [Ha.out]; rfl), HC.out⟩
end Go.Proofs.YtflnkahgmbndiaaGreatDoor
end
