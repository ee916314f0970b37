/-
  RunsUpTo of the model: l2All. Conditions: a valid program, at most 12 blocks.
-/
import Derived.Test.YtflnkahgmbndiaaDoorRunM
import Derived.Test.YtflnkahgmbndiaaDoorRows4
import Derived.Test.YtflnkahgmbndiaaDoorRuns
import Derived.Test.YtflnkahgmbndiaaDoorBytes
import Derived.Test.YtflnkahgmbndiaaDoorSpecD
import Derived.Test.YtflnkahgmbndiaaDoorValid
import Derived.Deep.RegionHeldLaw
namespace Go.Proofs.YtflnkahgmbndiaaDoor
open Go.RowKit Go.Maps

/-- a list of texts in a row of one's own that grew -/
def ListPostR (base : Nat) (w : World) (v : Value) (M : List ByteArray) (e : Ending) (w' : World) : Prop :=
  ∃ v', e = .returned v' ∧ w'.ownsRow base 9 1 v' M.length (M.map Value.string) ∧ w.grownBy w' v.ownBlock ∧ (v'.ownBlock = v.ownBlock ∨ ∃ j, w.heap.size ≤ j ∧ v'.ownBlock = some j)
theorem grownR {w w1 w2 : World} {r r1 : Option Nat} (h : w.grownBy w1 r) (h1 : w1.grownBy w2 r1) (hr : r1 = r ∨ ∃ j, w.heap.size ≤ j ∧ r1 = some j) : w.grownBy w2 r :=
  ⟨h1.os.trans h.os, h1.tape.trans h.tape, h1.output.trans h.output, Nat.le_trans h.size h1.size, fun k hk hne => by
    rw [h1.block k (Nat.lt_of_lt_of_le hk h.size) ?_, h.block k hk hne]
    rcases hr with rfl | ⟨j, hj, rfl⟩
    · exact hne
    · intro e; cases e; omega⟩
theorem grown_of_below {w w1 : World} (h : Below w.heap.size w w1) (r : Option Nat) : w.grownBy w1 r := ⟨h.os, h.tape, h.output, h.size, fun k hk _ => h.block k hk⟩
theorem own_farR {a b : Nat} {v v1 v2 : Option Nat} (hab : a ≤ b) (h1 : v1 = v ∨ ∃ j, a ≤ j ∧ v1 = some j) (h2 : v2 = v1 ∨ ∃ j, b ≤ j ∧ v2 = some j) : v2 = v ∨ ∃ j, a ≤ j ∧ v2 = some j := by
  rcases h2 with rfl | ⟨j, hj, rfl⟩
  · exact h1
  · exact .inr ⟨j, by omega, rfl⟩
theorem name_sizeR {bs : List Pr} (h : BlocksOk bs) {i : Nat} (hi : i < bs.length) : (nameAt bs i).size = 1 := by
  have := h.nm (bs.getD i (e0, e0)) (by rw [List.getD_eq_getElem?_getD, List.getElem?_eq_getElem hi]; simp)
  unfold isNm at this
  simp at this
  exact this.1
theorem app_lastR {t y : ByteArray} (hy : y.size = 1) : (t ++ y).extract ((t ++ y).size - 1) (t ++ y).size = y := by
  rw [ByteArray.size_append, hy]
  apply bytes_ext2
  simp only [Nat.add_sub_cancel]
  have h2 : y.data.size = 1 := hy
  have h3 : t.data.size = t.size := rfl
  simp [ByteArray.data_extract, ByteArray.data_append, h3]
  exact List.take_of_length_le (by rw [Array.length_toList, h2]; exact Nat.le_refl _)
theorem slice_lastR (way h : ByteArray) (hw0 : 0 < way.size) (hh : way.extract (way.size - 1) way.size = h) : ∀ W : World, (Instr.slice 9 (.string way) (some (.int .i64 ((way.size : Int) - 1))) none none).run Tryd.prog W = .ok (.string h) W := fun W => by
  have h2 : (way.size : Int) - 1 ≤ way.size := by omega
  have h4 : ¬ (way.size : Int) < 1 := by omega
  have e3 : ((way.size : Int) - 1).toNat = way.size - 1 := by omega
  simp [Instr.slice, Instr.sliceBounds, Instr.sliceBound, run_underlying Tryd.underlying9, asIntOf, h2, h4, e3, hh]
set_option maxRecDepth 100000 in
set_option maxHeartbeats 3200000 in
theorem l2All_end (wB : World) (bs es : List Pr) (ab ae : Option Addr) (cb ce : Nat) (hV : Valid bs es) (hpb : PairsAt wB ab bs) (_ : PairsAt wB ae es) (K : Nat) (hK : K ≤ 12) (n : Nat) (way h : ByteArray) (L : List ByteArray) (v : Value) (w : World) (hn : way.size + n = K) (hw0 : 0 < way.size) (hh : way.extract (way.size - 1) way.size = h) (hL : L.length ≤ 300) (hown : w.ownsRow wB.heap.size 9 1 v L.length (L.map Value.string)) (hbl : Below wB.heap.size wB w) (hz : h = lastN bs) :
    Calls Tryd.prog 28 #[.agg #[.slice ab bs.length cb, .slice ae es.length ce], .string way, .int .i64 (K : Int), v] w (ListPostR wB.heap.size w v (cut301 (L ++ runsF bs es (lastN bs) n h way))) := by
  obtain ⟨i0, hi, hz0, hz1, hz2⟩ := info_parts Tryd.infoStr
  have hlb := hV.b.lo
  have hhb := hV.b.hi
  have hsz := hbl.size
  obtain ⟨b, off, hpe0, hb, g1, g2⟩ := hpb.cell (bs.length - 1) (by omega)
  obtain ⟨wa, wc, rfl⟩ := own_form hown
  have hb1 : Below wB.heap.size wB (w.alloc (.cells #[.slice ab bs.length cb, .slice ae es.length ce] 33)) := hbl.alloc hsz _
  have d1 := (hb1.cell (p := ⟨b, off + (bs.length - 1) * 2, none⟩) hb).trans g1
  subst hpe0
  have l1 : (0 : Int) ≤ (bs.length : Int) - 1 := by omega
  have l2 : (bs.length : Int) - 1 < (bs.length : Int) := by omega
  have l4 : (1 : Int) ≤ (bs.length : Int) := by omega
  have l5 : 1 ≤ bs.length := by omega
  have l7 : (1 : Int) ≤ (way.size : Int) := by omega
  have e1 : IntKind.i64.wrap ((bs.length : Int) - 1) = (bs.length : Int) - 1 := IntWalk.i64_in _ (by omega)
  have e2 : ((bs.length : Int) - 1).toNat = bs.length - 1 := by omega
  have e3 : ((way.size : Int) - 1).toNat = way.size - 1 := by omega
  have e4 : IntKind.i64.wrap ((way.size : Int) - 1) = (way.size : Int) - 1 := IntWalk.i64_in _ (by omega)
  have s1 := slice_lastR way h hw0 hh
  have t1 : (h.toList == (nameAt bs (bs.length - 1)).toList) = true := by rw [toList_eq_iff]; exact decide_eq_true hz
  have HM := Lib.hid (show cut301 (L ++ runsF bs es (lastN bs) n h way) = L ++ [way] from by rw [hz, runsF_end]; unfold cut301; exact List.take_of_length_le (by simp; omega))
  clear hz
  go_enter Tryd.func28, Tryd.ntmps28
  go_wp2_with (at_builtin; refine wpList_append_own_at _ rfl _ _ 27 rfl wB.heap.size 9 i0 (.string ⟨#[]⟩) 1 16 Tryd.underlying27 hi hz0 hz1 hz2 rfl (by decide) _ _ _ rfl ((hown.alloc _).alloc _) ⟨w.heap.size + 1, 0, none⟩ 1 1 [.string way] rfl rfl (fun j u hj => by have := cell_one_new (w.alloc (.cells #[.slice (some ⟨b, off, none⟩) bs.length cb, .slice ae es.length ce] 33)) (.string way) 9 j u hj; simpa using this) (one_one _ rfl) (by unfold maxLen; omega) (by omega) (by simp; omega) ?_; intro v' w4 hown4 hgrow4 _ how4)
  go_ret
  refine ⟨v', rfl, by rw [HM.out]; simpa using hown4, grownR (grown_of_below (((Below.refl _ w).alloc (Nat.le_refl _) _).alloc (by simp) _) _) hgrow4 (.inl rfl), ?_⟩
  rcases how4 with h | h
  · exact .inl h
  · exact .inr ⟨_, by simp; omega, h⟩
set_option maxRecDepth 100000 in
set_option maxHeartbeats 3200000 in
theorem l2All_last (wB : World) (bs es : List Pr) (ab ae : Option Addr) (cb ce : Nat) (hV : Valid bs es) (hpb : PairsAt wB ab bs) (_ : PairsAt wB ae es) (K : Nat) (hK : K ≤ 12) (way h : ByteArray) (L : List ByteArray) (v : Value) (w : World) (hn : way.size = K) (hw0 : 0 < way.size) (hh : way.extract (way.size - 1) way.size = h) (hL : L.length ≤ 300) (hown : w.ownsRow wB.heap.size 9 1 v L.length (L.map Value.string)) (hbl : Below wB.heap.size wB w) (hz : h ≠ lastN bs) :
    Calls Tryd.prog 28 #[.agg #[.slice ab bs.length cb, .slice ae es.length ce], .string way, .int .i64 (K : Int), v] w (ListPostR wB.heap.size w v (cut301 (L ++ runsF bs es (lastN bs) 0 h way))) := by
  have hlb := hV.b.lo
  have hhb := hV.b.hi
  have hsz := hbl.size
  obtain ⟨b, off, hpe0, hb, g1, g2⟩ := hpb.cell (bs.length - 1) (by omega)
  obtain ⟨wa, wc, rfl⟩ := own_form hown
  have hb1 : Below wB.heap.size wB (w.alloc (.cells #[.slice ab bs.length cb, .slice ae es.length ce] 33)) := hbl.alloc hsz _
  have d1 := (hb1.cell (p := ⟨b, off + (bs.length - 1) * 2, none⟩) hb).trans g1
  subst hpe0
  have l1 : (0 : Int) ≤ (bs.length : Int) - 1 := by omega
  have l2 : (bs.length : Int) - 1 < (bs.length : Int) := by omega
  have l4 : (1 : Int) ≤ (bs.length : Int) := by omega
  have l5 : 1 ≤ bs.length := by omega
  have l7 : (1 : Int) ≤ (way.size : Int) := by omega
  have e1 : IntKind.i64.wrap ((bs.length : Int) - 1) = (bs.length : Int) - 1 := IntWalk.i64_in _ (by omega)
  have e2 : ((bs.length : Int) - 1).toNat = bs.length - 1 := by omega
  have e3 : ((way.size : Int) - 1).toNat = way.size - 1 := by omega
  have e4 : IntKind.i64.wrap ((way.size : Int) - 1) = (way.size : Int) - 1 := IntWalk.i64_in _ (by omega)
  have s1 := slice_lastR way h hw0 hh
  have t1 : (h.toList == (nameAt bs (bs.length - 1)).toList) = false := by rw [toList_eq_iff]; exact decide_eq_false hz
  have t2 : ((way.size : Int) == (K : Int)) = true := by simp; omega
  have HM := Lib.hid (show cut301 (L ++ runsF bs es (lastN bs) 0 h way) = L from by rw [runsF_last hz]; unfold cut301; rw [List.append_nil]; exact List.take_of_length_le (by omega))
  clear hz hn
  go_enter Tryd.func28, Tryd.ntmps28
  go_wp2
  go_ret
  exact ⟨_, rfl, by rw [HM.out]; exact hown.alloc _, grown_of_below ((Below.refl _ w).alloc (Nat.le_refl _) _) _, .inl rfl⟩
set_option maxRecDepth 100000 in
set_option maxHeartbeats 3200000 in
theorem l2All_any (wB : World) (bs es : List Pr) (ab ae : Option Addr) (cb ce : Nat) (hV : Valid bs es) (hpb : PairsAt wB ab bs) (hpe : PairsAt wB ae es) (K : Nat) (hK : K ≤ 12) :
    ∀ (n : Nat) (way h : ByteArray) (L : List ByteArray) (v : Value) (w : World) (_ : way.size + n = K) (_ : 0 < way.size) (_ : way.extract (way.size - 1) way.size = h) (_ : L.length ≤ 300) (_ : w.ownsRow wB.heap.size 9 1 v L.length (L.map Value.string)) (_ : Below wB.heap.size wB w),
    Calls Tryd.prog 28 #[.agg #[.slice ab bs.length cb, .slice ae es.length ce], .string way, .int .i64 (K : Int), v] w (ListPostR wB.heap.size w v (cut301 (L ++ runsF bs es (lastN bs) n h way))) := by
  intro n
  induction n with
  | zero =>
    intro way h L v w hn hw0 hh hL hown hbl
    by_cases hz : h = lastN bs
    · exact l2All_end wB bs es ab ae cb ce hV hpb hpe K hK 0 way h L v w hn hw0 hh hL hown hbl hz
    · exact l2All_last wB bs es ab ae cb ce hV hpb hpe K hK way h L v w hn hw0 hh hL hown hbl hz
  | succ n ih =>
    intro way h L v w hn hw0 hh hL hown hbl
    by_cases hz : h = lastN bs
    · exact l2All_end wB bs es ab ae cb ce hV hpb hpe K hK (n + 1) way h L v w hn hw0 hh hL hown hbl hz
    have hlb := hV.b.lo
    have hhb := hV.b.hi
    have hsz := hbl.size
    obtain ⟨b, off, hpe0, hb, g1, g2⟩ := hpb.cell (bs.length - 1) (by omega)
    obtain ⟨wa, wc, rfl⟩ := own_form hown
    have hb1 : Below wB.heap.size wB (w.alloc (.cells #[.slice ab bs.length cb, .slice ae es.length ce] 33)) := hbl.alloc hsz _
    have d1 := (hb1.cell (p := ⟨b, off + (bs.length - 1) * 2, none⟩) hb).trans g1
    subst hpe0
    have l1 : (0 : Int) ≤ (bs.length : Int) - 1 := by omega
    have l2 : (bs.length : Int) - 1 < (bs.length : Int) := by omega
    have l4 : (1 : Int) ≤ (bs.length : Int) := by omega
    have l5 : 1 ≤ bs.length := by omega
    have l7 : (1 : Int) ≤ (way.size : Int) := by omega
    have e1 : IntKind.i64.wrap ((bs.length : Int) - 1) = (bs.length : Int) - 1 := IntWalk.i64_in _ (by omega)
    have e2 : ((bs.length : Int) - 1).toNat = bs.length - 1 := by omega
    have e3 : ((way.size : Int) - 1).toNat = way.size - 1 := by omega
    have e4 : IntKind.i64.wrap ((way.size : Int) - 1) = (way.size : Int) - 1 := IntWalk.i64_in _ (by omega)
    have s1 := slice_lastR way h hw0 hh
    have t1 : (h.toList == (nameAt bs (bs.length - 1)).toList) = false := by rw [toList_eq_iff]; exact decide_eq_false hz
    have t2 : ((way.size : Int) == (K : Int)) = false := by simp; omega
    obtain ⟨G, hG⟩ : ∃ G : Nat → List ByteArray, ∀ m, cut301 (L ++ runsP bs es (lastN bs) n h way m) = G m := ⟨_, fun _ => rfl⟩
    have G0 : G 0 = L := by rw [← hG, runsP_zero, List.append_nil]; unfold cut301; exact List.take_of_length_le (by omega)
    have Ge : cut301 (L ++ runsF bs es (lastN bs) (n + 1) h way) = G bs.length := by rw [← hG, runsF_on hz]
    have Gy : ∀ m, (h, nameAt bs m) ∈ es → (G m).length ≤ 300 → cut301 (G m ++ runsF bs es (lastN bs) n (nameAt bs m) (way ++ nameAt bs m)) = G (m + 1) := fun m he hl => by
      rw [← hG] at hl
      rw [← hG, ← hG, cut301_few hl, runsP_yes he, List.append_assoc]
    have Gn : ∀ m, (h, nameAt bs m) ∉ es → G m = G (m + 1) := fun m he => by rw [← hG, ← hG, runsP_no he]
    have Gm : ∀ m, ¬ (G m).length ≤ 300 → G m = G (m + 1) := fun m hl => by
      rw [← hG] at hl
      by_cases he : (h, nameAt bs m) ∈ es
      · rw [← hG, ← hG, runsP_yes he, ← List.append_assoc, cut301_many hl]
      · exact Gn m he
    have Gl : ∀ m, (G m).length ≤ 301 := fun m => by rw [← hG]; exact cut301_len _
    have HG := Lib.hid (And.intro Ge (And.intro Gy (And.intro Gn (And.intro Gm Gl))))
    have HV := Lib.hid hV
    have hown1 := hown.alloc (.cells #[.slice (some ⟨b, off, none⟩) bs.length cb, .slice ae es.length ce] 33)
    obtain ⟨ob, hob⟩ : ∃ ob, (Value.slice wa L.length wc).ownBlock = ob := ⟨_, rfl⟩
    have hlt0 : ∀ j, ob = some j → wB.heap.size ≤ j ∧ j < w.heap.size := fun j hj => hown.lt j (hob.trans hj)
    have HH := Lib.hid hh
    have HN := Lib.hid hn
    have HG0 := Lib.hid G0
    have hgw := grown_of_below ((Below.refl w.heap.size w).alloc (Nat.le_refl _) (.cells #[.slice (some ⟨b, off, none⟩) bs.length cb, .slice ae es.length ce] 33)) ob
    have y0 : (w.alloc (.cells #[.slice (some ⟨b, off, none⟩) bs.length cb, .slice ae es.length ce] 33)).cell? ⟨w.heap.size, 0, none⟩ = some (.slice (some ⟨b, off, none⟩) bs.length cb) := by go_simp
    have y1 : (w.alloc (.cells #[.slice (some ⟨b, off, none⟩) bs.length cb, .slice ae es.length ce] 33)).cell? ⟨w.heap.size, 1, none⟩ = some (.slice ae es.length ce) := by go_simp
    have hszA : w.heap.size < (w.alloc (.cells #[.slice (some ⟨b, off, none⟩) bs.length cb, .slice ae es.length ce] 33)).heap.size := by simp
    have HP := Lib.hid (And.intro hpb hpe)
    clear Ge Gy Gn Gm Gl hG hz hV hh hn G0 hown hpb hpe hbl
    go_enter Tryd.func28, Tryd.ntmps28
    go_wp2
    generalize w.alloc (.cells #[.slice (some ⟨b, off, none⟩) bs.length cb, .slice ae es.length ce] 33) = wA at *
    have HA := Lib.hid (And.intro hb1 (And.intro hgw (And.intro y0 y1)))
    have HO := Lib.hid hob
    clear hb1 hgw y0 y1 d1 g1 g2 t1 t2 s1
    go_loopw [3, 40] (fun o i wr => ∃ m : Nat, m ≤ bs.length ∧ i = .int .i64 m ∧ wr.ownsRow wB.heap.size 9 1 o (G m).length ((G m).map Value.string) ∧ wA.grownBy wr ob ∧ (o.ownBlock = ob ∨ ∃ j, wA.heap.size ≤ j ∧ o.ownBlock = some j)) (fun _ i _ => bs.length - (intOf i).toNat)
    case atStart => exact ⟨0, Nat.zero_le _, rfl, by rw [HG0.out]; exact hown1, grown_of_below (Below.refl _ _) _, .inl HO.out⟩
    case round =>
      obtain ⟨m, hm, rfl, howr, hgr, hfar⟩ := hrel
      have hzr := hgr.size
      have x0 := (World.cell?_of_block (a := ⟨w.heap.size, 0, none⟩) (hgr.block w.heap.size hszA (fun e => by have := (hlt0 _ e.symm).2; omega))).trans HA.out.2.2.1
      have x1 := (World.cell?_of_block (a := ⟨w.heap.size, 1, none⟩) (hgr.block w.heap.size hszA (fun e => by have := (hlt0 _ e.symm).2; omega))).trans HA.out.2.2.2
      have hbr : Below wB.heap.size wB wr := HA.out.1.grown hgr (by have := HA.out.1.size; omega) (fun k hk => (hlt0 k hk).1)
      obtain ⟨oa, oc, rfl⟩ := own_form howr
      have HR := Lib.hid (And.intro howr (And.intro hgr (And.intro hfar hbr)))
      clear howr hgr hfar
      by_cases hlt : m < bs.length
      · obtain ⟨b', off', e', hb', c1, c2⟩ := HP.out.1.cell m hlt
        have eb : b' = b ∧ off' = off := by simp at e'; exact ⟨e'.1.symm, e'.2.symm⟩
        obtain ⟨rfl, rfl⟩ := eb
        have d1 := (hbr.cell (p := ⟨b', off' + m * 2, none⟩) hb').trans c1
        have d2 := (hbr.cell (p := ⟨b', off' + m * 2 + 1, none⟩) hb').trans c2
        have z0 := (World.cell?_of_block (a := ⟨w.heap.size, 0, none⟩) (Below.heap_alloc wr (.cells #[.string (nameAt bs m), .string (restAt bs m)] 61) w.heap.size (by omega))).trans x0
        have z1 := (World.cell?_of_block (a := ⟨w.heap.size, 1, none⟩) (Below.heap_alloc wr (.cells #[.string (nameAt bs m), .string (restAt bs m)] 61) w.heap.size (by omega))).trans x1
        have z2 : (wr.alloc (.cells #[.string (nameAt bs m), .string (restAt bs m)] 61)).cell? ⟨wr.heap.size, 0, none⟩ = some (.string (nameAt bs m)) := by go_simp
        have hbb := hbr.alloc hbr.size (.cells #[.string (nameAt bs m), .string (restAt bs m)] 61)
        have hob2 := HR.out.1.alloc (.cells #[.string (nameAt bs m), .string (restAt bs m)] 61)
        have hgb := grownR HR.out.2.1 (grown_of_below ((Below.refl wr.heap.size wr).alloc (Nat.le_refl _) (.cells #[.string (nameAt bs m), .string (restAt bs m)] 61)) ob) (.inl rfl)
        have hzb : wr.heap.size < (wr.alloc (.cells #[.string (nameAt bs m), .string (restAt bs m)] 61)).heap.size := by simp
        clear c1 c2 hb' e' hbr
        by_cases hle : (G m).length ≤ 300
        · have dle : ((G m).length : Int) ≤ 300 := by omega
          have hnm := name_sizeR HV.out.b hlt
          have t3 : ¬ 9223372036854775807 < way.size + (nameAt bs m).size := by have := HN.out; omega
          have t4 : ¬ 9223372036854775807 < way.size + 1 := by have := HN.out; omega
          have HNm := Lib.hid hnm
          clear hnm
          by_cases he : (h, nameAt bs m) ∈ es
          · obtain ⟨kk, _, hk, _⟩ := fndE_yes he
            have HK := Lib.hid hk
            have HE := Lib.hid (HG.out.2.1 m he hle)
            clear hk he
            go_wp2_with fail
            generalize wr.alloc (.cells #[.string (nameAt bs m), .string (restAt bs m)] 61) = wb at *
            refine (l1Edge_yes h (nameAt bs m) _ es _ _ _ kk HK.out (HP.out.2.below hbb)).mono ?_
            rintro e wN ⟨rfl, hbN⟩
            have hzn := hbN.size
            have u0 := (hbN.cell (p := ⟨w.heap.size, 0, none⟩) (by show w.heap.size < _; omega)).trans z0
            have u1 := (hbN.cell (p := ⟨w.heap.size, 1, none⟩) (by show w.heap.size < _; omega)).trans z1
            have u2 := (hbN.cell (p := ⟨wr.heap.size, 0, none⟩) hzb).trans z2
            have hoN := ownsRow_below hob2 hbN
            have hgN := grownR hgb (grown_of_below hbN ob) (.inl rfl)
            have hBN : Below wB.heap.size wB wN := hbb.trans (hbN.mono hbb.size)
            have HNN := Lib.hid (And.intro hoN (And.intro hgN hBN))
            clear z0 z1 z2 hob2 hgb hbb hbN hoN hgN hBN
            go_wp2_with fail
            refine (ih (way ++ nameAt bs m) (nameAt bs m) (G m) _ wN (by rw [ByteArray.size_append, HNm.out]; have := HN.out; omega) (by rw [ByteArray.size_append, HNm.out]; omega) (app_lastR HNm.out) hle HNN.out.1 HNN.out.2.2).mono ?_
            rintro e wM ⟨v', rfl, hoM, hgM, hfM⟩
            have hfar2 := own_farR (v2 := v'.ownBlock) (Nat.le_trans HR.out.2.1.size (by omega)) HR.out.2.2.1 hfM
            have hgM2 := grownR HNN.out.2.1 hgM HR.out.2.2.1
            rw [HE.out] at hoM
            have HM := Lib.hid (And.intro hoM (And.intro hgM2 hfar2))
            clear hoM hgM hfM hgM2 hfar2
            go_wp2
            go_roundw
            case rel => exact ⟨m + 1, by omega, by go_num, HM.out⟩
            case measure => simp [intOf]; omega
          · have HE := Lib.hid (HG.out.2.2.1 m he)
            have HI := Lib.hid he
            clear he
            go_wp2_with fail
            generalize wr.alloc (.cells #[.string (nameAt bs m), .string (restAt bs m)] 61) = wb at *
            refine (l1Edge_no h (nameAt bs m) _ es _ _ _ HI.out (HP.out.2.below hbb)).mono ?_
            rintro e wN ⟨rfl, hbN⟩
            have hzn := hbN.size
            have HNN := Lib.hid (And.intro (ownsRow_below hob2 hbN) (grownR hgb (grown_of_below hbN ob) (.inl rfl)))
            clear hob2 hgb hbN
            go_wp2
            go_roundw
            case rel => exact ⟨m + 1, by omega, by go_num, by rw [← HE.out]; exact HNN.out.1, HNN.out.2, HR.out.2.2.1⟩
            case measure => simp [intOf]; omega
        · have dle : ¬ ((G m).length : Int) ≤ 300 := by omega
          have ddle : decide (((G m).length : Int) ≤ 300) = false := decide_eq_false dle
          have HE := Lib.hid (HG.out.2.2.2.1 m hle)
          go_wp2
          go_roundw
          case rel => exact ⟨m + 1, by omega, by go_num, by rw [← HE.out]; exact hob2, hgb, HR.out.2.2.1⟩
          case measure => simp [intOf]; omega
      · obtain rfl : m = bs.length := by omega
        go_wp2
        go_ret
        exact ⟨_, rfl, by rw [HG.out.1]; exact HR.out.1, by rw [HO.out]; exact grownR HA.out.2.1 HR.out.2.1 (.inl rfl), by rw [HO.out]; exact own_farR (by omega) (.inl rfl) HR.out.2.2.1⟩
open Classical in
/-- what RunsUpTo answers -/
noncomputable def runsR (bs es : List Pr) (k : Int) : List ByteArray × Bool :=
  if validB bs es = true ∧ inB k 0 12 = true ∧ (allRuns bs es k.toNat).length ≤ 300 then (allRuns bs es k.toNat, true) else ([], false)
def RunsPost (w : World) (r : List ByteArray × Bool) (e : Ending) (w' : World) : Prop :=
  ∃ v, e = .returned (.tuple #[v, .bool r.2]) ∧ w'.ownsRow w.heap.size 9 1 v r.1.length (r.1.map Value.string) ∧ Below w.heap.size w w'
theorem runsR_no1 {bs es : List Pr} {k : Int} (h : validB bs es = false) : runsR bs es k = ([], false) := by unfold runsR; rw [if_neg (fun h' => by rw [h] at h'; exact absurd h'.1 (by decide))]
theorem runsR_no2 {bs es : List Pr} {k : Int} (h : inB k 0 12 = false) : runsR bs es k = ([], false) := by unfold runsR; rw [if_neg (fun h' => by rw [h] at h'; exact absurd h'.2.1 (by decide))]
theorem runsR_no3 {bs es : List Pr} {k : Nat} (h : ¬ (allRuns bs es k).length ≤ 300) : runsR bs es (k : Int) = ([], false) := by unfold runsR; rw [Int.toNat_natCast, if_neg (fun h' => h h'.2.2)]
theorem runsR_yes {bs es : List Pr} {k : Nat} (hv : validB bs es = true) (hk : inB (k : Int) 0 12 = true) (h : (allRuns bs es k).length ≤ 300) : runsR bs es (k : Int) = (allRuns bs es k, true) := by unfold runsR; rw [Int.toNat_natCast, if_pos ⟨hv, hk, h⟩]
theorem allRuns_few {bs es : List Pr} {k : Nat} (h : k ≤ 1) : allRuns bs es k = [] := by unfold allRuns; rw [if_neg (by omega)]
theorem allRuns_more {bs es : List Pr} {k : Nat} (h : 1 < k) : allRuns bs es k = runsF bs es (lastN bs) (k - 1) (nameAt bs 0) (nameAt bs 0) := by unfold allRuns; rw [if_pos h]; rfl
theorem one_lastR {y : ByteArray} (hy : y.size = 1) : y.extract (y.size - 1) y.size = y := by
  apply bytes_ext2
  have h2 : y.data.size = 1 := hy
  simp [ByteArray.data_extract, hy]
  exact List.take_of_length_le (by rw [Array.length_toList, h2]; exact Nat.le_refl _)
theorem l1In_at (n lo hi : Int) (b : Bool) (h : inB n lo hi = b) (w : World) :
    Calls Tryd.prog 27 #[.int .i64 n, .int .i64 lo, .int .i64 hi] w fun e w' => e = .returned (.bool b) ∧ w = w' := by subst h; exact l1In_any n lo hi w

set_option maxRecDepth 100000 in
set_option maxHeartbeats 3200000 in
theorem RunsUpTo_spec (w : World) (bs es : List Pr) (ab ae : Option Addr) (cb ce : Nat) (k : Int) (hpb : PairsAt w ab bs) (hpe : PairsAt w ae es) :
    Calls Tryd.prog 7 #[.agg #[.slice ab bs.length cb, .slice ae es.length ce], .int .i64 k] w (RunsPost w (runsR bs es k)) := by
  have h1 : Below w.heap.size w (w.alloc (.cells #[.slice ab bs.length cb, .slice ae es.length ce] 33)) := (Below.refl _ _).alloc (Nat.le_refl _) _
  have hpb1 := hpb.below h1
  have hpe1 := hpe.below h1
  have H1 := Lib.hid h1; clear h1
  cases hv : validB bs es
  · have HV := Lib.hid (show validB bs es = false from hv)
    have HR := Lib.hid (runsR_no1 (k := k) hv)
    clear hv
    go_enter Tryd.func7, Tryd.ntmps7
    go_wp2_with fail
    refine (ProgValid_spec _ bs es _ _ _ _ hpb1 hpe1).mono ?_
    rintro e w1 ⟨rfl, hb1⟩
    rw [HV.out]
    have hall : Below w.heap.size w w1 := H1.out.trans (hb1.mono (by simp))
    go_wp2
    go_ret2
    exact ⟨_, by rw [HR.out]; rfl, by rw [HR.out]; exact World.ownsRow_made w1 #[] 0 hall.size (Nat.zero_le _) rfl, hall.alloc hall.size _⟩
  · have HV := Lib.hid (show validB bs es = true from hv)
    clear hv
    cases hk : inB k 0 12
    · have HK := Lib.hid hk
      have HR := Lib.hid (runsR_no2 (bs := bs) (es := es) hk)
      clear hk
      go_enter Tryd.func7, Tryd.ntmps7
      go_wp2_with fail
      refine (ProgValid_spec _ bs es _ _ _ _ hpb1 hpe1).mono ?_
      rintro e w1 ⟨rfl, hb1⟩
      rw [HV.out]
      have hall : Below w.heap.size w w1 := H1.out.trans (hb1.mono (by simp))
      clear hb1
      go_wp2_with fail
      refine (l1In_at k 0 12 false HK.out w1).mono ?_
      rintro e w2 ⟨rfl, rfl⟩
      go_wp2
      go_ret2
      exact ⟨_, by rw [HR.out]; rfl, by rw [HR.out]; exact World.ownsRow_made w1 #[] 0 hall.size (Nat.zero_le _) rfl, hall.alloc hall.size _⟩
    · obtain ⟨K, rfl, hK⟩ : ∃ K : Nat, k = (K : Int) ∧ K ≤ 12 := by
        have := hk
        simp [inB] at this
        exact ⟨k.toNat, by omega, by omega⟩
      have HK := Lib.hid hk
      clear hk
      by_cases hK1 : K ≤ 1
      · have HR := Lib.hid (runsR_yes HV.out HK.out (by rw [allRuns_few hK1]; exact Nat.zero_le _))
        have HA := Lib.hid (allRuns_few (bs := bs) (es := es) hK1)
        have t1 : ¬ (1 : Int) < (K : Int) := by omega
        clear hK1 hK
        go_enter Tryd.func7, Tryd.ntmps7
        go_wp2_with fail
        refine (ProgValid_spec _ bs es _ _ _ _ hpb1 hpe1).mono ?_
        rintro e w1 ⟨rfl, hb1⟩
        rw [HV.out]
        have hall : Below w.heap.size w w1 := H1.out.trans (hb1.mono (by simp))
        clear hb1
        go_wp2_with fail
        refine (l1In_at (K : Int) 0 12 true HK.out w1).mono ?_
        rintro e w2 ⟨rfl, rfl⟩
        go_wp2
        go_ret2
        exact ⟨_, by rw [HR.out]; rfl, by rw [HR.out, HA.out]; exact World.ownsRow_made w1 #[] 0 hall.size (Nat.zero_le _) rfl, hall.alloc hall.size _⟩
      · have hV : Valid bs es := by simpa [validB] using HV.out
        have hlb := hV.b.lo
        have hnm := name_sizeR hV.b (i := 0) (by omega)
        have HA := Lib.hid (allRuns_more (bs := bs) (es := es) (k := K) (by omega))
        have t1 : (1 : Int) < (K : Int) := by omega
        obtain ⟨b, off, rfl, hb, g1, _⟩ := hpb.cell 0 (by omega)
        simp only [Nat.zero_mul, Nat.add_zero] at g1
        have h0 : (0 : Int) < (bs.length : Int) := by omega
        have h00 : 0 < bs.length := by omega
        have HX := Lib.hid (And.intro hV (And.intro hnm hK1))
        clear hV hnm hK1
        go_enter Tryd.func7, Tryd.ntmps7
        go_wp2_with fail
        refine (ProgValid_spec _ bs es _ _ _ _ hpb1 hpe1).mono ?_
        rintro e w1 ⟨rfl, hb1⟩
        rw [HV.out]
        have hall : Below w.heap.size w w1 := H1.out.trans (hb1.mono (by simp))
        have hszq : w.heap.size < w1.heap.size := by have := hb1.size; simp at this; omega
        have c0 := (hb1.cell (p := ⟨w.heap.size, 0, none⟩) (by simp)).trans (show _ = some (.slice (some ⟨b, off, none⟩) bs.length cb) by go_simp)
        have c1 := (hb1.cell (p := ⟨w.heap.size, 1, none⟩) (by simp)).trans (show _ = some (.slice ae es.length ce) by go_simp)
        have c2 := (hall.cell (p := ⟨b, off, none⟩) hb).trans g1
        have hzb : b < w1.heap.size := by have := hall.size; omega
        have HP := Lib.hid (And.intro hall (And.intro (hpb.below hall) (hpe.below hall)))
        clear hb1 hall hpb1 hpe1 g1
        go_wp2_with fail
        refine (l1In_at (K : Int) 0 12 true HK.out w1).mono ?_
        rintro e w2 ⟨rfl, rfl⟩
        go_wp2
        have x0 := (World.cell?_of_block (a := ⟨w.heap.size, 0, none⟩) (Below.heap_alloc w1 (.cells #[] 9) w.heap.size hszq)).trans c0
        have x1 := (World.cell?_of_block (a := ⟨w.heap.size, 1, none⟩) (Below.heap_alloc w1 (.cells #[] 9) w.heap.size hszq)).trans c1
        have x2 := (World.cell?_of_block (a := ⟨b, off, none⟩) (Below.heap_alloc w1 (.cells #[] 9) b hzb)).trans c2
        have how : (w1.alloc (.cells #[] 9)).ownsRow w1.heap.size 9 1 (.slice (some ⟨w1.heap.size, 0, none⟩) 0 0) 0 [] := World.ownsRow_made w1 #[] 0 (Nat.le_refl _) (Nat.zero_le _) rfl
        have hbX : Below w1.heap.size w1 (w1.alloc (.cells #[] 9)) := (Below.refl _ _).alloc (Nat.le_refl _) _
        have hzX : w1.heap.size < (w1.alloc (.cells #[] 9)).heap.size := by simp
        clear c0 c1 c2
        generalize w1.alloc (.cells #[] 9) = wX at *
        have HO := Lib.hid (And.intro how hbX)
        have HC := Lib.hid (show ∀ W', wX.drew.grownBy W' (some w1.heap.size) → (W'.cell? ⟨w.heap.size, 0, none⟩ = some (.slice (some ⟨b, off, none⟩) bs.length cb) ∧ W'.cell? ⟨w.heap.size, 1, none⟩ = some (.slice ae es.length ce) ∧ W'.cell? ⟨b, off, none⟩ = some (.string (nameAt bs 0))) from fun W' hg =>
          ⟨(World.cell?_of_block (a := ⟨w.heap.size, 0, none⟩) (hg.block w.heap.size (by show w.heap.size < wX.heap.size; omega) (fun e => by have := Option.some.inj e; omega))).trans x0, (World.cell?_of_block (a := ⟨w.heap.size, 1, none⟩) (hg.block w.heap.size (by show w.heap.size < wX.heap.size; omega) (fun e => by have := Option.some.inj e; omega))).trans x1, (World.cell?_of_block (a := ⟨b, off, none⟩) (hg.block b (by show b < wX.heap.size; omega) (fun e => by have := Option.some.inj e; omega))).trans x2⟩)
        clear how hbX
        go_region_held_law (fun w' => w'.cell? ⟨w.heap.size, 0, none⟩ = some (.slice (some ⟨b, off, none⟩) bs.length cb) ∧ w'.cell? ⟨w.heap.size, 1, none⟩ = some (.slice ae es.length ce) ∧ w'.cell? ⟨b, off, none⟩ = some (.string (nameAt bs 0)))
          (first
            | with_reducible exact HC.out _ (grown_of_below (Below.refl _ _) _)
            | with_reducible exact ⟨x0, x1, x2⟩)
          (first
            | (go_at_call 28; refine (l2All_any w1 bs es _ _ cb ce HX.out.1 HP.out.2.1 HP.out.2.2 K hK (K - 1) (nameAt bs 0) (nameAt bs 0) [] _ wX.drew (by rw [HX.out.2.1]; have := HX.out.2.2; omega) (by rw [HX.out.2.1]; omega) (one_lastR HX.out.2.1) (Nat.zero_le _) (ownsRow_below HO.out.1 (Below.refl _ _).drew) HO.out.2.drew).mono ?_; rintro e wM ⟨v', rfl, hoM, hgM, hfM⟩; obtain ⟨x0, x1, x2⟩ := HC.out _ hgM))
        rw [List.nil_append, ← HA.out] at hoM
        obtain ⟨va, vc, rfl⟩ := own_form hoM
        have hbM : Below w1.heap.size w1 wM := HO.out.2.drew.grown hgM (by show w1.heap.size ≤ wX.heap.size; omega) (fun k hk => by simp [Value.ownBlock] at hk; omega)
        have HM := Lib.hid (And.intro (own_base hoM HP.out.1.size) (below_new HP.out.1 hbM))
        clear hoM hgM hfM hbM x0 x1 x2
        by_cases hl : (cut301 (allRuns bs es K)).length ≤ 300
        · have t2 : ¬ (300 : Int) < ((cut301 (allRuns bs es K)).length : Int) := by omega
          have HR := Lib.hid (runsR_yes HV.out HK.out (by rw [← cut301_few hl]; exact hl))
          have HE := Lib.hid (cut301_few hl)
          clear hl
          go_wp2
          go_ret2
          exact ⟨_, by rw [HR.out]; rfl, by rw [HR.out]; have := HM.out.1; rw [HE.out] at this ⊢; exact this, HM.out.2⟩
        · have t2 : (300 : Int) < ((cut301 (allRuns bs es K)).length : Int) := by omega
          have HR := Lib.hid (runsR_no3 (bs := bs) (es := es) (k := K) (fun h => hl (by unfold cut301; rw [List.length_take]; omega)))
          clear hl
          go_wp2
          go_ret2
          exact ⟨_, by rw [HR.out]; rfl, by rw [HR.out]; exact World.ownsRow_made wM #[] 0 HM.out.2.size (Nat.zero_le _) rfl, HM.out.2.alloc HM.out.2.size _⟩
end Go.Proofs.YtflnkahgmbndiaaDoor
