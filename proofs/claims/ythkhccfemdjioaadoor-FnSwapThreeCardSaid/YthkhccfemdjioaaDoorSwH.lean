import Derived.Test.YthkhccfemdjioaaDoorSwG
import Derived.Test.YthkhccfemdjioaaDoorBlkS
import Derived.Laws.AppendOwnNone
import Derived.Deep.CutRange
import Derived.Test.YthkhccfemdjioaaDoorBlkF
import Derived.StillTailTactics
import Derived.Test.YthkhccfemdjioaaDoorRows4
import Derived.Test.YthkhccfemdjioaaDoorShelf
import Derived.Shelf.Strings.BuilderK
import Derived.Test.YthkhccfemdjioaaDoorPlan
section
/-
  SwapTerms of the model. Conditions: at most 1048576 blocks and edges, each text at most as many bytes.
-/
namespace Go.Proofs.YthkhccfemdjioaaDoor
open Go.RowKit Go.Maps

/-- the blocks that out stands in, ahead of the loop -/
structure SwA (w wr : World) (R Q q lo : Nat) (v ve : Value) (ab ae : Option Addr) (cb ce : Nat) (bs es : List Pr) : Prop where
  loop : TLoop w wr R Q lo v ve 0 es.length [] es
  p : Two wr q (.slice ab bs.length cb) (.slice ae es.length ce)
theorem SwA.below {w wr w' : World} {R Q q lo : Nat} {v ve : Value} {ab ae : Option Addr} {cb ce : Nat} {bs es : List Pr} (h : SwA w wr R Q q lo v ve ab ae cb ce bs es) (hb : Below wr.heap.size wr w') : SwA w w' R Q q lo v ve ab ae cb ce bs es :=
  ⟨h.loop.below hb, h.p.of_cells (hb.block _ h.p.cells.2.2.2.2)⟩
theorem Valid.es_pos {bs es : List Pr} (hV : Valid bs es) : 0 < es.length := by
  rcases Nat.eq_zero_or_pos es.length with h0 | h0
  · exfalso
    have he := List.length_eq_zero_iff.1 h0
    subst he
    have h2 := hV.b.lo
    have h3 := hV.ra _ (pair_mem (show bs.length - 1 < bs.length by omega))
    have h4 := h3.closed (S := fun x => x = nameAt bs 0) rfl (fun x y hm _ => by cases hm)
    have := names_inj hV.b.nd (show bs.length - 1 < bs.length by omega) (show 0 < bs.length by omega) h4
    omega
  · exact h0

set_option maxRecDepth 100000 in
set_option maxHeartbeats 6400000 in
theorem SwapTerms_spec (w : World) (bs es : List Pr) (ab ae : Option Addr) (cb ce : Nat) (x y : ByteArray) (hxs : x.size ≤ 1048576) (hys : y.size ≤ 1048576) (hpb : PairsAt w ab bs) (hpe : PairsAt w ae es) :
    Calls Tryd.prog 24 #[.agg #[.slice ab bs.length cb, .slice ae es.length ce], .string x, .string y] w (ProgRes w (swOk bs es x y) (swRL bs es x y) (swRE bs es x y)) := by
  have hA1 : Below w.heap.size w ((w.alloc (.cells #[.slice ab bs.length cb, .slice ae es.length ce] 32)).alloc (.cells #[.slice none 0 0, .slice none 0 0] 32)) := ((Below.refl _ _).alloc (Nat.le_refl _) _).alloc (by simp) _
  have hRA : Two ((w.alloc (.cells #[.slice ab bs.length cb, .slice ae es.length ce] 32)).alloc (.cells #[.slice none 0 0, .slice none 0 0] 32)) (w.heap.size + 1) (.slice none 0 0) (.slice none 0 0) := by
    rw [show w.heap.size + 1 = (w.alloc (.cells #[.slice ab bs.length cb, .slice ae es.length ce] 32)).heap.size by simp]; exact heap_alloc_new _ _
  have hPA : Two ((w.alloc (.cells #[.slice ab bs.length cb, .slice ae es.length ce] 32)).alloc (.cells #[.slice none 0 0, .slice none 0 0] 32)) w.heap.size (.slice ab bs.length cb) (.slice ae es.length ce) := (Below.heap_alloc _ _ _ (by simp)).trans (heap_alloc_new _ _)
  have hzA : ((w.alloc (.cells #[.slice ab bs.length cb, .slice ae es.length ce] 32)).alloc (.cells #[.slice none 0 0, .slice none 0 0] 32)).heap.size = w.heap.size + 2 := by simp
  have hl9 := hpb.len
  have hle := hpe.len
  obtain ⟨i0, hi, hz0, hz1, hz2⟩ := info_parts Tryd.infoBlock
  obtain ⟨j0, hj, yz0, yz1, yz2⟩ := info_parts Tryd.infoEdge
  go_enter Tryd.func24, Tryd.ntmps24
  have HT := Lib.hid (And.intro hxs hys)
  clear hxs hys
  rcases Nat.eq_zero_or_pos es.length with he0 | he0
  · obtain rfl := List.length_eq_zero_iff.1 he0
    have hno : validB bs [] = false := by
      cases hv : validB bs []
      · rfl
      · have hV : Valid bs [] := by simpa [validB] using hv
        exact absurd hV.es_pos (by simp)
    have HN := Lib.hid (show swOk bs [] x y = false by unfold swOk; rw [hno]; rfl)
    have HV := Lib.hid hno
    have HA := Lib.hid (And.intro hA1 (And.intro hRA (And.intro (hpb.below hA1) (hpe.below hA1))))
    have c1 := hPA.cells.2.1
    have c0 := hPA.cells.1
    have hwl := hPA.cells.2.2.2.2
    clear hno hA1 hRA hPA hpb hpe he0
    rcases ae with _ | ad
    all_goals
      go_wp2_with fail
      refine (ProgValid_spec _ bs [] _ _ _ _ (((HA.out.2.2.1.alloc _).alloc _).alloc _) (((HA.out.2.2.2.alloc _).alloc _).alloc _)).mono ?_
      rintro e w4 ⟨he, hb4⟩
      rw [HV.out] at he
      subst he
      have hz4 := hb4.size
      simp at hz4
      have hR4 : Two w4 (w.heap.size + 1) _ _ := HA.out.2.1.of_cells ((hb4.block _ (by simp <;> omega)).trans ((Below.heap_alloc _ _ _ (by simp)).trans ((Below.heap_alloc _ _ _ (by simp)).trans (Below.heap_alloc _ _ _ (by simp)))))
      have hB4 : Below w.heap.size w w4 := HA.out.1.trans (((((Below.refl _ _).alloc (by simp <;> omega) _).alloc (by simp <;> omega) _).alloc (by simp <;> omega) _).trans (hb4.mono (by simp <;> omega)))
      obtain ⟨r0, r1, t0, t1, _⟩ := hR4.cells
      have HB := Lib.hid hB4
      clear hb4 hR4 hB4 c0 c1
      go_wp2
      refine bodyPost_ret (v := .tuple #[.agg #[.slice none 0 0, .slice none 0 0], .bool false]) (by simp [results, Tryd.results24, go_sem, r0, r1]) rfl ?_
      exact ProgRes.swNo HN.out (by repeat (first | exact HB.out | refine Below.setCell ?_ (by simp <;> omega) _ | refine Below.alloc ?_ (by first | omega | (simp; omega)) _))
  · go_upto_region 1 with fail
    generalize hwA : (w.alloc (.cells #[.slice ab bs.length cb, .slice ae es.length ce] 32)).alloc (.cells #[.slice none 0 0, .slice none 0 0] 32) = wA at *
    have hA2 : Below wA.heap.size wA ((wA.alloc (.cells #[] 52)).alloc (.cells #[] 93)) := ((Below.refl _ _).alloc (Nat.le_refl _) _).alloc (by simp) _
    have hoB : ((wA.alloc (.cells #[] 52)).alloc (.cells #[] 93)).ownsRow (wA.heap.size) 52 2 (.slice (some ⟨wA.heap.size, 0, none⟩) 0 0) 0 [] := by
      have := (World.ownsRow_made wA (base := wA.heap.size) (e := 52) (size := 2) #[] 0 (Nat.le_refl _) (Nat.zero_le _) rfl).alloc (.cells #[] 93)
      exact this
    have hoE : ((wA.alloc (.cells #[] 52)).alloc (.cells #[] 93)).ownsRow (wA.heap.size + 1) 93 2 (.slice (some ⟨wA.heap.size + 1, 0, none⟩) 0 0) 0 [] := by
      have := World.ownsRow_made (wA.alloc (.cells #[] 52)) (base := wA.heap.size + 1) (e := 93) (size := 2) #[] 0 (by simp) (Nat.zero_le _) rfl
      simpa using this
    have hz3 : ((wA.alloc (.cells #[] 52)).alloc (.cells #[] 93)).heap.size = wA.heap.size + 2 := by simp
    have hpe3 := (hpe.below hA1).below hA2
    have hpb3 := (hpb.below hA1).below hA2
    obtain ⟨b1, o1, rfl, _⟩ := hpe3.cell 0 he0
    have hnews : ∀ j u, (cellsOf es)[j]? = some u → ((wA.alloc (.cells #[] 52)).alloc (.cells #[] 93)).cell? ((⟨b1, o1, none⟩ : Addr).add j) = some u := by
      intro j u hj
      obtain ⟨i, hi, ⟨rfl, rfl⟩ | ⟨rfl, rfl⟩⟩ := cellsOf_at hj
      · obtain ⟨b, off, e, hb, g1, g2⟩ := hpe3.cell i hi
        cases e
        rw [Addr.add_lit]; exact g1
      · obtain ⟨b, off, e, hb, g1, g2⟩ := hpe3.cell i hi
        cases e
        rw [Addr.add_lit]; exact g2
    have hR3 : Two ((wA.alloc (.cells #[] 52)).alloc (.cells #[] 93)) (w.heap.size + 1) _ _ := hRA.of_cells (hA2.block _ hRA.cells.2.2.2.2)
    have hP3 : Two ((wA.alloc (.cells #[] 52)).alloc (.cells #[] 93)) w.heap.size _ _ := hPA.of_cells (hA2.block _ hPA.cells.2.2.2.2)
    have c0 := hPA.cells.1
    have c1 := hPA.cells.2.1
    have hwl := hPA.cells.2.2.2.2
    have HA := Lib.hid (And.intro hoB (And.intro hoE (And.intro (hA1.trans (hA2.mono hA1.size)) (And.intro hR3 (And.intro hP3 (And.intro hpb3 (And.intro hpe3 (And.intro hnews (And.intro hz3 (And.intro hpb hpe))))))))))
    have HZA := Lib.hid hzA
    clear hzA hA1 hRA hPA hA2 hoB hoE hpe3 hpb3 hnews hR3 hP3 hz3 hpb hpe hwA
    go_wp2_with (at_builtin; refine wpList_append_lies _ rfl _ _ 30 rfl (wA.heap.size + 1) 93 j0 (.agg #[.string ⟨#[]⟩, .string ⟨#[]⟩]) 2 32 Tryd.underlying30 hj yz0 yz1 yz2 rfl (by decide) _ 0 [] rfl HA.out.2.1 ⟨b1, o1, none⟩ es.length ce (cellsOf es) rfl (cellsOf_length es) HA.out.2.2.2.2.2.2.2.1 (cellsOf_one es) (by omega) (by unfold maxLen; omega) (by omega) (by have := HA.out.2.2.2.2.2.2.2.2.1; omega) _ rfl ?_; intro ge cape w2 hown2 hgrow2 hlies2 _; have hP2 : Two w2 w.heap.size _ _ := HA.out.2.2.2.2.1.of_cells (hgrow2.block _ (by rw [HA.out.2.2.2.2.2.2.2.2.1]; omega) (fun e => own_neK HA.out.2.1 HA.out.2.2.2.2.1 (by decide) e.symm)); have kA := (fun q => (World.cell?_alloc_lt w2 q ⟨w.heap.size, 0, none⟩ hP2.cells.2.2.2.2).trans hP2.cells.1); have kB := (fun q => (World.cell?_alloc_lt w2 q ⟨w.heap.size, 1, none⟩ hP2.cells.2.2.2.2).trans hP2.cells.2.1); have HP2 := Lib.hid hP2; clear hP2)
    have hTL : SwA w (w2.alloc (.cells #[.slice (some ⟨wA.heap.size, 0, none⟩) 0 0, .slice (some ⟨ge, 0, none⟩) es.length cape] 32)) (w.heap.size + 1) w2.heap.size w.heap.size wA.heap.size (.slice (some ⟨wA.heap.size, 0, none⟩) 0 0) (.slice (some ⟨ge, 0, none⟩) es.length cape) ab (some ⟨b1, o1, none⟩) cb ce bs es := by
      have hb2 : Below w2.heap.size w2 (w2.alloc (.cells #[.slice (some ⟨wA.heap.size, 0, none⟩) 0 0, .slice (some ⟨ge, 0, none⟩) es.length cape] 32)) := (Below.refl _ _).alloc (Nat.le_refl _) _
      have hz9 := HA.out.2.2.2.2.2.2.2.2.1
      have hzA := HZA.out
      have hz2 := hgrow2.size
      have hR2 : Two w2 (w.heap.size + 1) _ _ := HA.out.2.2.2.1.of_cells (hgrow2.block _ (by omega) (fun e => own_neK HA.out.2.1 HA.out.2.2.2.1 (by decide) e.symm))
      have hob2 : w2.ownsRow wA.heap.size 52 2 (.slice (some ⟨wA.heap.size, 0, none⟩) 0 0) 0 [] := HA.out.1.kept (row := some (wA.heap.size + 1)) hgrow2 (Or.inr (by simp [Value.ownBlock]))
      have hbw : Below w.heap.size w w2 := HA.out.2.2.1.grown hgrow2 (by omega) (fun j hj => by have := (HA.out.2.1.lt j hj).1; omega)
      exact ⟨⟨heap_alloc_new _ _, hR2.of_cells (hb2.block _ (by omega)), ownsRow_below hob2 hb2, ownsRow_below (own_base (by simpa using hown2) (Nat.le_succ _)) hb2, hbw.trans (hb2.mono (by omega))⟩, HP2.out.of_cells (hb2.block _ (by omega))⟩
    have hzw2 : w.heap.size + 4 ≤ w2.heap.size := by have := hgrow2.size; rw [HA.out.2.2.2.2.2.2.2.2.1] at this; have := HZA.out; omega
    have hpbw := HA.out.2.2.2.2.2.2.2.2.2.1
    have hpew := HA.out.2.2.2.2.2.2.2.2.2.2
    have hlA : w.heap.size + 2 ≤ wA.heap.size := by have := HZA.out; omega
    have hAl : wA.heap.size < w2.heap.size := by have := hgrow2.size; rw [HA.out.2.2.2.2.2.2.2.2.1] at this; omega
    have HTL := Lib.hid hTL
    have HPB := Lib.hid (And.intro hpbw hpew)
    clear hTL hown2 hgrow2 hlies2 HP2 HA HZA kA kB hpbw hpew
    generalize hw3 : w2.alloc (.cells #[.slice (some ⟨wA.heap.size, 0, none⟩) 0 0, .slice (some ⟨ge, 0, none⟩) es.length cape] 32) = w3 at *
    have hz23 : w2.heap.size < w3.heap.size := by rw [← hw3]; simp
    generalize w2.heap.size = Q at *
    generalize wA.heap.size = lo at *
    clear hw3
    refine (ProgValid_spec w3 bs es _ _ _ _ (HPB.out.1.below HTL.out.loop.bw) (HPB.out.2.below HTL.out.loop.bw)).mono ?_
    rintro e w4 ⟨he, hb4⟩
    have HS4 := Lib.hid (HTL.out.below hb4)
    have HB := Lib.hid HS4.out.loop.bw
    obtain ⟨r0, r1, t0, t1, hrl⟩ := HS4.out.loop.res.cells
    obtain ⟨c0, c1, _, _, _⟩ := HS4.out.p.cells
    have hs4 := hb4.size
    clear hb4 HTL
    cases hv : validB bs es
    · have HN := Lib.hid (show swOk bs es x y = false by unfold swOk; rw [hv]; rfl)
      rw [hv] at he
      subst he
      clear hv
      go_wp2
      refine bodyPost_ret (v := .tuple #[.agg #[.slice none 0 0, .slice none 0 0], .bool false]) (by simp [results, Tryd.results24, go_sem, r0, r1]) rfl ?_
      exact ProgRes.swNo HN.out (by repeat (first | exact HB.out | refine Below.setCell ?_ (by simp <;> omega) _ | refine Below.alloc ?_ (by first | omega | (simp; omega)) _))
    rw [hv] at he
    subst he
    cases hx : isTm x
    · have HN := Lib.hid (show swOk bs es x y = false by unfold swOk; rw [hv, hx]; rfl)
      have HX := Lib.hid hx
      clear hv hx
      go_wp2_with fail
      refine (l1Term_any x _).mono ?_
      rintro e w5 ⟨he, rfl⟩
      rw [HX.out] at he
      subst he
      go_wp2
      refine bodyPost_ret (v := .tuple #[.agg #[.slice none 0 0, .slice none 0 0], .bool false]) (by simp [results, Tryd.results24, go_sem, r0, r1]) rfl ?_
      exact ProgRes.swNo HN.out (by repeat (first | exact HB.out | refine Below.setCell ?_ (by simp <;> omega) _ | refine Below.alloc ?_ (by first | omega | (simp; omega)) _))
    have HX := Lib.hid hx
    cases hy : isTm y
    · have HN := Lib.hid (show swOk bs es x y = false by unfold swOk; rw [hv, hx, hy]; rfl)
      have HY := Lib.hid hy
      clear hv hx hy
      go_wp2_with fail
      refine (l1Term_any x _).mono ?_
      rintro e w5 ⟨he, rfl⟩
      rw [HX.out] at he
      subst he
      go_wp2_with fail
      refine (l1Term_any y _).mono ?_
      rintro e w6 ⟨he, rfl⟩
      rw [HY.out] at he
      subst he
      go_wp2
      refine bodyPost_ret (v := .tuple #[.agg #[.slice none 0 0, .slice none 0 0], .bool false]) (by simp [results, Tryd.results24, go_sem, r0, r1]) rfl ?_
      exact ProgRes.swNo HN.out (by repeat (first | exact HB.out | refine Below.setCell ?_ (by simp <;> omega) _ | refine Below.alloc ?_ (by first | omega | (simp; omega)) _))
    have HY := Lib.hid hy
    have HV := Lib.hid (show swOk bs es x y = true by unfold swOk; rw [hv, hx, hy]; rfl)
    have HVal := Lib.hid (show Valid bs es by simpa [validB] using hv)
    have hx1 := isTm_size hx
    have hy1 := isTm_size hy
    clear hv hx hy
    go_wp2_with fail
    refine (l1Term_any x _).mono ?_
    rintro e w5 ⟨he, rfl⟩
    rw [HX.out] at he
    subst he
    go_wp2_with fail
    refine (l1Term_any y _).mono ?_
    rintro e w6 ⟨he, rfl⟩
    rw [HY.out] at he
    subst he
    clear r0 r1 t0 t1
    go_wp2
    go_loopw [36] (fun i wr => ∃ (k : Nat) (v : Value), k ≤ bs.length ∧ i = .int .i64 k ∧ TLoop w wr (w.heap.size + 1) Q lo v (.slice (some ⟨ge, 0, none⟩) es.length cape) k es.length (swL bs (byteAt x 0) (byteAt y 0) k) es) (fun i _ => bs.length - (intOf i).toNat)
    case atStart => exact ⟨0, _, Nat.zero_le _, rfl, HS4.out.loop⟩
    case round =>
      obtain ⟨k, v, hk, rfl, hT⟩ := hrel
      have hs3 := hT.bw.size
      obtain ⟨wa, wc, rfl⟩ := own_form hT.ob
      by_cases hlt : k < bs.length
      · obtain ⟨b, off, rfl, hb, g1, g2⟩ := HPB.out.1.cell k hlt
        have d1 := (hT.bw.cell (p := ⟨b, off + k * 2, none⟩) hb).trans g1
        have d2 := (hT.bw.cell (p := ⟨b, off + k * 2 + 1, none⟩) hb).trans g2
        have hok := HVal.out.b.op _ (pair_mem hlt)
        have hs6 : (restAt bs k).size ≤ 6 := hok.1
        have HOK := Lib.hid hok.2
        have hwB : Below wr.heap.size wr (wr.alloc (.cells #[.string (nameAt bs k), .string (restAt bs k)] 52)) := (Below.refl _ _).alloc (Nat.le_refl _) _
        have n0 : (wr.alloc (.cells #[.string (nameAt bs k), .string (restAt bs k)] 52)).cell? ⟨wr.heap.size, 0, none⟩ = some (.string (nameAt bs k)) := by go_simp
        have n1 : (wr.alloc (.cells #[.string (nameAt bs k), .string (restAt bs k)] 52)).cell? ⟨wr.heap.size, 1, none⟩ = some (.string (restAt bs k)) := by go_simp
        have hzb : (wr.alloc (.cells #[.string (nameAt bs k), .string (restAt bs k)] 52)).heap.size = wr.heap.size + 1 := by simp
        have HK := Lib.hid (And.intro (hT.below hwB) hzb)
        have HE := Lib.hid (swL_succ bs (byteAt x 0) (byteAt y 0) k)
        clear hT g1 g2 hwB hzb hok
        obtain ⟨wo, rfl⟩ : ∃ wo, wo = wr := ⟨_, rfl⟩
        go_wp2
        generalize hwB : wo.alloc (.cells #[.string (nameAt bs k), .string (restAt bs k)] 52) = wB at *
        have hlB : wo.heap.size < wB.heap.size := by rw [← hwB]; simp
        generalize wo.heap.size = ob at *
        generalize hsr : restAt bs k = s at *
        clear hwB hsr
        have hLt : ∀ c : Nat, c = 0 → True := fun _ _ => trivial
        go_loopw [43, 11] (fun i o wr => ∃ j : Nat, j ≤ s.size ∧ i = .int .i64 j ∧ o = .string (swT s (byteAt x 0) (byteAt y 0) j) ∧ Below wB.heap.size wB wr) (fun i _ _ => s.size - (intOf i).toNat)
        case atStart => exact ⟨0, Nat.zero_le _, rfl, rfl, Below.refl _ _⟩
        case round =>
          obtain ⟨j, hj, rfl, rfl, hbl⟩ := hrel
          have hbz := hbl.size
          have m1 := (hbl.cell (p := ⟨ob, 1, none⟩) hlB).trans n1
          by_cases hjl : j < s.size
          · have hw1 : IntKind.i64.wrap ((j : Int) + 1) = (j : Int) + 1 := IntWalk.i64_in _ (by omega)
            have hsl := run_slice_str s (j : Int) ((j : Int) + 1) j (j + 1) rfl (by omega) (by omega) (by omega)
            have hAz := swT_size s (byteAt x 0) (byteAt y 0) j
            have hst := swT_step (t := byteAt x 0) (u := byteAt y 0) hjl
            have hc1 : (s.extract j (j + 1)).size = 1 := by rw [ByteArray.size_extract]; omega
            have hpk := sw_pick HX.out HY.out hc1 (by rw [byteAt_one hjl]; exact HOK.out j hjl)
            generalize s.extract j (j + 1) = c at *
            generalize swT s (byteAt x 0) (byteAt y 0) j = A at *
            have HS := Lib.hid (And.intro hst (And.intro hpk hbl))
            have hA6 : A.size ≤ 6 := by omega
            have t1 : ¬ 9223372036854775807 < A.size + y.size := by omega
            have t2 : ¬ 9223372036854775807 < A.size + x.size := by omega
            have t3 : ¬ 9223372036854775807 < A.size + (spoilT y).size := by rw [spoilT_size]; omega
            have t4 : ¬ 9223372036854775807 < A.size + (spoilT x).size := by rw [spoilT_size]; omega
            have t5 : ¬ 9223372036854775807 < A.size + c.size := by omega
            have x1 : (0 : Int) ≤ (j : Int) := by omega
            clear hst hpk hbl hAz hc1
            obtain ⟨wi, rfl⟩ : ∃ wi, wi = wr := ⟨_, rfl⟩
            by_cases e1 : c = x
            · have d1 : (c.toList == x.toList) = true := by rw [toList_eq_iff]; exact decide_eq_true e1
              have HR := Lib.hid (HS.out.2.1.1 e1)
              clear e1
              go_wp2
              go_roundw
              case rel => exact ⟨j + 1, by omega, by go_num, by rw [HS.out.1, HR.out], HS.out.2.2⟩
              case measure => simp [intOf]; omega
            have d1 : (c.toList == x.toList) = false := by rw [toList_eq_iff]; exact decide_eq_false e1
            by_cases e2 : c = y
            · have d2 : (c.toList == y.toList) = true := by rw [toList_eq_iff]; exact decide_eq_true e2
              have HR := Lib.hid (HS.out.2.1.2.1 e1 e2)
              clear e1 e2
              go_wp2
              go_roundw
              case rel => exact ⟨j + 1, by omega, by go_num, by rw [HS.out.1, HR.out], HS.out.2.2⟩
              case measure => simp [intOf]; omega
            have d2 : (c.toList == y.toList) = false := by rw [toList_eq_iff]; exact decide_eq_false e2
            by_cases e3 : c = spoilT x
            · have d3 : (c.toList == (spoilT x).toList) = true := by rw [toList_eq_iff]; exact decide_eq_true e3
              have HR := Lib.hid (HS.out.2.1.2.2.1 e1 e2 e3)
              clear e1 e2 e3
              go_wp2_with fail
              refine (l1Spoil_any x _ HX.out).mono ?_
              rintro e w7 ⟨rfl, hb7⟩
              have h7 := below_new HS.out.2.2 hb7
              go_wp2_with fail
              refine (l1Spoil_any y _ HY.out).mono ?_
              rintro e w8 ⟨rfl, hb8⟩
              have H8 := Lib.hid (below_new h7 hb8)
              clear h7 hb7 hb8
              go_wp2
              go_roundw
              case rel => exact ⟨j + 1, by omega, by go_num, by rw [HS.out.1, HR.out], H8.out⟩
              case measure => simp [intOf]; omega
            have d3 : (c.toList == (spoilT x).toList) = false := by rw [toList_eq_iff]; exact decide_eq_false e3
            by_cases e4 : c = spoilT y
            · have d4 : (c.toList == (spoilT y).toList) = true := by rw [toList_eq_iff]; exact decide_eq_true e4
              have HR := Lib.hid (HS.out.2.1.2.2.2.1 e1 e2 e3 e4)
              clear e1 e2 e3 e4
              go_wp2_with fail
              refine (l1Spoil_any x _ HX.out).mono ?_
              rintro e w7 ⟨rfl, hb7⟩
              have h7 := below_new HS.out.2.2 hb7
              go_wp2_with fail
              refine (l1Spoil_any y _ HY.out).mono ?_
              rintro e w8 ⟨rfl, hb8⟩
              have h8 := below_new h7 hb8
              go_wp2_with fail
              refine (l1Spoil_any x _ HX.out).mono ?_
              rintro e w9 ⟨rfl, hb9⟩
              have H8 := Lib.hid (below_new h8 hb9)
              clear h7 h8 hb7 hb8 hb9
              go_wp2
              go_roundw
              case rel => exact ⟨j + 1, by omega, by go_num, by rw [HS.out.1, HR.out], H8.out⟩
              case measure => simp [intOf]; omega
            · have d4 : (c.toList == (spoilT y).toList) = false := by rw [toList_eq_iff]; exact decide_eq_false e4
              have HR := Lib.hid (HS.out.2.1.2.2.2.2 e1 e2 e3 e4)
              clear e1 e2 e3 e4
              go_wp2_with fail
              refine (l1Spoil_any x _ HX.out).mono ?_
              rintro e w7 ⟨rfl, hb7⟩
              have h7 := below_new HS.out.2.2 hb7
              go_wp2_with fail
              refine (l1Spoil_any y _ HY.out).mono ?_
              rintro e w8 ⟨rfl, hb8⟩
              have h8 := below_new h7 hb8
              have m1 := (h8.cell (p := ⟨ob, 1, none⟩) hlB).trans n1
              have H8 := Lib.hid h8
              clear h7 h8 hb7 hb8
              go_wp2
              go_roundw
              case rel => exact ⟨j + 1, by omega, by go_num, by rw [HS.out.1, HR.out], H8.out⟩
              case measure => simp [intOf]; omega
          · obtain rfl : j = s.size := by omega
            have hTi := HK.out.1.below hbl
            have m0 := (hbl.cell (p := ⟨ob, 0, none⟩) hlB).trans n0
            obtain ⟨q0, q1, _, _, hlt2⟩ := hTi.two.cells
            have HTI := Lib.hid hTi
            have hsw := swT_size s (byteAt x 0) (byteAt y 0) s.size
            generalize swT s (byteAt x 0) (byteAt y 0) s.size = A at *
            have HA := Lib.hid hsw
            have hszi := hTi.bw.size
            have hA6 : A.size ≤ 6 := by omega
            clear hTi hsw hbl n0 n1
            obtain ⟨wi, rfl⟩ : ∃ wi, wi = wr := ⟨_, rfl⟩
            go_wp2_with (at_builtin; refine wpList_append_lies _ rfl _ _ 29 rfl lo 52 i0 (.agg #[.string ⟨#[]⟩, .string ⟨#[]⟩]) 2 32 Tryd.underlying29 hi hz0 hz1 hz2 rfl (by decide) _ k (cellsOf (swL bs (byteAt x 0) (byteAt y 0) k)) rfl (HTI.out.ob.alloc _) ⟨wi.heap.size, 0, none⟩ 1 1 [.string (nameAt bs k), .string A] rfl rfl (cell_two_new _ _ _ _) (two_one _ _ rfl rfl) (by decide) (by unfold maxLen; omega) (by omega) (by simp <;> omega) _ rfl ?_; intro g' cap' w5 hown5 hgrow5 hlies5 _; have hT5 : Two w5 Q _ _ := HTI.out.two.of_cells ((hgrow5.block _ (by simp <;> omega) (fun e => own_neK HTI.out.ob HTI.out.two (by decide) e.symm)).trans (Lib.alloc_old wi _ _ hlt2)); have e5 := hT5.cells.1; have f5 := hT5.cells.2.2.1)
            have hTN := HTI.out.step (L' := swL bs (byteAt x 0) (byteAt y 0) (k + 1)) (v' := .slice (some ⟨g', 0, none⟩) (k + 1) cap') ((Below.refl _ _).alloc (Nat.le_refl _) _) hgrow5 (by rw [HE.out]; exact hown5) (by omega) (by omega) (by omega)
            have HX5 := Lib.hid hTN
            clear hTN hown5 hgrow5 hT5 e5 f5 hlies5
            go_wp2
            go_roundw
            case rel => exact ⟨k + 1, _, by omega, by go_num, HX5.out⟩
            case measure => simp [intOf]; omega
      · obtain rfl : k = bs.length := by omega
        obtain ⟨r0, r1, t0, t1, _⟩ := hT.res.cells
        obtain ⟨q0, q1, _, _, _⟩ := hT.two.cells
        have HXX := Lib.hid hT
        clear hT
        go_wp2
        refine bodyPost_ret (v := .tuple #[.agg #[.slice wa bs.length wc, .slice (some ⟨ge, 0, none⟩) es.length cape], .bool true]) (by simp [results, Tryd.results24, go_sem, r0, r1]) rfl ?_
        refine ProgRes.swYes HV.out (by repeat (first | exact HXX.out.bw | refine Below.setCell ?_ (by simp <;> omega) _ | refine Below.alloc ?_ (by first | omega | (simp; omega)) _)) ?_ ?_
        · exact own_base (own_farT (own_farT HXX.out.ob (own_neK HXX.out.ob HXX.out.res (by decide)) _) (own_neK HXX.out.ob HXX.out.res (by decide)) _) (by omega)
        · exact own_base (own_farT (own_farT HXX.out.oe (own_neK HXX.out.oe HXX.out.res (by decide)) _) (own_neK HXX.out.oe HXX.out.res (by decide)) _) (by omega)
end Go.Proofs.YthkhccfemdjioaaDoor
end

section
/-
  The program's chapter 3: seenBlock, isTerm and termBlockOf. Conditions: at most 1048576 blocks and edges, each text at most as many bytes; the errors' variables hold errors.
-/
namespace Go.Proofs.YthkhccfemdjioaaDoor
open Go.RowKit Go.Maps

theorem RowAt.keepB {w w' : World} {v : Value} {xs : List Value} (h : RowAt w v xs) (hb : Below w.heap.size w w') : RowAt w' v xs :=
  h.same fun k _ _ _ hk => hb.block k (Array.getElem?_eq_some_iff.1 hk).1

set_option maxRecDepth 100000 in
theorem seenBlock_any (w : World) (v : Value) (s x : ByteArray) (t : Nat) (ht : 120 ≤ t ∧ t ≤ 122) (hs : s.size ≤ 1000) (hop : ∀ i, i < s.size → opB (byteAt s i) = true) (hr : RowAt w v (opVals s s.size)) :
    Calls Tryd.prog 151 #[.string x, v, .int .u8 (t : Int)] w fun e w' => e = .returned (.agg #[.int .u8 (fv (fsA s t s.size)), .string x, .int .u8 (t : Int), .int .i64 ((fsA s t s.size).n : Int)]) ∧ Below w.heap.size w w' := by
  obtain ⟨a, cap, rfl⟩ := row_len3 hr
  have H1 := Lib.hid (show Below w.heap.size w (w.alloc (.cells #[.int .u8 0, .string ⟨#[]⟩, .int .u8 0, .int .i64 0] 133)) from (Below.refl _ _).alloc (Nat.le_refl _) _)
  have HR := Lib.hid hr; clear hr
  have HO := Lib.hid hop; clear hop
  have HH := Lib.hid (show (w.alloc (.cells #[.int .u8 0, .string ⟨#[]⟩, .int .u8 0, .int .i64 0] 133)).heap[w.heap.size]? = some (.cells #[.int .u8 0, .string ⟨#[]⟩, .int .u8 0, .int .i64 0] 133 (0, 0)) from heap_alloc_new w _)
  go_enter Tryd.func151, Tryd.ntmps151
  go_wp2_with fail
  refine (emptyBlock_any x (t : Int) _).mono ?_
  rintro e w1 ⟨rfl, hb1⟩
  go_wp2_with fail
  refine (fold_any w1 _ s x t ht hs HO.out (RowAt.keepB HR.out (H1.out.trans (hb1.mono (by simp))))).mono ?_
  rintro e w2 ⟨rfl, hb2⟩
  have hz1 := hb1.size
  have hz : w.heap.size < w1.heap.size := by simp at hz1; omega
  have hblk := (hb2.block w.heap.size hz).trans ((hb1.block w.heap.size (by simp)).trans HH.out)
  obtain ⟨⟨r0, r1, r2, r3⟩, q0, q1, q2, q3⟩ := block4 hblk
  have HZ := Lib.hid (show Below w.heap.size w w2 from (H1.out.trans (hb1.mono (by simp))).trans (hb2.mono (by omega)))
  clear hb1 hb2 hblk
  go_wp2
  refine bodyPost_ret (v := .agg #[.int .u8 (fv (fsA s t s.size)), .string x, .int .u8 (t : Int), .int .i64 ((fsA s t s.size).n : Int)]) (by simp [results, Tryd.results151, go_sem, r0, r1, r2, r3]) rfl ?_
  exact ⟨rfl, below_set4 HZ.out (Nat.le_refl _) _ _ _ _⟩

set_option maxRecDepth 100000 in
theorem isTerm_any (s : ByteArray) (w : World) :
    Calls Tryd.prog 74 #[.string s] w fun e w' => e = .returned (.bool (isTm s)) ∧ w = w' := by
  cases h : isTm s
  · have hx : (s.toList == [120]) = false := by
      rw [show ([120] : List UInt8) = (⟨#[120]⟩ : ByteArray).toList from by rw [ByteArray.toList_eq], toList_eq_iff]
      exact decide_eq_false fun e => by rw [isTm_iff.2 (.inl e)] at h; cases h
    have hy : (s.toList == [121]) = false := by
      rw [show ([121] : List UInt8) = (⟨#[121]⟩ : ByteArray).toList from by rw [ByteArray.toList_eq], toList_eq_iff]
      exact decide_eq_false fun e => by rw [isTm_iff.2 (.inr (.inl e))] at h; cases h
    have hz : (s.toList == [122]) = false := by
      rw [show ([122] : List UInt8) = (⟨#[122]⟩ : ByteArray).toList from by rw [ByteArray.toList_eq], toList_eq_iff]
      exact decide_eq_false fun e => by rw [isTm_iff.2 (.inr (.inr e))] at h; cases h
    clear h
    go_enter Tryd.func74, Tryd.ntmps74
    go_wp2
    go_ret
    exact ⟨rfl, rfl⟩
  · rcases isTm_iff.1 h with rfl | rfl | rfl
    all_goals
      clear h
      go_enter Tryd.func74, Tryd.ntmps74
      go_wp2
      go_ret
      exact ⟨rfl, rfl⟩
theorem isTerm_lit (s : ByteArray) (b : Bool) (h : isTm s = b) (w : World) :
    Calls Tryd.prog 74 #[.string s] w fun e w' => e = .returned (.bool b) ∧ w = w' :=
  (isTerm_any s w).mono fun e w' k => ⟨by rw [k.1, h], k.2⟩
theorem set4_reads {w : World} {R : Nat} {x0 x1 x2 x3 : Value} {t : TypeId} (h : w.heap[R]? = some (.cells #[x0, x1, x2, x3] t (0, 0))) (a b c d : Value) (o : Obj) :
    (((((w.setCell ⟨R, 0, none⟩ a).setCell ⟨R, 1, none⟩ b).setCell ⟨R, 2, none⟩ c).setCell ⟨R, 3, none⟩ d).alloc o).cell? ⟨R, 0, none⟩ = some a ∧ (((((w.setCell ⟨R, 0, none⟩ a).setCell ⟨R, 1, none⟩ b).setCell ⟨R, 2, none⟩ c).setCell ⟨R, 3, none⟩ d).alloc o).cell? ⟨R, 1, none⟩ = some b ∧
      (((((w.setCell ⟨R, 0, none⟩ a).setCell ⟨R, 1, none⟩ b).setCell ⟨R, 2, none⟩ c).setCell ⟨R, 3, none⟩ d).alloc o).cell? ⟨R, 2, none⟩ = some c ∧ (((((w.setCell ⟨R, 0, none⟩ a).setCell ⟨R, 1, none⟩ b).setCell ⟨R, 2, none⟩ c).setCell ⟨R, 3, none⟩ d).alloc o).cell? ⟨R, 3, none⟩ = some d := by
  have h4 := heap_set4 h a b c d
  have hb : Below ((((w.setCell ⟨R, 0, none⟩ a).setCell ⟨R, 1, none⟩ b).setCell ⟨R, 2, none⟩ c).setCell ⟨R, 3, none⟩ d).heap.size ((((w.setCell ⟨R, 0, none⟩ a).setCell ⟨R, 1, none⟩ b).setCell ⟨R, 2, none⟩ c).setCell ⟨R, 3, none⟩ d) (((((w.setCell ⟨R, 0, none⟩ a).setCell ⟨R, 1, none⟩ b).setCell ⟨R, 2, none⟩ c).setCell ⟨R, 3, none⟩ d).alloc o) := (Below.refl _ _).alloc (Nat.le_refl _) _
  exact (block4 ((hb.block R (Array.getElem?_eq_some_iff.1 h4).1).trans h4)).1

end Go.Proofs.YthkhccfemdjioaaDoor
end

section
/-
  The program's otherTerm and swapIn. Conditions: at most 1000 letters, each a term or what spoils one.
-/
namespace Go.Proofs.YthkhccfemdjioaaDoor
open Go.RowKit Go.Maps

theorem otherTerm_any (c t u : Nat) (w : World) :
    Calls Tryd.prog 132 #[.int .u8 (c : Int), .int .u8 (t : Int), .int .u8 (u : Int)] w fun e w' => e = .returned (.int .u8 (othN c t u : Int)) ∧ w = w' := by
  unfold othN
  by_cases h1 : c = t
  · rw [if_pos h1]
    subst h1
    go_enter Tryd.func132, Tryd.ntmps132
    go_wp2
    go_ret
    exact ⟨rfl, rfl⟩
  · have d1 : ((c : Int) == (t : Int)) = false := by simp; omega
    rw [if_neg h1]
    by_cases h2 : c = u
    · rw [if_pos h2]
      subst h2
      clear h1
      go_enter Tryd.func132, Tryd.ntmps132
      go_wp2
      go_ret
      exact ⟨rfl, rfl⟩
    · have d2 : ((c : Int) == (u : Int)) = false := by simp; omega
      rw [if_neg h2]
      clear h1 h2
      go_enter Tryd.func132, Tryd.ntmps132
      go_wp2
      go_ret
      exact ⟨rfl, rfl⟩
theorem opVal_swC {t u c : Nat} (ht : lowB t = true) (hu : lowB u = true) (hl : lowB c = true) : opVal (swC t u c).toNat = .iface 83 (.agg #[.int .u8 (othN c t u : Int)]) := by
  have hc : opB c = true := by unfold opB; rw [hl]; rfl
  rw [swC_nat ht hu hc]
  have h := (swB_le ht hu hc).2.2
  rw [hl] at h
  unfold opVal
  rw [if_pos h]
  unfold swB
  rw [if_pos hl]
theorem opVal_swS {t u c : Nat} (ht : lowB t = true) (hu : lowB u = true) (hl : lowB c = false) (hc : opB c = true) : opVal (swC t u c).toNat = .iface 84 (.agg #[.int .u8 (othN (c + 32) t u : Int)]) := by
  rw [swC_nat ht hu hc]
  have h := (swB_le ht hu hc).2.2
  rw [hl] at h
  unfold opVal
  rw [if_neg (by rw [h]; simp)]
  unfold swB
  rw [if_neg (by rw [hl]; simp)]
  have h1 : 120 ≤ othN (c + 32) t u := by
    unfold othN
    unfold opB lowB upB at *
    simp only [Bool.or_eq_true, Bool.and_eq_true, decide_eq_true_eq, Bool.and_eq_false_iff, decide_eq_false_iff_not] at *
    split
    · omega
    · split <;> omega
  rw [show (((othN (c + 32) t u - 32 : Nat) : Int) - 88 + 120) = (othN (c + 32) t u : Int) by omega]
theorem rowAt_cell {w : World} {v : Value} {xs : List Value} (h : RowAt w v xs) {i : Nat} (hi : i < xs.length) : ∃ g c, v = .slice (some ⟨g, 0, none⟩) xs.length c ∧ g < w.heap.size ∧ w.cell? ⟨g, i, none⟩ = xs[i]? := by
  obtain ⟨m, hm⟩ : ∃ m, xs.length = m + 1 := ⟨xs.length - 1, by omega⟩
  have h' : w.ownsRow 0 81 1 v (m + 1) xs := by rw [← hm]; exact h
  obtain ⟨g, cap, rfl, _, hg, _, _, hc⟩ := own_lastS h'
  exact ⟨g, cap, by rw [hm], hg, by rw [List.getElem?_eq_getElem hi]; exact hc i _ (List.getElem?_eq_getElem hi)⟩

set_option maxRecDepth 100000 in
set_option maxHeartbeats 3200000 in
theorem swapIn_any (w : World) (v : Value) (s : ByteArray) (t u : Nat) (ht : lowB t = true) (hu : lowB u = true) (hs : s.size ≤ 1000) (hop : ∀ i, i < s.size → opB (byteAt s i) = true) (hr : RowAt w v (opVals s s.size)) :
    Calls Tryd.prog 76 #[v, .int .u8 (t : Int), .int .u8 (u : Int)] w fun e w' => (∃ v', e = .returned v' ∧ w'.ownsRow w.heap.size 81 1 v' s.size (opVals (swT s t u s.size) s.size)) ∧ Below w.heap.size w w' := by
  have hCC := fun b w => Tryd.isCC b w
  have hSC := fun b w => Tryd.isSC b w
  have hSS := fun b w => Tryd.isSS b w
  obtain ⟨i0, hi, hz0, hz1, hz2⟩ := info_parts Tryd.infoOp
  obtain ⟨va, vc, rfl⟩ := row_len3 hr
  have HI := Lib.hid (And.intro hop (And.intro hr (opVals_length s s.size)))
  have HT := Lib.hid (And.intro ht hu)
  have HTb : t ≤ 122 ∧ u ≤ 122 := by unfold lowB at ht hu; simp only [Bool.and_eq_true, decide_eq_true_eq] at ht hu; omega
  obtain ⟨ht2, hu2⟩ := HTb
  rw [opVals_length]
  clear hop hr ht hu
  go_enter Tryd.func76, Tryd.ntmps76
  go_wp2
  go_loopw [14, 7] (fun i o wr => ∃ k : Nat, k ≤ s.size ∧ i = .int .i64 k ∧ wr.ownsRow w.heap.size 81 1 o k (opVals (swT s t u s.size) k) ∧ Below w.heap.size w wr) (fun i _ _ => s.size - (intOf i).toNat)
  case atStart => exact ⟨0, Nat.zero_le _, rfl, World.ownsRow_nil _ _ _ _, Below.refl _ _⟩
  case round =>
    obtain ⟨k, hk, rfl, hown, hbl⟩ := hrel
    have hsz := hbl.size
    by_cases hlt : k < s.size
    · obtain ⟨g, c, hv, hg, hcell⟩ := rowAt_cell HI.out.2.1 (i := k) (by rw [HI.out.2.2]; exact hlt)
      rw [HI.out.2.2] at hv
      simp only [Value.slice.injEq, true_and] at hv
      obtain ⟨rfl, rfl⟩ := hv
      have hcv : (opVals s s.size)[k]? = some (opVal (byteAt s k)) := by unfold opVals; simp [hlt]
      have d0 := (hbl.cell (p := ⟨g, k, none⟩) hg).trans (hcell.trans hcv)
      have HE := Lib.hid (opVals_succ (swT s t u s.size) k)
      have HA := Lib.hid (swT_at s t u s.size k hlt)
      have hopk := HI.out.1 k hlt
      have HO := Lib.hid (And.intro hown hbl)
      have x1 : (0 : Int) ≤ (k : Int) := by omega
      have x2 : (k : Int) < (s.size : Int) := by omega
      clear hcell hcv hown hbl
      cases hl : lowB (byteAt s k)
      · have HV := Lib.hid (opVal_swS HT.out.1 HT.out.2 hl hopk)
        rw [show opVal (byteAt s k) = .iface 84 (.agg #[.int .u8 (((byteAt s k + 32 : Nat)) : Int)]) by
          unfold opVal; rw [if_neg (by rw [hl]; simp)]
          unfold opB lowB upB at *
          simp only [Bool.or_eq_true, Bool.and_eq_true, decide_eq_true_eq, Bool.and_eq_false_iff, decide_eq_false_iff_not] at *
          rw [show ((byteAt s k : Int) - 88 + 120) = ((byteAt s k + 32 : Nat) : Int) by omega]] at d0
        generalize byteAt s k + 32 = b at *
        clear hl hopk
        go_wp2_with (first
          | (go_at_call 132; refine (otherTerm_any b t u _).mono ?_; rintro e w' ⟨rfl, rfl⟩)
          | (at_builtin; refine wpList_append_own _ rfl _ _ 79 rfl w.heap.size 81 i0 .nilIface 1 16 Tryd.underlying79 hi hz0 hz1 hz2 rfl (by decide) _ _ _ rfl ((HO.out.1.alloc _).alloc _) ⟨wr.heap.size + 1, 0, none⟩ 1 1 [.iface 84 (.agg #[.int .u8 (othN b t u : Int)])] rfl rfl (one_new2 _ _ _ _) (one_one _ rfl) (by unfold maxLen; omega) (by omega) (by simp; omega) ?_; intro v' w1 hown1 hgrow1 _))
        have hb1 : Below w.heap.size w w1 := ((HO.out.2.alloc hsz _).alloc (by simp; omega) _).grown hgrow1 (by simp; omega) (fun j hj => (HO.out.1.lt j hj).1)
        go_roundw
        case rel => exact ⟨k + 1, by omega, by go_num, by rw [HE.out, HA.out, HV.out]; exact hown1, hb1⟩
        case measure => simp [intOf]; omega
      · have HV := Lib.hid (opVal_swC HT.out.1 HT.out.2 hl)
        rw [show opVal (byteAt s k) = .iface 83 (.agg #[.int .u8 (byteAt s k : Int)]) by unfold opVal; rw [if_pos hl]] at d0
        generalize byteAt s k = b at *
        clear hl hopk
        go_wp2_with (first
          | (go_at_call 132; refine (otherTerm_any b t u _).mono ?_; rintro e w' ⟨rfl, rfl⟩)
          | (at_builtin; refine wpList_append_own _ rfl _ _ 79 rfl w.heap.size 81 i0 .nilIface 1 16 Tryd.underlying79 hi hz0 hz1 hz2 rfl (by decide) _ _ _ rfl ((HO.out.1.alloc _).alloc _) ⟨wr.heap.size + 1, 0, none⟩ 1 1 [.iface 83 (.agg #[.int .u8 (othN b t u : Int)])] rfl rfl (one_new2 _ _ _ _) (one_one _ rfl) (by unfold maxLen; omega) (by omega) (by simp; omega) ?_; intro v' w1 hown1 hgrow1 _))
        have hb1 : Below w.heap.size w w1 := ((HO.out.2.alloc hsz _).alloc (by simp; omega) _).grown hgrow1 (by simp; omega) (fun j hj => (HO.out.1.lt j hj).1)
        go_roundw
        case rel => exact ⟨k + 1, by omega, by go_num, by rw [HE.out, HA.out, HV.out]; exact hown1, hb1⟩
        case measure => simp [intOf]; omega
    · obtain rfl : k = s.size := by omega
      have HO := Lib.hid (And.intro hown hbl)
      clear hown hbl
      go_wp2
      go_ret
      exact ⟨⟨_, rfl, HO.out.1⟩, HO.out.2⟩
end Go.Proofs.YthkhccfemdjioaaDoor
end

section
/-
  (*strings.Builder).WriteByte by the library's contract, in this program's own numbers. Conditions: the contract's own.
-/
namespace Go.Proofs
open Go.Shelf
def Tryd.lays167_ren : Go.Shelf.Ren := ⟨fun | 167 => 133 | 240 => 166 | 276 => 192 | n => n, fun | 4 => 4 | 5 => 5 | 9 => 9 | 20 => 20 | 37 => 40 | 70 => 160 | 72 => 162 | 75 => 75 | 164 => 219 | 80 => 134 | n => n, fun | n => n⟩
theorem Tryd.lays167 : Go.Proofs.Lays.n167 Tryd.prog Tryd.lays167_ren := {
  mixed := by kernel_rfl
  f167 := Tryd.func133.trans (congrArg some (by kernel_rfl))
  f240 := Tryd.func166.trans (congrArg some (by kernel_rfl))
  f276 := Tryd.func192.trans (congrArg some (by kernel_rfl))
  t0 := Tryd.underlying0
  a0 := Tryd.isAgg0
  z0 := Tryd.sizeOf0
  v0 := Tryd.zeroValue0
  t4 := Tryd.underlying4
  a4 := Tryd.isAgg4
  z4 := Tryd.sizeOf4
  v4 := Tryd.zeroValue4
  t5 := Tryd.underlying5
  a5 := Tryd.isAgg5
  z5 := Tryd.sizeOf5
  v5 := Tryd.zeroValue5
  t9 := Tryd.underlying9
  a9 := Tryd.isAgg9
  z9 := Tryd.sizeOf9
  v9 := Tryd.zeroValue9
  t20 := Tryd.underlying20
  a20 := Tryd.isAgg20
  z20 := Tryd.sizeOf20
  v20 := Tryd.zeroValue20
  t37 := Tryd.underlying40
  a37 := Tryd.isAgg40
  z37 := Tryd.sizeOf40
  v37 := Tryd.zeroValue40
  t70 := Tryd.underlying160
  a70 := Tryd.isAgg160
  z70 := Tryd.sizeOf160
  v70 := Tryd.zeroValue160
  t72 := Tryd.underlying162
  a72 := Tryd.isAgg162
  z72 := Tryd.sizeOf162
  v72 := Tryd.zeroValue162
  t75 := Tryd.underlying75
  a75 := Tryd.isAgg75
  z75 := Tryd.sizeOf75
  v75 := Tryd.zeroValue75
  t164 := Tryd.underlying219
  a164 := Tryd.isAgg219
  z164 := Tryd.sizeOf219
  v164 := Tryd.zeroValue219 }
theorem Tryd.Builder_Extra_167 : Builder.Extra Tryd.prog Tryd.lays167_ren := {
  sizeBuilder := by kernel_rfl
  liesBuilder := by kernel_rfl
  t5 := Tryd.underlying5
  a5 := Tryd.isAgg5
  z5 := Tryd.sizeOf5
  v5 := Tryd.zeroValue5
  infoByte := by kernel_rfl
  cellsByte := by kernel_rfl
  sizeByte := by kernel_rfl
  neB5 := by decide }
open Go.RowKit in
/-- one byte behind what the builder holds; nothing but the builder and rows of bytes turns -/
theorem Tryd.Builder_WriteByte_k (B b : Nat) (bs : List Value) (c : Int) (w : World) (h : Lib.IsBuilderF 162 5 B b bs w) (hlen : bs.length + 1 ≤ 140737488355328) (hBw : B ≤ w.heap.size) :
    Calls Tryd.prog 133 #[.pointer (some ⟨b, 0, none⟩), .int .u8 c] w fun e w' => e = .returned .nilIface ∧ (Lib.BuilderAtF 162 5 B b (.pointer (some ⟨b, 0, none⟩)) (bs ++ [.int .u8 c]) w' ∧ Below B w w' ∧ Lib.OthersKept 5 (some b) w w') :=
  Any.Builder_WriteByte_k Tryd.lays167 Tryd.Builder_Extra_167 B b bs c w h hlen hBw
end Go.Proofs
end

section
/-
  writeOps: the letters that a row of letters' values stands for. Conditions: the row is the one of at most six letters that tell something.
-/
namespace Go.Proofs.YthkhccfemdjioaaDoor
open Go.RowKit Go.Maps

theorem row_cell {w : World} {v : Value} {xs : List Value} (h : RowAt w v xs) {k : Nat} (hk : k < xs.length) : ∃ g cap, v = .slice (some ⟨g, 0, none⟩) xs.length cap ∧ g < w.heap.size ∧ w.cell? ⟨g, k, none⟩ = xs[k]? := by
  obtain ⟨h1, ⟨_, h0⟩ | ⟨g, cap, cur, e1, _, e3, _, _, e6, e7⟩⟩ := h
  · omega
  · refine ⟨g, cap, e1, (Array.getElem?_eq_some_iff.1 e3).1, ?_⟩
    have hx : (cur.toList.take (xs.length * 1))[k]? = xs[k]? := by rw [e7]
    rw [List.getElem?_take, if_pos (by omega)] at hx
    rw [← hx]
    simp [World.cell?, e3]
theorem row_len {w : World} {v : Value} {xs : List Value} (h : RowAt w v xs) : ∃ a cap, v = .slice a xs.length cap := by
  obtain ⟨h1, ⟨e, h0⟩ | ⟨g, cap, cur, e1, _⟩⟩ := h
  · exact ⟨none, 0, by rw [e, h0]⟩
  · exact ⟨_, cap, e1⟩
theorem opVals_at {s : ByteArray} {k : Nat} (hk : k < s.size) : (opVals s s.size)[k]? = some (opVal (byteAt s k)) := by simp [opVals, hk]

theorem Tryd.letterC (b : Int) (w : World) : (method 290 83 (.agg #[.int .u8 b]) "loop.example/onceways/impl.letter").run Tryd.prog w = .ok (269, .agg #[.int .u8 b]) w := by kernel_rfl
theorem Tryd.letterS (b : Int) (w : World) : (method 290 84 (.agg #[.int .u8 b]) "loop.example/onceways/impl.letter").run Tryd.prog w = .ok (270, .agg #[.int .u8 b]) w := by kernel_rfl

theorem letterC_any (b : Int) (w : World) : Calls Tryd.prog 269 #[.agg #[.int .u8 b]] w fun e w' => e = .returned (.int .u8 b) ∧ Below w.heap.size w w' := by
  go_enter Tryd.func269, Tryd.ntmps269
  go_wp2
  go_ret
  exact ⟨rfl, (Below.refl _ _).alloc (Nat.le_refl _) _⟩
theorem letterS_any (c : Int) (h1 : 88 ≤ c) (h2 : c ≤ 90) (w : World) : Calls Tryd.prog 270 #[.agg #[.int .u8 (c - 88 + 120)]] w fun e w' => e = .returned (.int .u8 c) ∧ Below w.heap.size w w' := by
  obtain rfl | rfl | rfl : c = 88 ∨ c = 89 ∨ c = 90 := by omega
  all_goals
    go_enter Tryd.func270, Tryd.ntmps270
    go_wp2
    go_ret
    exact ⟨rfl, (Below.refl _ _).alloc (Nat.le_refl _) _⟩
theorem bytes_step {s : ByteArray} {k : Nat} (h : k < s.size) : Lib.byteCells (s.data.toList.take (k + 1)) = Lib.byteCells (s.data.toList.take k) ++ [.int .u8 (byteAt s k : Int)] := by
  have hk : s.data.toList[k]? = some s[k] := by
    rw [Array.getElem?_toList]
    exact Array.getElem?_eq_getElem _
  rw [List.take_add_one, hk]
  simp only [Lib.byteCells, Option.toList_some, List.map_append, List.map_cons, List.map_nil]
  rw [← byteAt_get h]
theorem bytes_all {s : ByteArray} : (⟨(s.data.toList.take s.size).toArray⟩ : ByteArray) = s := by
  have : s.data.toList.take s.size = s.data.toList := List.take_of_length_le (Nat.le_of_eq (by rw [Array.length_toList]; rfl))
  rw [this]

/-- a builder stands where nothing older than the heap's end is written -/
theorem builder_at_below {T e : TypeId} {B b : Nat} {p : Value} {bs : List Value} {w w' : World} (h : Lib.BuilderAtF T e B b p bs w) (hb : Below w.heap.size w w') : Lib.BuilderAtF T e B b p bs w' := by
  obtain ⟨hB, v, hc, ⟨h1, ho⟩, hne⟩ := h
  refine ⟨hB, v, (hb.block b (Array.getElem?_eq_some_iff.1 hc).1).trans hc, ⟨h1, ?_⟩, hne⟩
  rcases ho with ho | ⟨g, cap, cur, fz, e1, e2, e3, e4⟩
  · exact .inl ho
  · exact .inr ⟨g, cap, cur, fz, e1, e2, (hb.block g (Array.getElem?_eq_some_iff.1 e3).1).trans e3, e4⟩
theorem builder_below {T e : TypeId} {B b : Nat} {bs : List Value} {w w' : World} (h : Lib.IsBuilderF T e B b bs w) (hb : Below w.heap.size w w') : Lib.IsBuilderF T e B b bs w' :=
  h.elim (fun x => .inl (builder_at_below x hb)) (fun x => .inr (builder_at_below x hb))
set_option maxRecDepth 100000 in
set_option maxHeartbeats 1600000 in
theorem writeOps_any (w : World) (v : Value) (s : ByteArray) (hs : s.size ≤ 1000 ∧ ∀ i, i < s.size → opB (byteAt s i) = true) (hr : RowAt w v (opVals s s.size)) :
    Calls Tryd.prog 77 #[v] w fun e w' => e = .returned (.string s) ∧ Below w.heap.size w w' := by
  obtain ⟨a, cap, rfl⟩ := row_len hr
  have hl := opVals_length s s.size
  rw [hl] at hr ⊢
  have h6 := hs.1
  have HS := Lib.hid hs; clear hs
  have HR := Lib.hid hr; clear hr
  go_enter Tryd.func77, Tryd.ntmps77
  go_wp2
  go_loopw [8] (fun i wr => ∃ k : Nat, k ≤ s.size ∧ i = .int .i64 k ∧ Lib.IsBuilderF 162 5 w.heap.size w.heap.size (Lib.byteCells (s.data.toList.take k)) wr ∧ Below w.heap.size w wr) (fun i _ => s.size - (intOf i).toNat)
  case atStart => exact ⟨0, Nat.zero_le _, rfl, Lib.IsBuilderF.of (Lib.fresh_isBuilder _ _ _), (Below.refl _ _).alloc (Nat.le_refl _) _⟩
  case round =>
    obtain ⟨k, hk, rfl, hB, hbl⟩ := hrel
    have hs1 := hbl.size
    by_cases hlt : k < s.size
    · obtain ⟨g, cap', e, hg, hc⟩ := row_cell HR.out (k := k) (by omega)
      rw [hl] at e
      simp only [Value.slice.injEq, true_and] at e
      obtain ⟨rfl, rfl⟩ := e
      rw [opVals_at hlt] at hc
      have d1 := (hbl.cell (p := ⟨g, k, none⟩) hg).trans hc
      clear hc
      by_cases hlow : lowB (byteAt s k) = true
      · unfold opVal at d1
        rw [if_pos hlow] at d1
        have m1 := fun w => Tryd.letterC (byteAt s k : Int) w
        go_wp2_with fail
        refine (letterC_any _ _).mono ?_
        rintro e x1 ⟨rfl, hx1⟩
        have HB' := builder_below hB hx1
        have hs2 := hx1.size
        go_wp2_with fail
        refine (Tryd.Builder_WriteByte_k _ _ _ _ _ HB' (by rw [Lib.byteCells_length]; simp; omega) (by omega)).mono ?_
        rintro e x2 ⟨rfl, hat, hx2, _⟩
        go_wp2
        go_roundw
        case rel => exact ⟨k + 1, by omega, by go_num, by rw [bytes_step hlt]; exact .inr hat, (hbl.trans (hx1.mono hs1)).trans hx2⟩
        case measure => simp [intOf]; omega
      · have hop := HS.out.2 k hlt
        have hup : upB (byteAt s k) = true := by
          unfold opB at hop
          simpa [hlow] using hop
        have hlow' : lowB (byteAt s k) = false := by simpa using hlow
        unfold opVal at d1
        rw [hlow'] at d1
        simp only [Bool.false_eq_true, if_false] at d1
        have hup2 : (88 : Int) ≤ byteAt s k ∧ (byteAt s k : Int) ≤ 90 := by unfold upB at hup; simp at hup; omega
        have HU := Lib.hid hup2
        have m1 := fun w => Tryd.letterS ((byteAt s k : Int) - 88 + 120) w
        clear hop hup hlow hlow' hup2
        go_wp2_with fail
        refine (letterS_any _ HU.out.1 HU.out.2 _).mono ?_
        rintro e x1 ⟨rfl, hx1⟩
        have HB' := builder_below hB hx1
        have hs2 := hx1.size
        go_wp2_with fail
        refine (Tryd.Builder_WriteByte_k _ _ _ _ _ HB' (by rw [Lib.byteCells_length]; simp; omega) (by omega)).mono ?_
        rintro e x2 ⟨rfl, hat, hx2, _⟩
        go_wp2
        go_roundw
        case rel => exact ⟨k + 1, by omega, by go_num, by rw [bytes_step hlt]; exact .inr hat, (hbl.trans (hx1.mono hs1)).trans hx2⟩
        case measure => simp [intOf]; omega
    · obtain rfl : k = s.size := by omega
      go_wp2_with fail
      refine (Tryd.Builder_String_any_f _ _ _ _ hB hs1).mono ?_
      rintro e x1 ⟨rfl, _, hx1⟩
      go_wp2
      go_ret
      exact ⟨congrArg (fun x => Ending.returned (.string x)) bytes_all, hbl.trans hx1⟩
end Go.Proofs.YthkhccfemdjioaaDoor
end

section
/-
  SwapTerms of the program. Conditions: at most 1048576 blocks and edges, each text at most as many bytes; the errors' variables hold errors.
-/
namespace Go.Proofs.YthkhccfemdjioaaDoor
open Go.RowKit Go.Maps

theorem RowAt.ofOwn {w : World} {B n : Nat} {v : Value} {xs : List Value} (hn : n = xs.length) (h : w.ownsRow B 81 1 v n xs) : RowAt w v xs := by
  subst hn; exact own_base h (Nat.zero_le _)
theorem swT_okW {s : ByteArray} {t u : Nat} (ht : lowB t = true) (hu : lowB u = true) (h6 : s.size ≤ 6) (hop : ∀ i, i < s.size → opB (byteAt s i) = true) : (swT s t u s.size).size ≤ 1000 ∧ ∀ i, i < (swT s t u s.size).size → opB (byteAt (swT s t u s.size) i) = true := by
  rw [swT_size]
  refine ⟨by omega, fun i hi => ?_⟩
  rw [swT_at s t u s.size i hi, swC_nat ht hu (hop i hi)]
  exact (swB_le ht hu (hop i hi)).2.1
theorem below_zero {w w1 : World} (h : Below w.heap.size w w1) (o : Obj) : Below w.heap.size w (((w1.setCell ⟨w.heap.size + 1, 0, none⟩ (.slice none 0 0)).setCell ⟨w.heap.size + 1, 1, none⟩ (.slice none 0 0)).alloc o) :=
  ((h.setCell (p := ⟨w.heap.size + 1, 0, none⟩) (Nat.le_succ _) _).setCell (p := ⟨w.heap.size + 1, 1, none⟩) (Nat.le_succ _) _).alloc (by have := h.size; simp [World.setCell]; omega) o
theorem below_resS {w w1 : World} (h : Below w.heap.size w w1) (u v : Value) : Below w.heap.size w ((w1.setCell ⟨w.heap.size + 1, 0, none⟩ u).setCell ⟨w.heap.size + 1, 1, none⟩ v) :=
  (h.setCell (p := ⟨w.heap.size + 1, 0, none⟩) (Nat.le_succ _) _).setCell (p := ⟨w.heap.size + 1, 1, none⟩) (Nat.le_succ _) _
theorem isTm_low {t : ByteArray} (h : isTm t = true) : lowB (byteAt t 0) = true := by
  unfold isTm at h
  simp only [Bool.and_eq_true] at h
  exact h.2

set_option maxRecDepth 100000 in
set_option maxHeartbeats 6400000 in
theorem SwapTerms_impl (w : World) (bs es : List Pr) (ab ae : Option Addr) (cb ce : Nat) (x y : ByteArray) (_hxs : x.size ≤ 1048576) (_hys : y.size ≤ 1048576) (hpb : PairsAt w ab bs) (hpe : PairsAt w ae es) (hg : Errs w) :
    Calls Tryd.prog 23 #[.agg #[.slice ab bs.length cb, .slice ae es.length ce], .string x, .string y] w (ProgRes w (swOk bs es x y) (swRL bs es x y) (swRE bs es x y)) := by
  have h1 : Below w.heap.size w ((w.alloc (.cells #[.slice ab bs.length cb, .slice ae es.length ce] 32)).alloc (.cells #[.slice none 0 0, .slice none 0 0] 32)) := ((Below.refl _ _).alloc (Nat.le_refl _) _).alloc (by simp) _
  have hpb1 := hpb.below h1
  have hpe1 := hpe.below h1
  have hg1 := hg.keep h1
  have hRA : Two ((w.alloc (.cells #[.slice ab bs.length cb, .slice ae es.length ce] 32)).alloc (.cells #[.slice none 0 0, .slice none 0 0] 32)) (w.heap.size + 1) (.slice none 0 0) (.slice none 0 0) := by
    rw [show w.heap.size + 1 = (w.alloc (.cells #[.slice ab bs.length cb, .slice ae es.length ce] 32)).heap.size by simp]; exact heap_alloc_new _ _
  have hPA : Two ((w.alloc (.cells #[.slice ab bs.length cb, .slice ae es.length ce] 32)).alloc (.cells #[.slice none 0 0, .slice none 0 0] 32)) w.heap.size (.slice ab bs.length cb) (.slice ae es.length ce) := (Below.heap_alloc _ _ _ (by simp)).trans (heap_alloc_new _ _)
  have hl9 := hpb.len
  obtain ⟨i0, hi, hz0, hz1, hz2⟩ := info_parts Tryd.infoBlock
  have H1 := Lib.hid (And.intro h1 (And.intro hRA hPA)); clear h1 hRA hPA
  go_enter Tryd.func23, Tryd.ntmps23
  go_wp2_with fail
  refine (planOf_any _ bs es _ _ _ _ hpb1 hpe1 hg1).mono ?_
  rintro e w1 ⟨hb1, hcase⟩
  have hall : Below w.heap.size w w1 := H1.out.1.trans (hb1.mono (by simp; omega))
  have hz := hall.size
  have hR1 : Two w1 (w.heap.size + 1) _ _ := H1.out.2.1.of_cells (hb1.block _ (by simp))
  have hP1 : Two w1 w.heap.size _ _ := H1.out.2.2.of_cells (hb1.block _ (by simp; omega))
  obtain ⟨c0, c1, _, _, hzA⟩ := hP1.cells
  obtain ⟨r0, r1, t0, t1, hzB⟩ := hR1.cells
  rcases hcase with ⟨hv, o, lo, li, rfl, hp⟩ | ⟨hv, ty, z, rfl⟩
  · have hvb : validB bs es = true := by simpa [validB] using hv
    have G := fun a b q => hR1.reads a b q
    have HNo := Lib.hid (And.intro hall G)
    cases hx : isTm x
    · have HN := Lib.hid (show swOk bs es x y = false by unfold swOk; rw [hx]; simp)
      have HX := Lib.hid hx
      clear hx hvb hv hp hb1 hpb1 hpe1 hg1 hR1 hP1 G
      go_wp2_with (go_at_call 74; refine (isTerm_lit x _ HX.out _).mono ?_; rintro e w' ⟨rfl, rfl⟩)
      refine bodyPost_ret (v := .tuple #[.agg #[.slice none 0 0, .slice none 0 0], .bool false]) (by simp [results, Tryd.results23, go_sem, (HNo.out.2 _ _ _).1, (HNo.out.2 _ _ _).2]) rfl ?_
      exact ProgRes.swNo HN.out (below_zero HNo.out.1 _)
    cases hy : isTm y
    · have HN := Lib.hid (show swOk bs es x y = false by unfold swOk; rw [hy]; simp)
      have HX := Lib.hid (And.intro hx hy)
      clear hx hy hvb hv hp hb1 hpb1 hpe1 hg1 hR1 hP1 G
      go_wp2_with (first
        | (go_at_call 74; (with_reducible show Calls _ _ #[Value.string x] _ _); refine (isTerm_lit x _ HX.out.1 _).mono ?_; rintro e w' ⟨rfl, rfl⟩)
        | (go_at_call 74; (with_reducible show Calls _ _ #[Value.string y] _ _); refine (isTerm_lit y _ HX.out.2 _).mono ?_; rintro e w' ⟨rfl, rfl⟩))
      refine bodyPost_ret (v := .tuple #[.agg #[.slice none 0 0, .slice none 0 0], .bool false]) (by simp [results, Tryd.results23, go_sem, (HNo.out.2 _ _ _).1, (HNo.out.2 _ _ _).2]) rfl ?_
      exact ProgRes.swNo HN.out (below_zero HNo.out.1 _)
    have HV := Lib.hid (And.intro hv (show swOk bs es x y = true by unfold swOk; rw [hvb, hx, hy]; rfl))
    have HX := Lib.hid (And.intro hx hy)
    have hx0 : 0 < x.size := by rw [isTm_size hx]; decide
    have hy0 : 0 < y.size := by rw [isTm_size hy]; decide
    have HB0 := Lib.hid (And.intro (byteAt_get hx0) (byteAt_get hy0))
    have hxi : (0 : Int) < (x.size : Int) := by omega
    have hyi : (0 : Int) < (y.size : Int) := by omega
    have hwa : Below w1.heap.size w1 (w1.alloc (.cells #[.map (some o), .map (some lo), .map (some li)] 73)) := (Below.refl _ _).alloc (Nat.le_refl _) _
    obtain ⟨F, hO0⟩ := hp.ops
    have hO := hO0.below hwa
    have hpb2 := (hpb1.below hb1).below hwa
    have hpe2 := (hpe1.below hb1).below hwa
    have y0 : (w1.alloc (.cells #[.map (some o), .map (some lo), .map (some li)] 73)).cell? ⟨w1.heap.size, 0, none⟩ = some (.map (some o)) := by go_simp
    have hzW : w1.heap.size < (w1.alloc (.cells #[.map (some o), .map (some lo), .map (some li)] 73)).heap.size := by simp
    have HA := Lib.hid (And.intro hO (And.intro hpb2 (And.intro (hall.alloc hz (.cells #[.map (some o), .map (some lo), .map (some li)] 73)) (And.intro (hR1.of_cells (hwa.block _ hzB)) (hP1.of_cells (hwa.block _ hzA))))))
    clear hx hy hvb hv hO0 hO hpb2 hwa hp hpb1 hpe1 hg1 hb1 hall hR1 hP1 r0 r1 t0 t1 G HNo
    go_wp2_with (first
      | (go_at_call 74; (with_reducible show Calls _ _ #[Value.string x] _ _); refine (isTerm_lit x _ HX.out.1 _).mono ?_; rintro e w' ⟨rfl, rfl⟩)
      | (go_at_call 74; (with_reducible show Calls _ _ #[Value.string y] _ _); refine (isTerm_lit y _ HX.out.2 _).mono ?_; rintro e w' ⟨rfl, rfl⟩))
    refine (cloneE_any _ es _ _ hpe2).mono ?_
    rintro e w2 ⟨ve, rfl, hve, hb2⟩
    obtain ⟨xa, xc, rfl⟩ := own_form hve
    generalize w1.alloc (.cells #[.map (some o), .map (some lo), .map (some li)] 73) = w4 at *
    obtain ⟨hO, hpb4, hall4, hR4, hP4⟩ := HA.out
    have hs2 := hb2.size
    have hP2 : Two w2 w.heap.size _ _ := hP4.of_cells (hb2.block _ (by omega))
    have hR2 : Two w2 (w.heap.size + 1) _ _ := hR4.of_cells (hb2.block _ (by omega))
    have kA : ∀ q, (w2.alloc q).cell? ⟨w.heap.size, 0, none⟩ = some (.slice ab bs.length cb) := fun q => (World.cell?_alloc_lt _ _ _ (show w.heap.size < w2.heap.size by omega)).trans hP2.cells.1
    have y2 := (hb2.cell (p := ⟨w1.heap.size, 0, none⟩) hzW).trans y0
    have hbY : Below w2.heap.size w2 (w2.alloc (.cells #[.slice none 0 0, .slice xa es.length xc] 32)) := (Below.refl _ _).alloc (Nat.le_refl _) _
    have hTL : TLoop w (w2.alloc (.cells #[.slice none 0 0, .slice xa es.length xc] 32)) (w.heap.size + 1) w2.heap.size w4.heap.size (.slice none 0 0) (.slice xa es.length xc) 0 es.length (swL bs (byteAt x 0) (byteAt y 0) 0) es :=
      ⟨heap_alloc_new _ _, hR2.of_cells (hbY.block _ (by omega)), World.ownsRow_nil _ _ _ _, ownsRow_below hve hbY, (hall4.trans (hb2.mono (by omega))).trans (hbY.mono (by omega))⟩
    have HB := Lib.hid (And.intro hO (And.intro hpb4 hTL))
    have HYb := Lib.hid (hb2.trans (hbY.mono hb2.size))
    have hQl : w4.heap.size ≤ w2.heap.size := hb2.size
    clear HA hO hpb4 hall4 hR4 hP4 hP2 hR2 hve hb2 hpe2 hTL hbY c0 c1 y2
    go_wp2
    go_loopw [39] (fun i wr => ∃ (k : Nat) (v : Value), k ≤ bs.length ∧ i = .int .i64 k ∧ TLoop w wr (w.heap.size + 1) w2.heap.size w4.heap.size v (.slice xa es.length xc) k es.length (swL bs (byteAt x 0) (byteAt y 0) k) es ∧ Below w4.heap.size w4 wr) (fun i _ => bs.length - (intOf i).toNat)
    case atStart => exact ⟨0, _, Nat.zero_le _, rfl, HB.out.2.2, HYb.out⟩
    case round =>
      obtain ⟨k, v, hk, rfl, hT, hbl⟩ := hrel
      have hs3 := hbl.size
      obtain ⟨wa, wc, rfl⟩ := own_form hT.ob
      by_cases hlt : k < bs.length
      · obtain ⟨b, off, rfl, hb, g1, g2⟩ := HB.out.2.1.cell k hlt
        have d1 := (hbl.cell (p := ⟨b, off + k * 2, none⟩) hb).trans g1
        have d2 := (hbl.cell (p := ⟨b, off + k * 2 + 1, none⟩) hb).trans g2
        have d3 := (hbl.cell (p := ⟨w1.heap.size, 0, none⟩) hzW).trans y0
        have hsx : (nameAt bs k).size ≤ 1048576 := (HB.out.2.1.size k hlt).1
        have hwB : Below wr.heap.size wr (wr.alloc (.cells #[.string (nameAt bs k), .string (restAt bs k)] 52)) := (Below.refl _ _).alloc (Nat.le_refl _) _
        have hOr := (HB.out.1.below hbl).below hwB
        obtain ⟨v, hFv, hrow⟩ := hOr.row _ (pair_mem hlt)
        have lk := (hOr.map.drew).look Tryd.underlying69 (zeroOps _) (mx hsx)
        rw [show F (nameAt bs k) = some v from hFv, Option.getD_some] at lk
        have hok : opsOk (restAt bs k) := HV.out.1.b.op _ (pair_mem hlt)
        have n0 : (wr.alloc (.cells #[.string (nameAt bs k), .string (restAt bs k)] 52)).cell? ⟨wr.heap.size, 0, none⟩ = some (.string (nameAt bs k)) := by go_simp
        have m0 := (hwB.cell (p := ⟨w1.heap.size, 0, none⟩) (show w1.heap.size < wr.heap.size by omega)).trans d3
        have hzb : (wr.alloc (.cells #[.string (nameAt bs k), .string (restAt bs k)] 52)).heap.size = wr.heap.size + 1 := by simp
        have HK := Lib.hid (And.intro hrow (And.intro hok (And.intro (hT.below hwB) (And.intro (hbl.trans (hwB.mono hs3)) hzb))))
        have HE := Lib.hid (swL_succ bs (byteAt x 0) (byteAt y 0) k)
        clear hrow hok hT hbl hFv hOr g1 g2 hwB hzb
        go_wp2
        generalize wr.alloc (.cells #[.string (nameAt bs k), .string (restAt bs k)] 52) = wB at *
        have hlB : wr.heap.size < wB.heap.size := by have := HK.out.2.2.2.2; omega
        refine wp_region_still_tail 9 (by kernel_rfl) (by kernel_rfl) ?_
        simp only [List.take_succ_cons, List.take_zero, List.drop_succ_cons, List.drop_zero]
        change wpStill _ _ wB.drew _ _ _
        repeat still_step
        refine wpStill_nil ?_
        change wpList _ _ _ _ _ wB.drew
        rw [HB0.out.1, HB0.out.2]
        go_wp2_with fail
        refine (swapIn_any _ v (restAt bs k) (byteAt x 0) (byteAt y 0) (isTm_low HX.out.1) (isTm_low HX.out.2) (by have := HK.out.2.1.1; omega) HK.out.2.1.2 (RowAt.keepB HK.out.1 (Below.refl _ _).drew)).mono ?_
        rintro e w5 ⟨⟨v5, rfl, ho5⟩, hb5⟩
        have hbB5 : Below wB.heap.size wB w5 := (Below.refl _ _).drew.trans hb5
        have hT5 := HK.out.2.2.1.below hbB5
        have hR5 : RowAt w5 v5 (opVals (swT (restAt bs k) (byteAt x 0) (byteAt y 0) (restAt bs k).size) (swT (restAt bs k) (byteAt x 0) (byteAt y 0) (restAt bs k).size).size) := by
          rw [swT_size]; exact RowAt.ofOwn (by rw [opVals_length]) ho5
        have hok5 := swT_okW (s := restAt bs k) (isTm_low HX.out.1) (isTm_low HX.out.2) HK.out.2.1.1 HK.out.2.1.2
        have n5 := (hbB5.cell (p := ⟨wr.heap.size, 0, none⟩) hlB).trans n0
        have hB4 := HK.out.2.2.2.1.trans (hbB5.mono HK.out.2.2.2.1.size)
        generalize swT (restAt bs k) (byteAt x 0) (byteAt y 0) (restAt bs k).size = A at *
        obtain ⟨q0, q1, _, _, hlt2⟩ := hT5.two.cells
        have hl5 : wr.heap.size < w5.heap.size := Nat.lt_of_lt_of_le hlB hbB5.size
        have hlo5 : w4.heap.size ≤ w5.heap.size := hB4.size
        have HK5 := Lib.hid (And.intro hT5 (And.intro hR5 (And.intro hok5 hB4)))
        clear ho5 hb5 hbB5 hT5 hR5 hok5 hB4 m0 n0 lk
        go_wp2
        go_region_law (first
          | (go_simp; go_at_call 77; refine (writeOps_any _ v5 A HK5.out.2.2.1 (RowAt.keepB HK5.out.2.1 (Below.refl _ _).drew)).mono ?_; rintro e wN ⟨rfl, hbN⟩; have eN : wN.cell? ⟨w2.heap.size, 0, none⟩ = some (.slice wa k wc) := (hbN.cell (p := ⟨w2.heap.size, 0, none⟩) hlt2).trans q0; have hRN : w2.heap.size < wN.heap.size := Nat.lt_of_lt_of_le hlt2 hbN.size; have eNA : ∀ o, (wN.alloc o).cell? ⟨w2.heap.size, 0, none⟩ = some (.slice wa k wc) := fun o => (World.cell?_alloc_lt _ _ _ hRN).trans eN; have nN : wN.cell? ⟨wr.heap.size, 0, none⟩ = some (.string (nameAt bs k)) := (hbN.cell (p := ⟨wr.heap.size, 0, none⟩) hl5).trans n5)
          | (refine step_append_lies _ rfl (.tmp 54) (.tmp 60) 29 rfl w4.heap.size 52 i0 (.agg #[.string ⟨#[]⟩, .string ⟨#[]⟩]) 2 32 Tryd.underlying29 hi hz0 hz1 hz2 rfl (by decide) _ k (cellsOf (swL bs (byteAt x 0) (byteAt y 0) k)) rfl ((ownsRow_below HK5.out.1.ob ((Below.refl _ _).drew.trans hbN)).alloc _) ⟨wN.heap.size, 0, none⟩ 1 1 [.string (nameAt bs k), .string A] rfl rfl (cell_two_new _ _ _ _) (two_one _ _ rfl rfl) (by decide) (by unfold maxLen; omega) (by omega) (by have h9 := hbN.size; simp at h9 ⊢; omega) _ rfl ?_
             intro g' cap' w7 hown7 hgrow7 hlies7 _
             have hT7 : Two w7 w2.heap.size _ _ := HK5.out.1.two.of_cells ((hgrow7.block _ (by have h9 := hbN.size; simp at h9 ⊢; omega) (fun e => own_neK HK5.out.1.ob HK5.out.1.two (by decide) e.symm)).trans ((Lib.alloc_old wN _ _ (Nat.lt_of_lt_of_le hlt2 hbN.size)).trans (hbN.block _ hlt2)))
             have e7 := hT7.cells.1
             have f7 := hT7.cells.2.2.1))
        all_goals
          have hbN' : Below w5.heap.size w5 wN := (Below.refl _ _).drew.trans hbN
          have hTN := HK5.out.1.step (L' := swL bs (byteAt x 0) (byteAt y 0) (k + 1)) (v' := .slice (some ⟨g', 0, none⟩) (k + 1) cap') (hbN'.alloc hbN'.size _) hgrow7 (by rw [HE.out]; exact hown7) (by omega) (by omega) (by omega)
          have hb7 : Below w4.heap.size w4 w7 := ((HK5.out.2.2.2.trans (hbN'.mono hlo5)).alloc (by have := hbN'.size; omega) _).grown hgrow7 (by have h9 := hbN'.size; simp; omega) (fun j hj => (HK5.out.1.ob.lt j hj).1)
          have HX7 := Lib.hid (And.intro hTN (hb7.setCell (p := ⟨w2.heap.size, 0, none⟩) hQl (.slice (some ⟨g', 0, none⟩) (k + 1) cap')))
          clear hTN hb7 hbN' hown7 hgrow7 hT7 e7 f7 hbN eN eNA hRN nN hlies7
          go_wp2
          go_roundw
          case rel => exact ⟨k + 1, _, by omega, by go_num, HX7.out.1, HX7.out.2⟩
          case measure => simp [intOf]; omega
      · obtain rfl : k = bs.length := by omega
        obtain ⟨r0, r1, t0, t1, _⟩ := hT.res.cells
        obtain ⟨q0, q1, _, _, _⟩ := hT.two.cells
        have HXX := Lib.hid hT
        clear hT hbl
        go_wp2
        refine bodyPost_ret (v := .tuple #[.agg #[.slice wa bs.length wc, .slice xa es.length xc], .bool true]) (by simp [results, Tryd.results23, go_sem, r0, r1]) rfl ?_
        refine ProgRes.swYes HV.out.2 (below_resS HXX.out.bw _ _) ?_ ?_
        · exact own_base (own_farT (own_farT HXX.out.ob (own_neK HXX.out.ob HXX.out.res (by decide)) _) (own_neK HXX.out.ob HXX.out.res (by decide)) _) (by omega)
        · exact own_base (own_farT (own_farT HXX.out.oe (own_neK HXX.out.oe HXX.out.res (by decide)) _) (own_neK HXX.out.oe HXX.out.res (by decide)) _) (by omega)
  · have HN := Lib.hid (show swOk bs es x y = false by unfold swOk; rw [show validB bs es = false by simpa [validB] using hv]; rfl)
    have HX := Lib.hid hall
    have G := fun a b q => hR1.reads a b q
    have HG := Lib.hid G; clear G
    clear hv hall hR1 hP1 hb1
    go_wp2
    refine bodyPost_ret (v := .tuple #[.agg #[.slice none 0 0, .slice none 0 0], .bool false]) (by simp [results, Tryd.results23, go_sem, (HG.out _ _ _).1, (HG.out _ _ _).2]) rfl ?_
    exact ProgRes.swNo HN.out (below_zero HX.out _)
end Go.Proofs.YthkhccfemdjioaaDoor
end
