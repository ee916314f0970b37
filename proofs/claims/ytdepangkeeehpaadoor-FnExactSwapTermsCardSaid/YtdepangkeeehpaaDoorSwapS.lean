/-
  SwapTerms of the model. Conditions: at most 1048576 blocks and edges, each text at most as many bytes.
-/
import Derived.Test.YtdepangkeeehpaaDoorSwapL
import Derived.Test.YtdepangkeeehpaaDoorBlkS
import Derived.Laws.AppendOwnNone
import Derived.Deep.CutRange
namespace Go.Proofs.YtdepangkeeehpaaDoor
open Go.RowKit Go.Maps

/-- the blocks that out stands in, ahead of the loop -/
structure SwA (w wr : World) (R Q q lo : Nat) (v ve : Value) (ab ae : Option Addr) (cb ce : Nat) (bs es : List Pr) : Prop where
  loop : TLoop w wr R Q lo v ve 0 es.length [] es
  p : Two wr q (.slice ab bs.length cb) (.slice ae es.length ce)
theorem SwA.below {w wr w' : World} {R Q q lo : Nat} {v ve : Value} {ab ae : Option Addr} {cb ce : Nat} {bs es : List Pr} (h : SwA w wr R Q q lo v ve ab ae cb ce bs es) (hb : Below wr.heap.size wr w') : SwA w w' R Q q lo v ve ab ae cb ce bs es :=
  ⟨h.loop.below hb, h.p.of_cells (hb.block _ h.p.cells.2.2.2.2)⟩
theorem Valid.es_pos {bs es : List Pr} (hV : Valid bs es) : 0 < es.length := by
  rcases Nat.eq_zero_or_pos es.length with h0 | h0
  · exfalso
    have he := List.length_eq_zero_iff.1 h0
    subst he
    have h2 := hV.b.lo
    have h3 := hV.ra _ (pair_mem (show bs.length - 1 < bs.length by omega))
    have h4 := h3.closed (S := fun x => x = nameAt bs 0) rfl (fun x y hm _ => by cases hm)
    have := names_inj hV.b.nd (show bs.length - 1 < bs.length by omega) (show 0 < bs.length by omega) h4
    omega
  · exact h0

set_option maxRecDepth 100000 in
set_option maxHeartbeats 6400000 in
theorem SwapTerms_spec (w : World) (bs es : List Pr) (ab ae : Option Addr) (cb ce : Nat) (x y : ByteArray) (hxs : x.size ≤ 1048576) (hys : y.size ≤ 1048576) (hpb : PairsAt w ab bs) (hpe : PairsAt w ae es) :
    Calls Tryd.prog 16 #[.agg #[.slice ab bs.length cb, .slice ae es.length ce], .string x, .string y] w (ProgRes w (swOk bs es x y) (swRL bs es x y) (swRE bs es x y)) := by
  have hA1 : Below w.heap.size w ((w.alloc (.cells #[.slice ab bs.length cb, .slice ae es.length ce] 30)).alloc (.cells #[.slice none 0 0, .slice none 0 0] 30)) := ((Below.refl _ _).alloc (Nat.le_refl _) _).alloc (by simp) _
  have hRA : Two ((w.alloc (.cells #[.slice ab bs.length cb, .slice ae es.length ce] 30)).alloc (.cells #[.slice none 0 0, .slice none 0 0] 30)) (w.heap.size + 1) (.slice none 0 0) (.slice none 0 0) := by
    rw [show w.heap.size + 1 = (w.alloc (.cells #[.slice ab bs.length cb, .slice ae es.length ce] 30)).heap.size by simp]; exact heap_alloc_new _ _
  have hPA : Two ((w.alloc (.cells #[.slice ab bs.length cb, .slice ae es.length ce] 30)).alloc (.cells #[.slice none 0 0, .slice none 0 0] 30)) w.heap.size (.slice ab bs.length cb) (.slice ae es.length ce) := (Below.heap_alloc _ _ _ (by simp)).trans (heap_alloc_new _ _)
  have hzA : ((w.alloc (.cells #[.slice ab bs.length cb, .slice ae es.length ce] 30)).alloc (.cells #[.slice none 0 0, .slice none 0 0] 30)).heap.size = w.heap.size + 2 := by simp
  have hl9 := hpb.len
  have hle := hpe.len
  obtain ⟨i0, hi, hz0, hz1, hz2⟩ := info_parts Tryd.infoBlock
  obtain ⟨j0, hj, yz0, yz1, yz2⟩ := info_parts Tryd.infoEdge
  go_enter Tryd.func16, Tryd.ntmps16
  have HT := Lib.hid (And.intro hxs hys)
  clear hxs hys
  rcases Nat.eq_zero_or_pos es.length with he0 | he0
  · obtain rfl := List.length_eq_zero_iff.1 he0
    have hno : validB bs [] = false := by
      cases hv : validB bs []
      · rfl
      · have hV : Valid bs [] := by simpa [validB] using hv
        exact absurd hV.es_pos (by simp)
    have HN := Lib.hid (show swOk bs [] x y = false by unfold swOk; rw [hno]; rfl)
    have HV := Lib.hid hno
    have HA := Lib.hid (And.intro hA1 (And.intro hRA (And.intro (hpb.below hA1) (hpe.below hA1))))
    have c1 := hPA.cells.2.1
    have c0 := hPA.cells.1
    have hwl := hPA.cells.2.2.2.2
    clear hno hA1 hRA hPA hpb hpe he0
    rcases ae with _ | ad
    all_goals
      go_wp2_with fail
      refine (ProgValid_spec _ bs [] _ _ _ _ (((HA.out.2.2.1.alloc _).alloc _).alloc _) (((HA.out.2.2.2.alloc _).alloc _).alloc _)).mono ?_
      rintro e w4 ⟨he, hb4⟩
      rw [HV.out] at he
      subst he
      have hz4 := hb4.size
      simp at hz4
      have hR4 : Two w4 (w.heap.size + 1) _ _ := HA.out.2.1.of_cells ((hb4.block _ (by simp <;> omega)).trans ((Below.heap_alloc _ _ _ (by simp)).trans ((Below.heap_alloc _ _ _ (by simp)).trans (Below.heap_alloc _ _ _ (by simp)))))
      have hB4 : Below w.heap.size w w4 := HA.out.1.trans (((((Below.refl _ _).alloc (by simp <;> omega) _).alloc (by simp <;> omega) _).alloc (by simp <;> omega) _).trans (hb4.mono (by simp <;> omega)))
      obtain ⟨r0, r1, t0, t1, _⟩ := hR4.cells
      have HB := Lib.hid hB4
      clear hb4 hR4 hB4 c0 c1
      go_wp2
      refine bodyPost_ret (v := .tuple #[.agg #[.slice none 0 0, .slice none 0 0], .bool false]) (by simp [results, Tryd.results16, go_sem, r0, r1]) rfl ?_
      exact ProgRes.swNo HN.out (by repeat (first | exact HB.out | refine Below.setCell ?_ (by simp <;> omega) _ | refine Below.alloc ?_ (by first | omega | (simp; omega)) _))
  · go_upto_region 1 with fail
    generalize hwA : (w.alloc (.cells #[.slice ab bs.length cb, .slice ae es.length ce] 30)).alloc (.cells #[.slice none 0 0, .slice none 0 0] 30) = wA at *
    have hA2 : Below wA.heap.size wA ((wA.alloc (.cells #[] 62)).alloc (.cells #[] 56)) := ((Below.refl _ _).alloc (Nat.le_refl _) _).alloc (by simp) _
    have hoB : ((wA.alloc (.cells #[] 62)).alloc (.cells #[] 56)).ownsRow (wA.heap.size) 62 2 (.slice (some ⟨wA.heap.size, 0, none⟩) 0 0) 0 [] := by
      have := (World.ownsRow_made wA (base := wA.heap.size) (e := 62) (size := 2) #[] 0 (Nat.le_refl _) (Nat.zero_le _) rfl).alloc (.cells #[] 56)
      exact this
    have hoE : ((wA.alloc (.cells #[] 62)).alloc (.cells #[] 56)).ownsRow (wA.heap.size + 1) 56 2 (.slice (some ⟨wA.heap.size + 1, 0, none⟩) 0 0) 0 [] := by
      have := World.ownsRow_made (wA.alloc (.cells #[] 62)) (base := wA.heap.size + 1) (e := 56) (size := 2) #[] 0 (by simp) (Nat.zero_le _) rfl
      simpa using this
    have hz3 : ((wA.alloc (.cells #[] 62)).alloc (.cells #[] 56)).heap.size = wA.heap.size + 2 := by simp
    have hpe3 := (hpe.below hA1).below hA2
    have hpb3 := (hpb.below hA1).below hA2
    obtain ⟨b1, o1, rfl, _⟩ := hpe3.cell 0 he0
    have hnews : ∀ j u, (cellsOf es)[j]? = some u → ((wA.alloc (.cells #[] 62)).alloc (.cells #[] 56)).cell? ((⟨b1, o1, none⟩ : Addr).add j) = some u := by
      intro j u hj
      obtain ⟨i, hi, ⟨rfl, rfl⟩ | ⟨rfl, rfl⟩⟩ := cellsOf_at hj
      · obtain ⟨b, off, e, hb, g1, g2⟩ := hpe3.cell i hi
        cases e
        rw [Addr.add_lit]; exact g1
      · obtain ⟨b, off, e, hb, g1, g2⟩ := hpe3.cell i hi
        cases e
        rw [Addr.add_lit]; exact g2
    have hR3 : Two ((wA.alloc (.cells #[] 62)).alloc (.cells #[] 56)) (w.heap.size + 1) _ _ := hRA.of_cells (hA2.block _ hRA.cells.2.2.2.2)
    have hP3 : Two ((wA.alloc (.cells #[] 62)).alloc (.cells #[] 56)) w.heap.size _ _ := hPA.of_cells (hA2.block _ hPA.cells.2.2.2.2)
    have c0 := hPA.cells.1
    have c1 := hPA.cells.2.1
    have hwl := hPA.cells.2.2.2.2
    have HA := Lib.hid (And.intro hoB (And.intro hoE (And.intro (hA1.trans (hA2.mono hA1.size)) (And.intro hR3 (And.intro hP3 (And.intro hpb3 (And.intro hpe3 (And.intro hnews (And.intro hz3 (And.intro hpb hpe))))))))))
    have HZA := Lib.hid hzA
    clear hzA hA1 hRA hPA hA2 hoB hoE hpe3 hpb3 hnews hR3 hP3 hz3 hpb hpe hwA
    go_wp2_with (at_builtin; refine wpList_append_lies _ rfl _ _ 28 rfl (wA.heap.size + 1) 56 j0 (.agg #[.string ⟨#[]⟩, .string ⟨#[]⟩]) 2 32 Tryd.underlying28 hj yz0 yz1 yz2 rfl (by decide) _ 0 [] rfl HA.out.2.1 ⟨b1, o1, none⟩ es.length ce (cellsOf es) rfl (cellsOf_length es) HA.out.2.2.2.2.2.2.2.1 (cellsOf_one es) (by omega) (by unfold maxLen; omega) (by omega) (by have := HA.out.2.2.2.2.2.2.2.2.1; omega) _ rfl ?_; intro ge cape w2 hown2 hgrow2 hlies2 _; have hP2 : Two w2 w.heap.size _ _ := HA.out.2.2.2.2.1.of_cells (hgrow2.block _ (by rw [HA.out.2.2.2.2.2.2.2.2.1]; omega) (fun e => own_neK HA.out.2.1 HA.out.2.2.2.2.1 (by decide) e.symm)); have kA := (fun q => (World.cell?_alloc_lt w2 q ⟨w.heap.size, 0, none⟩ hP2.cells.2.2.2.2).trans hP2.cells.1); have kB := (fun q => (World.cell?_alloc_lt w2 q ⟨w.heap.size, 1, none⟩ hP2.cells.2.2.2.2).trans hP2.cells.2.1); have HP2 := Lib.hid hP2; clear hP2)
    have hTL : SwA w (w2.alloc (.cells #[.slice (some ⟨wA.heap.size, 0, none⟩) 0 0, .slice (some ⟨ge, 0, none⟩) es.length cape] 30)) (w.heap.size + 1) w2.heap.size w.heap.size wA.heap.size (.slice (some ⟨wA.heap.size, 0, none⟩) 0 0) (.slice (some ⟨ge, 0, none⟩) es.length cape) ab (some ⟨b1, o1, none⟩) cb ce bs es := by
      have hb2 : Below w2.heap.size w2 (w2.alloc (.cells #[.slice (some ⟨wA.heap.size, 0, none⟩) 0 0, .slice (some ⟨ge, 0, none⟩) es.length cape] 30)) := (Below.refl _ _).alloc (Nat.le_refl _) _
      have hz9 := HA.out.2.2.2.2.2.2.2.2.1
      have hzA := HZA.out
      have hz2 := hgrow2.size
      have hR2 : Two w2 (w.heap.size + 1) _ _ := HA.out.2.2.2.1.of_cells (hgrow2.block _ (by omega) (fun e => own_neK HA.out.2.1 HA.out.2.2.2.1 (by decide) e.symm))
      have hob2 : w2.ownsRow wA.heap.size 62 2 (.slice (some ⟨wA.heap.size, 0, none⟩) 0 0) 0 [] := HA.out.1.kept (row := some (wA.heap.size + 1)) hgrow2 (Or.inr (by simp [Value.ownBlock]))
      have hbw : Below w.heap.size w w2 := HA.out.2.2.1.grown hgrow2 (by omega) (fun j hj => by have := (HA.out.2.1.lt j hj).1; omega)
      exact ⟨⟨heap_alloc_new _ _, hR2.of_cells (hb2.block _ (by omega)), ownsRow_below hob2 hb2, ownsRow_below (own_base (by simpa using hown2) (Nat.le_succ _)) hb2, hbw.trans (hb2.mono (by omega))⟩, HP2.out.of_cells (hb2.block _ (by omega))⟩
    have hzw2 : w.heap.size + 4 ≤ w2.heap.size := by have := hgrow2.size; rw [HA.out.2.2.2.2.2.2.2.2.1] at this; have := HZA.out; omega
    have hpbw := HA.out.2.2.2.2.2.2.2.2.2.1
    have hpew := HA.out.2.2.2.2.2.2.2.2.2.2
    have hlA : w.heap.size + 2 ≤ wA.heap.size := by have := HZA.out; omega
    have hAl : wA.heap.size < w2.heap.size := by have := hgrow2.size; rw [HA.out.2.2.2.2.2.2.2.2.1] at this; omega
    have HTL := Lib.hid hTL
    have HPB := Lib.hid (And.intro hpbw hpew)
    clear hTL hown2 hgrow2 hlies2 HP2 HA HZA kA kB hpbw hpew
    generalize hw3 : w2.alloc (.cells #[.slice (some ⟨wA.heap.size, 0, none⟩) 0 0, .slice (some ⟨ge, 0, none⟩) es.length cape] 30) = w3 at *
    have hz23 : w2.heap.size < w3.heap.size := by rw [← hw3]; simp
    generalize w2.heap.size = Q at *
    generalize wA.heap.size = lo at *
    clear hw3
    refine (ProgValid_spec w3 bs es _ _ _ _ (HPB.out.1.below HTL.out.loop.bw) (HPB.out.2.below HTL.out.loop.bw)).mono ?_
    rintro e w4 ⟨he, hb4⟩
    have HS4 := Lib.hid (HTL.out.below hb4)
    have HB := Lib.hid HS4.out.loop.bw
    obtain ⟨r0, r1, t0, t1, hrl⟩ := HS4.out.loop.res.cells
    obtain ⟨c0, c1, _, _, _⟩ := HS4.out.p.cells
    have hs4 := hb4.size
    clear hb4 HTL
    cases hv : validB bs es
    · have HN := Lib.hid (show swOk bs es x y = false by unfold swOk; rw [hv]; rfl)
      rw [hv] at he
      subst he
      clear hv
      go_wp2
      refine bodyPost_ret (v := .tuple #[.agg #[.slice none 0 0, .slice none 0 0], .bool false]) (by simp [results, Tryd.results16, go_sem, r0, r1]) rfl ?_
      exact ProgRes.swNo HN.out (by repeat (first | exact HB.out | refine Below.setCell ?_ (by simp <;> omega) _ | refine Below.alloc ?_ (by first | omega | (simp; omega)) _))
    rw [hv] at he
    subst he
    cases hx : isTm x
    · have HN := Lib.hid (show swOk bs es x y = false by unfold swOk; rw [hv, hx]; rfl)
      have HX := Lib.hid hx
      clear hv hx
      go_wp2_with fail
      refine (l1Term_any x _).mono ?_
      rintro e w5 ⟨he, rfl⟩
      rw [HX.out] at he
      subst he
      go_wp2
      refine bodyPost_ret (v := .tuple #[.agg #[.slice none 0 0, .slice none 0 0], .bool false]) (by simp [results, Tryd.results16, go_sem, r0, r1]) rfl ?_
      exact ProgRes.swNo HN.out (by repeat (first | exact HB.out | refine Below.setCell ?_ (by simp <;> omega) _ | refine Below.alloc ?_ (by first | omega | (simp; omega)) _))
    have HX := Lib.hid hx
    cases hy : isTm y
    · have HN := Lib.hid (show swOk bs es x y = false by unfold swOk; rw [hv, hx, hy]; rfl)
      have HY := Lib.hid hy
      clear hv hx hy
      go_wp2_with fail
      refine (l1Term_any x _).mono ?_
      rintro e w5 ⟨he, rfl⟩
      rw [HX.out] at he
      subst he
      go_wp2_with fail
      refine (l1Term_any y _).mono ?_
      rintro e w6 ⟨he, rfl⟩
      rw [HY.out] at he
      subst he
      go_wp2
      refine bodyPost_ret (v := .tuple #[.agg #[.slice none 0 0, .slice none 0 0], .bool false]) (by simp [results, Tryd.results16, go_sem, r0, r1]) rfl ?_
      exact ProgRes.swNo HN.out (by repeat (first | exact HB.out | refine Below.setCell ?_ (by simp <;> omega) _ | refine Below.alloc ?_ (by first | omega | (simp; omega)) _))
    have HY := Lib.hid hy
    have HV := Lib.hid (show swOk bs es x y = true by unfold swOk; rw [hv, hx, hy]; rfl)
    have HVal := Lib.hid (show Valid bs es by simpa [validB] using hv)
    have hx1 := isTm_size hx
    have hy1 := isTm_size hy
    clear hv hx hy
    go_wp2_with fail
    refine (l1Term_any x _).mono ?_
    rintro e w5 ⟨he, rfl⟩
    rw [HX.out] at he
    subst he
    go_wp2_with fail
    refine (l1Term_any y _).mono ?_
    rintro e w6 ⟨he, rfl⟩
    rw [HY.out] at he
    subst he
    clear r0 r1 t0 t1
    go_wp2
    go_loopw [36] (fun i wr => ∃ (k : Nat) (v : Value), k ≤ bs.length ∧ i = .int .i64 k ∧ TLoop w wr (w.heap.size + 1) Q lo v (.slice (some ⟨ge, 0, none⟩) es.length cape) k es.length (swL bs (byteAt x 0) (byteAt y 0) k) es) (fun i _ => bs.length - (intOf i).toNat)
    case atStart => exact ⟨0, _, Nat.zero_le _, rfl, HS4.out.loop⟩
    case round =>
      obtain ⟨k, v, hk, rfl, hT⟩ := hrel
      have hs3 := hT.bw.size
      obtain ⟨wa, wc, rfl⟩ := own_form hT.ob
      by_cases hlt : k < bs.length
      · obtain ⟨b, off, rfl, hb, g1, g2⟩ := HPB.out.1.cell k hlt
        have d1 := (hT.bw.cell (p := ⟨b, off + k * 2, none⟩) hb).trans g1
        have d2 := (hT.bw.cell (p := ⟨b, off + k * 2 + 1, none⟩) hb).trans g2
        have hok := HVal.out.b.op _ (pair_mem hlt)
        have hs6 : (restAt bs k).size ≤ 6 := hok.1
        have HOK := Lib.hid hok.2
        have hwB : Below wr.heap.size wr (wr.alloc (.cells #[.string (nameAt bs k), .string (restAt bs k)] 62)) := (Below.refl _ _).alloc (Nat.le_refl _) _
        have n0 : (wr.alloc (.cells #[.string (nameAt bs k), .string (restAt bs k)] 62)).cell? ⟨wr.heap.size, 0, none⟩ = some (.string (nameAt bs k)) := by go_simp
        have n1 : (wr.alloc (.cells #[.string (nameAt bs k), .string (restAt bs k)] 62)).cell? ⟨wr.heap.size, 1, none⟩ = some (.string (restAt bs k)) := by go_simp
        have hzb : (wr.alloc (.cells #[.string (nameAt bs k), .string (restAt bs k)] 62)).heap.size = wr.heap.size + 1 := by simp
        have HK := Lib.hid (And.intro (hT.below hwB) hzb)
        have HE := Lib.hid (swL_succ bs (byteAt x 0) (byteAt y 0) k)
        clear hT g1 g2 hwB hzb hok
        obtain ⟨wo, rfl⟩ : ∃ wo, wo = wr := ⟨_, rfl⟩
        go_wp2
        generalize hwB : wo.alloc (.cells #[.string (nameAt bs k), .string (restAt bs k)] 62) = wB at *
        have hlB : wo.heap.size < wB.heap.size := by rw [← hwB]; simp
        generalize wo.heap.size = ob at *
        generalize hsr : restAt bs k = s at *
        clear hwB hsr
        have hLt : ∀ c : Nat, c = 0 → True := fun _ _ => trivial
        go_loopw [43, 11] (fun i o wr => ∃ j : Nat, j ≤ s.size ∧ i = .int .i64 j ∧ o = .string (swT s (byteAt x 0) (byteAt y 0) j) ∧ Below wB.heap.size wB wr) (fun i _ _ => s.size - (intOf i).toNat)
        case atStart => exact ⟨0, Nat.zero_le _, rfl, rfl, Below.refl _ _⟩
        case round =>
          obtain ⟨j, hj, rfl, rfl, hbl⟩ := hrel
          have hbz := hbl.size
          have m1 := (hbl.cell (p := ⟨ob, 1, none⟩) hlB).trans n1
          by_cases hjl : j < s.size
          · have hw1 : IntKind.i64.wrap ((j : Int) + 1) = (j : Int) + 1 := IntWalk.i64_in _ (by omega)
            have hsl := run_slice_str s (j : Int) ((j : Int) + 1) j (j + 1) rfl (by omega) (by omega) (by omega)
            have hAz := swT_size s (byteAt x 0) (byteAt y 0) j
            have hst := swT_step (t := byteAt x 0) (u := byteAt y 0) hjl
            have hc1 : (s.extract j (j + 1)).size = 1 := by rw [ByteArray.size_extract]; omega
            have hpk := sw_pick HX.out HY.out hc1 (by rw [byteAt_one hjl]; exact HOK.out j hjl)
            generalize s.extract j (j + 1) = c at *
            generalize swT s (byteAt x 0) (byteAt y 0) j = A at *
            have HS := Lib.hid (And.intro hst (And.intro hpk hbl))
            have hA6 : A.size ≤ 6 := by omega
            have t1 : ¬ 9223372036854775807 < A.size + y.size := by omega
            have t2 : ¬ 9223372036854775807 < A.size + x.size := by omega
            have t3 : ¬ 9223372036854775807 < A.size + (spoilT y).size := by rw [spoilT_size]; omega
            have t4 : ¬ 9223372036854775807 < A.size + (spoilT x).size := by rw [spoilT_size]; omega
            have t5 : ¬ 9223372036854775807 < A.size + c.size := by omega
            have x1 : (0 : Int) ≤ (j : Int) := by omega
            clear hst hpk hbl hAz hc1
            obtain ⟨wi, rfl⟩ : ∃ wi, wi = wr := ⟨_, rfl⟩
            by_cases e1 : c = x
            · have d1 : (c.toList == x.toList) = true := by rw [toList_eq_iff]; exact decide_eq_true e1
              have HR := Lib.hid (HS.out.2.1.1 e1)
              clear e1
              go_wp2
              go_roundw
              case rel => exact ⟨j + 1, by omega, by go_num, by rw [HS.out.1, HR.out], HS.out.2.2⟩
              case measure => simp [intOf]; omega
            have d1 : (c.toList == x.toList) = false := by rw [toList_eq_iff]; exact decide_eq_false e1
            by_cases e2 : c = y
            · have d2 : (c.toList == y.toList) = true := by rw [toList_eq_iff]; exact decide_eq_true e2
              have HR := Lib.hid (HS.out.2.1.2.1 e1 e2)
              clear e1 e2
              go_wp2
              go_roundw
              case rel => exact ⟨j + 1, by omega, by go_num, by rw [HS.out.1, HR.out], HS.out.2.2⟩
              case measure => simp [intOf]; omega
            have d2 : (c.toList == y.toList) = false := by rw [toList_eq_iff]; exact decide_eq_false e2
            by_cases e3 : c = spoilT x
            · have d3 : (c.toList == (spoilT x).toList) = true := by rw [toList_eq_iff]; exact decide_eq_true e3
              have HR := Lib.hid (HS.out.2.1.2.2.1 e1 e2 e3)
              clear e1 e2 e3
              go_wp2_with fail
              refine (l1Spoil_any x _ HX.out).mono ?_
              rintro e w7 ⟨rfl, hb7⟩
              have h7 := below_new HS.out.2.2 hb7
              go_wp2_with fail
              refine (l1Spoil_any y _ HY.out).mono ?_
              rintro e w8 ⟨rfl, hb8⟩
              have H8 := Lib.hid (below_new h7 hb8)
              clear h7 hb7 hb8
              go_wp2
              go_roundw
              case rel => exact ⟨j + 1, by omega, by go_num, by rw [HS.out.1, HR.out], H8.out⟩
              case measure => simp [intOf]; omega
            have d3 : (c.toList == (spoilT x).toList) = false := by rw [toList_eq_iff]; exact decide_eq_false e3
            by_cases e4 : c = spoilT y
            · have d4 : (c.toList == (spoilT y).toList) = true := by rw [toList_eq_iff]; exact decide_eq_true e4
              have HR := Lib.hid (HS.out.2.1.2.2.2.1 e1 e2 e3 e4)
              clear e1 e2 e3 e4
              go_wp2_with fail
              refine (l1Spoil_any x _ HX.out).mono ?_
              rintro e w7 ⟨rfl, hb7⟩
              have h7 := below_new HS.out.2.2 hb7
              go_wp2_with fail
              refine (l1Spoil_any y _ HY.out).mono ?_
              rintro e w8 ⟨rfl, hb8⟩
              have h8 := below_new h7 hb8
              go_wp2_with fail
              refine (l1Spoil_any x _ HX.out).mono ?_
              rintro e w9 ⟨rfl, hb9⟩
              have H8 := Lib.hid (below_new h8 hb9)
              clear h7 h8 hb7 hb8 hb9
              go_wp2
              go_roundw
              case rel => exact ⟨j + 1, by omega, by go_num, by rw [HS.out.1, HR.out], H8.out⟩
              case measure => simp [intOf]; omega
            · have d4 : (c.toList == (spoilT y).toList) = false := by rw [toList_eq_iff]; exact decide_eq_false e4
              have HR := Lib.hid (HS.out.2.1.2.2.2.2 e1 e2 e3 e4)
              clear e1 e2 e3 e4
              go_wp2_with fail
              refine (l1Spoil_any x _ HX.out).mono ?_
              rintro e w7 ⟨rfl, hb7⟩
              have h7 := below_new HS.out.2.2 hb7
              go_wp2_with fail
              refine (l1Spoil_any y _ HY.out).mono ?_
              rintro e w8 ⟨rfl, hb8⟩
              have h8 := below_new h7 hb8
              have m1 := (h8.cell (p := ⟨ob, 1, none⟩) hlB).trans n1
              have H8 := Lib.hid h8
              clear h7 h8 hb7 hb8
              go_wp2
              go_roundw
              case rel => exact ⟨j + 1, by omega, by go_num, by rw [HS.out.1, HR.out], H8.out⟩
              case measure => simp [intOf]; omega
          · obtain rfl : j = s.size := by omega
            have hTi := HK.out.1.below hbl
            have m0 := (hbl.cell (p := ⟨ob, 0, none⟩) hlB).trans n0
            obtain ⟨q0, q1, _, _, hlt2⟩ := hTi.two.cells
            have HTI := Lib.hid hTi
            have hsw := swT_size s (byteAt x 0) (byteAt y 0) s.size
            generalize swT s (byteAt x 0) (byteAt y 0) s.size = A at *
            have HA := Lib.hid hsw
            have hszi := hTi.bw.size
            have hA6 : A.size ≤ 6 := by omega
            clear hTi hsw hbl n0 n1
            obtain ⟨wi, rfl⟩ : ∃ wi, wi = wr := ⟨_, rfl⟩
            go_wp2_with (at_builtin; refine wpList_append_lies _ rfl _ _ 27 rfl lo 62 i0 (.agg #[.string ⟨#[]⟩, .string ⟨#[]⟩]) 2 32 Tryd.underlying27 hi hz0 hz1 hz2 rfl (by decide) _ k (cellsOf (swL bs (byteAt x 0) (byteAt y 0) k)) rfl (HTI.out.ob.alloc _) ⟨wi.heap.size, 0, none⟩ 1 1 [.string (nameAt bs k), .string A] rfl rfl (cell_two_new _ _ _ _) (two_one _ _ rfl rfl) (by decide) (by unfold maxLen; omega) (by omega) (by simp <;> omega) _ rfl ?_; intro g' cap' w5 hown5 hgrow5 hlies5 _; have hT5 : Two w5 Q _ _ := HTI.out.two.of_cells ((hgrow5.block _ (by simp <;> omega) (fun e => own_neK HTI.out.ob HTI.out.two (by decide) e.symm)).trans (Lib.alloc_old wi _ _ hlt2)); have e5 := hT5.cells.1; have f5 := hT5.cells.2.2.1)
            have hTN := HTI.out.step (L' := swL bs (byteAt x 0) (byteAt y 0) (k + 1)) (v' := .slice (some ⟨g', 0, none⟩) (k + 1) cap') ((Below.refl _ _).alloc (Nat.le_refl _) _) hgrow5 (by rw [HE.out]; exact hown5) (by omega) (by omega) (by omega)
            have HX5 := Lib.hid hTN
            clear hTN hown5 hgrow5 hT5 e5 f5 hlies5
            go_wp2
            go_roundw
            case rel => exact ⟨k + 1, _, by omega, by go_num, HX5.out⟩
            case measure => simp [intOf]; omega
      · obtain rfl : k = bs.length := by omega
        obtain ⟨r0, r1, t0, t1, _⟩ := hT.res.cells
        obtain ⟨q0, q1, _, _, _⟩ := hT.two.cells
        have HXX := Lib.hid hT
        clear hT
        go_wp2
        refine bodyPost_ret (v := .tuple #[.agg #[.slice wa bs.length wc, .slice (some ⟨ge, 0, none⟩) es.length cape], .bool true]) (by simp [results, Tryd.results16, go_sem, r0, r1]) rfl ?_
        refine ProgRes.swYes HV.out (by repeat (first | exact HXX.out.bw | refine Below.setCell ?_ (by simp <;> omega) _ | refine Below.alloc ?_ (by first | omega | (simp; omega)) _)) ?_ ?_
        · exact own_base (own_farT (own_farT HXX.out.ob (own_neK HXX.out.ob HXX.out.res (by decide)) _) (own_neK HXX.out.ob HXX.out.res (by decide)) _) (by omega)
        · exact own_base (own_farT (own_farT HXX.out.oe (own_neK HXX.out.oe HXX.out.res (by decide)) _) (own_neK HXX.out.oe HXX.out.res (by decide)) _) (by omega)
end Go.Proofs.YtdepangkeeehpaaDoor
