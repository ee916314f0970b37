/-
  Tidy of the model. Conditions: at most 1048576 blocks and edges, each text at most as many bytes.
-/
import Derived.Test.YtnoboekddkcnbaaDoorTidyI
import Derived.Test.YtnoboekddkcnbaaDoorTidyS
import Derived.Test.YtnoboekddkcnbaaDoorTurn2
namespace Go.Proofs.YtnoboekddkcnbaaDoor
open Go.RowKit Go.Maps

theorem own_farT {w : World} {base : Nat} {e : TypeId} {size n : Nat} {v : Value} {xs : List Value} (h : w.ownsRow base e size v n xs) {p : Addr} (hp : v.ownBlock ≠ some p.block) (u : Value) : (w.setCell p u).ownsRow base e size v n xs :=
  h.kept (row := some p.block) ⟨rfl, rfl, rfl, by simp [World.setCell], fun j _ hj => Below.heap_setCell _ _ _ _ (fun e => hj (by simp [e]))⟩ (Or.inr hp)
/-- a loop that fills a program's blocks -/
structure TLoop (w wr : World) (R Q lo : Nat) (v ve : Value) (k m : Nat) (L E : List Pr) : Prop where
  two : Two wr Q v ve
  res : Two wr R (.slice none 0 0) (.slice none 0 0)
  ob : wr.ownsRow lo 55 2 v k (cellsOf L)
  oe : wr.ownsRow lo 49 2 ve m (cellsOf E)
  bw : Below w.heap.size w wr
section
variable {w wr w' : World} {R Q lo k m : Nat} {v ve : Value} {L E : List Pr}
theorem TLoop.below (h : TLoop w wr R Q lo v ve k m L E) (hb : Below wr.heap.size wr w') : TLoop w w' R Q lo v ve k m L E :=
  ⟨h.two.of_cells (hb.block _ h.two.cells.2.2.2.2), h.res.of_cells (hb.block _ h.res.cells.2.2.2.2), ownsRow_below h.ob hb, ownsRow_below h.oe hb, h.bw.trans (hb.mono h.bw.size)⟩
theorem TLoop.step (h : TLoop w wr R Q lo v ve k m L E) {wx w4 : World} {v' : Value} {k' : Nat} {L' : List Pr} (hx : Below wr.heap.size wr wx) (hg : wx.grownBy w4 v.ownBlock) (hown : w4.ownsRow lo 55 2 v' k' (cellsOf L')) (hlo : w.heap.size ≤ lo) (hQ : w.heap.size ≤ Q) (hRQ : R ≠ Q) :
    TLoop w (w4.setCell ⟨Q, 0, none⟩ v') R Q lo v' ve k' m L' E := by
  have ht : Turns (fun b => some b = v.ownBlock) wr w4 := (Turns.of_below hx).then_ (Turns.of_grown hg) (fun _ _ h => h) (fun _ _ h => h)
  have hR4 : Two w4 R _ _ := h.res.of_cells (ht.block R h.res.cells.2.2.2.2 (fun e => own_neK h.ob h.res (by decide) e.symm))
  have hQ4 : Two w4 Q _ _ := h.two.of_cells (ht.block Q h.two.cells.2.2.2.2 (fun e => own_neK h.ob h.two (by decide) e.symm))
  have hE4 := ht.row h.oe (fun b hb e => by
    obtain ⟨c9, z9, h9⟩ := Lib.ownsRow_kind h.oe b hb
    exact own_neK h.ob h9 (by decide) e.symm)
  have hb4 : Below w.heap.size w w4 := h.bw.trans (ht.below h.bw.size (fun b hb => Nat.le_trans hlo (h.ob.lt b hb.symm).1))
  exact ⟨hQ4.set0 _, hR4.far hRQ _, own_farT hown (own_neK hown hQ4 (by decide)) _, own_farT hE4 (own_neK hE4 hQ4 (by decide)) _, hb4.setCell hQ _⟩
end

set_option maxRecDepth 100000 in
set_option maxHeartbeats 6400000 in
theorem Tidy_spec (w : World) (bs es : List Pr) (ab ae : Option Addr) (cb ce : Nat) (hpb : PairsAt w ab bs) (hpe : PairsAt w ae es) :
    Calls Tryd.prog 21 #[.agg #[.slice ab bs.length cb, .slice ae es.length ce]] w (TidyPost w bs es) := by
  have h1 : Below w.heap.size w ((w.alloc (.cells #[.slice ab bs.length cb, .slice ae es.length ce] 31)).alloc (.cells #[.slice none 0 0, .slice none 0 0] 31)) := ((Below.refl _ _).alloc (Nat.le_refl _) _).alloc (by simp) _
  have hpb1 := hpb.below h1
  have hpe1 := hpe.below h1
  have hRA : Two ((w.alloc (.cells #[.slice ab bs.length cb, .slice ae es.length ce] 31)).alloc (.cells #[.slice none 0 0, .slice none 0 0] 31)) (w.heap.size + 1) (.slice none 0 0) (.slice none 0 0) := by
    rw [show w.heap.size + 1 = (w.alloc (.cells #[.slice ab bs.length cb, .slice ae es.length ce] 31)).heap.size by simp]; exact heap_alloc_new _ _
  have hPA : Two ((w.alloc (.cells #[.slice ab bs.length cb, .slice ae es.length ce] 31)).alloc (.cells #[.slice none 0 0, .slice none 0 0] 31)) w.heap.size (.slice ab bs.length cb) (.slice ae es.length ce) := (Below.heap_alloc _ _ _ (by simp)).trans (heap_alloc_new _ _)
  have hl9 := hpb.len
  have hle := hpe.len
  obtain ⟨i0, hi, hz0, hz1, hz2⟩ := info_parts Tryd.infoBlock
  obtain ⟨j0, hj, yz0, yz1, yz2⟩ := info_parts Tryd.infoEdge
  have H1 := Lib.hid (And.intro h1 (And.intro hRA hPA)); clear h1 hRA hPA
  go_enter Tryd.func21, Tryd.ntmps21
  go_wp2_with fail
  refine (ProgValid_spec _ bs es _ _ _ _ hpb1 hpe1).mono ?_
  rintro e w1 ⟨rfl, hb1⟩
  have hall : Below w.heap.size w w1 := H1.out.1.trans (hb1.mono (by simp; omega))
  have hz := hall.size
  have hR1 : Two w1 (w.heap.size + 1) _ _ := H1.out.2.1.of_cells (hb1.block _ (by simp))
  have hP1 : Two w1 w.heap.size _ _ := H1.out.2.2.of_cells (hb1.block _ (by simp; omega))
  obtain ⟨c0, c1, _, _, hzA⟩ := hP1.cells
  obtain ⟨r0, r1, t0, t1, hzB⟩ := hR1.cells
  cases hv : validB bs es
  · have HV := Lib.hid hv
    have HX := Lib.hid hall
    clear hv hall hR1 hP1 hb1
    go_wp2
    refine bodyPost_ret (v := .tuple #[.agg #[.slice none 0 0, .slice none 0 0], .bool false]) (by simp [results, Tryd.results21, go_sem, r0, r1]) rfl ?_
    exact ⟨by repeat (first | exact HX.out | refine Below.setCell ?_ (by simp <;> omega) _ | refine Below.alloc ?_ (by first | omega | (simp; omega)) _), .inr ⟨HV.out, rfl⟩⟩
  · have HV := Lib.hid hv
    have hA2 : Below w1.heap.size w1 ((w1.alloc (.cells #[] 55)).alloc (.cells #[] 49)) := ((Below.refl _ _).alloc (Nat.le_refl _) _).alloc (by simp) _
    have hoB : ((w1.alloc (.cells #[] 55)).alloc (.cells #[] 49)).ownsRow w1.heap.size 55 2 (.slice (some ⟨w1.heap.size, 0, none⟩) 0 0) 0 [] := (World.ownsRow_made w1 #[] 0 (Nat.le_refl _) (Nat.zero_le _) rfl).alloc _
    have hoE : ((w1.alloc (.cells #[] 55)).alloc (.cells #[] 49)).ownsRow (w1.heap.size + 1) 49 2 (.slice (some ⟨w1.heap.size + 1, 0, none⟩) 0 0) 0 [] := by
      have := World.ownsRow_made (w1.alloc (.cells #[] 55)) (base := w1.heap.size + 1) (e := 49) (size := 2) #[] 0 (by simp) (Nat.zero_le _) rfl
      simpa using this
    have hz3 : ((w1.alloc (.cells #[] 55)).alloc (.cells #[] 49)).heap.size = w1.heap.size + 2 := by simp
    have hV : Valid bs es := by simpa [validB] using hv
    have hne : 0 < es.length := by
      rcases Nat.eq_zero_or_pos es.length with h0 | h0
      · exfalso
        have he := List.length_eq_zero_iff.1 h0
        subst he
        have h2 := hV.b.lo
        have h3 := hV.ra _ (pair_mem (show bs.length - 1 < bs.length by omega))
        have h4 := h3.closed (S := fun x => x = nameAt bs 0) rfl (fun x y hm _ => by cases hm)
        have := names_inj hV.b.nd (show bs.length - 1 < bs.length by omega) (show 0 < bs.length by omega) h4
        omega
      · exact h0
    have hpe3 := (hpe1.below hb1).below hA2
    obtain ⟨b1, o1, rfl, _⟩ := hpe3.cell 0 hne
    have hnews : ∀ j u, (cellsOf es)[j]? = some u → ((w1.alloc (.cells #[] 55)).alloc (.cells #[] 49)).cell? ((⟨b1, o1, none⟩ : Addr).add j) = some u := by
      intro j u hj
      obtain ⟨i, hi, ⟨rfl, rfl⟩ | ⟨rfl, rfl⟩⟩ := cellsOf_at hj
      · obtain ⟨b, off, e, hb, g1, g2⟩ := hpe3.cell i hi
        cases e
        rw [Addr.add_lit]; exact g1
      · obtain ⟨b, off, e, hb, g1, g2⟩ := hpe3.cell i hi
        cases e
        rw [Addr.add_lit]; exact g2
    have hR3 : Two ((w1.alloc (.cells #[] 55)).alloc (.cells #[] 49)) (w.heap.size + 1) _ _ := hR1.of_cells (hA2.block _ hzB)
    have hP3 : Two ((w1.alloc (.cells #[] 55)).alloc (.cells #[] 49)) w.heap.size _ _ := hP1.of_cells (hA2.block _ hzA)
    have HA := Lib.hid (And.intro hoB (And.intro hoE (And.intro (hall.trans (hA2.mono hz)) (And.intro hR3 (And.intro hP3 (And.intro ((hpb1.below hb1).below hA2) (And.intro hnews (And.intro hz3 hV))))))))
    clear hv hV hoB hoE hall hR1 hP1 hb1 hA2 hR3 hP3 hpe3 hnews hz3 hpb1 hpe1 r0 r1 t0 t1
    go_wp2_with (at_builtin; refine wpList_append_lies _ rfl _ _ 29 rfl (w1.heap.size + 1) 49 j0 (.agg #[.string ⟨#[]⟩, .string ⟨#[]⟩]) 2 32 Tryd.underlying29 hj yz0 yz1 yz2 rfl (by decide) _ 0 [] rfl HA.out.2.1 ⟨b1, o1, none⟩ es.length ce (cellsOf es) rfl (cellsOf_length es) HA.out.2.2.2.2.2.2.1 (cellsOf_one es) (by omega) (by unfold maxLen; omega) (by omega) (by simp) _ rfl ?_; intro ge cape w2 hown2 hgrow2 hlies2 _; have hP2 : Two w2 w.heap.size _ _ := HA.out.2.2.2.2.1.of_cells (hgrow2.block _ (by rw [HA.out.2.2.2.2.2.2.2.1]; omega) (fun e => own_neK HA.out.2.1 HA.out.2.2.2.2.1 (by decide) e.symm)); have kA := (fun q => (World.cell?_alloc_lt w2 q ⟨w.heap.size, 0, none⟩ hP2.cells.2.2.2.2).trans hP2.cells.1); have HP2 := Lib.hid hP2; clear hP2)
    have hTL : TLoop w (w2.alloc (.cells #[.slice (some ⟨w1.heap.size, 0, none⟩) 0 0, .slice (some ⟨ge, 0, none⟩) es.length cape] 31)) (w.heap.size + 1) w2.heap.size w1.heap.size (.slice (some ⟨w1.heap.size, 0, none⟩) 0 0) (.slice (some ⟨ge, 0, none⟩) es.length cape) 0 es.length (tidL bs 0) es := by
      have hb2 : Below w2.heap.size w2 (w2.alloc (.cells #[.slice (some ⟨w1.heap.size, 0, none⟩) 0 0, .slice (some ⟨ge, 0, none⟩) es.length cape] 31)) := (Below.refl _ _).alloc (Nat.le_refl _) _
      have hz2 := hgrow2.size
      rw [HA.out.2.2.2.2.2.2.2.1] at hz2
      have hR2 : Two w2 (w.heap.size + 1) _ _ := HA.out.2.2.2.1.of_cells (hgrow2.block _ (by rw [HA.out.2.2.2.2.2.2.2.1]; omega) (fun e => own_neK HA.out.2.1 HA.out.2.2.2.1 (by decide) e.symm))
      have hob2 : w2.ownsRow w1.heap.size 55 2 (.slice (some ⟨w1.heap.size, 0, none⟩) 0 0) 0 [] := HA.out.1.kept (row := some (w1.heap.size + 1)) hgrow2 (Or.inr (by simp [Value.ownBlock]))
      have hbw : Below w.heap.size w w2 := HA.out.2.2.1.grown hgrow2 (by rw [HA.out.2.2.2.2.2.2.2.1]; omega) (fun j hj => by have := (HA.out.2.1.lt j hj).1; omega)
      refine ⟨heap_alloc_new _ _, hR2.of_cells (hb2.block _ (by omega)), ownsRow_below hob2 hb2, ownsRow_below (own_base (by simpa using hown2) (Nat.le_succ _)) hb2, hbw.trans (hb2.mono (by omega))⟩
    have hzw2 : w1.heap.size + 2 ≤ w2.heap.size := by have := hgrow2.size; rw [HA.out.2.2.2.2.2.2.2.1] at this; exact this
    have HTL := Lib.hid hTL
    have HVV := Lib.hid HA.out.2.2.2.2.2.2.2.2
    clear hTL hown2 hgrow2 hlies2 HP2 HA
    go_wp2
    go_loopw [20] (fun i wr => ∃ (k : Nat) (v : Value), k ≤ bs.length ∧ i = .int .i64 k ∧ TLoop w wr (w.heap.size + 1) w2.heap.size w1.heap.size v (.slice (some ⟨ge, 0, none⟩) es.length cape) k es.length (tidL bs k) es) (fun i _ => bs.length - (intOf i).toNat)
    case atStart => exact ⟨0, _, Nat.zero_le _, rfl, HTL.out⟩
    case round =>
      obtain ⟨k, v, hk, rfl, hT⟩ := hrel
      have hs3 := hT.bw.size
      obtain ⟨wa, wc, rfl⟩ := own_form hT.ob
      by_cases hlt : k < bs.length
      · obtain ⟨b, off, rfl, hb, g1, g2⟩ := hpb.cell k hlt
        have d1 := (hT.bw.cell (p := ⟨b, off + k * 2, none⟩) hb).trans g1
        have d2 := (hT.bw.cell (p := ⟨b, off + k * 2 + 1, none⟩) hb).trans g2
        have hsr := (hpb.size k hlt).2
        have hwB : Below wr.heap.size wr (wr.alloc (.cells #[.string (nameAt bs k), .string (restAt bs k)] 55)) := (Below.refl _ _).alloc (Nat.le_refl _) _
        have n0 : (wr.alloc (.cells #[.string (nameAt bs k), .string (restAt bs k)] 55)).cell? ⟨wr.heap.size, 0, none⟩ = some (.string (nameAt bs k)) := by go_simp
        have n1 : (wr.alloc (.cells #[.string (nameAt bs k), .string (restAt bs k)] 55)).cell? ⟨wr.heap.size, 1, none⟩ = some (.string (restAt bs k)) := by go_simp
        have hzb : (wr.alloc (.cells #[.string (nameAt bs k), .string (restAt bs k)] 55)).heap.size = wr.heap.size + 1 := by simp
        have HK := Lib.hid (And.intro (hT.below hwB) hzb)
        have HE := Lib.hid (tidL_succ bs k)
        clear hT g1 g2 hwB hzb
        go_wp2
        generalize wr.alloc (.cells #[.string (nameAt bs k), .string (restAt bs k)] 55) = wB at *
        obtain ⟨e0', e1', _, _, hlt2⟩ := HK.out.1.two.cells
        have hb1 : some w2.heap.size ≠ (Value.slice wa k wc).ownBlock := fun e => own_neK HK.out.1.ob HK.out.1.two (by decide) e.symm
        have hltB : wr.heap.size < wB.heap.size := by rw [HK.out.2]; omega
        go_region_law (first
          | (go_simp; go_at_call 73; refine (l3Tidy_any _ _ hsr).mono ?_; rintro e wN ⟨rfl, hbN⟩; have eN : wN.cell? ⟨w2.heap.size, 0, none⟩ = some (.slice wa k wc) := (hbN.cell (p := ⟨w2.heap.size, 0, none⟩) hlt2).trans e0'; have hRN : w2.heap.size < wN.heap.size := Nat.lt_of_lt_of_le hlt2 hbN.size; have eNA : ∀ o, (wN.alloc o).cell? ⟨w2.heap.size, 0, none⟩ = some (.slice wa k wc) := fun o => (World.cell?_alloc_lt _ _ _ hRN).trans eN; have nN : wN.cell? ⟨wr.heap.size, 0, none⟩ = some (.string (nameAt bs k)) := (hbN.cell (p := ⟨wr.heap.size, 0, none⟩) hltB).trans n0)
          | (refine step_append_lies _ rfl (.tmp 25) (.tmp 32) 28 rfl w1.heap.size 55 i0 (.agg #[.string ⟨#[]⟩, .string ⟨#[]⟩]) 2 32 Tryd.underlying28 hi hz0 hz1 hz2 rfl (by decide) _ k (cellsOf (tidL bs k)) rfl ((ownsRow_below HK.out.1.ob ((Below.refl _ _).drew.trans hbN)).alloc _) ⟨wN.heap.size, 0, none⟩ 1 1 [.string (nameAt bs k), .string (tidyA (restAt bs k) (restAt bs k).size)] rfl rfl (cell_two_new _ _ _ _) (two_one _ _ rfl rfl) (by decide) (by unfold maxLen; omega) (by omega) (by have h9 := hbN.size; simp at h9 ⊢; omega) _ rfl ?_
             intro g' cap' w5 hown5 hgrow5 hlies5 _
             have hT5 : Two w5 w2.heap.size _ _ := HK.out.1.two.of_cells ((hgrow5.block _ (by have h9 := hbN.size; simp at h9 ⊢; omega) hb1).trans ((Lib.alloc_old wN _ _ (Nat.lt_of_lt_of_le hlt2 hbN.size)).trans (hbN.block _ hlt2)))
             have e5 := hT5.cells.1
             have f5 := hT5.cells.2.2.1))
        all_goals
          have hTN := HK.out.1.step (L' := tidL bs (k + 1)) (v' := .slice (some ⟨g', 0, none⟩) (k + 1) cap') (((Below.refl _ _).drew.trans hbN).alloc hbN.size _) hgrow5 (by rw [HE.out]; exact hown5) (by omega) (by omega) (by omega)
          have HX := Lib.hid hTN
          clear hTN hown5 hgrow5 hT5 e5 f5 hbN eN eNA hRN nN hlies5
          go_wp2
          go_roundw
          case rel => exact ⟨k + 1, _, by omega, by go_num, HX.out⟩
          case measure => simp [intOf]; omega
      · obtain rfl : k = bs.length := by omega
        obtain ⟨r0, r1, t0, t1, _⟩ := hT.res.cells
        obtain ⟨q0, q1, _, _, _⟩ := hT.two.cells
        have HX := Lib.hid hT
        clear hT
        go_wp2
        refine bodyPost_ret (v := .tuple #[.agg #[.slice wa bs.length wc, .slice (some ⟨ge, 0, none⟩) es.length cape], .bool true]) (by simp [results, Tryd.results21, go_sem, r0, r1]) rfl ?_
        refine ⟨by repeat (first | exact HX.out.bw | refine Below.setCell ?_ (by simp <;> omega) _ | refine Below.alloc ?_ (by first | omega | (simp; omega)) _), .inl ⟨HV.out, _, _, rfl, ?_, ?_⟩⟩
        · exact own_base (own_farT (own_farT HX.out.ob (own_neK HX.out.ob HX.out.res (by decide)) _) (own_neK HX.out.ob HX.out.res (by decide)) _) (by omega)
        · exact own_base (own_farT (own_farT HX.out.oe (own_neK HX.out.oe HX.out.res (by decide)) _) (own_neK HX.out.oe HX.out.res (by decide)) _) (by omega)
end Go.Proofs.YtnoboekddkcnbaaDoor
