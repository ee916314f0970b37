/-
  readProg of the program. Conditions: at most 1048576 bytes; the errors' variables hold errors; bytealg's MaxLen holds a number.
-/
import Derived.Test.YtngcmjfkeageiaaDoorReadA
import Derived.Deep.CutRange
namespace Go.Proofs.YtngcmjfkeageiaaDoor
open Go.RowKit Go.Maps

/-- what readProg leaves -/
def ReadPost (w : World) (text : ByteArray) (e : Ending) (w' : World) : Prop :=
  Below w.heap.size w w' ∧ ((ReadOk text ∧ ∃ v ve, e = .returned (.tuple #[.agg #[v, ve], .nilIface]) ∧ w'.ownsRow w.heap.size 40 2 v (bsOf text).length (cellsOf (bsOf text)) ∧ w'.ownsRow w.heap.size 111 2 ve (esOf text).length (cellsOf (esOf text))) ∨
    (¬ ReadOk text ∧ ∃ ty x, e = .returned (.tuple #[.agg #[.slice none 0 0, .slice none 0 0], .iface ty x])))
/-- a loop that fills a program's edges -/
theorem TLoop.stepE {w wr wx w4 : World} {R Q lo k m : Nat} {v ve v' : Value} {L E E' : List Pr} {m' : Nat} (h : TLoop w wr R Q lo v ve k m L E) (hx : Below wr.heap.size wr wx) (hg : wx.grownBy w4 ve.ownBlock) (hown : w4.ownsRow lo 111 2 v' m' (cellsOf E')) (hlo : w.heap.size ≤ lo) (hQ : w.heap.size ≤ Q) (hRQ : R ≠ Q) :
    TLoop w (w4.setCell ⟨Q, 1, none⟩ v') R Q lo v v' k m' L E' := by
  have ht : Turns (fun b => some b = ve.ownBlock) wr w4 := (Turns.of_below hx).then_ (Turns.of_grown hg) (fun _ _ h => h) (fun _ _ h => h)
  have hR4 : Two w4 R _ _ := h.res.of_cells (ht.block R h.res.cells.2.2.2.2 (fun e => own_neK h.oe h.res (by decide) e.symm))
  have hQ4 : Two w4 Q _ _ := h.two.of_cells (ht.block Q h.two.cells.2.2.2.2 (fun e => own_neK h.oe h.two (by decide) e.symm))
  have hB4 := ht.row h.ob (fun b hb e => by
    obtain ⟨c9, z9, h9⟩ := Lib.ownsRow_kind h.ob b hb
    exact own_neK h.oe h9 (by decide) e.symm)
  have hb4 : Below w.heap.size w w4 := h.bw.trans (ht.below h.bw.size (fun b hb => Nat.le_trans hlo (h.oe.lt b hb.symm).1))
  exact ⟨hQ4.set1 _, hR4.far hRQ _, own_farT hB4 (own_neK hB4 hQ4 (by decide)) _, own_farT hown (own_neK hown hQ4 (by decide)) _, hb4.setCell hQ _⟩
/-- a row of texts that stands where a program's rows grow -/
theorem grow_kept {wr wx w4 : World} {g Q lo k i : Nat} {t : TypeId} {v u : Value} {xs : List Value} {cs : Array Value} (ho : wr.ownsRow lo t 2 v k xs) (ht : t ≠ 9) (hg : wr.heap[g]? = some (.cells cs 9 (0, 0))) (hx : Below wr.heap.size wr wx) (hgr : wx.grownBy w4 v.ownBlock) (hQ : g ≠ Q) :
    (w4.setCell ⟨Q, i, none⟩ u).heap[g]? = some (.cells cs 9 (0, 0)) := by
  have hl := (Array.getElem?_eq_some_iff.1 hg).1
  have hn : some g ≠ v.ownBlock := fun e => by
    obtain ⟨c9, z9, h9⟩ := Lib.ownsRow_kind ho g e.symm
    rw [hg] at h9
    simp only [Option.some.injEq, Obj.cells.injEq] at h9
    exact ht h9.2.1.symm
  rw [Below.heap_setCell _ _ _ _ hQ, hgr.block g (Nat.lt_of_lt_of_le hl hx.size) hn, hx.block g hl]
  exact hg
theorem below_res0 {w wr : World} {R : Nat} (h : Below w.heap.size w wr) (hR : w.heap.size ≤ R) (u v : Value) : Below w.heap.size w ((wr.setCell ⟨R, 0, none⟩ u).setCell ⟨R, 1, none⟩ v) := (h.setCell (p := ⟨R, 0, none⟩) hR _).setCell (p := ⟨R, 1, none⟩) hR _

set_option maxRecDepth 100000 in
set_option maxHeartbeats 6400000 in
theorem readProg_any (w : World) (text : ByteArray) (hs : text.size ≤ 1048576) (hg : Errs w) (hc : ErrAt w 2) (hm : MaxAt w) :
    Calls Tryd.prog 82 #[.string text] w (ReadPost w text) := by
  obtain ⟨i0, hi, hz0, hz1, hz2⟩ := info_parts Tryd.infoBlock
  obtain ⟨j0, hj, yz0, yz1, yz2⟩ := info_parts Tryd.infoEdge
  have hA : Below w.heap.size w (w.alloc (.cells #[.slice none 0 0, .slice none 0 0] 32)) := (Below.refl _ _).alloc (Nat.le_refl _) _
  have hR : Two (w.alloc (.cells #[.slice none 0 0, .slice none 0 0] 32)) w.heap.size (.slice none 0 0) (.slice none 0 0) := heap_alloc_new _ _
  have hzA : w.heap.size < (w.alloc (.cells #[.slice none 0 0, .slice none 0 0] 32)).heap.size := by simp
  have hmA := hm.keep hA
  have HG := Lib.hid (And.intro hg (And.intro hc hm))
  go_enter Tryd.func82, Tryd.ntmps82
  go_wp2_with fail
  generalize w.alloc (.cells #[.slice none 0 0, .slice none 0 0] 32) = wA at *
  refine (Cut_any wA text hs hmA).mono ?_
  rintro e w1 ⟨rfl, hb1⟩
  have hall : Below w.heap.size w w1 := hA.trans (hb1.mono hA.size)
  have hR1 : Two w1 w.heap.size _ _ := hR.of_cells (hb1.block _ hzA)
  have hz1' : w.heap.size < w1.heap.size := Nat.lt_of_lt_of_le hzA hb1.size
  have hsH := Nat.le_trans (headT_size text) hs
  have hsT := Nat.le_trans (tailT_size text) hs
  obtain ⟨r0, r1, t0, t1, _⟩ := hR1.cells
  have H1 := Lib.hid (And.intro hall hR1)
  clear hA hR hzA hmA hb1 hg hc hm hR1
  cases hf : foundT text
  · have HN := Lib.hid (show ¬ ReadOk text from fun h => by rw [h.col] at hf; cases hf)
    obtain ⟨gl2, et2, ev2, ec2⟩ := HG.out.2.1.keep hall
    have gw := HG.out.2.1.1
    have q1 : 2 ≠ w.heap.size := by omega
    clear hf hall
    go_wp2
    go_region
    all_goals
      go_wp2
      refine bodyPost_ret (v := .tuple #[.agg #[.slice none 0 0, .slice none 0 0], .iface 172 (.agg #[.string text, .iface et2 ev2])]) (by simp [results, Tryd.results82, go_sem, r0, r1]) rfl ?_
      exact ⟨by first | exact (below_res0 H1.out.1 (Nat.le_refl _) _ _).drew | exact below_res0 H1.out.1.drew (Nat.le_refl _) _ _, .inr ⟨HN.out, _, _, rfl⟩⟩
  · have HF := Lib.hid hf
    have hQ : Two (w1.alloc (.cells #[.slice none 0 0, .slice none 0 0] 32)) w1.heap.size (.slice none 0 0) (.slice none 0 0) := heap_alloc_new _ _
    have hbQ : Below w1.heap.size w1 (w1.alloc (.cells #[.slice none 0 0, .slice none 0 0] 32)) := (Below.refl _ _).alloc (Nat.le_refl _) _
    have hzQ : (w1.alloc (.cells #[.slice none 0 0, .slice none 0 0] 32)).heap.size = w1.heap.size + 1 := by simp
    have HQ := Lib.hid (And.intro hQ (And.intro hbQ hzQ))
    have hmQ := HG.out.2.2.keep (hall.trans (hbQ.mono hall.size))
    clear hf hall hQ hbQ hzQ
    go_wp2_with fail
    generalize w1.alloc (.cells #[.slice none 0 0, .slice none 0 0] 32) = wQ at *
    refine (SplitN_any wQ (headT text) 10 hsH (by decide) (by decide) hmQ).mono ?_
    rintro e w2 ⟨c2, rfl, hb2, hz2', cs, hcs, hcell⟩
    obtain ⟨L0, hL0⟩ : ∃ L0, piecesN 10 (headT text) = L0 := ⟨_, rfl⟩
    have hl0 : L0.length ≤ 10 := by rw [← hL0]; exact pieces_len 10 _ (by decide)
    rw [hL0] at hcell ⊢
    have hQz := HQ.out.2.2
    have hbw2 : Below w.heap.size w w2 := H1.out.1.trans ((HQ.out.2.1.mono H1.out.1.size).trans (hb2.mono (by omega)))
    have hQ2 : Two w2 w1.heap.size (.slice none 0 0) (.slice none 0 0) := HQ.out.1.of_cells (hb2.block _ (by omega))
    have hR2 : Two w2 w.heap.size (.slice none 0 0) (.slice none 0 0) := H1.out.2.of_cells ((hb2.block _ (by omega)).trans (HQ.out.2.1.block _ (by omega)))
    have hT0 : TLoop w w2 w.heap.size w1.heap.size w2.heap.size (.slice none 0 0) (.slice none 0 0) 0 0 [] [] := ⟨hQ2, hR2, World.ownsRow_nil _ _ _ _, World.ownsRow_nil _ _ _ _, hbw2⟩
    obtain ⟨S, hS⟩ : ∃ S, wQ.heap.size = S := ⟨_, rfl⟩
    obtain ⟨Q, hQe⟩ : ∃ Q, w1.heap.size = Q := ⟨_, rfl⟩
    obtain ⟨lo, hlo⟩ : ∃ lo, w2.heap.size = lo := ⟨_, rfl⟩
    rw [hS] at hcs ⊢
    rw [hQe] at hT0 ⊢
    rw [hlo] at hT0
    have hSQ : S ≠ Q := by omega
    have hwQ : w.heap.size < Q := by omega
    have hlw : w.heap.size ≤ lo := by omega
    have hlS : lo ≤ S + 1 := by omega
    have hlw' : w.heap.size < lo := by omega
    have HT := Lib.hid (And.intro hT0 (And.intro hcs (And.intro hcell hL0)))
    clear hT0 hcs hcell hL0 hQ2 hR2 hbw2 hb2 hz2' hQz hS hQe hlo HQ hmQ r0 r1 t0 t1
    go_wp2
    go_loopw [30] (fun i wr => ∃ (k : Nat) (v : Value), k ≤ L0.length ∧ i = .int .i64 k ∧ TLoop w wr w.heap.size Q lo v (.slice none 0 0) k 0 ((L0.take k).map blkOf) [] ∧ wr.heap[S]? = some (.cells cs 9 (0, 0)) ∧ ∀ j, j < k → pieceAt L0 j ≠ e0) (fun i _ => L0.length - (intOf i).toNat)
    case atStart => exact ⟨0, _, Nat.zero_le _, rfl, HT.out.1, HT.out.2.1, fun j hj => absurd hj (Nat.not_lt_zero _)⟩
    case round =>
      obtain ⟨k, v, hk, rfl, hT, hcs, hne⟩ := hrel
      obtain ⟨wa, wc, rfl⟩ := own_form hT.ob
      obtain ⟨c0, c1, f0, f1, hQl⟩ := hT.two.cells
      obtain ⟨r0, r1, t0, t1, hRl⟩ := hT.res.cells
      have hszr := hT.bw.size
      have hSl := (Array.getElem?_eq_some_iff.1 hcs).1
      by_cases hlt : k < L0.length
      · have d2 : wr.cell? ⟨S, k, none⟩ = some (.string (pieceAt L0 k)) := by rw [cell_of_row wr S k _ _ (0, 0) hcs]; exact HT.out.2.2.1 k hlt
        have x1 : (0 : Int) ≤ (k : Int) := by omega
        have x2 : (k : Int) < (L0.length : Int) := by omega
        by_cases he : pieceAt L0 k = e0
        · have q2 : (pieceAt L0 k).toList.isEmpty = true := by rw [isEmpty_eq]; exact decide_eq_true he
          have q1 : (pieceAt L0 k).toList = [] := List.isEmpty_iff.1 q2
          have HN := Lib.hid (show ¬ ReadOk text from fun h => h.ne _ (by rw [HT.out.2.2.2]; exact pieceAt_mem hlt) he)
          obtain ⟨gl2, et2, ev2, ec2⟩ := HG.out.1.name.keep hT.bw
          have gw := HG.out.1.name.1
          have q3 : 3 ≠ w.heap.size := by omega
          have HX := Lib.hid hT.bw
          clear he hne hT hcs c0 c1 f0 f1
          go_wp2
          go_region
          all_goals
            go_wp2
            refine bodyPost_ret (v := .tuple #[.agg #[.slice none 0 0, .slice none 0 0], .iface 172 (.agg #[.string (headT text), .iface et2 ev2])]) (by simp [results, Tryd.results82, go_sem, r0, r1]) rfl ?_
            exact ⟨by first | exact (below_res0 HX.out (Nat.le_refl _) _ _).drew | exact below_res0 HX.out.drew (Nat.le_refl _) _ _, .inr ⟨HN.out, _, _, rfl⟩⟩
        · have q2 : (pieceAt L0 k).toList.isEmpty = false := by rw [isEmpty_eq]; exact decide_eq_false he
          have q1 : ¬ (pieceAt L0 k).toList = [] := fun h => by rw [h] at q2; cases q2
          have hp0 : 0 < (pieceAt L0 k).size := by
            rcases Nat.eq_zero_or_pos (pieceAt L0 k).size with h | h
            · exact absurd ((e0_iff _).2 h) he
            · exact h
          have s1 := run_head _ hp0
          have s2 := run_tail _ hp0
          have HNe := Lib.hid (all_step hne he)
          have HK := Lib.hid (And.intro hT hcs)
          have hb1 : some Q ≠ (Value.slice wa k wc).ownBlock := fun e => own_neK hT.ob hT.two (by decide) e.symm
          have e0' : wr.drew.cell? ⟨Q, 0, none⟩ = some (.slice wa k wc) := c0
          clear he hne hT hcs hp0 c1 f1 r0 r1 t0 t1
          go_wp2
          go_region_law (first
            | (refine step_append_lies _ rfl (.tmp 42) (.tmp 48) 29 rfl lo 40 i0 (.agg #[.string ⟨#[]⟩, .string ⟨#[]⟩]) 2 32 Tryd.underlying29 hi hz0 hz1 hz2 rfl (by decide) _ k (cellsOf ((L0.take k).map blkOf)) rfl ((ownsRow_below HK.out.1.ob (Below.refl _ _).drew).alloc _) ⟨wr.heap.size, 0, none⟩ 1 1 [.string ((pieceAt L0 k).extract 0 1), .string ((pieceAt L0 k).extract 1 (pieceAt L0 k).size)] rfl rfl (cell_two_new _ _ _ _) (two_one _ _ rfl rfl) (by decide) (by unfold maxLen; omega) (by omega) (by simp; omega) _ rfl ?_
               intro g' cap' w4 hown4 hgrow4 hlies4 _
               have hT4 : Two w4 Q (.slice wa k wc) (.slice none 0 0) := HK.out.1.two.of_cells ((hgrow4.block _ (by simp; omega) hb1).trans (Lib.alloc_old wr.drew _ _ hQl))
               have e4 := hT4.cells.1
               have f4 := hT4.cells.2.2.1))
          all_goals
            have hxx : Below wr.heap.size wr (wr.drew.alloc (.cells #[.string ((pieceAt L0 k).extract 0 1), .string ((pieceAt L0 k).extract 1 (pieceAt L0 k).size)] 40)) := ((Below.refl _ _).drew).alloc (Nat.le_refl _) _
            have HS := Lib.hid (And.intro (HK.out.1.step (v' := .slice (some ⟨g', 0, none⟩) (k + 1) cap') (k' := k + 1) (L' := (L0.take (k + 1)).map blkOf) hxx hgrow4 (by rw [take_piece hlt, cellsOf_snoc]; exact hown4) hlw (by omega) (by omega)) (grow_kept (i := 0) (u := .slice (some ⟨g', 0, none⟩) (k + 1) cap') HK.out.1.ob (by decide) HK.out.2 hxx hgrow4 hSQ))
            clear hown4 hgrow4 hlies4 hT4 e4 f4 hxx
            go_wp2
            go_roundw
            case rel => exact ⟨k + 1, _, by omega, by go_num, HS.out.1, HS.out.2, HNe.out⟩
            case measure => simp [intOf]; omega
      · obtain rfl : k = L0.length := by omega
        have HE := Lib.hid (show ∀ s ∈ L0, s ≠ e0 from piece_all hne)
        rw [List.take_length] at hT
        have hm5 := HG.out.2.2.keep hT.bw
        have HTT := Lib.hid hT
        clear hT hcs hne c0 c1 f0 f1 r0 r1 t0 t1
        obtain ⟨wo, rfl⟩ : ∃ wo, wo = wr := ⟨_, rfl⟩
        go_wp2_with fail
        refine (SplitN_any wo (tailT text) 15 hsT (by decide) (by decide) hm5).mono ?_
        rintro e w5 ⟨c5, rfl, hb5, hz5', cs5, hcs5, hcell5⟩
        obtain ⟨L1, hL1⟩ : ∃ L1, piecesN 15 (tailT text) = L1 := ⟨_, rfl⟩
        have hl1 : L1.length ≤ 15 := by rw [← hL1]; exact pieces_len 15 _ (by decide)
        rw [hL1] at hcell5 ⊢
        obtain ⟨S5, hS5⟩ : ∃ S5, wo.heap.size = S5 := ⟨_, rfl⟩
        rw [hS5] at hcs5 ⊢
        have hSQ5 : S5 ≠ Q := by have := HTT.out.two.cells.2.2.2.2; omega
        have hlS5 : lo ≤ S5 := by omega
        have HT5 := Lib.hid (And.intro (HTT.out.below hb5) (And.intro hcs5 (And.intro hcell5 hL1)))
        clear hcs5 hcell5 hL1 hb5 hz5' hS5 hm5
        go_wp2
        go_loopw [55] (fun i wr => ∃ (k : Nat) (ve : Value), k ≤ L1.length ∧ i = .int .i64 k ∧ TLoop w wr w.heap.size Q lo (.slice wa L0.length wc) ve L0.length k (L0.map blkOf) ((L1.take k).map blkOf) ∧ wr.heap[S5]? = some (.cells cs5 9 (0, 0)) ∧ ∀ j, j < k → (pieceAt L1 j).size = 2) (fun i _ => L1.length - (intOf i).toNat)
        case atStart => exact ⟨0, _, Nat.zero_le _, rfl, HT5.out.1, HT5.out.2.1, fun j hj => absurd hj (Nat.not_lt_zero _)⟩
        case round =>
          obtain ⟨k, ve, hk, rfl, hT, hcs, hne⟩ := hrel
          obtain ⟨ya, yc, rfl⟩ := own_form hT.oe
          obtain ⟨c0, c1, f0, f1, hQl⟩ := hT.two.cells
          obtain ⟨r0, r1, t0, t1, hRl⟩ := hT.res.cells
          have hszr := hT.bw.size
          have hSl5 := (Array.getElem?_eq_some_iff.1 hcs).1
          by_cases hlt : k < L1.length
          · have d2 : wr.cell? ⟨S5, k, none⟩ = some (.string (pieceAt L1 k)) := by rw [cell_of_row wr S5 k _ _ (0, 0) hcs]; exact HT5.out.2.2.1 k hlt
            have x1 : (0 : Int) ≤ (k : Int) := by omega
            have x2 : (k : Int) < (L1.length : Int) := by omega
            by_cases he : (pieceAt L1 k).size = 2
            · have q1 : (((pieceAt L1 k).size : Int) != 2) = false := by simp [he]
              have s1 := run_head (pieceAt L1 k) (by omega)
              have s2 := run_tail (pieceAt L1 k) (by omega)
              have HNe := Lib.hid (all_step hne he)
              have HK := Lib.hid (And.intro hT hcs)
              have hb1 : some Q ≠ (Value.slice ya k yc).ownBlock := fun e => own_neK hT.oe hT.two (by decide) e.symm
              have e1' : wr.drew.cell? ⟨Q, 1, none⟩ = some (.slice ya k yc) := c1
              clear he hne hT hcs c0 f0 r0 r1 t0 t1
              go_wp2
              go_region_law (first
                | (refine step_append_lies _ rfl (.tmp 68) (.tmp 74) 30 rfl lo 111 j0 (.agg #[.string ⟨#[]⟩, .string ⟨#[]⟩]) 2 32 Tryd.underlying30 hj yz0 yz1 yz2 rfl (by decide) _ k (cellsOf ((L1.take k).map blkOf)) rfl ((ownsRow_below HK.out.1.oe (Below.refl _ _).drew).alloc _) ⟨wr.heap.size, 0, none⟩ 1 1 [.string ((pieceAt L1 k).extract 0 1), .string ((pieceAt L1 k).extract 1 (pieceAt L1 k).size)] rfl rfl (cell_two_new _ _ _ _) (two_one _ _ rfl rfl) (by decide) (by unfold maxLen; omega) (by omega) (by simp; omega) _ rfl ?_
                   intro g' cap' w4 hown4 hgrow4 hlies4 _
                   have hT4 : Two w4 Q (.slice wa L0.length wc) (.slice ya k yc) := HK.out.1.two.of_cells ((hgrow4.block _ (by simp; omega) hb1).trans (Lib.alloc_old wr.drew _ _ hQl))
                   have e4 := hT4.cells.2.1
                   have f4 := hT4.cells.2.2.2.1))
              all_goals
                have hxx : Below wr.heap.size wr (wr.drew.alloc (.cells #[.string ((pieceAt L1 k).extract 0 1), .string ((pieceAt L1 k).extract 1 (pieceAt L1 k).size)] 111)) := ((Below.refl _ _).drew).alloc (Nat.le_refl _) _
                have HS := Lib.hid (And.intro (HK.out.1.stepE (v' := .slice (some ⟨g', 0, none⟩) (k + 1) cap') (m' := k + 1) (E' := (L1.take (k + 1)).map blkOf) hxx hgrow4 (by rw [take_piece hlt, cellsOf_snoc]; exact hown4) hlw (by omega) (by omega)) (grow_kept (i := 1) (u := .slice (some ⟨g', 0, none⟩) (k + 1) cap') HK.out.1.oe (by decide) HK.out.2 hxx hgrow4 hSQ5))
                clear hown4 hgrow4 hlies4 hT4 e4 f4 hxx
                go_wp2
                go_roundw
                case rel => exact ⟨k + 1, _, by omega, by go_num, HS.out.1, HS.out.2, HNe.out⟩
                case measure => simp [intOf]; omega
            · have q1 : (((pieceAt L1 k).size : Int) != 2) = true := by simp; omega
              have HN := Lib.hid (show ¬ ReadOk text from fun h => he (h.two _ (by rw [HT5.out.2.2.2]; exact pieceAt_mem hlt)))
              obtain ⟨gl2, et2, ev2, ec2⟩ := HG.out.1.edge.keep hT.bw
              have gw := HG.out.1.edge.1
              have q3 : 1 ≠ w.heap.size := by omega
              have HX := Lib.hid hT.bw
              clear he hne hT hcs c0 c1 f0 f1
              go_wp2
              go_region
              all_goals
                go_wp2
                refine bodyPost_ret (v := .tuple #[.agg #[.slice none 0 0, .slice none 0 0], .iface 172 (.agg #[.string (tailT text), .iface et2 ev2])]) (by simp [results, Tryd.results82, go_sem, r0, r1]) rfl ?_
                exact ⟨by first | exact (below_res0 HX.out (Nat.le_refl _) _ _).drew | exact below_res0 HX.out.drew (Nat.le_refl _) _ _, .inr ⟨HN.out, _, _, rfl⟩⟩
          · obtain rfl : k = L1.length := by omega
            have HE1 := Lib.hid (show ∀ s ∈ L1, s.size = 2 from piece_all hne)
            rw [List.take_length] at hT
            obtain ⟨BS, hBS⟩ : ∃ BS, L0.map blkOf = BS := ⟨_, rfl⟩
            obtain ⟨ES, hES⟩ : ∃ ES, L1.map blkOf = ES := ⟨_, rfl⟩
            have lb : L0.length = BS.length := by rw [← hBS]; simp
            have le : L1.length = ES.length := by rw [← hES]; simp
            have hz0 : ∀ s ∈ L0, s.size ≤ 1048576 := fun s hs' => Nat.le_trans (pieces_size (by rw [HT.out.2.2.2]; exact hs')) hsH
            have hz1 : ∀ s ∈ L1, s.size ≤ 1048576 := fun s hs' => Nat.le_trans (pieces_size (by rw [HT5.out.2.2.2]; exact hs')) hsT
            have hzb := blks_sizes (L := L0) (Nat.le_refl _) hz0
            have hze := blks_sizes (L := L1) (Nat.le_refl _) hz1
            have HRd := Lib.hid (show Valid BS ES → ReadOk text from fun hv => ⟨HF.out, by rw [HT.out.2.2.2]; exact HE.out, by rw [HT5.out.2.2.2]; exact HE1.out, by rw [HT.out.2.2.2, HT5.out.2.2.2, hBS, hES]; exact hv⟩)
            have HRv := Lib.hid (show ReadOk text → Valid BS ES from fun h => by have := h.val; rw [HT.out.2.2.2, HT5.out.2.2.2, hBS, hES] at this; exact this)
            have HMp := Lib.hid (show ReadOk text → BS = bsOf text ∧ ES = esOf text from fun h => by have := read_parts h; rw [HT.out.2.2.2, HT5.out.2.2.2, hBS, hES] at this; exact this)
            rw [hBS] at hT hzb
            rw [hES] at hT hze
            have hPb := own_atT lb hT.ob (by rw [← lb]; omega) hzb
            have hPe := own_atT le hT.oe (by rw [← le]; omega) hze
            have hgg := HG.out.1.keep hT.bw
            have HX := Lib.hid hT
            rw [lb] at c0
            rw [le] at c1
            clear hT hcs hne f0 f1 r0 r1 t0 t1 hz0 hz1 hzb hze hBS hES
            go_wp2_with fail
            refine (planOf_any _ BS ES _ _ _ _ hPb hPe hgg).mono ?_
            rintro e w6 ⟨hb6, hcase⟩
            have hR6 := HX.out.res.of_cells (hb6.block _ hRl)
            have hQ6 := HX.out.two.of_cells (hb6.block _ hQl)
            have hbw6 := HX.out.bw.trans (hb6.mono hszr)
            have hob6 := ownsRow_below HX.out.ob hb6
            have hoe6 := ownsRow_below HX.out.oe hb6
            obtain ⟨r0, r1, t0, t1, hRl6⟩ := hR6.cells
            obtain ⟨k0, k1, _, _, hQl6⟩ := hQ6.cells
            rcases hcase with ⟨hv, o, lo', li, rfl, hp⟩ | ⟨hv, ty, z, rfl⟩
            · have HV := Lib.hid (And.intro (HRd.out hv) (HMp.out (HRd.out hv)))
              have HY := Lib.hid (And.intro hbw6 (And.intro hob6 hoe6))
              have G := hR6.reads (.slice wa BS.length wc) (.slice ya ES.length yc) (.cells #[.map (some o), .map (some lo'), .map (some li)] 83)
              clear hv hp hR6 hQ6 hbw6 hob6 hoe6 hPb hPe hgg hb6 c0 c1
              go_wp2
              refine bodyPost_ret (v := .tuple #[.agg #[.slice wa BS.length wc, .slice ya ES.length yc], .nilIface]) (by simp [results, Tryd.results82, go_sem, G.1, G.2]) rfl ?_
              have hb' := (own_setCell (a := ⟨w.heap.size, 1, none⟩) (u := .slice ya ES.length yc) (own_setCell (a := ⟨w.heap.size, 0, none⟩) (u := .slice wa BS.length wc) HY.out.2.1 (by simpa using hlw')) (by simpa using hlw')).alloc (.cells #[.map (some o), .map (some lo'), .map (some li)] 83)
              have he' := (own_setCell (a := ⟨w.heap.size, 1, none⟩) (u := .slice ya ES.length yc) (own_setCell (a := ⟨w.heap.size, 0, none⟩) (u := .slice wa BS.length wc) HY.out.2.2 (by simpa using hlw')) (by simpa using hlw')).alloc (.cells #[.map (some o), .map (some lo'), .map (some li)] 83)
              rw [lb] at hb'
              rw [le] at he'
              have hfb := below_res0 HY.out.1 (Nat.le_refl _) (.slice wa BS.length wc) (.slice ya ES.length yc)
              refine ⟨hfb.alloc hfb.size _, .inl ⟨HV.out.1, _, _, rfl, ?_, ?_⟩⟩
              · rw [← HV.out.2.1]; exact own_base hb' hlw
              · rw [← HV.out.2.2]; exact own_base he' hlw
            · have HN := Lib.hid (show ¬ ReadOk text from fun h => hv (HRv.out h))
              have HY := Lib.hid hbw6
              have G := hR6.reads (.slice none 0 0) (.slice none 0 0) (.cells #[.map none, .map none, .map none] 83)
              clear hv hR6 hQ6 hbw6 hob6 hoe6 hPb hPe hgg hb6 c0 c1
              go_wp2
              refine bodyPost_ret (v := .tuple #[.agg #[.slice none 0 0, .slice none 0 0], .iface 172 (.agg #[.string text, .iface ty z])]) (by simp [results, Tryd.results82, go_sem, G.1, G.2]) rfl ?_
              have hfb := below_res0 HY.out (Nat.le_refl _) (.slice none 0 0) (.slice none 0 0)
              exact ⟨hfb.alloc hfb.size _, .inr ⟨HN.out, _, _, rfl⟩⟩
end Go.Proofs.YtngcmjfkeageiaaDoor
