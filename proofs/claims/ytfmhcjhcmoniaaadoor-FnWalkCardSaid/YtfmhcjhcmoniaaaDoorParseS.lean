/-
  The model's ParseProg. Conditions: at most 1048576 bytes.
-/
import Derived.Test.YtfmhcjhcmoniaaaDoorCutS
import Derived.Test.YtfmhcjhcmoniaaaDoorTurn2
namespace Go.Proofs.YtfmhcjhcmoniaaaDoor
open Go.RowKit Go.Maps

/-- what ParseProg leaves -/
def ParsePost (w : World) (text : ByteArray) (e : Ending) (w' : World) : Prop :=
  Below w.heap.size w w' ∧ ((partsB text = true ∧ Valid (bsOf text) (esOf text) ∧ ∃ v ve, e = .returned (.tuple #[.agg #[v, ve], .bool true]) ∧ w'.ownsRow w.heap.size 51 2 v (bsOf text).length (cellsOf (bsOf text)) ∧ w'.ownsRow w.heap.size 81 2 ve (esOf text).length (cellsOf (esOf text))) ∨
    (¬ (partsB text = true ∧ Valid (bsOf text) (esOf text)) ∧ e = .returned (.tuple #[.agg #[.slice none 0 0, .slice none 0 0], .bool false])))
theorem partsB_len {text : ByteArray} (h : partsB text = true) : (cutL text 58).length = 2 := by
  unfold partsB at h; simp only [Bool.and_eq_true, decide_eq_true_eq] at h; exact h.1.1
theorem partsB_b {text : ByteArray} (h : partsB text = true) : ∀ s ∈ partAt text 0, s ≠ e0 := by
  unfold partsB at h; simp only [Bool.and_eq_true, decide_eq_true_eq, List.all_eq_true] at h; exact h.1.2
theorem partsB_e {text : ByteArray} (h : partsB text = true) : ∀ s ∈ partAt text 1, s.size = 2 := by
  unfold partsB at h; simp only [Bool.and_eq_true, decide_eq_true_eq, List.all_eq_true] at h; exact h.2
theorem partsB_mk {text : ByteArray} (h : (cutL text 58).length = 2) (hb : ∀ s ∈ partAt text 0, s ≠ e0) (he : ∀ s ∈ partAt text 1, s.size = 2) : partsB text = true := by
  unfold partsB; simp only [Bool.and_eq_true, decide_eq_true_eq, List.all_eq_true]; exact ⟨⟨h, hb⟩, he⟩
/-- a part by its place -/
def pieceAt (L : List ByteArray) (i : Nat) : ByteArray := L.getD i e0
theorem pieceAt_mem {L : List ByteArray} {i : Nat} (h : i < L.length) : pieceAt L i ∈ L := by
  unfold pieceAt; rw [List.getD_eq_getElem?_getD, List.getElem?_eq_getElem h]; exact List.getElem_mem h
theorem pieceAt_cell {L : List ByteArray} {i : Nat} (h : i < L.length) : (L.map Value.string)[i]? = some (.string (pieceAt L i)) := by
  unfold pieceAt; simp [List.getD_eq_getElem?_getD, h]
theorem take_piece {L : List ByteArray} {i : Nat} (h : i < L.length) : (L.take (i + 1)).map blkOf = (L.take i).map blkOf ++ [blkOf (pieceAt L i)] := by
  unfold pieceAt; rw [List.take_succ_eq_append_getElem h, List.map_append]; simp [List.getD_eq_getElem?_getD, h]
theorem piece_all {L : List ByteArray} {p : ByteArray → Prop} (h : ∀ i, i < L.length → p (pieceAt L i)) : ∀ s ∈ L, p s := by
  intro s hs
  obtain ⟨i, hi, e⟩ := List.getElem_of_mem hs
  have := h i hi
  unfold pieceAt at this
  rw [List.getD_eq_getElem?_getD, List.getElem?_eq_getElem hi] at this
  rw [← e]; exact this
theorem partAt_len (text : ByteArray) (i : Nat) : (partAt text i).length ≤ text.size + 1 := by
  unfold partAt
  refine Nat.le_trans (cutL_len _ _) ?_
  have : (pieceAt (cutL text 58) i).size ≤ text.size := by
    unfold pieceAt
    rw [List.getD_eq_getElem?_getD]
    cases h : (cutL text 58)[i]? with
    | none => show e0.size ≤ _; exact Nat.zero_le _
    | some t => exact cutL_size (List.mem_of_getElem? h)
  exact Nat.succ_le_succ this
theorem partAt_size {text : ByteArray} {i : Nat} {s : ByteArray} (h : s ∈ partAt text i) : s.size ≤ text.size := by
  refine Nat.le_trans (cutL_size h) ?_
  rw [List.getD_eq_getElem?_getD]
  cases h : (cutL text 58)[i]? with
  | none => exact Nat.zero_le _
  | some t => exact cutL_size (List.mem_of_getElem? h)
theorem blks_sizes {L : List ByteArray} {n : Nat} (hn : n ≤ 1048576) (h : ∀ s ∈ L, s.size ≤ n) : ∀ i, i < (L.map blkOf).length → (nameAt (L.map blkOf) i).size ≤ 1048576 ∧ (restAt (L.map blkOf) i).size ≤ 1048576 := by
  intro i hi
  have hl : i < L.length := by simpa using hi
  have h1 : (nameAt (L.map blkOf) i, restAt (L.map blkOf) i) = blkOf (L[i]) := by rw [← pair_at hi]; simp
  have h2 := h _ (List.getElem_mem hl)
  have e1 := congrArg (·.1) h1
  have e2 := congrArg (·.2) h1
  simp only at e1 e2
  rw [e1, e2]
  exact ⟨Nat.le_trans (extract_size_le _ _ _) (by omega), Nat.le_trans (extract_size_le _ _ _) (by omega)⟩

/-- a row of texts, read -/
theorem own_strs {w : World} {B : Nat} {a : Option Addr} {c : Nat} {L : List ByteArray} (h : w.ownsRow B 9 1 (.slice a L.length c) L.length (L.map Value.string)) : ∀ i, i < L.length → ∃ g, a = some ⟨g, 0, none⟩ ∧ B ≤ g ∧ g < w.heap.size ∧ w.cell? ⟨g, i, none⟩ = some (.string (pieceAt L i)) := by
  intro i hi
  obtain ⟨h1, ⟨_, h0⟩ | ⟨g, cap, cur, hv, hg, hh, hc, hm, hcs, ht⟩⟩ := h
  · omega
  · simp only [Value.slice.injEq] at hv
    refine ⟨g, hv.1, hg, (Array.getElem?_eq_some_iff.1 hh).1, ?_⟩
    have := pieceAt_cell hi
    rw [← ht, List.getElem?_take, if_pos (by omega)] at this
    rw [cell_of_row w g _ _ _ (0, 0) hh]
    simpa using this

/-- behind the first rounds of a loop over parts: the program's block, the row of one kind, all else as it was -/
structure PLoop (w wr : World) (R : Nat) (t : TypeId) (v : Value) (L : List ByteArray) (b0 k : Nat) : Prop where
  own : wr.ownsRow b0 t 2 v k (cellsOf ((L.take k).map blkOf))
  turns : Turns (fun b => b = R ∨ b = b0) w wr
  old : ∀ b, v.ownBlock = some b → b = b0 ∨ w.heap.size ≤ b
theorem PLoop.step {w wr wx w4 : World} {R : Nat} {t : TypeId} {v v' : Value} {L : List ByteArray} {b0 k f : Nat} {u : Value} (h : PLoop w wr R t v L b0 k) (hk : k < L.length) (hx : Below wr.heap.size wr wx)
    (hown : w4.ownsRow b0 t 2 v' (k + 1) (cellsOf ((L.take k).map blkOf) ++ [.string ((pieceAt L k).extract 0 1), .string ((pieceAt L k).extract 1 (pieceAt L k).size)])) (hg : wx.grownBy w4 v.ownBlock) (hl : ∀ b, v'.ownBlock = some b → v.ownBlock = some b ∨ wr.heap.size ≤ b)
    {x y : Value} (hR : Two w4 R x y) (ht : 32 ≠ t) : PLoop w (w4.setCell ⟨R, f, none⟩ u) R t v' L b0 (k + 1) where
  own := by
    rw [take_piece hk, cellsOf_snoc]
    exact hown.kept (row := some R) ⟨rfl, rfl, rfl, by simp [World.setCell], fun j _ hj => Below.heap_setCell _ _ _ _ (fun e => hj (by simp [e]))⟩ (Or.inr (own_neK hown hR ht))
  turns := by
    have h1 : Turns (fun b => some b = v.ownBlock) wr w4 := ⟨hg.os.trans hx.os, hg.tape.trans hx.tape, hg.output.trans hx.output, Nat.le_trans hx.size hg.size, fun i hi hn => (hg.block i (Nat.lt_of_lt_of_le hi hx.size) hn).trans (hx.block i hi)⟩
    have h2 : Turns (fun b => b = R) w4 (w4.setCell ⟨R, f, none⟩ u) := ⟨rfl, rfl, rfl, by simp [World.setCell], fun j _ hj => Below.heap_setCell _ _ _ _ hj⟩
    have h3 := h.turns.then_ h1 (T := fun b => b = R ∨ b = b0) (fun _ _ h => h) (fun i hi hs => by rcases h.old i hs.symm with h4 | h4; exact .inr h4; omega)
    exact h3.then_ h2 (fun _ _ h => h) (fun _ _ h => .inl h)
  old := fun b hb => by
    rcases hl b hb with h1 | h1
    · exact h.old b h1
    · exact .inr (Nat.le_trans h.turns.size h1)

set_option maxRecDepth 100000 in
set_option maxHeartbeats 6400000 in
theorem ParseProg_spec (w : World) (text : ByteArray) (hs : text.size ≤ 1048576) :
    Calls Tryd.prog 82 #[.string text] w (ParsePost w text) := by
  obtain ⟨i0, hi, hz0, hz1, hz2⟩ := info_parts Tryd.infoBlock
  obtain ⟨j0, hj, yz0, yz1, yz2⟩ := info_parts Tryd.infoEdge
  have hH : Below w.heap.size w (w.alloc (.cells #[.slice none 0 0, .slice none 0 0] 32)) := (Below.refl _ _).alloc (Nat.le_refl _) _
  have H1 := Lib.hid hH; clear hH
  go_enter Tryd.func82, Tryd.ntmps82
  go_wp2_with fail
  refine (l15Cut_any text 58 _ hs (by decide)).mono ?_
  rintro e w1 ⟨v1, rfl, hown1, hb1⟩
  have hall : Below w.heap.size w w1 := H1.out.trans (hb1.mono (by simp))
  have hz := hall.size
  have hz1' : w.heap.size < w1.heap.size := by have := hb1.size; simp at this; omega
  have R0 : Two w1 w.heap.size (.slice none 0 0) (.slice none 0 0) := (hb1.block w.heap.size (by simp)).trans (heap_alloc_new _ _)
  obtain ⟨va, vc, rfl⟩ := own_form hown1
  have hl1 := cutL_len text 58
  by_cases h2 : (cutL text 58).length = 2
  · have hown2 := hown1
    rw [h2] at hown2
    obtain ⟨g, cap, hv, _, hgw, _, _, hcells⟩ := own_lastS (m := 1) hown2
    have a0 := hcells 0 _ (pieceAt_cell (by omega))
    have a1 := hcells 1 _ (pieceAt_cell (by omega))
    simp only [Value.slice.injEq] at hv
    obtain ⟨rfl, _, rfl⟩ := hv
    have hs0 : (pieceAt (cutL text 58) 0).size ≤ 1048576 := Nat.le_trans (cutL_size (pieceAt_mem (by omega))) hs
    have hs1 : (pieceAt (cutL text 58) 1).size ≤ 1048576 := Nat.le_trans (cutL_size (pieceAt_mem (by omega))) hs
    have d1 : (((cutL text 58).length : Int) != 2) = false := by simp [h2]
    have i0' : (0 : Int) < ((cutL text 58).length : Int) := by omega
    have i1' : (1 : Int) < ((cutL text 58).length : Int) := by omega
    -- the world behind the empty program
    have hB3 : Below w1.heap.size w1 (((w1.alloc (.cells #[] 51)).alloc (.cells #[] 81)).alloc (.cells #[.slice (some ⟨w1.heap.size, 0, none⟩) 0 0, .slice (some ⟨w1.heap.size + 1, 0, none⟩) 0 0] 32)) := (((Below.refl _ _).alloc (Nat.le_refl _) _).alloc (by simp) _).alloc (by simp; omega) _
    have hR3 : Two (((w1.alloc (.cells #[] 51)).alloc (.cells #[] 81)).alloc (.cells #[.slice (some ⟨w1.heap.size, 0, none⟩) 0 0, .slice (some ⟨w1.heap.size + 1, 0, none⟩) 0 0] 32)) (w1.heap.size + 1 + 1) (.slice (some ⟨w1.heap.size, 0, none⟩) 0 0) (.slice (some ⟨w1.heap.size + 1, 0, none⟩) 0 0) := by
      rw [show w1.heap.size + 1 + 1 = ((w1.alloc (.cells #[] 51)).alloc (.cells #[] 81)).heap.size by simp]; exact heap_alloc_new _ _
    have hOb : (((w1.alloc (.cells #[] 51)).alloc (.cells #[] 81)).alloc (.cells #[.slice (some ⟨w1.heap.size, 0, none⟩) 0 0, .slice (some ⟨w1.heap.size + 1, 0, none⟩) 0 0] 32)).ownsRow w1.heap.size 51 2 (.slice (some ⟨w1.heap.size, 0, none⟩) 0 0) 0 [] :=
      ((World.ownsRow_made w1 #[] 0 (Nat.le_refl _) (Nat.zero_le _) rfl).alloc _).alloc _
    have hOe : (((w1.alloc (.cells #[] 51)).alloc (.cells #[] 81)).alloc (.cells #[.slice (some ⟨w1.heap.size, 0, none⟩) 0 0, .slice (some ⟨w1.heap.size + 1, 0, none⟩) 0 0] 32)).ownsRow (w1.heap.size + 1) 81 2 (.slice (some ⟨w1.heap.size + 1, 0, none⟩) 0 0) 0 [] := by
      have := ((World.ownsRow_made (w1.alloc (.cells #[] 51)) (base := w1.heap.size + 1) (e := 81) (size := 2) #[] 0 (by simp) (Nat.zero_le _) rfl).alloc (.cells #[.slice (some ⟨w1.heap.size, 0, none⟩) 0 0, .slice (some ⟨w1.heap.size + 1, 0, none⟩) 0 0] 32))
      simpa using this
    have hsz3 : (((w1.alloc (.cells #[] 51)).alloc (.cells #[] 81)).alloc (.cells #[.slice (some ⟨w1.heap.size, 0, none⟩) 0 0, .slice (some ⟨w1.heap.size + 1, 0, none⟩) 0 0] 32)).heap.size = w1.heap.size + 3 := by simp
    have g0 := (hB3.cell (p := ⟨g, 0, none⟩) hgw).trans a0
    have HA := Lib.hid (And.intro hall (And.intro hB3 (And.intro hR3 (And.intro hOb (And.intro hOe (And.intro hsz3 (And.intro R0 (And.intro h2 (And.intro a1 hgw)))))))))
    clear hown1 hown2 hcells h2 hall hB3 hR3 hOb hOe hsz3 R0 a0 a1 hb1
    go_wp2_with fail
    refine (l15Cut_any (pieceAt (cutL text 58) 0) 44 _ hs0 (by decide)).mono ?_
    rintro e w2 ⟨v2, rfl, hown2, hb2⟩
    generalize (((w1.alloc (.cells #[] 51)).alloc (.cells #[] 81)).alloc (.cells #[.slice (some ⟨w1.heap.size, 0, none⟩) 0 0, .slice (some ⟨w1.heap.size + 1, 0, none⟩) 0 0] 32)) = w3 at *
    obtain ⟨hall, hB3, hR3, hOb, hOe, hsz3, R0, h2, a1, hgw'⟩ := HA.out
    obtain ⟨L0, hL0⟩ : ∃ L0, cutL (pieceAt (cutL text 58) 0) 44 = L0 := ⟨_, rfl⟩
    have hl0 : L0.length ≤ 1048577 := by rw [← hL0]; exact Nat.le_trans (cutL_len _ _) (by omega)
    rw [hL0] at hown2
    obtain ⟨pa, pc, rfl⟩ := own_form hown2
    have hR2 : Two w2 (w1.heap.size + 1 + 1) _ _ := hR3.of_cells (hb2.block _ (by omega))
    have hOb2 := ownsRow_below hOb hb2
    have hOe2 := ownsRow_below hOe hb2
    have hR02 : Two w2 w.heap.size _ _ := R0.of_cells ((hb2.block _ (by omega)).trans (hB3.block _ hz1'))
    have ha12 := ((hb2.cell (p := ⟨g, 1, none⟩) (show g < w3.heap.size by omega)).trans (hB3.cell (p := ⟨g, 1, none⟩) hgw)).trans a1
    have hs32 := hb2.size
    have hbw2 : Below w.heap.size w w2 := hall.trans ((hB3.mono hz).trans (hb2.mono (by omega)))
    have hp0 := own_strs hown2
    have HB := Lib.hid (And.intro hbw2 (And.intro hp0 (And.intro hR02 (And.intro hOe2 (And.intro ha12 (And.intro hL0 h2))))))
    clear hall hB3 hR3 hOb hOe R0 h2 a1 hgw' hb2 HA g0 hbw2 hp0 hR02 hOe2 ha12 hL0 hown2
    have HC := Lib.hid (And.intro hR2 hOb2)
    clear hR2 hOb2
    go_wp2
    go_loopw [24] (fun i wr => ∃ (k : Nat) (v : Value), k ≤ L0.length ∧ i = .int .i64 k ∧ Two wr (w1.heap.size + 1 + 1) v (.slice (some ⟨w1.heap.size + 1, 0, none⟩) 0 0) ∧ PLoop w2 wr (w1.heap.size + 1 + 1) 51 v L0 w1.heap.size k ∧ ∀ j, j < k → pieceAt L0 j ≠ e0) (fun i _ => L0.length - (intOf i).toNat)
    case atStart => exact ⟨0, _, Nat.zero_le _, rfl, HC.out.1, ⟨HC.out.2, Turns.refl _ _, fun b hb => by simp [Value.ownBlock] at hb; exact .inl hb.symm⟩, fun j hj => absurd hj (Nat.not_lt_zero _)⟩
    case round =>
      obtain ⟨k, v, hk, rfl, hR, hP, hne⟩ := hrel
      have hszr := hP.turns.size
      obtain ⟨wa, wc, rfl⟩ := own_form hP.own
      obtain ⟨c0, c1, f0, f1, hRl⟩ := hR.cells
      by_cases hlt : k < L0.length
      · obtain ⟨g2, rfl, hg1, hg2, hcell⟩ := HB.out.2.1 k hlt
        have d2 := (hP.turns.cellT (i := k) hg2 (by omega)).trans hcell
        have x1 : (0 : Int) ≤ (k : Int) := by omega
        have x2 : (k : Int) < (L0.length : Int) := by omega
        by_cases he : pieceAt L0 k = e0
        · have q2 : (pieceAt L0 k).toList.isEmpty = true := by rw [isEmpty_eq]; exact decide_eq_true he
          have q1 : (pieceAt L0 k).toList = [] := List.isEmpty_iff.1 q2
          have HN := Lib.hid (show ¬ (partsB text = true ∧ Valid (bsOf text) (esOf text)) from fun h => partsB_b h.1 _ (by rw [show partAt text 0 = L0 from HB.out.2.2.2.2.2.1]; exact pieceAt_mem hlt) he)
          have hR0r := hP.turns.two HB.out.2.2.1 (by omega)
          obtain ⟨r0, r1, t0, t1, _⟩ := hR0r.cells
          have hfin := HB.out.1.trans (hP.turns.below (B := w.heap.size) HB.out.1.size (by intro k h; omega))
          have HF := Lib.hid hfin
          clear he hne hP hR hR0r hfin hcell
          go_wp2
          refine bodyPost_ret (v := .tuple #[.agg #[.slice none 0 0, .slice none 0 0], .bool false]) (by simp [results, Tryd.results82, go_sem, r0, r1]) rfl ?_
          exact ⟨by repeat (first | exact HF.out | refine Below.setCell ?_ (by simp) _ | refine Below.alloc ?_ (by first | omega | (simp; omega)) _), .inr ⟨HN.out, rfl⟩⟩
        · have q2 : (pieceAt L0 k).toList.isEmpty = false := by rw [isEmpty_eq]; exact decide_eq_false he
          have q1 : ¬ (pieceAt L0 k).toList = [] := fun h => by rw [h] at q2; cases q2
          have hp0 : 0 < (pieceAt L0 k).size := by
            rcases Nat.eq_zero_or_pos (pieceAt L0 k).size with h | h
            · exact absurd ((e0_iff _).2 h) he
            · exact h
          have s1 := run_head _ hp0
          have s2 := run_tail _ hp0
          have HNe := Lib.hid (all_step hne he)
          have HK := Lib.hid (And.intro hR hP)
          have hb1 : some (w1.heap.size + 1 + 1) ≠ (Value.slice wa k wc).ownBlock := fun e => own_neK hP.own hR (by decide) e.symm
          have e0' : wr.drew.cell? ⟨w1.heap.size + 1 + 1, 0, none⟩ = some (.slice wa k wc) := c0
          clear he hne hP hR hcell hp0 c1 f1
          go_wp2
          go_region_law (first
            | (refine step_append_lies _ rfl (.tmp 32) (.tmp 38) 29 rfl w1.heap.size 51 i0 (.agg #[.string ⟨#[]⟩, .string ⟨#[]⟩]) 2 32 Tryd.underlying29 hi hz0 hz1 hz2 rfl (by decide) _ k (cellsOf ((L0.take k).map blkOf)) rfl ((ownsRow_below HK.out.2.own (Below.refl _ _).drew).alloc _) ⟨wr.heap.size, 0, none⟩ 1 1 [.string ((pieceAt L0 k).extract 0 1), .string ((pieceAt L0 k).extract 1 (pieceAt L0 k).size)] rfl rfl (cell_two_new _ _ _ _) (two_one _ _ rfl rfl) (by decide) (by unfold maxLen; omega) (by omega) (by simp; omega) _ rfl ?_
               intro g' cap' w4 hown4 hgrow4 hlies4 _
               have hT4 : Two w4 (w1.heap.size + 1 + 1) (.slice wa k wc) (.slice (some ⟨w1.heap.size + 1, 0, none⟩) 0 0) := HK.out.1.of_cells ((hgrow4.block _ (by simp; omega) hb1).trans (Lib.alloc_old wr.drew _ _ hRl))
               have e4 := hT4.cells.1
               have f4 := hT4.cells.2.2.1))
          all_goals
            have HS := Lib.hid (And.intro (hT4.set0 (.slice (some ⟨g', 0, none⟩) (k + 1) cap')) (HK.out.2.step hlt (((Below.refl _ _).drew).alloc (Nat.le_refl _) _) hown4 hgrow4 (fun b hb => by simp only [Value.ownBlock, Option.some.injEq] at hb; subst hb; rcases hlies4 with h9 | h9; exact .inl h9; exact .inr (by simp at h9; omega)) hT4 (by decide) (f := 0) (u := .slice (some ⟨g', 0, none⟩) (k + 1) cap')))
            clear hown4 hgrow4 hlies4 hT4 e4 f4
            go_wp2
            go_roundw
            case rel => exact ⟨k + 1, _, by omega, by go_num, HS.out.1, HS.out.2, HNe.out⟩
            case measure => simp [intOf]; omega
      · obtain rfl : k = L0.length := by omega
        have HP := Lib.hid (And.intro hR (And.intro hP hne))
        have d12 := (hP.turns.cellT (i := 1) (show g < w2.heap.size by omega) (by omega)).trans HB.out.2.2.2.2.1
        clear hR hP hne c0 c1 f0 f1
        go_wp2_with fail
        refine (l15Cut_any (pieceAt (cutL text 58) 1) 44 _ hs1 (by decide)).mono ?_
        rintro e w5 ⟨v5, rfl, hown5, hb5⟩
        obtain ⟨L1, hL1⟩ : ∃ L1, cutL (pieceAt (cutL text 58) 1) 44 = L1 := ⟨_, rfl⟩
        have hl1' : L1.length ≤ 1048577 := by rw [← hL1]; exact Nat.le_trans (cutL_len _ _) (by omega)
        rw [hL1] at hown5
        obtain ⟨pb, pd, rfl⟩ := own_form hown5
        obtain ⟨hR, hP, hne⟩ := HP.out
        have hs5 := hb5.size
        have hR5 : Two w5 (w1.heap.size + 1 + 1) _ _ := hR.of_cells (hb5.block _ hRl)
        have hOe5 := ownsRow_below (hP.turns.row HB.out.2.2.2.1 (fun g h => by simp only [Value.ownBlock, Option.some.injEq] at h; subst h; omega)) hb5
        have hOb5 := ownsRow_below hP.own hb5
        have hR05 : Two w5 w.heap.size _ _ := (hP.turns.two HB.out.2.2.1 (by omega)).of_cells (hb5.block _ (by omega))
        have hbw5 : Below w.heap.size w w5 := (HB.out.1.trans (hP.turns.below (B := w.heap.size) HB.out.1.size (by intro k h; omega))).trans (hb5.mono (by omega))
        have hp1 := own_strs hown5
        obtain ⟨wo, rfl⟩ : ∃ wo, wo = wr := ⟨_, rfl⟩
        have HD := Lib.hid (And.intro hbw5 (And.intro hp1 (And.intro hR05 (And.intro hOb5 (And.intro hL1 hne)))))
        have HE := Lib.hid (And.intro hR5 hOe5)
        clear hR hP hne hb5 hR5 hOe5 hOb5 hR05 hbw5 hp1 hL1 hown5 HP d12
        go_wp2
        go_loopw [47] (fun i wq => ∃ (k : Nat) (v : Value), k ≤ L1.length ∧ i = .int .i64 k ∧ Two wq (w1.heap.size + 1 + 1) (.slice wa L0.length wc) v ∧ PLoop w5 wq (w1.heap.size + 1 + 1) 81 v L1 (w1.heap.size + 1) k ∧ ∀ j, j < k → (pieceAt L1 j).size = 2) (fun i _ => L1.length - (intOf i).toNat)
        case atStart => exact ⟨0, _, Nat.zero_le _, rfl, HE.out.1, ⟨HE.out.2, Turns.refl _ _, fun b hb => by simp [Value.ownBlock] at hb; exact .inl hb.symm⟩, fun j hj => absurd hj (Nat.not_lt_zero _)⟩
        case round =>
          obtain ⟨k, v, hk, rfl, hR, hP, hne⟩ := hrel
          have hbs3 : w1.heap.size + 3 ≤ wo.heap.size := by omega
          clear hszr hRl
          have hszr := hP.turns.size
          obtain ⟨ya, yc, rfl⟩ := own_form hP.own
          obtain ⟨c0, c1, f0, f1, hRl⟩ := hR.cells
          by_cases hlt : k < L1.length
          · obtain ⟨g2, rfl, hg1, hg2, hcell⟩ := HD.out.2.1 k hlt
            have d2 := (hP.turns.cellT (i := k) hg2 (by omega)).trans hcell
            have x1 : (0 : Int) ≤ (k : Int) := by omega
            have x2 : (k : Int) < (L1.length : Int) := by omega
            by_cases he : (pieceAt L1 k).size = 2
            · have q1 : (((pieceAt L1 k).size : Int) != 2) = false := by simp [he]
              have hp0 : 0 < (pieceAt L1 k).size := by omega
              have s1 := run_head _ hp0
              have s2 := run_tail _ hp0
              have HNe := Lib.hid (all_step hne he)
              have HK := Lib.hid (And.intro hR hP)
              have hb1 : some (w1.heap.size + 1 + 1) ≠ (Value.slice ya k yc).ownBlock := fun e => own_neK hP.own hR (by decide) e.symm
              have e1' : wr.drew.cell? ⟨w1.heap.size + 1 + 1, 1, none⟩ = some (.slice ya k yc) := c1
              clear he hne hP hR hcell hp0 c0 f0
              go_wp2
              go_region_law (first
                | (refine step_append_lies _ rfl (.tmp 56) (.tmp 62) 30 rfl (w1.heap.size + 1) 81 j0 (.agg #[.string ⟨#[]⟩, .string ⟨#[]⟩]) 2 32 Tryd.underlying30 hj yz0 yz1 yz2 rfl (by decide) _ k (cellsOf ((L1.take k).map blkOf)) rfl ((ownsRow_below HK.out.2.own (Below.refl _ _).drew).alloc _) ⟨wr.heap.size, 0, none⟩ 1 1 [.string ((pieceAt L1 k).extract 0 1), .string ((pieceAt L1 k).extract 1 (pieceAt L1 k).size)] rfl rfl (cell_two_new _ _ _ _) (two_one _ _ rfl rfl) (by decide) (by unfold maxLen; omega) (by omega) (by simp; omega) _ rfl ?_
                   intro g' cap' w4 hown4 hgrow4 hlies4 _
                   have hT4 : Two w4 (w1.heap.size + 1 + 1) (.slice wa L0.length wc) (.slice ya k yc) := HK.out.1.of_cells ((hgrow4.block _ (by simp; omega) hb1).trans (Lib.alloc_old wr.drew _ _ hRl))
                   have e4 := hT4.cells.2.1
                   have f4 := hT4.cells.2.2.2.1))
              all_goals
                have HS := Lib.hid (And.intro (hT4.set1 (.slice (some ⟨g', 0, none⟩) (k + 1) cap')) (HK.out.2.step hlt (((Below.refl _ _).drew).alloc (Nat.le_refl _) _) hown4 hgrow4 (fun b hb => by simp only [Value.ownBlock, Option.some.injEq] at hb; subst hb; rcases hlies4 with h9 | h9; exact .inl h9; exact .inr (by simp at h9; omega)) hT4 (by decide) (f := 1) (u := .slice (some ⟨g', 0, none⟩) (k + 1) cap')))
                clear hown4 hgrow4 hlies4 hT4 e4 f4
                go_wp2
                go_roundw
                case rel => exact ⟨k + 1, _, by omega, by go_num, HS.out.1, HS.out.2, HNe.out⟩
                case measure => simp [intOf]; omega
            · have q1 : (((pieceAt L1 k).size : Int) != 2) = true := by simp; omega
              have HN := Lib.hid (show ¬ (partsB text = true ∧ Valid (bsOf text) (esOf text)) from fun h => he (partsB_e h.1 _ (by rw [show partAt text 1 = L1 from HD.out.2.2.2.2.1]; exact pieceAt_mem hlt)))
              have hR0r := hP.turns.two HD.out.2.2.1 (by omega)
              obtain ⟨r0, r1, t0, t1, _⟩ := hR0r.cells
              have hfin := HD.out.1.trans (hP.turns.below (B := w.heap.size) HD.out.1.size (by intro k h; omega))
              have HF := Lib.hid hfin
              clear he hne hP hR hR0r hfin hcell
              go_wp2
              refine bodyPost_ret (v := .tuple #[.agg #[.slice none 0 0, .slice none 0 0], .bool false]) (by simp [results, Tryd.results82, go_sem, r0, r1]) rfl ?_
              exact ⟨by repeat (first | exact HF.out | refine Below.setCell ?_ (by simp) _ | refine Below.alloc ?_ (by first | omega | (simp; omega)) _), .inr ⟨HN.out, rfl⟩⟩
          · obtain rfl : k = L1.length := by omega
            have hRok := HD.out.2.2.2.2
            have hgb : w1.heap.size + 3 ≤ w5.heap.size := by omega
            have e0' : (L0.take L0.length).map blkOf = bsOf text := by rw [List.take_length, ← show partAt text 0 = L0 from HB.out.2.2.2.2.2.1]; rfl
            have e1' : (L1.take L1.length).map blkOf = esOf text := by rw [List.take_length, ← show partAt text 1 = L1 from hRok.1]; rfl
            have lb : L0.length = (bsOf text).length := by rw [← e0']; simp
            have le : L1.length = (esOf text).length := by rw [← e1']; simp
            have hOb := hP.turns.row HD.out.2.2.2.1 (fun g hg h => by
              rcases h with h | h
              · subst h; exact own_neK HD.out.2.2.2.1 HE.out.1 (by decide) hg
              · subst h
                obtain ⟨c9, z9, h9⟩ := Lib.ownsRow_kind HE.out.2 (w1.heap.size + 1) rfl
                exact own_neK HD.out.2.2.2.1 h9 (by decide) hg)
            have hOe := hP.own
            rw [e0'] at hOb
            rw [e1'] at hOe
            have hbz := blks_sizes hs (L := partAt text 0) (fun s h => partAt_size h)
            have hez := blks_sizes hs (L := partAt text 1) (fun s h => partAt_size h)
            have h22 := HB.out.2.2.2.2.2.2
            have hLb : (bsOf text).length ≤ 1048576 := by
              have h3 := cutL_two h22 _ (pieceAt_mem (i := 0) (by omega))
              have h4 := cutL_len (pieceAt (cutL text 58) 0) 44
              have h5 : (bsOf text).length = (cutL (pieceAt (cutL text 58) 0) 44).length := by unfold bsOf partAt; rw [List.length_map]; rfl
              omega
            have hLe : (esOf text).length ≤ 1048576 := by
              have h3 := cutL_two h22 _ (pieceAt_mem (i := 1) (by omega))
              have h4 := cutL_len (pieceAt (cutL text 58) 1) 44
              have h5 : (esOf text).length = (cutL (pieceAt (cutL text 58) 1) 44).length := by unfold esOf partAt; rw [List.length_map]; rfl
              omega
            obtain ⟨xa, xc, hxv, hPb⟩ := own_pairs lb hOb hLb hbz
            obtain ⟨za, zc, hzv, hPe⟩ := own_pairs le hOe hLe hez
            simp only [Value.slice.injEq] at hxv hzv
            obtain ⟨rfl, _, rfl⟩ := hxv
            obtain ⟨rfl, _, rfl⟩ := hzv
            have hR0r := hP.turns.two HD.out.2.2.1 (by omega)
            have hfin := HD.out.1.trans (hP.turns.below (B := w.heap.size) HD.out.1.size (by intro k h; omega))
            have hpp := partsB_mk h22 (by rw [show partAt text 0 = L0 from HB.out.2.2.2.2.2.1]; exact piece_all hRok.2) (by rw [show partAt text 1 = L1 from hRok.1]; exact piece_all hne)
            have HF := Lib.hid (And.intro hOb (And.intro hOe (And.intro hR0r (And.intro hfin (And.intro hpp (And.intro hPb hPe))))))
            rw [lb] at c0
            rw [le] at c1
            clear hOb hOe hR0r hfin hpp hPb hPe hR hP hne e0' e1' hRok h22 hbz hez
            go_wp2_with fail
            refine (ProgValid_spec _ (bsOf text) (esOf text) _ _ _ _ HF.out.2.2.2.2.2.1 HF.out.2.2.2.2.2.2).mono ?_
            rintro e w6 ⟨rfl, hb6⟩
            have hR6 : Two w6 w.heap.size _ _ := HF.out.2.2.1.of_cells (hb6.block _ (by omega))
            have hbf := HF.out.2.2.2.1.trans (hb6.mono (by omega))
            obtain ⟨r0, r1, t0, t1, _⟩ := hR6.cells
            have u0 := (hb6.cell (p := ⟨w1.heap.size + 1 + 1, 0, none⟩) hRl).trans c0
            have u1 := (hb6.cell (p := ⟨w1.heap.size + 1 + 1, 1, none⟩) hRl).trans c1
            have hzb : w.heap.size < w1.heap.size := hz1'
            cases hv : validB (bsOf text) (esOf text)
            · have HN := Lib.hid (show ¬ (partsB text = true ∧ Valid (bsOf text) (esOf text)) from fun h => by simp only [validB, decide_eq_false_iff_not] at hv; exact hv h.2)
              have HX := Lib.hid hbf
              clear hv hb6 hR6 hbf
              go_wp2
              refine bodyPost_ret (v := .tuple #[.agg #[.slice none 0 0, .slice none 0 0], .bool false]) (by simp [results, Tryd.results82, go_sem, r0, r1]) rfl ?_
              exact ⟨by repeat (first | exact HX.out | refine Below.setCell ?_ (by simp) _ | refine Below.alloc ?_ (by first | omega | (simp; omega)) _), .inr ⟨HN.out, rfl⟩⟩
            · have HV := Lib.hid (show Valid (bsOf text) (esOf text) by simpa [validB] using hv)
              have hq1 := ownsRow_below HF.out.1 hb6
              have hq2 := ownsRow_below HF.out.2.1 hb6
              have HX := Lib.hid (And.intro hbf (And.intro hq1 hq2))
              clear hv hb6 hR6 hbf hq1 hq2
              go_wp2
              refine bodyPost_ret (v := .tuple #[.agg #[.slice wa (bsOf text).length wc, .slice ya (esOf text).length yc], .bool true]) (by simp [results, Tryd.results82, go_sem, r0, r1]) rfl ?_
              refine ⟨by repeat (first | exact HX.out.1 | refine Below.setCell ?_ (by simp) _ | refine Below.alloc ?_ (by first | omega | (simp; omega)) _), .inl ⟨HF.out.2.2.2.2.1, HV.out, _, _, rfl, ?_, ?_⟩⟩
              · have h := own_setCell (a := ⟨w.heap.size, 1, none⟩) (u := .slice ya (esOf text).length yc) (own_setCell (a := ⟨w.heap.size, 0, none⟩) (u := .slice wa (bsOf text).length wc) HX.out.2.1 (by simpa using hzb)) (by simpa using hzb)
                rw [lb] at h
                exact own_base h (by omega)
              · have h := own_setCell (a := ⟨w.heap.size, 1, none⟩) (u := .slice ya (esOf text).length yc) (own_setCell (a := ⟨w.heap.size, 0, none⟩) (u := .slice wa (bsOf text).length wc) HX.out.2.2 (by simp; omega)) (by simp; omega)
                rw [le] at h
                exact own_base h (by omega)
  · have d1 : (((cutL text 58).length : Int) != 2) = true := by simp; omega
    have HN := Lib.hid (show ¬ (partsB text = true ∧ Valid (bsOf text) (esOf text)) from fun h => h2 (partsB_len h.1))
    obtain ⟨r0, r1, f0, f1, _⟩ := R0.cells
    have k0 := fun o1 o2 o3 => (alloc3_old w1 w.heap.size 0 o1 o2 o3 hz1').1.trans r0
    have k1 := fun o1 o2 o3 => (alloc3_old w1 w.heap.size 1 o1 o2 o3 hz1').1.trans r1
    have k2 := fun o1 o2 o3 => (alloc3_old w1 w.heap.size 0 o1 o2 o3 hz1').2.trans f0
    have k3 := fun o1 o2 o3 => (alloc3_old w1 w.heap.size 1 o1 o2 o3 hz1').2.trans f1
    have HA := Lib.hid (And.intro hown1 (And.intro hall hb1))
    clear h2 hown1 hall hb1 R0
    go_wp2
    refine bodyPost_ret (v := .tuple #[.agg #[.slice none 0 0, .slice none 0 0], .bool false]) (by simp [results, Tryd.results82, go_sem, k0, k1]) rfl ?_
    exact ⟨by repeat (first | exact HA.out.2.1 | refine Below.setCell ?_ (by simp) _ | refine Below.alloc ?_ (by first | omega | (simp; omega)) _), .inr ⟨HN.out, rfl⟩⟩
end Go.Proofs.YtfmhcjhcmoniaaaDoor
