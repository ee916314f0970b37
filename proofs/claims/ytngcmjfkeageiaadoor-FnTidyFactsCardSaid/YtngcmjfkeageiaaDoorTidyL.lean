/-
  The program's tidyLetters. Conditions: at most 1000 letters, each a term or what spoils one.
-/
import Derived.Test.YtngcmjfkeageiaaDoorTidyF
import Derived.Test.YtngcmjfkeageiaaDoorRows4
namespace Go.Proofs.YtngcmjfkeageiaaDoor
open Go.RowKit Go.Maps

/-- the cells of the tidier's first terms, none of their letters taken -/
def rowsE : Nat → List Value
  | 0 => []
  | k + 1 => rowsE k ++ [.int .u8 4, .string ⟨#[]⟩, .int .u8 ((120 + k : Nat) : Int), .int .i64 0]
theorem cellOr_of {w : World} {b i : Nat} {v : Value} (h : w.cell? ⟨b, i, none⟩ = some v) : cellOr w b i = v := by unfold cellOr; rw [h]; rfl
theorem emptyBlock_at (t : Int) (w : World) : Calls Tryd.prog 148 #[.string ⟨#[]⟩, .int .u8 t] w fun e w' => e = .returned (.agg #[.int .u8 4, .string ⟨#[]⟩, .int .u8 t, .int .i64 0]) ∧ Below w.heap.size w w' := emptyBlock_any _ _ _
theorem own_kind4 {w : World} {B n : Nat} {e : TypeId} {v : Value} {xs : List Value} (h : w.ownsRow B e 4 v n xs) : ∀ g, v.ownBlock = some g → ∃ c fz, w.heap[g]? = some (.cells c e fz) := Lib.ownsRow_kind h
/-- a tidier's block behind a store of its terms -/
theorem TidH.store2 {w : World} {R : Nat} {p vb vt : Value} (h : TidH w R p vb vt) (q : Value) : (w.setCell ⟨R, 2, none⟩ q).cell? ⟨R, 2, none⟩ = some (cellOr (w.setCell ⟨R, 2, none⟩ q) R 2) ∧ (w.setCell ⟨R, 2, none⟩ q).frozen? ⟨R, 2, none⟩ = false :=
  ⟨cellOr_eq (h.set2 q).cells.2.2.1, (h.set2 q).cells.2.2.2.2.2.1⟩

theorem TidH.held {w : World} {R : Nat} {p vb vt : Value} (h : TidH w R p vb vt) : w.cell? ⟨R, 2, none⟩ = some (cellOr w R 2) ∧ w.frozen? ⟨R, 2, none⟩ = false := ⟨cellOr_eq h.cells.2.2.1, h.cells.2.2.2.2.2.1⟩

set_option maxRecDepth 100000 in
set_option maxHeartbeats 6400000 in
theorem tidyLetters_any (w : World) (v : Value) (s : ByteArray) (hs : s.size ≤ 1000) (hop : ∀ i, i < s.size → opB (byteAt s i) = true) (hr : RowAt w v (opVals s s.size)) :
    Calls Tryd.prog 99 #[v] w fun e w' => e = .returned (.string (tidyA s s.size)) ∧ Below w.heap.size w w' := by
  have HI := Lib.hid (And.intro hs (And.intro hop hr)); clear hs hop hr
  obtain ⟨i0, hi, hz0, hz4, hz2⟩ := info_parts Tryd.infoTB
  have hA : TidH (w.alloc (.cells #[.pointer none, .slice none 0 0, .slice none 0 0] 202)) w.heap.size (.pointer none) (.slice none 0 0) (.slice none 0 0) := heap_alloc_new w _
  have HA := Lib.hid (And.intro hA (show Below w.heap.size w (w.alloc (.cells #[.pointer none, .slice none 0 0, .slice none 0 0] 202)) from (Below.refl _ _).alloc (Nat.le_refl _) _)); clear hA
  go_enter Tryd.func99, Tryd.ntmps99
  go_wp2
  go_loopw [7] (fun i wr => ∃ k : Nat, k ≤ 3 ∧ i = .int .i64 k ∧ (∃ vt, TidH wr w.heap.size (.pointer none) (.slice none 0 0) vt ∧ wr.ownsRow w.heap.size 129 4 vt k (rowsE k)) ∧ Below w.heap.size w wr) (fun i _ => 3 - (intOf i).toNat)
  case atStart => exact ⟨0, Nat.zero_le _, rfl, ⟨_, HA.out.1, World.ownsRow_nil _ _ _ _⟩, HA.out.2⟩
  case round =>
    obtain ⟨k, hk, rfl, ⟨vt, hti, hown⟩, hbl⟩ := hrel
    have hsz := hbl.size
    obtain ⟨wa, wc, rfl⟩ := own_form hown
    obtain ⟨c0, c1, c2, z0, z1, z2, hsh, hRl⟩ := hti.cells
    by_cases hlt : k < 3
    · have HK := Lib.hid (And.intro hti (And.intro hown hbl))
      have hne : (Value.slice wa k wc).ownBlock ≠ some w.heap.size := by
        intro e
        obtain ⟨c', fz, hcc⟩ := own_kind4 hown w.heap.size e
        have := hti.symm.trans hcc
        simp only [Option.some.injEq, Obj.cells.injEq] at this
        exact absurd this.2.1 (by decide)
      clear hti hown hbl hsh z0 z1 c0 c1
      obtain rfl | rfl | rfl : k = 0 ∨ k = 1 ∨ k = 2 := by omega
      · have eA : cellOr wr.drew w.heap.size 2 = .slice wa 0 wc := cellOr_of (w := wr.drew) c2
        have hb1 : some w.heap.size ≠ (Value.slice wa 0 wc).ownBlock := fun e => hne e.symm
        have hFour := four_one (.int .u8 4) (.string ⟨#[]⟩) (.int .u8 (120 : Int)) (.int .i64 0) rfl rfl rfl rfl
        have HFour := Lib.hid hFour
        clear hFour hne
        go_wp2
        go_region_law (first
            | (go_simp; go_at_call 148; refine (emptyBlock_at (120 : Int) _).mono ?_; rintro e wN ⟨rfl, hbN⟩; have eN : wN.cell? ⟨w.heap.size, 2, none⟩ = some (.slice wa 0 wc) := (TidH.cells ((hbN.block _ hRl).trans HK.out.1)).2.2.1; have hRN : w.heap.size < wN.heap.size := Nat.lt_of_lt_of_le hRl hbN.size; have eNA : ∀ o, (wN.alloc o).cell? ⟨w.heap.size, 2, none⟩ = some (.slice wa 0 wc) := fun o => (World.cell?_alloc_lt _ _ _ hRN).trans eN)
            | (refine step_append_lies _ rfl (.tmp 14) (.tmp 18) 124 rfl w.heap.size 129 i0 (.agg #[.int .u8 0, .string ⟨#[]⟩, .int .u8 0, .int .i64 0]) 4 40 Tryd.underlying124 hi hz0 hz4 hz2 rfl (by decide) _ 0 (rowsE 0) rfl ((ownsRow_below HK.out.2.1 ((Below.refl _ _).drew.trans hbN)).alloc _) ⟨wN.heap.size, 0, none⟩ 1 1 [.int .u8 4, .string ⟨#[]⟩, .int .u8 (120 : Int), .int .i64 0] rfl rfl (cell_four_new _ _ _ _ _ _) HFour.out (by decide) (by unfold maxLen; omega) (by omega) (by have := hbN.size; simp at this ⊢; omega) _ rfl ?_
               intro g' cap' w4 hown4 hgrow4 _ _
               have hT4 := (hgrow4.block _ (by have h9 := hbN.size; simp at h9 ⊢; omega) hb1).trans ((Lib.alloc_old wN _ _ (Nat.lt_of_lt_of_le hRl hbN.size)).trans ((hbN.block _ hRl).trans HK.out.1))
               have e4 := (TidH.cells hT4).2.2.1
               have f4 := (TidH.cells hT4).2.2.2.2.2.1))
        all_goals
          have hbrN : Below wr.heap.size wr wN := (Below.refl _ _).drew.trans hbN
          have hb4 : Below w.heap.size w w4 := ((HK.out.2.2.trans (hbrN.mono hsz)).alloc (Nat.le_trans hsz hbrN.size) _).grown hgrow4 (by have h9 := hbrN.size; simp; omega) (fun j hj => (HK.out.2.1.lt j hj).1)
          have hne4 : (Value.slice (some ⟨g', 0, none⟩) (0 + 1) cap').ownBlock ≠ some w.heap.size := by
            intro e
            obtain ⟨c', fz, hcc⟩ := own_kind4 hown4 w.heap.size e
            have := hT4.symm.trans hcc
            simp only [Option.some.injEq, Obj.cells.injEq] at this
            exact absurd this.2.1 (by decide)
          have hTs : TidH (w4.setCell ⟨w.heap.size, 2, none⟩ (.slice (some ⟨g', 0, none⟩) (0 + 1) cap')) w.heap.size (.pointer none) (.slice none 0 0) (.slice (some ⟨g', 0, none⟩) (0 + 1) cap') := TidH.set2 hT4 _
          have hos := hown4.kept (w' := w4.setCell ⟨w.heap.size, 2, none⟩ (.slice (some ⟨g', 0, none⟩) (0 + 1) cap')) (row := some w.heap.size) ⟨rfl, rfl, rfl, by simp [World.setCell], fun k _ hk => Below.heap_setCell _ _ _ _ (fun e => hk (by simp [e]))⟩ (Or.inr hne4)
          have HX := Lib.hid (And.intro hTs (And.intro hos (hb4.setCell (p := ⟨w.heap.size, 2, none⟩) (Nat.le_refl _) (.slice (some ⟨g', 0, none⟩) (0 + 1) cap'))))
          clear hTs hos hb4 hne4 hown4 hgrow4 hT4 e4 f4 hbN hbrN eN eNA hRN
          go_wp2
          go_roundw
          case rel => exact ⟨0 + 1, by omega, by go_num, ⟨_, HX.out.1, HX.out.2.1⟩, HX.out.2.2⟩
          case measure => simp [intOf]
      · have eA : cellOr wr.drew w.heap.size 2 = .slice wa 1 wc := cellOr_of (w := wr.drew) c2
        have hb1 : some w.heap.size ≠ (Value.slice wa 1 wc).ownBlock := fun e => hne e.symm
        have hFour := four_one (.int .u8 4) (.string ⟨#[]⟩) (.int .u8 (121 : Int)) (.int .i64 0) rfl rfl rfl rfl
        have HFour := Lib.hid hFour
        clear hFour hne
        go_wp2
        go_region_law (first
            | (go_simp; go_at_call 148; refine (emptyBlock_at (121 : Int) _).mono ?_; rintro e wN ⟨rfl, hbN⟩; have eN : wN.cell? ⟨w.heap.size, 2, none⟩ = some (.slice wa 1 wc) := (TidH.cells ((hbN.block _ hRl).trans HK.out.1)).2.2.1; have hRN : w.heap.size < wN.heap.size := Nat.lt_of_lt_of_le hRl hbN.size; have eNA : ∀ o, (wN.alloc o).cell? ⟨w.heap.size, 2, none⟩ = some (.slice wa 1 wc) := fun o => (World.cell?_alloc_lt _ _ _ hRN).trans eN)
            | (refine step_append_lies _ rfl (.tmp 14) (.tmp 18) 124 rfl w.heap.size 129 i0 (.agg #[.int .u8 0, .string ⟨#[]⟩, .int .u8 0, .int .i64 0]) 4 40 Tryd.underlying124 hi hz0 hz4 hz2 rfl (by decide) _ 1 (rowsE 1) rfl ((ownsRow_below HK.out.2.1 ((Below.refl _ _).drew.trans hbN)).alloc _) ⟨wN.heap.size, 0, none⟩ 1 1 [.int .u8 4, .string ⟨#[]⟩, .int .u8 (121 : Int), .int .i64 0] rfl rfl (cell_four_new _ _ _ _ _ _) HFour.out (by decide) (by unfold maxLen; omega) (by omega) (by have := hbN.size; simp at this ⊢; omega) _ rfl ?_
               intro g' cap' w4 hown4 hgrow4 _ _
               have hT4 := (hgrow4.block _ (by have h9 := hbN.size; simp at h9 ⊢; omega) hb1).trans ((Lib.alloc_old wN _ _ (Nat.lt_of_lt_of_le hRl hbN.size)).trans ((hbN.block _ hRl).trans HK.out.1))
               have e4 := (TidH.cells hT4).2.2.1
               have f4 := (TidH.cells hT4).2.2.2.2.2.1))
        all_goals
          have hbrN : Below wr.heap.size wr wN := (Below.refl _ _).drew.trans hbN
          have hb4 : Below w.heap.size w w4 := ((HK.out.2.2.trans (hbrN.mono hsz)).alloc (Nat.le_trans hsz hbrN.size) _).grown hgrow4 (by have h9 := hbrN.size; simp; omega) (fun j hj => (HK.out.2.1.lt j hj).1)
          have hne4 : (Value.slice (some ⟨g', 0, none⟩) (1 + 1) cap').ownBlock ≠ some w.heap.size := by
            intro e
            obtain ⟨c', fz, hcc⟩ := own_kind4 hown4 w.heap.size e
            have := hT4.symm.trans hcc
            simp only [Option.some.injEq, Obj.cells.injEq] at this
            exact absurd this.2.1 (by decide)
          have hTs : TidH (w4.setCell ⟨w.heap.size, 2, none⟩ (.slice (some ⟨g', 0, none⟩) (1 + 1) cap')) w.heap.size (.pointer none) (.slice none 0 0) (.slice (some ⟨g', 0, none⟩) (1 + 1) cap') := TidH.set2 hT4 _
          have hos := hown4.kept (w' := w4.setCell ⟨w.heap.size, 2, none⟩ (.slice (some ⟨g', 0, none⟩) (1 + 1) cap')) (row := some w.heap.size) ⟨rfl, rfl, rfl, by simp [World.setCell], fun k _ hk => Below.heap_setCell _ _ _ _ (fun e => hk (by simp [e]))⟩ (Or.inr hne4)
          have HX := Lib.hid (And.intro hTs (And.intro hos (hb4.setCell (p := ⟨w.heap.size, 2, none⟩) (Nat.le_refl _) (.slice (some ⟨g', 0, none⟩) (1 + 1) cap'))))
          clear hTs hos hb4 hne4 hown4 hgrow4 hT4 e4 f4 hbN hbrN eN eNA hRN
          go_wp2
          go_roundw
          case rel => exact ⟨1 + 1, by omega, by go_num, ⟨_, HX.out.1, HX.out.2.1⟩, HX.out.2.2⟩
          case measure => simp [intOf]
      · have eA : cellOr wr.drew w.heap.size 2 = .slice wa 2 wc := cellOr_of (w := wr.drew) c2
        have hb1 : some w.heap.size ≠ (Value.slice wa 2 wc).ownBlock := fun e => hne e.symm
        have hFour := four_one (.int .u8 4) (.string ⟨#[]⟩) (.int .u8 (122 : Int)) (.int .i64 0) rfl rfl rfl rfl
        have HFour := Lib.hid hFour
        clear hFour hne
        go_wp2
        go_region_law (first
            | (go_simp; go_at_call 148; refine (emptyBlock_at (122 : Int) _).mono ?_; rintro e wN ⟨rfl, hbN⟩; have eN : wN.cell? ⟨w.heap.size, 2, none⟩ = some (.slice wa 2 wc) := (TidH.cells ((hbN.block _ hRl).trans HK.out.1)).2.2.1; have hRN : w.heap.size < wN.heap.size := Nat.lt_of_lt_of_le hRl hbN.size; have eNA : ∀ o, (wN.alloc o).cell? ⟨w.heap.size, 2, none⟩ = some (.slice wa 2 wc) := fun o => (World.cell?_alloc_lt _ _ _ hRN).trans eN)
            | (refine step_append_lies _ rfl (.tmp 14) (.tmp 18) 124 rfl w.heap.size 129 i0 (.agg #[.int .u8 0, .string ⟨#[]⟩, .int .u8 0, .int .i64 0]) 4 40 Tryd.underlying124 hi hz0 hz4 hz2 rfl (by decide) _ 2 (rowsE 2) rfl ((ownsRow_below HK.out.2.1 ((Below.refl _ _).drew.trans hbN)).alloc _) ⟨wN.heap.size, 0, none⟩ 1 1 [.int .u8 4, .string ⟨#[]⟩, .int .u8 (122 : Int), .int .i64 0] rfl rfl (cell_four_new _ _ _ _ _ _) HFour.out (by decide) (by unfold maxLen; omega) (by omega) (by have := hbN.size; simp at this ⊢; omega) _ rfl ?_
               intro g' cap' w4 hown4 hgrow4 _ _
               have hT4 := (hgrow4.block _ (by have h9 := hbN.size; simp at h9 ⊢; omega) hb1).trans ((Lib.alloc_old wN _ _ (Nat.lt_of_lt_of_le hRl hbN.size)).trans ((hbN.block _ hRl).trans HK.out.1))
               have e4 := (TidH.cells hT4).2.2.1
               have f4 := (TidH.cells hT4).2.2.2.2.2.1))
        all_goals
          have hbrN : Below wr.heap.size wr wN := (Below.refl _ _).drew.trans hbN
          have hb4 : Below w.heap.size w w4 := ((HK.out.2.2.trans (hbrN.mono hsz)).alloc (Nat.le_trans hsz hbrN.size) _).grown hgrow4 (by have h9 := hbrN.size; simp; omega) (fun j hj => (HK.out.2.1.lt j hj).1)
          have hne4 : (Value.slice (some ⟨g', 0, none⟩) (2 + 1) cap').ownBlock ≠ some w.heap.size := by
            intro e
            obtain ⟨c', fz, hcc⟩ := own_kind4 hown4 w.heap.size e
            have := hT4.symm.trans hcc
            simp only [Option.some.injEq, Obj.cells.injEq] at this
            exact absurd this.2.1 (by decide)
          have hTs : TidH (w4.setCell ⟨w.heap.size, 2, none⟩ (.slice (some ⟨g', 0, none⟩) (2 + 1) cap')) w.heap.size (.pointer none) (.slice none 0 0) (.slice (some ⟨g', 0, none⟩) (2 + 1) cap') := TidH.set2 hT4 _
          have hos := hown4.kept (w' := w4.setCell ⟨w.heap.size, 2, none⟩ (.slice (some ⟨g', 0, none⟩) (2 + 1) cap')) (row := some w.heap.size) ⟨rfl, rfl, rfl, by simp [World.setCell], fun k _ hk => Below.heap_setCell _ _ _ _ (fun e => hk (by simp [e]))⟩ (Or.inr hne4)
          have HX := Lib.hid (And.intro hTs (And.intro hos (hb4.setCell (p := ⟨w.heap.size, 2, none⟩) (Nat.le_refl _) (.slice (some ⟨g', 0, none⟩) (2 + 1) cap'))))
          clear hTs hos hb4 hne4 hown4 hgrow4 hT4 e4 f4 hbN hbrN eN eNA hRN
          go_wp2
          go_roundw
          case rel => exact ⟨2 + 1, by omega, by go_num, ⟨_, HX.out.1, HX.out.2.1⟩, HX.out.2.2⟩
          case measure => simp [intOf]
    · obtain rfl : k = 3 := by omega
      obtain ⟨g, cap, cur, hv, hgb, hgc, hn3, hm3, hcs, htk⟩ : ∃ g cap cur, Value.slice wa 3 wc = .slice (some ⟨g, 0, none⟩) 3 cap ∧ w.heap.size ≤ g ∧ wr.heap[g]? = some (.cells cur 129 (0, 0)) ∧ 3 ≤ cap ∧ cap ≤ maxLen ∧ cur.size = cap * 4 ∧ cur.toList.take (3 * 4) = rowsE 3 := by
        rcases hown.2 with ⟨_, h9⟩ | ⟨g, cap, cur, hv, r⟩
        · omega
        · exact ⟨g, cap, cur, hv, r⟩
      rw [hv] at hti
      simp only [Value.slice.injEq, true_and] at hv
      obtain ⟨rfl, rfl⟩ := hv
      have hcell : ∀ j u, (rowsE 3)[j]? = some u → wr.cell? ⟨g, j, none⟩ = some u := by
        intro j u hj
        have hj12 : j < 3 * 4 := by have := (List.getElem?_eq_some_iff.1 hj).1; exact this
        rw [cell_of_row wr g j _ _ (0, 0) hgc]
        rw [← htk, List.getElem?_take, if_pos hj12, Array.getElem?_toList] at hj
        exact hj
      have hTB : TB3 wr g (fun j => 120 + j) (fun _ => FS.zero) := ⟨⟨cur, hgc⟩, ⟨hcell _ _ rfl, hcell _ _ rfl, hcell _ _ rfl, hcell _ _ rfl⟩, ⟨hcell _ _ rfl, hcell _ _ rfl, hcell _ _ rfl, hcell _ _ rfl⟩, ⟨hcell _ _ rfl, hcell _ _ rfl, hcell _ _ rfl, hcell _ _ rfl⟩⟩
      have hTid : TidB w.heap.size w.heap.size ⟨#[]⟩ (.pointer none) (.slice none 0 0) (.slice (some ⟨g, 0, none⟩) 3 wc) wr := ⟨Nat.le_refl _, .inl rfl, hti, World.ownsRow_nil _ _ _ _, fun _ => rfl⟩
      have HF := Lib.hid (foldT_any w wr w.heap.size g wc v s (fun j => 120 + j) rfl rfl rfl _ _ HI.out.1 HI.out.2.1 HI.out.2.2 hbl hTid hTB hgb)
      have HB := Lib.hid hbl
      clear hTB hTid hcell htk hcs hm3 hn3 hgc hown hti hsh z0 z1 z2 c0 c1 c2 hbl
      go_wp2_with fail
      refine HF.out.mono ?_
      rintro e w2 ⟨rfl, ⟨p', vb', ht2⟩, hb2⟩
      have HT2 := Lib.hid (And.intro ht2 (HB.out.trans hb2))
      clear ht2 hb2
      go_wp2_with fail
      refine (StringT_any _ _ _ _ _ _ _ HT2.out.1).mono ?_
      rintro e w3 ⟨rfl, hb3⟩
      have hfin := HT2.out.2.trans hb3
      clear hb3
      go_wp2
      go_ret
      exact ⟨rfl, hfin⟩
end Go.Proofs.YtngcmjfkeageiaaDoor
