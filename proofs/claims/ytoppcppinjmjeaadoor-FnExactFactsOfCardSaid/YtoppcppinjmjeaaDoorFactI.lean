/-
  The program's termBlock.text and termBlocksOf. Conditions: at most 1048576 blocks and edges, each text at most as many bytes; the errors' variables hold errors.
-/
import Derived.Test.YtoppcppinjmjeaaDoorFactT
import Derived.Deep.RegionLaw
import Derived.Deep.AppendLies
namespace Go.Proofs.YtoppcppinjmjeaaDoor
open Go.RowKit Go.Maps

set_option maxRecDepth 100000 in
set_option maxHeartbeats 1600000 in
theorem text_any (s : FS) (x : ByteArray) (t : Int) (hx : x.size ≤ 1) (hn : s.n ≤ 6) (w : World) :
    Calls Tryd.prog 61 #[.agg #[.int .u8 (fv s), .string x, .int .u8 t, .int .i64 (s.n : Int)]] w fun e w' => e = .returned (.string (x ++ dg s.n ++ mkT s)) ∧ Below w.heap.size w w' := by
  have h1 : Below w.heap.size w (w.alloc (.cells #[.int .u8 (fv s), .string x, .int .u8 t, .int .i64 (s.n : Int)] 59)) := (Below.refl _ _).alloc (Nat.le_refl _) _
  have y0 : (w.alloc (.cells #[.int .u8 (fv s), .string x, .int .u8 t, .int .i64 (s.n : Int)] 59)).cell? ⟨w.heap.size, 0, none⟩ = some (.int .u8 (fv s)) := by go_simp
  have y1 : (w.alloc (.cells #[.int .u8 (fv s), .string x, .int .u8 t, .int .i64 (s.n : Int)] 59)).cell? ⟨w.heap.size, 1, none⟩ = some (.string x) := by go_simp
  have y3 : (w.alloc (.cells #[.int .u8 (fv s), .string x, .int .u8 t, .int .i64 (s.n : Int)] 59)).cell? ⟨w.heap.size, 3, none⟩ = some (.int .i64 (s.n : Int)) := by go_simp
  have H1 := Lib.hid h1; clear h1
  have hm := mkB_size s.up s.dn s.cl
  have n1 : ¬ (x.size + (dg s.n).size > 9223372036854775807) := by rw [dg_size]; omega
  have n2 : ¬ (x.size + (dg s.n).size + (mkT s).size > 9223372036854775807) := by unfold mkT; rw [dg_size]; omega
  have n3 : ¬ 9223372036854775807 < x.size + (dg s.n).size := by omega
  have n4 : ¬ 9223372036854775807 < x.size + (dg s.n).size + (mkT s).size := by omega
  clear hm
  go_enter Tryd.func61, Tryd.ntmps61
  go_wp2
  generalize w.alloc (.cells #[.int .u8 (fv s), .string x, .int .u8 t, .int .i64 (s.n : Int)] 59) = wB at *
  go_quiet (first
    | exact Calls.quiet_of_same ((Itoa_any s.n hn _).mono fun _ _ h => ⟨h.1, h.2.symm⟩)
    | exact Calls.quiet_of_same ((marks_any s _).mono fun _ _ h => ⟨h.1, h.2.symm⟩))
  go_wp2
  go_ret
  exact ⟨rfl, below_drewN H1.out _⟩

/-- a block as a term sees it, as cells of a row -/
def blkCells (bs : List Pr) (t : ByteArray) (k : Nat) : List Value := [.int .u8 (fv (fsOf (restAt bs k) t)), .string (nameAt bs k), .int .u8 (byteAt t 0 : Int), .int .i64 ((fsOf (restAt bs k) t).n : Int)]
def blkRow (bs : List Pr) (t : ByteArray) (k : Nat) : List Value := ((List.range k).map (blkCells bs t)).flatten
theorem blkRow_succ (bs : List Pr) (t : ByteArray) (k : Nat) : blkRow bs t (k + 1) = blkRow bs t k ++ blkCells bs t k := by
  unfold blkRow
  rw [List.range_succ, List.map_append, List.flatten_append]
  simp
theorem blkRow_length (bs : List Pr) (t : ByteArray) : ∀ k, (blkRow bs t k).length = k * 4
  | 0 => rfl
  | k + 1 => by rw [blkRow_succ, List.length_append, blkRow_length bs t k]; show k * 4 + 4 = _; omega
theorem blkRow_at (bs : List Pr) (t : ByteArray) : ∀ (k i j : Nat), i < k → j < 4 → (blkRow bs t k)[i * 4 + j]? = (blkCells bs t i)[j]?
  | 0, i, _, h, _ => absurd h (Nat.not_lt_zero _)
  | k + 1, i, j, h, hj => by
    rw [blkRow_succ]
    rcases Nat.lt_or_ge i k with h' | h'
    · rw [List.getElem?_append_left (by rw [blkRow_length]; omega)]
      exact blkRow_at bs t k i j h' hj
    · obtain rfl : i = k := by omega
      rw [List.getElem?_append_right (by rw [blkRow_length]; omega), blkRow_length]
      congr 1
      omega
theorem Tryd.infoTB : (Tryd.prog.info? 59).map (fun i => (i.zero, i.size, i.bytes)) = some (some (.agg #[.int .u8 0, .string ⟨#[]⟩, .int .u8 0, .int .i64 0]), 4, 40) := by kernel_rfl
theorem own_lastS {w : World} {base : Nat} {e : TypeId} {sz : Nat} {v : Value} {m : Nat} {xs : List Value} (h : w.ownsRow base e sz v (m + 1) xs) :
    ∃ g cap, v = .slice (some ⟨g, 0, none⟩) (m + 1) cap ∧ base ≤ g ∧ g < w.heap.size ∧ m + 1 ≤ cap ∧ cap ≤ maxLen ∧ ∀ j u, xs[j]? = some u → w.cell? ⟨g, j, none⟩ = some u := by
  obtain ⟨h1, ⟨_, h0⟩ | ⟨g, cap, cur, hv, hg, hh, hn, hc, hs, ht⟩⟩ := h
  · omega
  · refine ⟨g, cap, hv, hg, (Array.getElem?_eq_some_iff.1 hh).1, hn, hc, fun j u hu => ?_⟩
    have hj : j < (m + 1) * sz := by have := (List.getElem?_eq_some_iff.1 hu).1; omega
    rw [← ht, List.getElem?_take, if_pos hj] at hu
    simp [World.cell?, hh]
    simpa using hu

/-- what termBlocksOf leaves -/
def BlocksPost (w : World) (bs es : List Pr) (t : ByteArray) (e : Ending) (w' : World) : Prop :=
  Below w.heap.size w w' ∧ ((validB bs es = true ∧ isTm t = true ∧ ∃ v, e = .returned (.tuple #[v, .bool true]) ∧ w'.ownsRow w.heap.size 59 4 v bs.length (blkRow bs t bs.length)) ∨ ((validB bs es = false ∨ isTm t = false) ∧ e = .returned (.tuple #[.slice none 0 0, .bool false])))
theorem four_one (a b c d : Value) (ha : a.oneCell' = true) (hb : b.oneCell' = true) (hc : c.oneCell' = true) (hd : d.oneCell' = true) : ∀ u ∈ [a, b, c, d], u.oneCell' = true := by
  intro u hu
  simp only [List.mem_cons, List.not_mem_nil, or_false] at hu
  rcases hu with rfl | rfl | rfl | rfl <;> assumption
theorem cell_four_new (w : World) (a b c d : Value) (t : TypeId) : ∀ j u, [a, b, c, d][j]? = some u → (w.alloc (.cells #[a, b, c, d] t)).cell? ((⟨w.heap.size, 0, none⟩ : Addr).add j) = some u := by
  intro j u hu
  have hj : j < 4 := (List.getElem?_eq_some_iff.1 hu).1
  have hh := heap_alloc_new w (.cells #[a, b, c, d] t)
  have hadd : (⟨w.heap.size, 0, none⟩ : Addr).add j = ⟨w.heap.size, j, none⟩ := by unfold Addr.add; split <;> simp_all
  rw [hadd]
  simp only [World.cell?, hh]
  match j, hj with
  | 0, _ => simpa using hu
  | 1, _ => simpa using hu
  | 2, _ => simpa using hu
  | 3, _ => simpa using hu

set_option maxRecDepth 100000 in
set_option maxHeartbeats 3200000 in
theorem termBlocksOf_any (w : World) (bs es : List Pr) (ab ae : Option Addr) (cb ce : Nat) (t : ByteArray) (hpb : PairsAt w ab bs) (hpe : PairsAt w ae es) (hg : Errs w) :
    Calls Tryd.prog 60 #[.agg #[.slice ab bs.length cb, .slice ae es.length ce], .string t] w (BlocksPost w bs es t) := by
  have h1 : Below w.heap.size w (w.alloc (.cells #[.slice ab bs.length cb, .slice ae es.length ce] 31)) := (Below.refl _ _).alloc (Nat.le_refl _) _
  have hpb1 := hpb.below h1
  have hpe1 := hpe.below h1
  have hg1 := hg.keep h1
  have H1 := Lib.hid h1; clear h1
  go_enter Tryd.func60, Tryd.ntmps60
  go_wp2_with fail
  refine (planOf_any _ bs es _ _ _ _ hpb1 hpe1 hg1).mono ?_
  rintro e w1 ⟨hb1, hcase⟩
  have hall : Below w.heap.size w w1 := H1.out.trans (hb1.mono (by simp))
  have hz := hall.size
  have c0 := (hb1.cell (p := ⟨w.heap.size, 0, none⟩) (by simp)).trans (show _ = some (.slice ab bs.length cb) by go_simp)
  have c1 := (hb1.cell (p := ⟨w.heap.size, 1, none⟩) (by simp)).trans (show _ = some (.slice ae es.length ce) by go_simp)
  have hz1 : w.heap.size < w1.heap.size := by have := hb1.size; simp at this; omega
  rcases hcase with ⟨hv, o, lo, li, rfl, hp⟩ | ⟨hv, ty, z, rfl⟩
  · have HV := Lib.hid (show validB bs es = true by simpa [validB] using hv)
    have HVV := Lib.hid hv
    clear hv
    cases ht : isTm t
    · have HT := Lib.hid ht
      clear ht
      go_wp2_with (go_at_call 65; refine (isTerm_lit _ _ HT.out _).mono ?_; rintro e w' ⟨rfl, rfl⟩)
      go_ret2
      exact ⟨hall.alloc hz _, .inr ⟨.inr HT.out, rfl⟩⟩
    · have hwa : Below w1.heap.size w1 (w1.alloc (.cells #[.map (some o), .map (some lo), .map (some li)] 87)) := (Below.refl _ _).alloc (Nat.le_refl _) _
      obtain ⟨F, hO0⟩ := hp.ops
      have hO := hO0.below hwa
      have h0 : 0 < t.size := by rw [isTm_size ht]; decide
      have hB : (t[0].toNat : Int) ≤ 255 := by have := t[0].toNat_lt; omega
      have HT := Lib.hid (And.intro ht (And.intro (isTm_bd ht) (byteAt_get h0)))
      have hl9 := HVV.out.b.hi
      have hpb2 := (hpb1.below hb1).below hwa
      have y0 : (w1.alloc (.cells #[.map (some o), .map (some lo), .map (some li)] 87)).cell? ⟨w1.heap.size, 0, none⟩ = some (.map (some o)) := by go_simp
      have hzW : w1.heap.size < (w1.alloc (.cells #[.map (some o), .map (some lo), .map (some li)] 87)).heap.size := by simp
      have HA := Lib.hid (And.intro hO (And.intro hpb2 (hall.alloc hz (.cells #[.map (some o), .map (some lo), .map (some li)] 87)))); clear hO0 hO hpb2 hwa hp hpb1 hpe1 hg1 ht hb1
      obtain ⟨i0, hi, hz0, hz4, hz2⟩ := info_parts Tryd.infoTB
      go_wp2_with (go_at_call 65; refine (isTerm_lit _ _ HT.out.1 _).mono ?_; rintro e w' ⟨rfl, rfl⟩)
      generalize w1.alloc (.cells #[.map (some o), .map (some lo), .map (some li)] 87) = wA at *
      have hzA := HA.out.2.2.size
      go_loopw [26, 8] (fun i v wr => ∃ k : Nat, k ≤ bs.length ∧ i = .int .i64 k ∧ wr.ownsRow wA.heap.size 59 4 v k (blkRow bs t k) ∧ Below wA.heap.size wA wr) (fun i _ _ => bs.length - (intOf i).toNat)
      case atStart => exact ⟨0, Nat.zero_le _, rfl, World.ownsRow_nil _ _ _ _, Below.refl _ _⟩
      case round =>
        obtain ⟨k, hk, rfl, hown, hbl⟩ := hrel
        have hs2 := hbl.size
        by_cases hlt : k < bs.length
        · obtain ⟨b, off, rfl, hb, g1, g2⟩ := HA.out.2.1.cell k hlt
          have d1 := (hbl.cell (p := ⟨b, off + k * 2, none⟩) hb).trans g1
          have d2 := (hbl.cell (p := ⟨b, off + k * 2 + 1, none⟩) hb).trans g2
          have d3 := (hbl.cell (p := ⟨w1.heap.size, 0, none⟩) hzW).trans y0
          have hsx : (nameAt bs k).size ≤ 1048576 := (HA.out.2.1.size k hlt).1
          have hOr := (HA.out.1.below hbl).below (show Below wr.heap.size wr (wr.alloc (.cells #[.string (nameAt bs k), .string (restAt bs k)] 68)) from (Below.refl _ _).alloc (Nat.le_refl _) _)
          obtain ⟨v, hFv, hrow⟩ := hOr.row _ (pair_mem hlt)
          have lk := (hOr.map.drew).look Tryd.underlying83 (zeroOps _) (mx hsx)
          rw [show F (nameAt bs k) = some v from hFv, Option.getD_some] at lk
          obtain ⟨va, vc, rfl⟩ := row_len3 hrow
          have hok : opsOk (restAt bs k) := HVV.out.b.op _ (pair_mem hlt)
          obtain ⟨wa, wc, rfl⟩ := own_form hown
          have hlt0 : (0 : Int) < (t.size : Int) := by omega
          have hn3 : w1.heap.size < wr.heap.size := by omega
          have HK := Lib.hid (And.intro hrow (And.intro hok (And.intro hown hbl)))
          have HE1 := Lib.hid (blkRow_succ bs t k)
          clear hrow hok hown hbl hFv hOr g1 g2
          have hbk := HT.out.2.2
          rw [hbk] at hB
          go_wp2
          have hFour := four_one (.int .u8 (fv (fsOf (restAt bs k) t))) (.string (nameAt bs k)) (.int .u8 (byteAt t 0 : Int)) (.int .i64 ((fsOf (restAt bs k) t).n : Int)) rfl rfl rfl rfl
          have HFour := Lib.hid hFour; clear hFour
          have a0 : (wr.alloc (.cells #[.string (nameAt bs k), .string (restAt bs k)] 68)).cell? ⟨wr.heap.size, 0, none⟩ = some (.string (nameAt bs k)) := by go_simp
          have a2 : (wr.alloc (.cells #[.string (nameAt bs k), .string (restAt bs k)] 68)).cell? ⟨w1.heap.size, 0, none⟩ = some (.map (some o)) := (World.cell?_alloc_lt _ _ _ hn3).trans d3
          have hzB : wr.heap.size < (wr.alloc (.cells #[.string (nameAt bs k), .string (restAt bs k)] 68)).heap.size := by simp
          have HWB := Lib.hid (show Below wr.heap.size wr (wr.alloc (.cells #[.string (nameAt bs k), .string (restAt bs k)] 68)).drew from ((Below.refl _ _).alloc (Nat.le_refl _) _).drew)
          generalize wr.alloc (.cells #[.string (nameAt bs k), .string (restAt bs k)] 68) = wB at *
          have hzw1 : w1.heap.size < wB.heap.size := by omega
          have hb1 : some wr.heap.size ≠ (Value.slice wa k wc).ownBlock := fun e => by have h9 := (HK.out.2.2.1.lt wr.heap.size e.symm).2; omega
          have hb2 : some w1.heap.size ≠ (Value.slice wa k wc).ownBlock := fun e => by have h9 := (HK.out.2.2.1.lt w1.heap.size e.symm).1; omega
          go_region_held3 (fun w' => w'.cell? ⟨wr.heap.size, 0, none⟩ = some (.string (nameAt bs k)) ∧ w'.cell? ⟨w1.heap.size, 0, none⟩ = some (.map (some o)))
            (first
              | exact ⟨a0, a2⟩
              | exact ⟨(hbN.cell (p := ⟨wr.heap.size, 0, none⟩) hzB).trans a0, (hbN.cell (p := ⟨w1.heap.size, 0, none⟩) hzw1).trans a2⟩
              | exact ⟨(World.cell?_alloc_lt _ _ _ (show wr.heap.size < wN.heap.size from Nat.lt_of_lt_of_le hzB hbN.size)).trans ((hbN.cell (p := ⟨wr.heap.size, 0, none⟩) hzB).trans a0), (World.cell?_alloc_lt _ _ _ (show w1.heap.size < wN.heap.size from Nat.lt_of_lt_of_le hzw1 hbN.size)).trans ((hbN.cell (p := ⟨w1.heap.size, 0, none⟩) hzw1).trans a2)⟩
              | exact ⟨(hgrow4.cell_far ⟨wr.heap.size, 0, none⟩ (by have h9 : wr.heap.size < wN.heap.size := Nat.lt_of_lt_of_le hzB hbN.size; simp; omega) hb1).trans ((World.cell?_alloc_lt _ _ _ (show wr.heap.size < wN.heap.size from Nat.lt_of_lt_of_le hzB hbN.size)).trans ((hbN.cell (p := ⟨wr.heap.size, 0, none⟩) hzB).trans a0)), (hgrow4.cell_far ⟨w1.heap.size, 0, none⟩ (by have h9 : w1.heap.size < wN.heap.size := Nat.lt_of_lt_of_le hzw1 hbN.size; simp; omega) hb2).trans ((World.cell?_alloc_lt _ _ _ (show w1.heap.size < wN.heap.size from Nat.lt_of_lt_of_le hzw1 hbN.size)).trans ((hbN.cell (p := ⟨w1.heap.size, 0, none⟩) hzw1).trans a2))⟩)
            (first
            | (go_at_call 66; refine (seenBlock_any _ _ (restAt bs k) (nameAt bs k) (byteAt t 0) HT.out.2.1 (by have := HK.out.2.1.1; omega) HK.out.2.1.2 (RowAt.keepB HK.out.1 (Below.refl _ _).drew)).mono ?_; rintro e wN ⟨rfl, hbN⟩)
            | (refine step_append_lies _ rfl (.tmp 30) (.tmp 41) 70 rfl wA.heap.size 59 i0 (.agg #[.int .u8 0, .string ⟨#[]⟩, .int .u8 0, .int .i64 0]) 4 40 Tryd.underlying70 hi hz0 hz4 hz2 rfl (by decide) _ k (blkRow bs t k) rfl ((ownsRow_below HK.out.2.2.1 (HWB.out.trans (hbN.mono HWB.out.size))).alloc _) ⟨wN.heap.size, 0, none⟩ 1 1 (blkCells bs t k) rfl rfl (cell_four_new _ _ _ _ _ _) HFour.out (by decide) (by unfold maxLen; omega) (by omega) (by have := hbN.size; simp at this ⊢; omega) _ rfl ?_; intro g' cap' w4 hown4 hgrow4 _ _))
          all_goals
            have hb4 : Below wA.heap.size wA w4 := (((HK.out.2.2.2.trans (HWB.out.mono hs2)).trans (hbN.mono (Nat.le_trans hs2 HWB.out.size))).alloc (Nat.le_trans hs2 (Nat.le_trans HWB.out.size hbN.size)) _).grown hgrow4 (by have h9 : wA.heap.size ≤ wN.heap.size := Nat.le_trans hs2 (Nat.le_trans HWB.out.size hbN.size); simp; omega) (fun j hj => (HK.out.2.2.1.lt j hj).1)
            go_wp2
            go_roundw
            case rel => exact ⟨k + 1, by omega, by go_num, by rw [HE1.out]; exact hown4, hb4⟩
            case measure => simp [intOf]; omega
        · obtain rfl : k = bs.length := by omega
          obtain ⟨wa, wc, rfl⟩ := own_form hown
          have HK := Lib.hid (And.intro (own_base hown hzA) (HA.out.2.2.trans (hbl.mono hzA)))
          clear hown hbl
          go_wp2
          go_ret2
          exact ⟨HK.out.2, .inl ⟨HV.out, HT.out.1, _, rfl, HK.out.1⟩⟩
  · have HV := Lib.hid (show validB bs es = false by simpa [validB] using hv)
    clear hv
    go_wp2
    go_ret2
    exact ⟨hall.alloc hz _, .inr ⟨.inl HV.out, rfl⟩⟩
end Go.Proofs.YtoppcppinjmjeaaDoor
