/-
  The program's chapter 3: seenBlock, isTerm and termBlockOf. Conditions: at most 1048576 blocks and edges, each text at most as many bytes; the errors' variables hold errors.
-/
import Derived.Test.YtdepangkeeehpaaDoorBlkF
import Derived.StillTailTactics
namespace Go.Proofs.YtdepangkeeehpaaDoor
open Go.RowKit Go.Maps

theorem RowAt.keepB {w w' : World} {v : Value} {xs : List Value} (h : RowAt w v xs) (hb : Below w.heap.size w w') : RowAt w' v xs :=
  h.same fun k _ _ _ hk => hb.block k (Array.getElem?_eq_some_iff.1 hk).1

set_option maxRecDepth 100000 in
theorem seenBlock_any (w : World) (v : Value) (s x : ByteArray) (t : Nat) (ht : 120 ≤ t ∧ t ≤ 122) (hs : s.size ≤ 1000) (hop : ∀ i, i < s.size → opB (byteAt s i) = true) (hr : RowAt w v (opVals s s.size)) :
    Calls Tryd.prog 170 #[.string x, v, .int .u8 (t : Int)] w fun e w' => e = .returned (.agg #[.int .u8 (fv (fsA s t s.size)), .string x, .int .u8 (t : Int), .int .i64 ((fsA s t s.size).n : Int)]) ∧ Below w.heap.size w w' := by
  obtain ⟨a, cap, rfl⟩ := row_len3 hr
  have H1 := Lib.hid (show Below w.heap.size w (w.alloc (.cells #[.int .u8 0, .string ⟨#[]⟩, .int .u8 0, .int .i64 0] 148)) from (Below.refl _ _).alloc (Nat.le_refl _) _)
  have HR := Lib.hid hr; clear hr
  have HO := Lib.hid hop; clear hop
  have HH := Lib.hid (show (w.alloc (.cells #[.int .u8 0, .string ⟨#[]⟩, .int .u8 0, .int .i64 0] 148)).heap[w.heap.size]? = some (.cells #[.int .u8 0, .string ⟨#[]⟩, .int .u8 0, .int .i64 0] 148 (0, 0)) from heap_alloc_new w _)
  go_enter Tryd.func170, Tryd.ntmps170
  go_wp2_with fail
  refine (emptyBlock_any x (t : Int) _).mono ?_
  rintro e w1 ⟨rfl, hb1⟩
  go_wp2_with fail
  refine (fold_any w1 _ s x t ht hs HO.out (RowAt.keepB HR.out (H1.out.trans (hb1.mono (by simp))))).mono ?_
  rintro e w2 ⟨rfl, hb2⟩
  have hz1 := hb1.size
  have hz : w.heap.size < w1.heap.size := by simp at hz1; omega
  have hblk := (hb2.block w.heap.size hz).trans ((hb1.block w.heap.size (by simp)).trans HH.out)
  obtain ⟨⟨r0, r1, r2, r3⟩, q0, q1, q2, q3⟩ := block4 hblk
  have HZ := Lib.hid (show Below w.heap.size w w2 from (H1.out.trans (hb1.mono (by simp))).trans (hb2.mono (by omega)))
  clear hb1 hb2 hblk
  go_wp2
  refine bodyPost_ret (v := .agg #[.int .u8 (fv (fsA s t s.size)), .string x, .int .u8 (t : Int), .int .i64 ((fsA s t s.size).n : Int)]) (by simp [results, Tryd.results170, go_sem, r0, r1, r2, r3]) rfl ?_
  exact ⟨rfl, below_set4 HZ.out (Nat.le_refl _) _ _ _ _⟩

set_option maxRecDepth 100000 in
theorem isTerm_any (s : ByteArray) (w : World) :
    Calls Tryd.prog 78 #[.string s] w fun e w' => e = .returned (.bool (isTm s)) ∧ w = w' := by
  cases h : isTm s
  · have hx : (s.toList == [120]) = false := by
      rw [show ([120] : List UInt8) = (⟨#[120]⟩ : ByteArray).toList from by rw [ByteArray.toList_eq], toList_eq_iff]
      exact decide_eq_false fun e => by rw [isTm_iff.2 (.inl e)] at h; cases h
    have hy : (s.toList == [121]) = false := by
      rw [show ([121] : List UInt8) = (⟨#[121]⟩ : ByteArray).toList from by rw [ByteArray.toList_eq], toList_eq_iff]
      exact decide_eq_false fun e => by rw [isTm_iff.2 (.inr (.inl e))] at h; cases h
    have hz : (s.toList == [122]) = false := by
      rw [show ([122] : List UInt8) = (⟨#[122]⟩ : ByteArray).toList from by rw [ByteArray.toList_eq], toList_eq_iff]
      exact decide_eq_false fun e => by rw [isTm_iff.2 (.inr (.inr e))] at h; cases h
    clear h
    go_enter Tryd.func78, Tryd.ntmps78
    go_wp2
    go_ret
    exact ⟨rfl, rfl⟩
  · rcases isTm_iff.1 h with rfl | rfl | rfl
    all_goals
      clear h
      go_enter Tryd.func78, Tryd.ntmps78
      go_wp2
      go_ret
      exact ⟨rfl, rfl⟩
theorem isTerm_lit (s : ByteArray) (b : Bool) (h : isTm s = b) (w : World) :
    Calls Tryd.prog 78 #[.string s] w fun e w' => e = .returned (.bool b) ∧ w = w' :=
  (isTerm_any s w).mono fun e w' k => ⟨by rw [k.1, h], k.2⟩
theorem set4_reads {w : World} {R : Nat} {x0 x1 x2 x3 : Value} {t : TypeId} (h : w.heap[R]? = some (.cells #[x0, x1, x2, x3] t (0, 0))) (a b c d : Value) (o : Obj) :
    (((((w.setCell ⟨R, 0, none⟩ a).setCell ⟨R, 1, none⟩ b).setCell ⟨R, 2, none⟩ c).setCell ⟨R, 3, none⟩ d).alloc o).cell? ⟨R, 0, none⟩ = some a ∧ (((((w.setCell ⟨R, 0, none⟩ a).setCell ⟨R, 1, none⟩ b).setCell ⟨R, 2, none⟩ c).setCell ⟨R, 3, none⟩ d).alloc o).cell? ⟨R, 1, none⟩ = some b ∧
      (((((w.setCell ⟨R, 0, none⟩ a).setCell ⟨R, 1, none⟩ b).setCell ⟨R, 2, none⟩ c).setCell ⟨R, 3, none⟩ d).alloc o).cell? ⟨R, 2, none⟩ = some c ∧ (((((w.setCell ⟨R, 0, none⟩ a).setCell ⟨R, 1, none⟩ b).setCell ⟨R, 2, none⟩ c).setCell ⟨R, 3, none⟩ d).alloc o).cell? ⟨R, 3, none⟩ = some d := by
  have h4 := heap_set4 h a b c d
  have hb : Below ((((w.setCell ⟨R, 0, none⟩ a).setCell ⟨R, 1, none⟩ b).setCell ⟨R, 2, none⟩ c).setCell ⟨R, 3, none⟩ d).heap.size ((((w.setCell ⟨R, 0, none⟩ a).setCell ⟨R, 1, none⟩ b).setCell ⟨R, 2, none⟩ c).setCell ⟨R, 3, none⟩ d) (((((w.setCell ⟨R, 0, none⟩ a).setCell ⟨R, 1, none⟩ b).setCell ⟨R, 2, none⟩ c).setCell ⟨R, 3, none⟩ d).alloc o) := (Below.refl _ _).alloc (Nat.le_refl _) _
  exact (block4 ((hb.block R (Array.getElem?_eq_some_iff.1 h4).1).trans h4)).1

/-- what termBlockOf returns -/
noncomputable def tbV (bs es : List Pr) (x t : ByteArray) : Value := if blkB bs es x t = true then .tuple #[.agg #[.int .u8 (fv (fsOf (blkOps bs x) t)), .string x, .int .u8 (byteAt t 0 : Int), .int .i64 ((fsOf (blkOps bs x) t).n : Int)], .bool true] else .tuple #[.agg #[.int .u8 0, .string ⟨#[]⟩, .int .u8 0, .int .i64 0], .bool false]
theorem tbV_yes {bs es : List Pr} {x t : ByteArray} (h : blkB bs es x t = true) : tbV bs es x t = .tuple #[.agg #[.int .u8 (fv (fsOf (blkOps bs x) t)), .string x, .int .u8 (byteAt t 0 : Int), .int .i64 ((fsOf (blkOps bs x) t).n : Int)], .bool true] := by unfold tbV; rw [if_pos h]
theorem tbV_no {bs es : List Pr} {x t : ByteArray} (h : blkB bs es x t = false) : tbV bs es x t = .tuple #[.agg #[.int .u8 0, .string ⟨#[]⟩, .int .u8 0, .int .i64 0], .bool false] := by unfold tbV; rw [if_neg (by rw [h]; simp)]

set_option maxRecDepth 100000 in
set_option maxHeartbeats 1600000 in
theorem termBlockOf_any (w : World) (bs es : List Pr) (ab ae : Option Addr) (cb ce : Nat) (x t : ByteArray) (hx : x.size ≤ 1048576) (hpb : PairsAt w ab bs) (hpe : PairsAt w ae es) (hg : Errs w) :
    Calls Tryd.prog 116 #[.agg #[.slice ab bs.length cb, .slice ae es.length ce], .string x, .string t] w fun e w' => e = .returned (tbV bs es x t) ∧ Below w.heap.size w w' := by
  have h1 : Below w.heap.size w ((w.alloc (.cells #[.slice ab bs.length cb, .slice ae es.length ce] 30)).alloc (.cells #[.int .u8 0, .string ⟨#[]⟩, .int .u8 0, .int .i64 0] 148)) := ((Below.refl _ _).alloc (Nat.le_refl _) _).alloc (by simp) _
  have hpb1 := hpb.below h1
  have hpe1 := hpe.below h1
  have hg1 := hg.keep h1
  have hRb : ((w.alloc (.cells #[.slice ab bs.length cb, .slice ae es.length ce] 30)).alloc (.cells #[.int .u8 0, .string ⟨#[]⟩, .int .u8 0, .int .i64 0] 148)).heap[w.heap.size + 1]? = some (.cells #[.int .u8 0, .string ⟨#[]⟩, .int .u8 0, .int .i64 0] 148 (0, 0)) := by
    have := heap_alloc_new (w.alloc (.cells #[.slice ab bs.length cb, .slice ae es.length ce] 30)) (.cells #[.int .u8 0, .string ⟨#[]⟩, .int .u8 0, .int .i64 0] 148)
    simpa using this
  have H1 := Lib.hid (And.intro h1 hRb); clear h1 hRb
  go_enter Tryd.func116, Tryd.ntmps116
  go_wp2_with fail
  refine (planWith_any _ bs es _ _ _ _ x hx hpb1 hpe1 hg1).mono ?_
  rintro e w1 ⟨hb1, hcase⟩
  have hall : Below w.heap.size w w1 := H1.out.1.trans (hb1.mono (by simp; omega))
  have hz := hall.size
  have hz1 : w.heap.size + 1 < w1.heap.size := by have := hb1.size; simp at this; omega
  have hR1 := (hb1.block (w.heap.size + 1) (by simp)).trans H1.out.2
  have HG := Lib.hid (fun o => set4_reads hR1 (.int .u8 0) (.string ⟨#[]⟩) (.int .u8 0) (.int .i64 0) o)
  rcases hcase with ⟨hv, o, lo, li, rfl, hp⟩ | ⟨hv, rfl⟩
  · have HM := Lib.hid (hasB_iff.1 hv)
    obtain ⟨F, hO⟩ := hp.ops
    obtain ⟨k, hk, hf, hn⟩ := fnd_pos HM.out.2
    have hwa : Below w1.heap.size w1 (w1.alloc (.cells #[.map (some o), .map (some lo), .map (some li)] 84)) := (Below.refl _ _).alloc (Nat.le_refl _) _
    obtain ⟨v, hFv, hrow⟩ := (hO.below hwa).row _ (pair_mem hk)
    rw [show (nameAt bs k, restAt bs k).1 = x from hn] at hFv
    have hOps : blkOps bs x = restAt bs k := by unfold blkOps; rw [hf]; rfl
    have hV : Valid bs es := by simpa [validB] using HM.out.1
    have hrow' : RowAt (w1.alloc (.cells #[.map (some o), .map (some lo), .map (some li)] 84)) v (opVals (blkOps bs x) (blkOps bs x).size) := by rw [hOps]; exact hrow
    have hok : opsOk (blkOps bs x) := blkOps_ok hv
    have l1 := ((hO.below hwa).map.drew).look Tryd.underlying80 (zeroOps _) (mx hx)
    rw [hFv, Option.getD_some] at l1
    obtain ⟨va, vc, rfl⟩ := row_len3 hrow'
    have hR2 := (hwa.block (w.heap.size + 1) hz1).trans hR1
    obtain ⟨⟨y0, y1, y2, y3⟩, q0, q1, q2, q3⟩ := block4 hR1
    have HRow := Lib.hid (And.intro hrow' (And.intro hok (And.intro hR2 (And.intro hwa hv))))
    clear hf hn hrow hrow' hok hR2 hR1 hwa hO hp hOps hV hFv
    cases ht : isTm t
    · have HN := Lib.hid (tbV_no (show blkB bs es x t = false by rw [blkB_yes hv, ht]))
      have HT := Lib.hid ht
      clear ht hv
      go_wp2_with (go_at_call 78; refine (isTerm_lit _ _ HT.out _).mono ?_; rintro e w' ⟨rfl, rfl⟩)
      refine bodyPost_ret (v := .tuple #[.agg #[.int .u8 0, .string ⟨#[]⟩, .int .u8 0, .int .i64 0], .bool false]) (by simp [results, Tryd.results116, go_sem, (HG.out _).1, (HG.out _).2.1, (HG.out _).2.2.1, (HG.out _).2.2.2]) rfl ?_
      exact ⟨by rw [HN.out], (below_set4 (R := w.heap.size + 1) hall (by omega) _ _ _ _).alloc (by simp [World.setCell]; omega) _⟩
    · have HN := Lib.hid (tbV_yes (show blkB bs es x t = true by rw [blkB_yes hv, ht]))
      have h0 : 0 < t.size := by rw [isTm_size ht]; decide
      have hB : (t[0].toNat : Int) ≤ 255 := by have := t[0].toNat_lt; omega
      have HT := Lib.hid (And.intro ht (And.intro (isTm_bd ht) (byteAt_get h0)))
      clear ht hv
      go_wp2_with (go_at_call 78; refine (isTerm_lit _ _ HT.out.1 _).mono ?_; rintro e w' ⟨rfl, rfl⟩)
      have hz2 : w.heap.size + 1 < (w1.alloc (.cells #[.map (some o), .map (some lo), .map (some li)] 84)).heap.size := by simp; omega
      rw [HT.out.2.2] at hB
      have hBt := HT.out.2.1
      have hk0 : (0 : Int) < (t.size : Int) := by omega
      have c0 : (w1.alloc (.cells #[.map (some o), .map (some lo), .map (some li)] 84)).drew.cell? ⟨w1.heap.size, 0, none⟩ = some (.map (some o)) := by go_simp
      refine wp_region_still_tail 7 (by kernel_rfl) (by kernel_rfl) ?_
      simp only [List.take_succ_cons, List.take_zero, List.drop_succ_cons, List.drop_zero]
      change wpStill _ _ (w1.alloc (.cells #[.map (some o), .map (some lo), .map (some li)] 84)).drew _ _ _
      repeat still_step
      refine wpStill_nil ?_
      change wpList _ _ _ _ _ (w1.alloc (.cells #[.map (some o), .map (some lo), .map (some li)] 84)).drew
      rw [HT.out.2.2]
      go_wp2_with fail
      refine (seenBlock_any _ _ (blkOps bs x) x (byteAt t 0) HT.out.2.1 (by have := HRow.out.2.1.1; omega) HRow.out.2.1.2 (RowAt.keepB HRow.out.1 (Below.refl _ _).drew)).mono ?_
      rintro e wN ⟨rfl, hbN⟩
      have hbk := (hbN.block (w.heap.size + 1) (by simp; omega)).trans HRow.out.2.2.1
      obtain ⟨⟨r0, r1, r2, r3⟩, p0, p1, p2, p3⟩ := block4 hbk
      have hfin : Below w.heap.size w wN := ((hall.alloc hz _).drew).trans (hbN.mono (by simp; omega))
      clear hbN hbk l1 c0
      go_wp2
      refine bodyPost_ret (v := .tuple #[.agg #[.int .u8 (fv (fsOf (blkOps bs x) t)), .string x, .int .u8 (byteAt t 0 : Int), .int .i64 ((fsOf (blkOps bs x) t).n : Int)], .bool true]) (by simp [results, Tryd.results116, go_sem, r0, r1, r2, r3, fsOf]) rfl ?_
      exact ⟨by rw [HN.out], below_set4 (R := w.heap.size + 1) hfin (by omega) _ _ _ _⟩
  · have HV := Lib.hid (tbV_no (t := t) (blkB_no1 hv))
    obtain ⟨⟨y0, y1, y2, y3⟩, q0, q1, q2, q3⟩ := block4 hR1
    clear hv
    go_wp2
    refine bodyPost_ret (v := .tuple #[.agg #[.int .u8 0, .string ⟨#[]⟩, .int .u8 0, .int .i64 0], .bool false]) (by simp [results, Tryd.results116, go_sem, (HG.out _).1, (HG.out _).2.1, (HG.out _).2.2.1, (HG.out _).2.2.2]) rfl ?_
    exact ⟨by rw [HV.out], (below_set4 (R := w.heap.size + 1) hall (by omega) _ _ _ _).alloc (by simp [World.setCell]; omega) _⟩
end Go.Proofs.YtdepangkeeehpaaDoor
