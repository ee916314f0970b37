/-
  The model's l3Tidy and IsTidy. Conditions: at most 1048576 blocks and edges, each text at most as many bytes.
-/
import Derived.Test.YtnoboekddkcnbaaDoorTerm
import Derived.Test.YtnoboekddkcnbaaDoorTidyM
namespace Go.Proofs.YtnoboekddkcnbaaDoor
open Go.RowKit Go.Maps

theorem isTm_ch {s : ByteArray} {k : Nat} (h : k < s.size) : isTm (s.extract k (k + 1)) = lowB (byteAt s k) := by
  unfold isTm
  rw [byteAt_ch h, show (s.extract k (k + 1)).size = 1 from ch_size h]; rfl
theorem l3Down_lit (s t : ByteArray) (b : Bool) (h : (fsOf s t).dn = b) (w : World) (hs : s.size ≤ 1048576) (ht : isTm t = true) :
    Calls Tryd.prog 117 #[.string s, .string t] w fun e w' => e = .returned (.bool b) ∧ Below w.heap.size w w' :=
  (l3Down_any s t w hs ht).mono fun e w' k => ⟨by rw [k.1, h], k.2⟩

set_option maxRecDepth 100000 in
set_option maxHeartbeats 1600000 in
theorem l3Tidy_any (s : ByteArray) (w : World) (hs : s.size ≤ 1048576) :
    Calls Tryd.prog 73 #[.string s] w fun e w' => e = .returned (.string (tidyA s s.size)) ∧ Below w.heap.size w w' := by
  go_enter Tryd.func73, Tryd.ntmps73
  go_wp2
  go_loopw [8, 3] (fun i o wr => ∃ k : Nat, k ≤ s.size ∧ i = .int .i64 k ∧ o = .string (tidyA s k) ∧ Below w.heap.size w wr) (fun i _ _ => s.size - (intOf i).toNat)
  case atStart => exact ⟨0, Nat.zero_le _, rfl, rfl, Below.refl _ _⟩
  case round =>
    obtain ⟨k, hk, rfl, rfl, hbl⟩ := hrel
    have hsz := hbl.size
    by_cases hlt : k < s.size
    · have s3 := run_slice_str s ((k : Int)) ((k : Int) + 1) k (k + 1) rfl (by omega) (by omega) (by omega)
      have w3 : IntKind.i64.wrap ((k : Int) + 1) = (k : Int) + 1 := IntWalk.i64_in _ (by omega)
      have hn := tidyA_size s k hk
      have hc1 : (s.extract k (k + 1)).size = 1 := ch_size hlt
      have t0 : ¬ 9223372036854775807 < (tidyA s k).size + (s.extract k (k + 1)).size := by omega
      have q1 := isTm_ch hlt
      cases hl : lowB (byteAt s k)
      · have HS := Lib.hid (tidyA_more (s := s) (k := k) (by unfold spareB; rw [hl]; rfl))
        have HT := Lib.hid (q1.trans hl)
        clear q1 hl hc1
        go_wp2_with (go_at_call 86; refine (l1Term_lit _ _ HT.out _).mono ?_; rintro e w' ⟨rfl, rfl⟩)
        go_roundw
        case rel => exact ⟨k + 1, by omega, by go_num, by rw [HS.out], hbl⟩
        case measure => simp [intOf]; omega
      · have HT := Lib.hid (q1.trans hl)
        have hd := tidyA_dn s (t := byteAt s k) (by unfold lowB at hl; simp only [Bool.and_eq_true, decide_eq_true_eq] at hl; exact hl.2) k hk
        obtain ⟨d, hdd⟩ : ∃ d, (fsA s (byteAt s k) k).dn = d := ⟨_, rfl⟩
        have HD := Lib.hid (show (fsOf (tidyA s k) (s.extract k (k + 1))).dn = d by unfold fsOf; rw [byteAt_ch hlt, hd, hdd])
        have HL := Lib.hid (show (tidyA s k).size ≤ 1048576 by omega)
        have HS := Lib.hid (show tidyA s (k + 1) = if d then tidyA s k else tidyA s k ++ s.extract k (k + 1) by
          cases d
          · exact tidyA_more (by unfold spareB; rw [hl, hdd]; rfl)
          · exact tidyA_spare (by unfold spareB; rw [hl, hdd]; rfl))
        clear q1 hl hc1 hd hdd hn
        cases d
        all_goals
          go_wp2_with (go_at_call 86; refine (l1Term_lit _ _ HT.out _).mono ?_; rintro e w' ⟨rfl, rfl⟩)
          refine (l3Down_lit _ _ _ HD.out _ HL.out HT.out).mono ?_
          rintro e w1 ⟨rfl, hb1⟩
          have hall := hbl.trans (hb1.mono hsz)
          go_wp2
          go_roundw
          case rel => exact ⟨k + 1, by omega, by go_num, by rw [HS.out]; rfl, hall⟩
          case measure => simp [intOf]; omega
    · obtain rfl : k = s.size := by omega
      go_wp2
      go_ret
      exact ⟨rfl, hbl⟩

theorem l3Tidy_lit (s T : ByteArray) (h : tidyA s s.size = T) (w : World) (hs : s.size ≤ 1048576) :
    Calls Tryd.prog 73 #[.string s] w fun e w' => e = .returned (.string T) ∧ Below w.heap.size w w' :=
  (l3Tidy_any s w hs).mono fun e w' k => ⟨by rw [k.1, h], k.2⟩
noncomputable def isTidyV (bs es : List Pr) : Bool := tidyB bs bs.length && validB bs es
theorem isTidyV_no {bs es : List Pr} {k : Nat} (hk : k < bs.length) (h : tidyA (restAt bs k) (restAt bs k).size ≠ restAt bs k) : isTidyV bs es = false := by unfold isTidyV; rw [tidyB_no h _ hk]; rfl
theorem isTidyV_yes {bs es : List Pr} (h : tidyB bs bs.length = true) : isTidyV bs es = validB bs es := by unfold isTidyV; rw [h, Bool.true_and]

set_option maxRecDepth 100000 in
set_option maxHeartbeats 1600000 in
theorem IsTidy_spec (w : World) (bs es : List Pr) (ab ae : Option Addr) (cb ce : Nat) (hpb : PairsAt w ab bs) (hpe : PairsAt w ae es) :
    Calls Tryd.prog 17 #[.agg #[.slice ab bs.length cb, .slice ae es.length ce]] w fun e w' => e = .returned (.bool (isTidyV bs es)) ∧ Below w.heap.size w w' := by
  have h1 : Below w.heap.size w (w.alloc (.cells #[.slice ab bs.length cb, .slice ae es.length ce] 31)) := (Below.refl _ _).alloc (Nat.le_refl _) _
  have hpb1 := hpb.below h1
  have hpe1 := hpe.below h1
  have hl9 := hpb.len
  have c0 : (w.alloc (.cells #[.slice ab bs.length cb, .slice ae es.length ce] 31)).cell? ⟨w.heap.size, 0, none⟩ = some (.slice ab bs.length cb) := by go_simp
  have c1 : (w.alloc (.cells #[.slice ab bs.length cb, .slice ae es.length ce] 31)).cell? ⟨w.heap.size, 1, none⟩ = some (.slice ae es.length ce) := by go_simp
  have hzA : w.heap.size < (w.alloc (.cells #[.slice ab bs.length cb, .slice ae es.length ce] 31)).heap.size := by simp
  have H1 := Lib.hid h1; clear h1
  go_enter Tryd.func17, Tryd.ntmps17
  go_wp2
  generalize w.alloc (.cells #[.slice ab bs.length cb, .slice ae es.length ce] 31) = wA at *
  go_loopw [8] (fun i wr => ∃ k : Nat, k ≤ bs.length ∧ i = .int .i64 k ∧ tidyB bs k = true ∧ Below wA.heap.size wA wr) (fun i _ => bs.length - (intOf i).toNat)
  case atStart => exact ⟨0, Nat.zero_le _, rfl, rfl, Below.refl _ _⟩
  case round =>
    obtain ⟨k, hk, rfl, hty, hbl⟩ := hrel
    have hz2 := hbl.size
    by_cases hlt : k < bs.length
    · obtain ⟨b, off, rfl, hb, g1, g2⟩ := hpb1.cell k hlt
      have d1 := (hbl.cell (p := ⟨b, off + k * 2, none⟩) hb).trans g1
      have d2 := (hbl.cell (p := ⟨b, off + k * 2 + 1, none⟩) hb).trans g2
      have HS := Lib.hid (hpb1.size k hlt).2
      have hyA : Below wA.heap.size wA (wr.alloc (.cells #[.string (nameAt bs k), .string (restAt bs k)] 55)) := hbl.alloc hz2 _
      have y1 : (wr.alloc (.cells #[.string (nameAt bs k), .string (restAt bs k)] 55)).cell? ⟨wr.heap.size, 1, none⟩ = some (.string (restAt bs k)) := by go_simp
      have hzB : wr.heap.size < (wr.alloc (.cells #[.string (nameAt bs k), .string (restAt bs k)] 55)).heap.size := by simp
      have HY := Lib.hid hyA; clear hyA
      obtain ⟨T, hT⟩ : ∃ T, tidyA (restAt bs k) (restAt bs k).size = T := ⟨_, rfl⟩
      have HT := Lib.hid hT
      have HB := Lib.hid hbl
      have HTy := Lib.hid hty
      have HH := Lib.hid (And.intro H1.out (And.intro hzA (And.intro hz2 (And.intro hpb1 hpe1))))
      by_cases e1 : T = restAt bs k
      · have q1 : (T.toList == (restAt bs k).toList) = true := by rw [toList_eq_iff]; exact decide_eq_true e1
        have HE := Lib.hid e1
        clear e1 hT hty
        go_wp2
        generalize wr.alloc (.cells #[.string (nameAt bs k), .string (restAt bs k)] 55) = wB at *
        have hsB := HY.out.size
        go_region_held3 (fun w' => w'.cell? ⟨wr.heap.size, 1, none⟩ = some (.string (restAt bs k)) ∧ Below wB.heap.size wB w')
          (first
            | exact ⟨y1, (Below.refl _ _).drew⟩
            | (have hq := below_new (‹_ ∧ Below wB.heap.size wB _›).2 hbN; exact ⟨(hq.cell (p := ⟨wr.heap.size, 1, none⟩) hzB).trans y1, hq⟩))
          (first
            | (go_at_call 73; refine (l3Tidy_lit _ _ HT.out _ HS.out).mono ?_; rintro e wN ⟨rfl, hbN⟩))
        have hfin : Below wA.heap.size wA wN := HY.out.trans ((‹_ ∧ Below wB.heap.size wB wN›).2.mono hsB)
        go_wp2
        go_roundw
        case rel => exact ⟨k + 1, by omega, by go_num, tidyB_yes HTy.out (HT.out.trans HE.out), hfin⟩
        case measure => simp [intOf]; omega
      · have q1 : (T.toList == (restAt bs k).toList) = false := by rw [toList_eq_iff]; exact decide_eq_false e1
        have HE := Lib.hid e1
        clear e1 hT hty
        go_wp2
        generalize wr.alloc (.cells #[.string (nameAt bs k), .string (restAt bs k)] 55) = wB at *
        have hsB := HY.out.size
        go_region_held3 (fun w' => w'.cell? ⟨wr.heap.size, 1, none⟩ = some (.string (restAt bs k)) ∧ Below wB.heap.size wB w')
          (first
            | exact ⟨y1, (Below.refl _ _).drew⟩
            | (have hq := below_new (‹_ ∧ Below wB.heap.size wB _›).2 hbN; exact ⟨(hq.cell (p := ⟨wr.heap.size, 1, none⟩) hzB).trans y1, hq⟩))
          (first
            | (go_at_call 73; refine (l3Tidy_lit _ _ HT.out _ HS.out).mono ?_; rintro e wN ⟨rfl, hbN⟩))
        have hfin : Below wA.heap.size wA wN := HY.out.trans ((‹_ ∧ Below wB.heap.size wB wN›).2.mono hsB)
        have HN := Lib.hid (isTidyV_no (es := es) hlt (fun h => HE.out (HT.out.symm.trans h)))
        go_wp2
        go_ret
        exact ⟨ret_bool HN.out.symm, H1.out.trans (hfin.mono H1.out.size)⟩
    · obtain rfl : k = bs.length := by omega
      have hall : Below w.heap.size w wr := H1.out.trans (hbl.mono H1.out.size)
      have c2 := (hbl.cell (p := ⟨w.heap.size, 0, none⟩) hzA).trans c0
      have c3 := (hbl.cell (p := ⟨w.heap.size, 1, none⟩) hzA).trans c1
      have HN := Lib.hid (isTidyV_yes (es := es) hty)
      have hpb2 := hpb1.below hbl
      have hpe2 := hpe1.below hbl
      have hz3 := hall.size
      clear hty
      go_wp2_with fail
      refine (ProgValid_spec _ bs es _ _ _ _ hpb2 hpe2).mono ?_
      rintro e w3 ⟨rfl, hb3⟩
      go_wp2
      go_ret
      exact ⟨ret_bool HN.out.symm, hall.trans (hb3.mono hz3)⟩
end Go.Proofs.YtnoboekddkcnbaaDoor
