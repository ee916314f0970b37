/-
  FactsOf of the model: the walk. Conditions: at most 1048576 blocks and edges, each text at most as many bytes.
-/
import Derived.Test.YtoppcppinjmjeaaDoorFactT
namespace Go.Proofs.YtoppcppinjmjeaaDoor
open Go.RowKit Go.Maps

set_option maxRecDepth 100000 in
set_option maxHeartbeats 6400000 in
theorem FactsOf_spec (w : World) (bs es : List Pr) (ab ae : Option Addr) (cb ce : Nat) (t : ByteArray) (hpb : PairsAt w ab bs) (hpe : PairsAt w ae es) :
    Calls Tryd.prog 25 #[.agg #[.slice ab bs.length cb, .slice ae es.length ce], .string t] w fun e w' => e = .returned (factsV bs es t) ∧ Below w.heap.size w w' := by
  have h1 : Below w.heap.size w (w.alloc (.cells #[.slice ab bs.length cb, .slice ae es.length ce] 31)) := (Below.refl _ _).alloc (Nat.le_refl _) _
  have hpb1 := hpb.below h1
  have hpe1 := hpe.below h1
  have H1 := Lib.hid h1; clear h1
  go_enter Tryd.func25, Tryd.ntmps25
  go_wp2_with fail
  refine (ProgValid_spec _ bs es _ _ _ _ hpb1 hpe1).mono ?_
  rintro e w1 ⟨rfl, hb1⟩
  have hall : Below w.heap.size w w1 := H1.out.trans (hb1.mono (by simp))
  have hpb2 := hpb1.below hb1
  have c0 := (hb1.cell (p := ⟨w.heap.size, 0, none⟩) (by simp)).trans (show _ = some (.slice ab bs.length cb) by go_simp)
  have c1 := (hb1.cell (p := ⟨w.heap.size, 1, none⟩) (by simp)).trans (show _ = some (.slice ae es.length ce) by go_simp)
  have hz := hall.size
  cases hv : validB bs es
  · have HN := Lib.hid (factsV_no1 (t := t) hv)
    clear hv
    go_wp2
    go_ret2
    exact ⟨by rw [HN.out]; rfl, hall⟩
  · cases ht : isTm t
    · have HN := Lib.hid (factsV_no2 (bs := bs) (es := es) ht)
      have HT := Lib.hid ht
      clear hv ht
      go_wp2_with (go_at_call 58; refine (l1Term_lit _ _ HT.out _).mono ?_; rintro e w' ⟨rfl, rfl⟩)
      go_ret2
      exact ⟨by rw [HN.out]; rfl, hall⟩
    · have HN := Lib.hid (factsV_yes hv ht)
      have HT := Lib.hid ht
      have HV := Lib.hid (show Valid bs es by simpa [validB] using hv)
      have hl9 := HV.out.b.hi
      clear hv ht
      go_wp2_with (go_at_call 58; refine (l1Term_lit _ _ HT.out _).mono ?_; rintro e w' ⟨rfl, rfl⟩)
      go_loopw [20, 6] (fun i v wr => ∃ k : Nat, k ≤ bs.length ∧ i = .int .i64 k ∧ v = .string (accF bs t k) ∧ Below w1.heap.size w1 wr) (fun i _ _ => bs.length - (intOf i).toNat)
      case atStart => exact ⟨0, Nat.zero_le _, rfl, rfl, Below.refl _ _⟩
      case round =>
        obtain ⟨k, hk, rfl, rfl, hbl⟩ := hrel
        by_cases hlt : k < bs.length
        · obtain ⟨b, off, rfl, hb, g1, g2⟩ := hpb2.cell k hlt
          have d1 := (hbl.cell (p := ⟨b, off + k * 2, none⟩) hb).trans g1
          have d2 := (hbl.cell (p := ⟨b, off + k * 2 + 1, none⟩) hb).trans g2
          have hz2 := hbl.size
          have s1 := accF_size HV.out t k hk
          have s2 := HV.out.name_size (nameAt_mem hlt)
          have s3 := (HV.out.b.op _ (pair_mem hlt)).1
          have s4 := fsOf_n (restAt bs k) t
          simp only at s3
          obtain ⟨A, hA⟩ : ∃ A, A = accF bs t k := ⟨_, rfl⟩
          rw [← hA] at s1 ⊢
          have hyA : Below w1.heap.size w1 (wr.alloc (.cells #[.string (nameAt bs k), .string (restAt bs k)] 68)) := hbl.alloc hz2 _
          have HY := Lib.hid hyA; clear hyA
          have y0 : (wr.alloc (.cells #[.string (nameAt bs k), .string (restAt bs k)] 68)).cell? ⟨wr.heap.size, 0, none⟩ = some (.string (nameAt bs k)) := by go_simp
          have y1 : (wr.alloc (.cells #[.string (nameAt bs k), .string (restAt bs k)] 68)).cell? ⟨wr.heap.size, 1, none⟩ = some (.string (restAt bs k)) := by go_simp
          have hzB : wr.heap.size < (wr.alloc (.cells #[.string (nameAt bs k), .string (restAt bs k)] 68)).heap.size := by simp
          have hT := HT.out
          have h32 : (⟨#[32]⟩ : ByteArray).size = 1 := rfl
          by_cases h0 : 0 < k
          · have hE : accF bs t (k + 1) = (A ++ ⟨#[32]⟩) ++ partT bs t k := by rw [accF_next h0, hA]
            have t0 : ¬ 9223372036854775807 < A.size + (⟨#[32]⟩ : ByteArray).size := by omega
            have hA2 : (A ++ ⟨#[32]⟩).size ≤ 60 := by rw [ByteArray.size_append]; omega
            have HE0 := Lib.hid hE; have HT0 := Lib.hid hT; have HA0 := Lib.hid (And.intro hA hA2)
            clear hE hT hA hA2 h32
            go_wp2
            clear t0
            have hE := HE0.out; have hT := HT0.out; have hA := HA0.out.1; have hA2 := HA0.out.2
            clear HE0 HA0
            generalize A ++ ⟨#[32]⟩ = A2 at *
            generalize wr.alloc (.cells #[.string (nameAt bs k), .string (restAt bs k)] 68) = wB at *
            obtain ⟨a, ha⟩ : ∃ a, (fsOf (restAt bs k) t).up = a := ⟨_, rfl⟩
            obtain ⟨bb, hbb⟩ : ∃ a, (fsOf (restAt bs k) t).dn = a := ⟨_, rfl⟩
            obtain ⟨c, hc⟩ : ∃ a, (fsOf (restAt bs k) t).cl = a := ⟨_, rfl⟩
            have HE := Lib.hid (show accF bs t (k + 1) = letT (A2 ++ nameAt bs k ++ dg (fsOf (restAt bs k) t).n) a bb c by
              rw [hE, letT_eq]
              unfold partT mkT
              rw [ha, hbb, hc, ByteArray.append_assoc, ByteArray.append_assoc, ByteArray.append_assoc])
            have HF := Lib.hid (And.intro ha (And.intro hbb (And.intro hc (And.intro hT (show (restAt bs k).size ≤ 1048576 by omega)))))
            clear hE ha hbb hc hA
            have hn6 : (fsOf (restAt bs k) t).n ≤ 6 := by omega
            have nu : (⟨#[117]⟩ : ByteArray).size = 1 := rfl
            have nd : (⟨#[100]⟩ : ByteArray).size = 1 := rfl
            have nc : (⟨#[99]⟩ : ByteArray).size = 1 := rfl
            have n1 : ¬ (A2.size + (nameAt bs k).size > 9223372036854775807) := by omega
            have n2 : ¬ (A2.size + (nameAt bs k).size + (dg (fsOf (restAt bs k) t).n).size > 9223372036854775807) := by rw [dg_size]; omega
            have m1 : ¬ 9223372036854775807 < (A2 ++ nameAt bs k ++ dg (fsOf (restAt bs k) t).n).size + (⟨#[117]⟩ : ByteArray).size := by rw [ByteArray.size_append, ByteArray.size_append, dg_size]; omega
            have m2 : ¬ 9223372036854775807 < (A2 ++ nameAt bs k ++ dg (fsOf (restAt bs k) t).n).size + (⟨#[100]⟩ : ByteArray).size := by rw [ByteArray.size_append, ByteArray.size_append, dg_size]; omega
            have m3 : ¬ 9223372036854775807 < (A2 ++ nameAt bs k ++ dg (fsOf (restAt bs k) t).n).size + (⟨#[99]⟩ : ByteArray).size := by rw [ByteArray.size_append, ByteArray.size_append, dg_size]; omega
            have m4 : ¬ 9223372036854775807 < (A2 ++ nameAt bs k ++ dg (fsOf (restAt bs k) t).n).size + (⟨#[117]⟩ : ByteArray).size + (⟨#[100]⟩ : ByteArray).size := by rw [ByteArray.size_append, ByteArray.size_append, dg_size]; omega
            have m5 : ¬ 9223372036854775807 < (A2 ++ nameAt bs k ++ dg (fsOf (restAt bs k) t).n).size + (⟨#[117]⟩ : ByteArray).size + (⟨#[99]⟩ : ByteArray).size := by rw [ByteArray.size_append, ByteArray.size_append, dg_size]; omega
            have m6 : ¬ 9223372036854775807 < (A2 ++ nameAt bs k ++ dg (fsOf (restAt bs k) t).n).size + (⟨#[100]⟩ : ByteArray).size + (⟨#[99]⟩ : ByteArray).size := by rw [ByteArray.size_append, ByteArray.size_append, dg_size]; omega
            have m7 : ¬ 9223372036854775807 < (A2 ++ nameAt bs k ++ dg (fsOf (restAt bs k) t).n).size + (⟨#[117]⟩ : ByteArray).size + (⟨#[100]⟩ : ByteArray).size + (⟨#[99]⟩ : ByteArray).size := by rw [ByteArray.size_append, ByteArray.size_append, dg_size]; omega
            clear nu nd nc s2
            have HM := Lib.hid (And.intro m1 (And.intro m2 (And.intro m3 (And.intro m4 (And.intro m5 (And.intro m6 m7)))))); clear m1 m2 m3 m4 m5 m6 m7
            go_region_held3 (fun w' => w'.cell? ⟨wr.heap.size, 0, none⟩ = some (.string (nameAt bs k)) ∧ w'.cell? ⟨wr.heap.size, 1, none⟩ = some (.string (restAt bs k)) ∧ Below wB.heap.size wB w')
              (first
                | exact ⟨y0, y1, (Below.refl _ _).drew⟩
                | (have hq := below_new (‹_ ∧ _ ∧ Below wB.heap.size wB _›).2.2 hbN; exact ⟨(hq.cell (p := ⟨wr.heap.size, 0, none⟩) hzB).trans y0, (hq.cell (p := ⟨wr.heap.size, 1, none⟩) hzB).trans y1, hq⟩)
                | (have hq := below_new (‹_ ∧ _ ∧ Below wB.heap.size wB _›).2.2 hbM; exact ⟨(hq.cell (p := ⟨wr.heap.size, 0, none⟩) hzB).trans y0, (hq.cell (p := ⟨wr.heap.size, 1, none⟩) hzB).trans y1, hq⟩))
              (first
                | (go_at_call 46; refine (l3Groups_any (restAt bs k) t _ HF.out.2.2.2.2 HF.out.2.2.2.1).mono ?_; rintro e wM ⟨rfl, hbM⟩)
                | (go_at_call 59; refine (l15Dec_any _ hn6 _).mono ?_; rintro e wN ⟨rfl, hbN⟩))
            obtain ⟨k0, k1, kb⟩ := (‹_ ∧ _ ∧ Below wB.heap.size wB wN›)
            have kz : wr.heap.size < wN.heap.size := by have := kb.size; omega
            have KB := Lib.hid (HY.out.trans (kb.mono HY.out.size))
            clear n1 n2 k0 kb hbN
            generalize A2 ++ nameAt bs k ++ dg (fsOf (restAt bs k) t).n = O at *
            have m1 := HM.out.1
            have m2 := HM.out.2.1
            have m3 := HM.out.2.2.1
            have m4 := HM.out.2.2.2.1
            have m5 := HM.out.2.2.2.2.1
            have m6 := HM.out.2.2.2.2.2.1
            have m7 := HM.out.2.2.2.2.2.2
            cases a <;> cases bb <;> cases c
            all_goals
              go_wp2_with fail
              refine (l3Up_lit (restAt bs k) t _ HF.out.1 _ HF.out.2.2.2.2 HF.out.2.2.2.1).mono ?_
              rintro e w5 ⟨rfl, hb5⟩
              have k5 := (hb5.cell (p := ⟨wr.heap.size, 1, none⟩) kz).trans k1
              have kz5 : wr.heap.size < w5.heap.size := by have := hb5.size; omega
              go_wp2_with fail
              refine (l3Down_lit (restAt bs k) t _ HF.out.2.1 _ HF.out.2.2.2.2 HF.out.2.2.2.1).mono ?_
              rintro e w6 ⟨rfl, hb6⟩
              have k6 := (hb6.cell (p := ⟨wr.heap.size, 1, none⟩) kz5).trans k5
              go_wp2_with fail
              refine (l3Clear_lit (restAt bs k) t _ HF.out.2.2.1 _ HF.out.2.2.2.2 HF.out.2.2.2.1).mono ?_
              rintro e w7 ⟨rfl, hb7⟩
              have KB7 := Lib.hid (KB.out.trans (((hb5.trans (hb6.mono hb5.size)).trans (hb7.mono (Nat.le_trans hb5.size hb6.size))).mono KB.out.size))
              clear hb5 hb6 hb7
              go_wp2
              go_roundw
              case rel => exact ⟨k + 1, by omega, by go_num, by rw [HE.out]; rfl, KB7.out⟩
              case measure => simp [intOf]; omega
          · have hE : accF bs t (k + 1) = A ++ partT bs t k := by rw [accF_first h0, hA]
            have hA2 : A.size ≤ 60 := by omega
            have HE0 := Lib.hid hE; have HT0 := Lib.hid hT; have HA0 := Lib.hid hA
            clear hE hT hA h32
            go_wp2
            have hE := HE0.out; have hT := HT0.out; have hA := HA0.out
            clear HE0 HA0
            generalize wr.alloc (.cells #[.string (nameAt bs k), .string (restAt bs k)] 68) = wB at *
            obtain ⟨A2, rfl⟩ : ∃ A2, A2 = A := ⟨_, rfl⟩
            obtain ⟨a, ha⟩ : ∃ a, (fsOf (restAt bs k) t).up = a := ⟨_, rfl⟩
            obtain ⟨bb, hbb⟩ : ∃ a, (fsOf (restAt bs k) t).dn = a := ⟨_, rfl⟩
            obtain ⟨c, hc⟩ : ∃ a, (fsOf (restAt bs k) t).cl = a := ⟨_, rfl⟩
            have HE := Lib.hid (show accF bs t (k + 1) = letT (A2 ++ nameAt bs k ++ dg (fsOf (restAt bs k) t).n) a bb c by
              rw [hE, letT_eq]
              unfold partT mkT
              rw [ha, hbb, hc, ByteArray.append_assoc, ByteArray.append_assoc, ByteArray.append_assoc])
            have HF := Lib.hid (And.intro ha (And.intro hbb (And.intro hc (And.intro hT (show (restAt bs k).size ≤ 1048576 by omega)))))
            clear hE ha hbb hc hA
            have hn6 : (fsOf (restAt bs k) t).n ≤ 6 := by omega
            have nu : (⟨#[117]⟩ : ByteArray).size = 1 := rfl
            have nd : (⟨#[100]⟩ : ByteArray).size = 1 := rfl
            have nc : (⟨#[99]⟩ : ByteArray).size = 1 := rfl
            have n1 : ¬ (A2.size + (nameAt bs k).size > 9223372036854775807) := by omega
            have n2 : ¬ (A2.size + (nameAt bs k).size + (dg (fsOf (restAt bs k) t).n).size > 9223372036854775807) := by rw [dg_size]; omega
            have m1 : ¬ 9223372036854775807 < (A2 ++ nameAt bs k ++ dg (fsOf (restAt bs k) t).n).size + (⟨#[117]⟩ : ByteArray).size := by rw [ByteArray.size_append, ByteArray.size_append, dg_size]; omega
            have m2 : ¬ 9223372036854775807 < (A2 ++ nameAt bs k ++ dg (fsOf (restAt bs k) t).n).size + (⟨#[100]⟩ : ByteArray).size := by rw [ByteArray.size_append, ByteArray.size_append, dg_size]; omega
            have m3 : ¬ 9223372036854775807 < (A2 ++ nameAt bs k ++ dg (fsOf (restAt bs k) t).n).size + (⟨#[99]⟩ : ByteArray).size := by rw [ByteArray.size_append, ByteArray.size_append, dg_size]; omega
            have m4 : ¬ 9223372036854775807 < (A2 ++ nameAt bs k ++ dg (fsOf (restAt bs k) t).n).size + (⟨#[117]⟩ : ByteArray).size + (⟨#[100]⟩ : ByteArray).size := by rw [ByteArray.size_append, ByteArray.size_append, dg_size]; omega
            have m5 : ¬ 9223372036854775807 < (A2 ++ nameAt bs k ++ dg (fsOf (restAt bs k) t).n).size + (⟨#[117]⟩ : ByteArray).size + (⟨#[99]⟩ : ByteArray).size := by rw [ByteArray.size_append, ByteArray.size_append, dg_size]; omega
            have m6 : ¬ 9223372036854775807 < (A2 ++ nameAt bs k ++ dg (fsOf (restAt bs k) t).n).size + (⟨#[100]⟩ : ByteArray).size + (⟨#[99]⟩ : ByteArray).size := by rw [ByteArray.size_append, ByteArray.size_append, dg_size]; omega
            have m7 : ¬ 9223372036854775807 < (A2 ++ nameAt bs k ++ dg (fsOf (restAt bs k) t).n).size + (⟨#[117]⟩ : ByteArray).size + (⟨#[100]⟩ : ByteArray).size + (⟨#[99]⟩ : ByteArray).size := by rw [ByteArray.size_append, ByteArray.size_append, dg_size]; omega
            clear nu nd nc s2
            have HM := Lib.hid (And.intro m1 (And.intro m2 (And.intro m3 (And.intro m4 (And.intro m5 (And.intro m6 m7)))))); clear m1 m2 m3 m4 m5 m6 m7
            go_region_held3 (fun w' => w'.cell? ⟨wr.heap.size, 0, none⟩ = some (.string (nameAt bs k)) ∧ w'.cell? ⟨wr.heap.size, 1, none⟩ = some (.string (restAt bs k)) ∧ Below wB.heap.size wB w')
              (first
                | exact ⟨y0, y1, (Below.refl _ _).drew⟩
                | (have hq := below_new (‹_ ∧ _ ∧ Below wB.heap.size wB _›).2.2 hbN; exact ⟨(hq.cell (p := ⟨wr.heap.size, 0, none⟩) hzB).trans y0, (hq.cell (p := ⟨wr.heap.size, 1, none⟩) hzB).trans y1, hq⟩)
                | (have hq := below_new (‹_ ∧ _ ∧ Below wB.heap.size wB _›).2.2 hbM; exact ⟨(hq.cell (p := ⟨wr.heap.size, 0, none⟩) hzB).trans y0, (hq.cell (p := ⟨wr.heap.size, 1, none⟩) hzB).trans y1, hq⟩))
              (first
                | (go_at_call 46; refine (l3Groups_any (restAt bs k) t _ HF.out.2.2.2.2 HF.out.2.2.2.1).mono ?_; rintro e wM ⟨rfl, hbM⟩)
                | (go_at_call 59; refine (l15Dec_any _ hn6 _).mono ?_; rintro e wN ⟨rfl, hbN⟩))
            obtain ⟨k0, k1, kb⟩ := (‹_ ∧ _ ∧ Below wB.heap.size wB wN›)
            have kz : wr.heap.size < wN.heap.size := by have := kb.size; omega
            have KB := Lib.hid (HY.out.trans (kb.mono HY.out.size))
            clear n1 n2 k0 kb hbN
            generalize A2 ++ nameAt bs k ++ dg (fsOf (restAt bs k) t).n = O at *
            have m1 := HM.out.1
            have m2 := HM.out.2.1
            have m3 := HM.out.2.2.1
            have m4 := HM.out.2.2.2.1
            have m5 := HM.out.2.2.2.2.1
            have m6 := HM.out.2.2.2.2.2.1
            have m7 := HM.out.2.2.2.2.2.2
            cases a <;> cases bb <;> cases c
            all_goals
              go_wp2_with fail
              refine (l3Up_lit (restAt bs k) t _ HF.out.1 _ HF.out.2.2.2.2 HF.out.2.2.2.1).mono ?_
              rintro e w5 ⟨rfl, hb5⟩
              have k5 := (hb5.cell (p := ⟨wr.heap.size, 1, none⟩) kz).trans k1
              have kz5 : wr.heap.size < w5.heap.size := by have := hb5.size; omega
              go_wp2_with fail
              refine (l3Down_lit (restAt bs k) t _ HF.out.2.1 _ HF.out.2.2.2.2 HF.out.2.2.2.1).mono ?_
              rintro e w6 ⟨rfl, hb6⟩
              have k6 := (hb6.cell (p := ⟨wr.heap.size, 1, none⟩) kz5).trans k5
              go_wp2_with fail
              refine (l3Clear_lit (restAt bs k) t _ HF.out.2.2.1 _ HF.out.2.2.2.2 HF.out.2.2.2.1).mono ?_
              rintro e w7 ⟨rfl, hb7⟩
              have KB7 := Lib.hid (KB.out.trans (((hb5.trans (hb6.mono hb5.size)).trans (hb7.mono (Nat.le_trans hb5.size hb6.size))).mono KB.out.size))
              clear hb5 hb6 hb7
              go_wp2
              go_roundw
              case rel => exact ⟨k + 1, by omega, by go_num, by rw [HE.out]; rfl, KB7.out⟩
              case measure => simp [intOf]; omega
        · obtain rfl : k = bs.length := by omega
          have hfin := hall.trans (hbl.mono hz)
          go_wp2
          go_ret2
          exact ⟨by rw [HN.out]; rfl, hfin⟩
end Go.Proofs.YtoppcppinjmjeaaDoor
