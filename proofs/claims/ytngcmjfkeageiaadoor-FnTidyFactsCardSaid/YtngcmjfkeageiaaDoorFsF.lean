import Derived.Test.YtngcmjfkeageiaaDoorFsT
import Derived.Test.YtngcmjfkeageiaaDoorRows4
import Derived.Test.YtngcmjfkeageiaaDoorShelf
section
/-
  FactsOf of the model: the walk. Conditions: at most 1048576 blocks and edges, each text at most as many bytes.
-/
namespace Go.Proofs.YtngcmjfkeageiaaDoor
open Go.RowKit Go.Maps

set_option maxRecDepth 100000 in
set_option maxHeartbeats 6400000 in
theorem FactsOf_spec (w : World) (bs es : List Pr) (ab ae : Option Addr) (cb ce : Nat) (t : ByteArray) (hpb : PairsAt w ab bs) (hpe : PairsAt w ae es) :
    Calls Tryd.prog 37 #[.agg #[.slice ab bs.length cb, .slice ae es.length ce], .string t] w fun e w' => e = .returned (factsV bs es t) ∧ Below w.heap.size w w' := by
  have h1 : Below w.heap.size w (w.alloc (.cells #[.slice ab bs.length cb, .slice ae es.length ce] 32)) := (Below.refl _ _).alloc (Nat.le_refl _) _
  have hpb1 := hpb.below h1
  have hpe1 := hpe.below h1
  have H1 := Lib.hid h1; clear h1
  go_enter Tryd.func37, Tryd.ntmps37
  go_wp2_with fail
  refine (ProgValid_spec _ bs es _ _ _ _ hpb1 hpe1).mono ?_
  rintro e w1 ⟨rfl, hb1⟩
  have hall : Below w.heap.size w w1 := H1.out.trans (hb1.mono (by simp))
  have hpb2 := hpb1.below hb1
  have c0 := (hb1.cell (p := ⟨w.heap.size, 0, none⟩) (by simp)).trans (show _ = some (.slice ab bs.length cb) by go_simp)
  have c1 := (hb1.cell (p := ⟨w.heap.size, 1, none⟩) (by simp)).trans (show _ = some (.slice ae es.length ce) by go_simp)
  have hz := hall.size
  cases hv : validB bs es
  · have HN := Lib.hid (factsV_no1 (t := t) hv)
    clear hv
    go_wp2
    go_ret2
    exact ⟨by rw [HN.out]; rfl, hall⟩
  · cases ht : isTm t
    · have HN := Lib.hid (factsV_no2 (bs := bs) (es := es) ht)
      have HT := Lib.hid ht
      clear hv ht
      go_wp2_with (go_at_call 76; refine (l1Term_lit _ _ HT.out _).mono ?_; rintro e w' ⟨rfl, rfl⟩)
      go_ret2
      exact ⟨by rw [HN.out]; rfl, hall⟩
    · have HN := Lib.hid (factsV_yes hv ht)
      have HT := Lib.hid ht
      have HV := Lib.hid (show Valid bs es by simpa [validB] using hv)
      have hl9 := HV.out.b.hi
      clear hv ht
      go_wp2_with (go_at_call 76; refine (l1Term_lit _ _ HT.out _).mono ?_; rintro e w' ⟨rfl, rfl⟩)
      go_loopw [20, 6] (fun i v wr => ∃ k : Nat, k ≤ bs.length ∧ i = .int .i64 k ∧ v = .string (accF bs t k) ∧ Below w1.heap.size w1 wr) (fun i _ _ => bs.length - (intOf i).toNat)
      case atStart => exact ⟨0, Nat.zero_le _, rfl, rfl, Below.refl _ _⟩
      case round =>
        obtain ⟨k, hk, rfl, rfl, hbl⟩ := hrel
        by_cases hlt : k < bs.length
        · obtain ⟨b, off, rfl, hb, g1, g2⟩ := hpb2.cell k hlt
          have d1 := (hbl.cell (p := ⟨b, off + k * 2, none⟩) hb).trans g1
          have d2 := (hbl.cell (p := ⟨b, off + k * 2 + 1, none⟩) hb).trans g2
          have hz2 := hbl.size
          have s1 := accF_size HV.out t k hk
          have s2 := HV.out.name_size (nameAt_mem hlt)
          have s3 := (HV.out.b.op _ (pair_mem hlt)).1
          have s4 := fsOf_n (restAt bs k) t
          simp only at s3
          obtain ⟨A, hA⟩ : ∃ A, A = accF bs t k := ⟨_, rfl⟩
          rw [← hA] at s1 ⊢
          have hyA : Below w1.heap.size w1 (wr.alloc (.cells #[.string (nameAt bs k), .string (restAt bs k)] 40)) := hbl.alloc hz2 _
          have HY := Lib.hid hyA; clear hyA
          have y0 : (wr.alloc (.cells #[.string (nameAt bs k), .string (restAt bs k)] 40)).cell? ⟨wr.heap.size, 0, none⟩ = some (.string (nameAt bs k)) := by go_simp
          have y1 : (wr.alloc (.cells #[.string (nameAt bs k), .string (restAt bs k)] 40)).cell? ⟨wr.heap.size, 1, none⟩ = some (.string (restAt bs k)) := by go_simp
          have hzB : wr.heap.size < (wr.alloc (.cells #[.string (nameAt bs k), .string (restAt bs k)] 40)).heap.size := by simp
          have hT := HT.out
          have h32 : (⟨#[32]⟩ : ByteArray).size = 1 := rfl
          by_cases h0 : 0 < k
          · have hE : accF bs t (k + 1) = (A ++ ⟨#[32]⟩) ++ partT bs t k := by rw [accF_next h0, hA]
            have t0 : ¬ 9223372036854775807 < A.size + (⟨#[32]⟩ : ByteArray).size := by omega
            have hA2 : (A ++ ⟨#[32]⟩).size ≤ 60 := by rw [ByteArray.size_append]; omega
            have HE0 := Lib.hid hE; have HT0 := Lib.hid hT; have HA0 := Lib.hid (And.intro hA hA2)
            clear hE hT hA hA2 h32
            go_wp2
            clear t0
            have hE := HE0.out; have hT := HT0.out; have hA := HA0.out.1; have hA2 := HA0.out.2
            clear HE0 HA0
            generalize A ++ ⟨#[32]⟩ = A2 at *
            generalize wr.alloc (.cells #[.string (nameAt bs k), .string (restAt bs k)] 40) = wB at *
            obtain ⟨a, ha⟩ : ∃ a, (fsOf (restAt bs k) t).up = a := ⟨_, rfl⟩
            obtain ⟨bb, hbb⟩ : ∃ a, (fsOf (restAt bs k) t).dn = a := ⟨_, rfl⟩
            obtain ⟨c, hc⟩ : ∃ a, (fsOf (restAt bs k) t).cl = a := ⟨_, rfl⟩
            have HE := Lib.hid (show accF bs t (k + 1) = letT (A2 ++ nameAt bs k ++ dg (fsOf (restAt bs k) t).n) a bb c by
              rw [hE, letT_eq]
              unfold partT mkT
              rw [ha, hbb, hc, ByteArray.append_assoc, ByteArray.append_assoc, ByteArray.append_assoc])
            have HF := Lib.hid (And.intro ha (And.intro hbb (And.intro hc (And.intro hT (show (restAt bs k).size ≤ 1048576 by omega)))))
            clear hE ha hbb hc hA
            have hn6 : (fsOf (restAt bs k) t).n ≤ 6 := by omega
            have nu : (⟨#[117]⟩ : ByteArray).size = 1 := rfl
            have nd : (⟨#[100]⟩ : ByteArray).size = 1 := rfl
            have nc : (⟨#[99]⟩ : ByteArray).size = 1 := rfl
            have n1 : ¬ (A2.size + (nameAt bs k).size > 9223372036854775807) := by omega
            have n2 : ¬ (A2.size + (nameAt bs k).size + (dg (fsOf (restAt bs k) t).n).size > 9223372036854775807) := by rw [dg_size]; omega
            have m1 : ¬ 9223372036854775807 < (A2 ++ nameAt bs k ++ dg (fsOf (restAt bs k) t).n).size + (⟨#[117]⟩ : ByteArray).size := by rw [ByteArray.size_append, ByteArray.size_append, dg_size]; omega
            have m2 : ¬ 9223372036854775807 < (A2 ++ nameAt bs k ++ dg (fsOf (restAt bs k) t).n).size + (⟨#[100]⟩ : ByteArray).size := by rw [ByteArray.size_append, ByteArray.size_append, dg_size]; omega
            have m3 : ¬ 9223372036854775807 < (A2 ++ nameAt bs k ++ dg (fsOf (restAt bs k) t).n).size + (⟨#[99]⟩ : ByteArray).size := by rw [ByteArray.size_append, ByteArray.size_append, dg_size]; omega
            have m4 : ¬ 9223372036854775807 < (A2 ++ nameAt bs k ++ dg (fsOf (restAt bs k) t).n).size + (⟨#[117]⟩ : ByteArray).size + (⟨#[100]⟩ : ByteArray).size := by rw [ByteArray.size_append, ByteArray.size_append, dg_size]; omega
            have m5 : ¬ 9223372036854775807 < (A2 ++ nameAt bs k ++ dg (fsOf (restAt bs k) t).n).size + (⟨#[117]⟩ : ByteArray).size + (⟨#[99]⟩ : ByteArray).size := by rw [ByteArray.size_append, ByteArray.size_append, dg_size]; omega
            have m6 : ¬ 9223372036854775807 < (A2 ++ nameAt bs k ++ dg (fsOf (restAt bs k) t).n).size + (⟨#[100]⟩ : ByteArray).size + (⟨#[99]⟩ : ByteArray).size := by rw [ByteArray.size_append, ByteArray.size_append, dg_size]; omega
            have m7 : ¬ 9223372036854775807 < (A2 ++ nameAt bs k ++ dg (fsOf (restAt bs k) t).n).size + (⟨#[117]⟩ : ByteArray).size + (⟨#[100]⟩ : ByteArray).size + (⟨#[99]⟩ : ByteArray).size := by rw [ByteArray.size_append, ByteArray.size_append, dg_size]; omega
            clear nu nd nc s2
            have HM := Lib.hid (And.intro m1 (And.intro m2 (And.intro m3 (And.intro m4 (And.intro m5 (And.intro m6 m7)))))); clear m1 m2 m3 m4 m5 m6 m7
            go_region_held3 (fun w' => w'.cell? ⟨wr.heap.size, 0, none⟩ = some (.string (nameAt bs k)) ∧ w'.cell? ⟨wr.heap.size, 1, none⟩ = some (.string (restAt bs k)) ∧ Below wB.heap.size wB w')
              (first
                | exact ⟨y0, y1, (Below.refl _ _).drew⟩
                | (have hq := below_new (‹_ ∧ _ ∧ Below wB.heap.size wB _›).2.2 hbN; exact ⟨(hq.cell (p := ⟨wr.heap.size, 0, none⟩) hzB).trans y0, (hq.cell (p := ⟨wr.heap.size, 1, none⟩) hzB).trans y1, hq⟩)
                | (have hq := below_new (‹_ ∧ _ ∧ Below wB.heap.size wB _›).2.2 hbM; exact ⟨(hq.cell (p := ⟨wr.heap.size, 0, none⟩) hzB).trans y0, (hq.cell (p := ⟨wr.heap.size, 1, none⟩) hzB).trans y1, hq⟩))
              (first
                | (go_at_call 93; refine (l3Groups_any (restAt bs k) t _ HF.out.2.2.2.2 HF.out.2.2.2.1).mono ?_; rintro e wM ⟨rfl, hbM⟩)
                | (go_at_call 92; refine (l15Dec_any _ hn6 _).mono ?_; rintro e wN ⟨rfl, hbN⟩))
            obtain ⟨k0, k1, kb⟩ := (‹_ ∧ _ ∧ Below wB.heap.size wB wN›)
            have kz : wr.heap.size < wN.heap.size := by have := kb.size; omega
            have KB := Lib.hid (HY.out.trans (kb.mono HY.out.size))
            clear n1 n2 k0 kb hbN
            generalize A2 ++ nameAt bs k ++ dg (fsOf (restAt bs k) t).n = O at *
            have m1 := HM.out.1
            have m2 := HM.out.2.1
            have m3 := HM.out.2.2.1
            have m4 := HM.out.2.2.2.1
            have m5 := HM.out.2.2.2.2.1
            have m6 := HM.out.2.2.2.2.2.1
            have m7 := HM.out.2.2.2.2.2.2
            cases a <;> cases bb <;> cases c
            all_goals
              go_wp2_with fail
              refine (l3Up_lit (restAt bs k) t _ HF.out.1 _ HF.out.2.2.2.2 HF.out.2.2.2.1).mono ?_
              rintro e w5 ⟨rfl, hb5⟩
              have k5 := (hb5.cell (p := ⟨wr.heap.size, 1, none⟩) kz).trans k1
              have kz5 : wr.heap.size < w5.heap.size := by have := hb5.size; omega
              go_wp2_with fail
              refine (l3Down_lit (restAt bs k) t _ HF.out.2.1 _ HF.out.2.2.2.2 HF.out.2.2.2.1).mono ?_
              rintro e w6 ⟨rfl, hb6⟩
              have k6 := (hb6.cell (p := ⟨wr.heap.size, 1, none⟩) kz5).trans k5
              go_wp2_with fail
              refine (l3Clear_lit (restAt bs k) t _ HF.out.2.2.1 _ HF.out.2.2.2.2 HF.out.2.2.2.1).mono ?_
              rintro e w7 ⟨rfl, hb7⟩
              have KB7 := Lib.hid (KB.out.trans (((hb5.trans (hb6.mono hb5.size)).trans (hb7.mono (Nat.le_trans hb5.size hb6.size))).mono KB.out.size))
              clear hb5 hb6 hb7
              go_wp2
              go_roundw
              case rel => exact ⟨k + 1, by omega, by go_num, by rw [HE.out]; rfl, KB7.out⟩
              case measure => simp [intOf]; omega
          · have hE : accF bs t (k + 1) = A ++ partT bs t k := by rw [accF_first h0, hA]
            have hA2 : A.size ≤ 60 := by omega
            have HE0 := Lib.hid hE; have HT0 := Lib.hid hT; have HA0 := Lib.hid hA
            clear hE hT hA h32
            go_wp2
            have hE := HE0.out; have hT := HT0.out; have hA := HA0.out
            clear HE0 HA0
            generalize wr.alloc (.cells #[.string (nameAt bs k), .string (restAt bs k)] 40) = wB at *
            obtain ⟨A2, rfl⟩ : ∃ A2, A2 = A := ⟨_, rfl⟩
            obtain ⟨a, ha⟩ : ∃ a, (fsOf (restAt bs k) t).up = a := ⟨_, rfl⟩
            obtain ⟨bb, hbb⟩ : ∃ a, (fsOf (restAt bs k) t).dn = a := ⟨_, rfl⟩
            obtain ⟨c, hc⟩ : ∃ a, (fsOf (restAt bs k) t).cl = a := ⟨_, rfl⟩
            have HE := Lib.hid (show accF bs t (k + 1) = letT (A2 ++ nameAt bs k ++ dg (fsOf (restAt bs k) t).n) a bb c by
              rw [hE, letT_eq]
              unfold partT mkT
              rw [ha, hbb, hc, ByteArray.append_assoc, ByteArray.append_assoc, ByteArray.append_assoc])
            have HF := Lib.hid (And.intro ha (And.intro hbb (And.intro hc (And.intro hT (show (restAt bs k).size ≤ 1048576 by omega)))))
            clear hE ha hbb hc hA
            have hn6 : (fsOf (restAt bs k) t).n ≤ 6 := by omega
            have nu : (⟨#[117]⟩ : ByteArray).size = 1 := rfl
            have nd : (⟨#[100]⟩ : ByteArray).size = 1 := rfl
            have nc : (⟨#[99]⟩ : ByteArray).size = 1 := rfl
            have n1 : ¬ (A2.size + (nameAt bs k).size > 9223372036854775807) := by omega
            have n2 : ¬ (A2.size + (nameAt bs k).size + (dg (fsOf (restAt bs k) t).n).size > 9223372036854775807) := by rw [dg_size]; omega
            have m1 : ¬ 9223372036854775807 < (A2 ++ nameAt bs k ++ dg (fsOf (restAt bs k) t).n).size + (⟨#[117]⟩ : ByteArray).size := by rw [ByteArray.size_append, ByteArray.size_append, dg_size]; omega
            have m2 : ¬ 9223372036854775807 < (A2 ++ nameAt bs k ++ dg (fsOf (restAt bs k) t).n).size + (⟨#[100]⟩ : ByteArray).size := by rw [ByteArray.size_append, ByteArray.size_append, dg_size]; omega
            have m3 : ¬ 9223372036854775807 < (A2 ++ nameAt bs k ++ dg (fsOf (restAt bs k) t).n).size + (⟨#[99]⟩ : ByteArray).size := by rw [ByteArray.size_append, ByteArray.size_append, dg_size]; omega
            have m4 : ¬ 9223372036854775807 < (A2 ++ nameAt bs k ++ dg (fsOf (restAt bs k) t).n).size + (⟨#[117]⟩ : ByteArray).size + (⟨#[100]⟩ : ByteArray).size := by rw [ByteArray.size_append, ByteArray.size_append, dg_size]; omega
            have m5 : ¬ 9223372036854775807 < (A2 ++ nameAt bs k ++ dg (fsOf (restAt bs k) t).n).size + (⟨#[117]⟩ : ByteArray).size + (⟨#[99]⟩ : ByteArray).size := by rw [ByteArray.size_append, ByteArray.size_append, dg_size]; omega
            have m6 : ¬ 9223372036854775807 < (A2 ++ nameAt bs k ++ dg (fsOf (restAt bs k) t).n).size + (⟨#[100]⟩ : ByteArray).size + (⟨#[99]⟩ : ByteArray).size := by rw [ByteArray.size_append, ByteArray.size_append, dg_size]; omega
            have m7 : ¬ 9223372036854775807 < (A2 ++ nameAt bs k ++ dg (fsOf (restAt bs k) t).n).size + (⟨#[117]⟩ : ByteArray).size + (⟨#[100]⟩ : ByteArray).size + (⟨#[99]⟩ : ByteArray).size := by rw [ByteArray.size_append, ByteArray.size_append, dg_size]; omega
            clear nu nd nc s2
            have HM := Lib.hid (And.intro m1 (And.intro m2 (And.intro m3 (And.intro m4 (And.intro m5 (And.intro m6 m7)))))); clear m1 m2 m3 m4 m5 m6 m7
            go_region_held3 (fun w' => w'.cell? ⟨wr.heap.size, 0, none⟩ = some (.string (nameAt bs k)) ∧ w'.cell? ⟨wr.heap.size, 1, none⟩ = some (.string (restAt bs k)) ∧ Below wB.heap.size wB w')
              (first
                | exact ⟨y0, y1, (Below.refl _ _).drew⟩
                | (have hq := below_new (‹_ ∧ _ ∧ Below wB.heap.size wB _›).2.2 hbN; exact ⟨(hq.cell (p := ⟨wr.heap.size, 0, none⟩) hzB).trans y0, (hq.cell (p := ⟨wr.heap.size, 1, none⟩) hzB).trans y1, hq⟩)
                | (have hq := below_new (‹_ ∧ _ ∧ Below wB.heap.size wB _›).2.2 hbM; exact ⟨(hq.cell (p := ⟨wr.heap.size, 0, none⟩) hzB).trans y0, (hq.cell (p := ⟨wr.heap.size, 1, none⟩) hzB).trans y1, hq⟩))
              (first
                | (go_at_call 93; refine (l3Groups_any (restAt bs k) t _ HF.out.2.2.2.2 HF.out.2.2.2.1).mono ?_; rintro e wM ⟨rfl, hbM⟩)
                | (go_at_call 92; refine (l15Dec_any _ hn6 _).mono ?_; rintro e wN ⟨rfl, hbN⟩))
            obtain ⟨k0, k1, kb⟩ := (‹_ ∧ _ ∧ Below wB.heap.size wB wN›)
            have kz : wr.heap.size < wN.heap.size := by have := kb.size; omega
            have KB := Lib.hid (HY.out.trans (kb.mono HY.out.size))
            clear n1 n2 k0 kb hbN
            generalize A2 ++ nameAt bs k ++ dg (fsOf (restAt bs k) t).n = O at *
            have m1 := HM.out.1
            have m2 := HM.out.2.1
            have m3 := HM.out.2.2.1
            have m4 := HM.out.2.2.2.1
            have m5 := HM.out.2.2.2.2.1
            have m6 := HM.out.2.2.2.2.2.1
            have m7 := HM.out.2.2.2.2.2.2
            cases a <;> cases bb <;> cases c
            all_goals
              go_wp2_with fail
              refine (l3Up_lit (restAt bs k) t _ HF.out.1 _ HF.out.2.2.2.2 HF.out.2.2.2.1).mono ?_
              rintro e w5 ⟨rfl, hb5⟩
              have k5 := (hb5.cell (p := ⟨wr.heap.size, 1, none⟩) kz).trans k1
              have kz5 : wr.heap.size < w5.heap.size := by have := hb5.size; omega
              go_wp2_with fail
              refine (l3Down_lit (restAt bs k) t _ HF.out.2.1 _ HF.out.2.2.2.2 HF.out.2.2.2.1).mono ?_
              rintro e w6 ⟨rfl, hb6⟩
              have k6 := (hb6.cell (p := ⟨wr.heap.size, 1, none⟩) kz5).trans k5
              go_wp2_with fail
              refine (l3Clear_lit (restAt bs k) t _ HF.out.2.2.1 _ HF.out.2.2.2.2 HF.out.2.2.2.1).mono ?_
              rintro e w7 ⟨rfl, hb7⟩
              have KB7 := Lib.hid (KB.out.trans (((hb5.trans (hb6.mono hb5.size)).trans (hb7.mono (Nat.le_trans hb5.size hb6.size))).mono KB.out.size))
              clear hb5 hb6 hb7
              go_wp2
              go_roundw
              case rel => exact ⟨k + 1, by omega, by go_num, by rw [HE.out]; rfl, KB7.out⟩
              case measure => simp [intOf]; omega
        · obtain rfl : k = bs.length := by omega
          have hfin := hall.trans (hbl.mono hz)
          go_wp2
          go_ret2
          exact ⟨by rw [HN.out]; rfl, hfin⟩
end Go.Proofs.YtngcmjfkeageiaaDoor
end

section
/-
  The program's termBlock.text and termBlocksOf. Conditions: at most 1048576 blocks and edges, each text at most as many bytes; the errors' variables hold errors.
-/
namespace Go.Proofs.YtngcmjfkeageiaaDoor
open Go.RowKit Go.Maps

set_option maxRecDepth 100000 in
set_option maxHeartbeats 1600000 in
theorem text_any (s : FS) (x : ByteArray) (t : Int) (hx : x.size ≤ 1) (hn : s.n ≤ 6) (w : World) :
    Calls Tryd.prog 91 #[.agg #[.int .u8 (fv s), .string x, .int .u8 t, .int .i64 (s.n : Int)]] w fun e w' => e = .returned (.string (x ++ dg s.n ++ mkT s)) ∧ Below w.heap.size w w' := by
  have h1 : Below w.heap.size w (w.alloc (.cells #[.int .u8 (fv s), .string x, .int .u8 t, .int .i64 (s.n : Int)] 129)) := (Below.refl _ _).alloc (Nat.le_refl _) _
  have y0 : (w.alloc (.cells #[.int .u8 (fv s), .string x, .int .u8 t, .int .i64 (s.n : Int)] 129)).cell? ⟨w.heap.size, 0, none⟩ = some (.int .u8 (fv s)) := by go_simp
  have y1 : (w.alloc (.cells #[.int .u8 (fv s), .string x, .int .u8 t, .int .i64 (s.n : Int)] 129)).cell? ⟨w.heap.size, 1, none⟩ = some (.string x) := by go_simp
  have y3 : (w.alloc (.cells #[.int .u8 (fv s), .string x, .int .u8 t, .int .i64 (s.n : Int)] 129)).cell? ⟨w.heap.size, 3, none⟩ = some (.int .i64 (s.n : Int)) := by go_simp
  have H1 := Lib.hid h1; clear h1
  have hm := mkB_size s.up s.dn s.cl
  have n1 : ¬ (x.size + (dg s.n).size > 9223372036854775807) := by rw [dg_size]; omega
  have n2 : ¬ (x.size + (dg s.n).size + (mkT s).size > 9223372036854775807) := by unfold mkT; rw [dg_size]; omega
  have n3 : ¬ 9223372036854775807 < x.size + (dg s.n).size := by omega
  have n4 : ¬ 9223372036854775807 < x.size + (dg s.n).size + (mkT s).size := by omega
  clear hm
  go_enter Tryd.func91, Tryd.ntmps91
  go_wp2
  generalize w.alloc (.cells #[.int .u8 (fv s), .string x, .int .u8 t, .int .i64 (s.n : Int)] 129) = wB at *
  go_quiet (first
    | exact Calls.quiet_of_same ((Itoa_any s.n hn _).mono fun _ _ h => ⟨h.1, h.2.symm⟩)
    | exact Calls.quiet_of_same ((marks_any s _).mono fun _ _ h => ⟨h.1, h.2.symm⟩))
  go_wp2
  go_ret
  exact ⟨rfl, below_drewN H1.out _⟩

/-- a block as a term sees it, as cells of a row -/
def blkCells (bs : List Pr) (t : ByteArray) (k : Nat) : List Value := [.int .u8 (fv (fsOf (restAt bs k) t)), .string (nameAt bs k), .int .u8 (byteAt t 0 : Int), .int .i64 ((fsOf (restAt bs k) t).n : Int)]
def blkRow (bs : List Pr) (t : ByteArray) (k : Nat) : List Value := ((List.range k).map (blkCells bs t)).flatten
theorem blkRow_succ (bs : List Pr) (t : ByteArray) (k : Nat) : blkRow bs t (k + 1) = blkRow bs t k ++ blkCells bs t k := by
  unfold blkRow
  rw [List.range_succ, List.map_append, List.flatten_append]
  simp
theorem blkRow_length (bs : List Pr) (t : ByteArray) : ∀ k, (blkRow bs t k).length = k * 4
  | 0 => rfl
  | k + 1 => by rw [blkRow_succ, List.length_append, blkRow_length bs t k]; show k * 4 + 4 = _; omega
theorem blkRow_at (bs : List Pr) (t : ByteArray) : ∀ (k i j : Nat), i < k → j < 4 → (blkRow bs t k)[i * 4 + j]? = (blkCells bs t i)[j]?
  | 0, i, _, h, _ => absurd h (Nat.not_lt_zero _)
  | k + 1, i, j, h, hj => by
    rw [blkRow_succ]
    rcases Nat.lt_or_ge i k with h' | h'
    · rw [List.getElem?_append_left (by rw [blkRow_length]; omega)]
      exact blkRow_at bs t k i j h' hj
    · obtain rfl : i = k := by omega
      rw [List.getElem?_append_right (by rw [blkRow_length]; omega), blkRow_length]
      congr 1
      omega

/-- what termBlocksOf leaves -/
def BlocksPost (w : World) (bs es : List Pr) (t : ByteArray) (e : Ending) (w' : World) : Prop :=
  Below w.heap.size w w' ∧ ((validB bs es = true ∧ isTm t = true ∧ ∃ v, e = .returned (.tuple #[v, .bool true]) ∧ w'.ownsRow w.heap.size 129 4 v bs.length (blkRow bs t bs.length)) ∨ ((validB bs es = false ∨ isTm t = false) ∧ e = .returned (.tuple #[.slice none 0 0, .bool false])))

set_option maxRecDepth 100000 in
set_option maxHeartbeats 3200000 in
theorem termBlocksOf_any (w : World) (bs es : List Pr) (ab ae : Option Addr) (cb ce : Nat) (t : ByteArray) (hpb : PairsAt w ab bs) (hpe : PairsAt w ae es) (hg : Errs w) :
    Calls Tryd.prog 90 #[.agg #[.slice ab bs.length cb, .slice ae es.length ce], .string t] w (BlocksPost w bs es t) := by
  have h1 : Below w.heap.size w (w.alloc (.cells #[.slice ab bs.length cb, .slice ae es.length ce] 32)) := (Below.refl _ _).alloc (Nat.le_refl _) _
  have hpb1 := hpb.below h1
  have hpe1 := hpe.below h1
  have hg1 := hg.keep h1
  have H1 := Lib.hid h1; clear h1
  go_enter Tryd.func90, Tryd.ntmps90
  go_wp2_with fail
  refine (planOf_any _ bs es _ _ _ _ hpb1 hpe1 hg1).mono ?_
  rintro e w1 ⟨hb1, hcase⟩
  have hall : Below w.heap.size w w1 := H1.out.trans (hb1.mono (by simp))
  have hz := hall.size
  have c0 := (hb1.cell (p := ⟨w.heap.size, 0, none⟩) (by simp)).trans (show _ = some (.slice ab bs.length cb) by go_simp)
  have c1 := (hb1.cell (p := ⟨w.heap.size, 1, none⟩) (by simp)).trans (show _ = some (.slice ae es.length ce) by go_simp)
  have hz1 : w.heap.size < w1.heap.size := by have := hb1.size; simp at this; omega
  rcases hcase with ⟨hv, o, lo, li, rfl, hp⟩ | ⟨hv, ty, z, rfl⟩
  · have HV := Lib.hid (show validB bs es = true by simpa [validB] using hv)
    have HVV := Lib.hid hv
    clear hv
    cases ht : isTm t
    · have HT := Lib.hid ht
      clear ht
      go_wp2_with (go_at_call 73; refine (isTerm_lit _ _ HT.out _).mono ?_; rintro e w' ⟨rfl, rfl⟩)
      go_ret2
      exact ⟨hall.alloc hz _, .inr ⟨.inr HT.out, rfl⟩⟩
    · have hwa : Below w1.heap.size w1 (w1.alloc (.cells #[.map (some o), .map (some lo), .map (some li)] 83)) := (Below.refl _ _).alloc (Nat.le_refl _) _
      obtain ⟨F, hO0⟩ := hp.ops
      have hO := hO0.below hwa
      have h0 : 0 < t.size := by rw [isTm_size ht]; decide
      have hB : (t[0].toNat : Int) ≤ 255 := by have := t[0].toNat_lt; omega
      have HT := Lib.hid (And.intro ht (And.intro (isTm_bd ht) (byteAt_get h0)))
      have hl9 := HVV.out.b.hi
      have hpb2 := (hpb1.below hb1).below hwa
      have y0 : (w1.alloc (.cells #[.map (some o), .map (some lo), .map (some li)] 83)).cell? ⟨w1.heap.size, 0, none⟩ = some (.map (some o)) := by go_simp
      have hzW : w1.heap.size < (w1.alloc (.cells #[.map (some o), .map (some lo), .map (some li)] 83)).heap.size := by simp
      have HA := Lib.hid (And.intro hO (And.intro hpb2 (hall.alloc hz (.cells #[.map (some o), .map (some lo), .map (some li)] 83)))); clear hO0 hO hpb2 hwa hp hpb1 hpe1 hg1 ht hb1
      obtain ⟨i0, hi, hz0, hz4, hz2⟩ := info_parts Tryd.infoTB
      go_wp2_with (go_at_call 73; refine (isTerm_lit _ _ HT.out.1 _).mono ?_; rintro e w' ⟨rfl, rfl⟩)
      generalize w1.alloc (.cells #[.map (some o), .map (some lo), .map (some li)] 83) = wA at *
      have hzA := HA.out.2.2.size
      go_loopw [26, 8] (fun i v wr => ∃ k : Nat, k ≤ bs.length ∧ i = .int .i64 k ∧ wr.ownsRow wA.heap.size 129 4 v k (blkRow bs t k) ∧ Below wA.heap.size wA wr) (fun i _ _ => bs.length - (intOf i).toNat)
      case atStart => exact ⟨0, Nat.zero_le _, rfl, World.ownsRow_nil _ _ _ _, Below.refl _ _⟩
      case round =>
        obtain ⟨k, hk, rfl, hown, hbl⟩ := hrel
        have hs2 := hbl.size
        by_cases hlt : k < bs.length
        · obtain ⟨b, off, rfl, hb, g1, g2⟩ := HA.out.2.1.cell k hlt
          have d1 := (hbl.cell (p := ⟨b, off + k * 2, none⟩) hb).trans g1
          have d2 := (hbl.cell (p := ⟨b, off + k * 2 + 1, none⟩) hb).trans g2
          have d3 := (hbl.cell (p := ⟨w1.heap.size, 0, none⟩) hzW).trans y0
          have hsx : (nameAt bs k).size ≤ 1048576 := (HA.out.2.1.size k hlt).1
          have hOr := (HA.out.1.below hbl).below (show Below wr.heap.size wr (wr.alloc (.cells #[.string (nameAt bs k), .string (restAt bs k)] 40)) from (Below.refl _ _).alloc (Nat.le_refl _) _)
          obtain ⟨v, hFv, hrow⟩ := hOr.row _ (pair_mem hlt)
          have lk := (hOr.map.drew).look Tryd.underlying79 (zeroOps _) (mx hsx)
          rw [show F (nameAt bs k) = some v from hFv, Option.getD_some] at lk
          obtain ⟨va, vc, rfl⟩ := row_len3 hrow
          have hok : opsOk (restAt bs k) := HVV.out.b.op _ (pair_mem hlt)
          obtain ⟨wa, wc, rfl⟩ := own_form hown
          have hlt0 : (0 : Int) < (t.size : Int) := by omega
          have hn3 : w1.heap.size < wr.heap.size := by omega
          have HK := Lib.hid (And.intro hrow (And.intro hok (And.intro hown hbl)))
          have HE1 := Lib.hid (blkRow_succ bs t k)
          clear hrow hok hown hbl hFv hOr g1 g2
          have hbk := HT.out.2.2
          rw [hbk] at hB
          go_wp2
          have hFour := four_one (.int .u8 (fv (fsOf (restAt bs k) t))) (.string (nameAt bs k)) (.int .u8 (byteAt t 0 : Int)) (.int .i64 ((fsOf (restAt bs k) t).n : Int)) rfl rfl rfl rfl
          have HFour := Lib.hid hFour; clear hFour
          have a0 : (wr.alloc (.cells #[.string (nameAt bs k), .string (restAt bs k)] 40)).cell? ⟨wr.heap.size, 0, none⟩ = some (.string (nameAt bs k)) := by go_simp
          have a2 : (wr.alloc (.cells #[.string (nameAt bs k), .string (restAt bs k)] 40)).cell? ⟨w1.heap.size, 0, none⟩ = some (.map (some o)) := (World.cell?_alloc_lt _ _ _ hn3).trans d3
          have hzB : wr.heap.size < (wr.alloc (.cells #[.string (nameAt bs k), .string (restAt bs k)] 40)).heap.size := by simp
          have HWB := Lib.hid (show Below wr.heap.size wr (wr.alloc (.cells #[.string (nameAt bs k), .string (restAt bs k)] 40)).drew from ((Below.refl _ _).alloc (Nat.le_refl _) _).drew)
          generalize wr.alloc (.cells #[.string (nameAt bs k), .string (restAt bs k)] 40) = wB at *
          have hzw1 : w1.heap.size < wB.heap.size := by omega
          have hb1 : some wr.heap.size ≠ (Value.slice wa k wc).ownBlock := fun e => by have h9 := (HK.out.2.2.1.lt wr.heap.size e.symm).2; omega
          have hb2 : some w1.heap.size ≠ (Value.slice wa k wc).ownBlock := fun e => by have h9 := (HK.out.2.2.1.lt w1.heap.size e.symm).1; omega
          go_region_held3 (fun w' => w'.cell? ⟨wr.heap.size, 0, none⟩ = some (.string (nameAt bs k)) ∧ w'.cell? ⟨w1.heap.size, 0, none⟩ = some (.map (some o)))
            (first
              | exact ⟨a0, a2⟩
              | exact ⟨(hbN.cell (p := ⟨wr.heap.size, 0, none⟩) hzB).trans a0, (hbN.cell (p := ⟨w1.heap.size, 0, none⟩) hzw1).trans a2⟩
              | exact ⟨(World.cell?_alloc_lt _ _ _ (show wr.heap.size < wN.heap.size from Nat.lt_of_lt_of_le hzB hbN.size)).trans ((hbN.cell (p := ⟨wr.heap.size, 0, none⟩) hzB).trans a0), (World.cell?_alloc_lt _ _ _ (show w1.heap.size < wN.heap.size from Nat.lt_of_lt_of_le hzw1 hbN.size)).trans ((hbN.cell (p := ⟨w1.heap.size, 0, none⟩) hzw1).trans a2)⟩
              | exact ⟨(hgrow4.cell_far ⟨wr.heap.size, 0, none⟩ (by have h9 : wr.heap.size < wN.heap.size := Nat.lt_of_lt_of_le hzB hbN.size; simp; omega) hb1).trans ((World.cell?_alloc_lt _ _ _ (show wr.heap.size < wN.heap.size from Nat.lt_of_lt_of_le hzB hbN.size)).trans ((hbN.cell (p := ⟨wr.heap.size, 0, none⟩) hzB).trans a0)), (hgrow4.cell_far ⟨w1.heap.size, 0, none⟩ (by have h9 : w1.heap.size < wN.heap.size := Nat.lt_of_lt_of_le hzw1 hbN.size; simp; omega) hb2).trans ((World.cell?_alloc_lt _ _ _ (show w1.heap.size < wN.heap.size from Nat.lt_of_lt_of_le hzw1 hbN.size)).trans ((hbN.cell (p := ⟨w1.heap.size, 0, none⟩) hzw1).trans a2))⟩)
            (first
            | (go_at_call 144; refine (seenBlock_any _ _ (restAt bs k) (nameAt bs k) (byteAt t 0) HT.out.2.1 (by have := HK.out.2.1.1; omega) HK.out.2.1.2 (RowAt.keepB HK.out.1 (Below.refl _ _).drew)).mono ?_; rintro e wN ⟨rfl, hbN⟩)
            | (refine step_append_lies _ rfl (.tmp 30) (.tmp 41) 124 rfl wA.heap.size 129 i0 (.agg #[.int .u8 0, .string ⟨#[]⟩, .int .u8 0, .int .i64 0]) 4 40 Tryd.underlying124 hi hz0 hz4 hz2 rfl (by decide) _ k (blkRow bs t k) rfl ((ownsRow_below HK.out.2.2.1 (HWB.out.trans (hbN.mono HWB.out.size))).alloc _) ⟨wN.heap.size, 0, none⟩ 1 1 (blkCells bs t k) rfl rfl (cell_four_new _ _ _ _ _ _) HFour.out (by decide) (by unfold maxLen; omega) (by omega) (by have := hbN.size; simp at this ⊢; omega) _ rfl ?_; intro g' cap' w4 hown4 hgrow4 _ _))
          all_goals
            have hb4 : Below wA.heap.size wA w4 := (((HK.out.2.2.2.trans (HWB.out.mono hs2)).trans (hbN.mono (Nat.le_trans hs2 HWB.out.size))).alloc (Nat.le_trans hs2 (Nat.le_trans HWB.out.size hbN.size)) _).grown hgrow4 (by have h9 : wA.heap.size ≤ wN.heap.size := Nat.le_trans hs2 (Nat.le_trans HWB.out.size hbN.size); simp; omega) (fun j hj => (HK.out.2.2.1.lt j hj).1)
            go_wp2
            go_roundw
            case rel => exact ⟨k + 1, by omega, by go_num, by rw [HE1.out]; exact hown4, hb4⟩
            case measure => simp [intOf]; omega
        · obtain rfl : k = bs.length := by omega
          obtain ⟨wa, wc, rfl⟩ := own_form hown
          have HK := Lib.hid (And.intro (own_base hown hzA) (HA.out.2.2.trans (hbl.mono hzA)))
          clear hown hbl
          go_wp2
          go_ret2
          exact ⟨HK.out.2, .inl ⟨HV.out, HT.out.1, _, rfl, HK.out.1⟩⟩
  · have HV := Lib.hid (show validB bs es = false by simpa [validB] using hv)
    clear hv
    go_wp2
    go_ret2
    exact ⟨hall.alloc hz _, .inr ⟨.inl HV.out, rfl⟩⟩
end Go.Proofs.YtngcmjfkeageiaaDoor
end

section
/-
  FactsOf of the program. Conditions: at most 1048576 blocks and edges, each text at most as many bytes; the errors' variables hold errors.
-/
namespace Go.Proofs.YtngcmjfkeageiaaDoor
open Go.RowKit Go.Maps

theorem join_snoc2 (xs : List (List UInt8)) (h : xs ≠ []) (y sep : List UInt8) : Lib.join (xs ++ [y]) sep = Lib.join xs sep ++ sep ++ y := by
  cases xs with
  | nil => exact absurd rfl h
  | cons x r =>
    rw [List.cons_append, Lib.join_cons, Lib.join_cons]
    simp [Lib.joinTail, List.append_assoc]
/-- what is told of the first blocks, as a list -/
def partL (bs : List Pr) (t : ByteArray) (k : Nat) : List ByteArray := (List.range k).map (partT bs t)
theorem partL_succ (bs : List Pr) (t : ByteArray) (k : Nat) : partL bs t (k + 1) = partL bs t k ++ [partT bs t k] := by simp [partL, List.range_succ]
theorem partL_length (bs : List Pr) (t : ByteArray) (k : Nat) : (partL bs t k).length = k := by simp [partL]
theorem join_acc (bs : List Pr) (t : ByteArray) : ∀ k, (⟨(Lib.join ((partL bs t k).map (·.data.toList)) (⟨#[32]⟩ : ByteArray).data.toList).toArray⟩ : ByteArray) = accF bs t k
  | 0 => rfl
  | k + 1 => by
    have ih := congrArg (fun z : ByteArray => z.data.toList) (join_acc bs t k)
    simp only at ih
    apply bytes_ext2
    by_cases hk : 0 < k
    · rw [accF_next hk, partL_succ, List.map_append, List.map_cons, List.map_nil, join_snoc2 _ (by intro h; have := congrArg List.length h; simp [partL_length] at this; omega)]
      simp only [ByteArray.data_append, Array.toList_append, ← ih]
    · obtain rfl : k = 0 := by omega
      rw [accF_first hk]
      simp [partL, accF, Lib.join_one, ByteArray.data_append, e0]
theorem Join_parts (w : World) (v : Value) (bs es : List Pr) (t : ByteArray) (base : Nat) (hV : Valid bs es) (ho : w.ownsRow base 9 1 v bs.length ((partL bs t bs.length).map Value.string)) :
    Calls Tryd.prog 81 #[v, .string ⟨#[32]⟩] w fun e w' => e = .returned (.string (accF bs t bs.length)) ∧ Below w.heap.size w w' := by
  have h2 := hV.b.lo
  have h9 := hV.b.hi
  obtain ⟨h1, ⟨rfl, h0⟩ | ⟨g, cap, cur, rfl, _, hg, hc, hm, hcs, ht⟩⟩ := ho
  · omega
  · have hlen : (partL bs t bs.length).length = bs.length := partL_length _ _ _
    have hj : (Lib.join ((partL bs t bs.length).map (·.data.toList)) (⟨#[32]⟩ : ByteArray).data.toList).length ≤ 100 := by
      have := congrArg ByteArray.size (join_acc bs t bs.length)
      have h3 := accF_size hV t bs.length (Nat.le_refl _)
      have h4 : (⟨(Lib.join ((partL bs t bs.length).map (·.data.toList)) (⟨#[32]⟩ : ByteArray).data.toList).toArray⟩ : ByteArray).size = (Lib.join ((partL bs t bs.length).map (·.data.toList)) (⟨#[32]⟩ : ByteArray).data.toList).length := by simp [ByteArray.size]
      omega
    have := Tryd.strings_Join g 0 cap (partL bs t bs.length) ⟨#[32]⟩ w (fun j x hx => ?_) (Array.getElem?_eq_some_iff.1 hg).1 (by omega) (by omega) (by omega)
    · rw [join_acc, hlen] at this
      exact this
    · have hjl : j < bs.length := by have := (List.getElem?_eq_some_iff.1 hx).1; omega
      have hv : (cur.toList.take (bs.length * 1))[j]? = some (.string x) := by rw [ht]; simp [hx]
      rw [List.getElem?_take, if_pos (by omega)] at hv
      simp only [Nat.zero_add]
      simp [World.cell?, hg]
      simpa using hv

set_option maxRecDepth 100000 in
set_option maxHeartbeats 3200000 in
theorem FactsOf_impl (w : World) (bs es : List Pr) (ab ae : Option Addr) (cb ce : Nat) (t : ByteArray) (hpb : PairsAt w ab bs) (hpe : PairsAt w ae es) (hg : Errs w) :
    Calls Tryd.prog 36 #[.agg #[.slice ab bs.length cb, .slice ae es.length ce], .string t] w fun e w' => e = .returned (factsV bs es t) ∧ Below w.heap.size w w' := by
  have h1 : Below w.heap.size w (w.alloc (.cells #[.slice ab bs.length cb, .slice ae es.length ce] 32)) := (Below.refl _ _).alloc (Nat.le_refl _) _
  have hpb1 := hpb.below h1
  have hpe1 := hpe.below h1
  have hg1 := hg.keep h1
  have H1 := Lib.hid h1; clear h1
  obtain ⟨i0, hi, hz0, hz1, hz2⟩ := info_parts Tryd.infoStr
  go_enter Tryd.func36, Tryd.ntmps36
  go_wp2_with fail
  refine (termBlocksOf_any _ bs es _ _ _ _ t hpb1 hpe1 hg1).mono ?_
  rintro e w1 ⟨hb1, hcase⟩
  have hall : Below w.heap.size w w1 := H1.out.trans (hb1.mono (by simp))
  have hz := hall.size
  rcases hcase with ⟨hv, ht, v, rfl, hown⟩ | ⟨hno, rfl⟩
  · have HN := Lib.hid (factsV_yes hv ht)
    have HV := Lib.hid (show Valid bs es by simpa [validB] using hv)
    have hl9 := HV.out.b.hi
    obtain ⟨n, hn⟩ : ∃ n, bs.length = n + 1 := ⟨bs.length - 1, by have := HV.out.b.lo; omega⟩
    have hown2 : w1.ownsRow (w.alloc (.cells #[.slice ab bs.length cb, .slice ae es.length ce] 32)).heap.size 129 4 v (n + 1) (blkRow bs t bs.length) := by rw [← hn]; exact hown
    obtain ⟨g, cap, hvv, _, hgw, _, _, hcells⟩ := own_lastS hown2
    rw [← hn] at hvv
    subst hvv
    have HC := Lib.hid hcells
    clear hown hown2 hn hcells hv ht hpb1 hpe1 hg1 hb1
    go_wp2
    go_loopw [21, 8] (fun i v wr => ∃ k : Nat, k ≤ bs.length ∧ i = .int .i64 k ∧ wr.ownsRow w1.heap.size 9 1 v k ((partL bs t k).map Value.string) ∧ Below w1.heap.size w1 wr) (fun i _ _ => bs.length - (intOf i).toNat)
    case atStart => exact ⟨0, Nat.zero_le _, rfl, World.ownsRow_nil _ _ _ _, Below.refl _ _⟩
    case round =>
      obtain ⟨k, hk, rfl, hown, hbl⟩ := hrel
      have hs2 := hbl.size
      by_cases hlt : k < bs.length
      · have x0 := (hbl.cell (p := ⟨g, k * 4 + 0, none⟩) hgw).trans (HC.out (k * 4 + 0) _ (blkRow_at bs t bs.length k 0 hlt (by decide)))
        have x1 := (hbl.cell (p := ⟨g, k * 4 + 1, none⟩) hgw).trans (HC.out (k * 4 + 1) _ (blkRow_at bs t bs.length k 1 hlt (by decide)))
        have x2 := (hbl.cell (p := ⟨g, k * 4 + 2, none⟩) hgw).trans (HC.out (k * 4 + 2) _ (blkRow_at bs t bs.length k 2 hlt (by decide)))
        have x3 := (hbl.cell (p := ⟨g, k * 4 + 3, none⟩) hgw).trans (HC.out (k * 4 + 3) _ (blkRow_at bs t bs.length k 3 hlt (by decide)))
        simp only [Nat.add_zero] at x0
        have hs1 := HV.out.name_size (nameAt_mem hlt)
        have hs6 := (HV.out.b.op _ (pair_mem hlt)).1
        have hfn := fsOf_n (restAt bs k) t
        simp only at hs6
        have HX := Lib.hid (And.intro (show (nameAt bs k).size ≤ 1 by omega) (show (fsOf (restAt bs k) t).n ≤ 6 by omega))
        have HP := Lib.hid (partL_succ bs t k)
        have HO := Lib.hid (And.intro hown hbl)
        clear hs1 hs6 hfn hbl
        go_wp2_with fail
        refine (text_any (fsOf (restAt bs k) t) (nameAt bs k) (byteAt t 0 : Int) HX.out.1 HX.out.2 _).mono ?_
        rintro e w3 ⟨rfl, hb3⟩
        have hbw3 : Below wr.heap.size wr w3 := ((Below.refl _ _).alloc (Nat.le_refl _) _).trans (hb3.mono (by simp))
        have hz3 : w1.heap.size ≤ w3.heap.size := Nat.le_trans hs2 hbw3.size
        have hown3 := ownsRow_below HO.out.1 hbw3
        have hb13 := HO.out.2.trans (hbw3.mono hs2)
        have HB := Lib.hid (And.intro hown3 hb13)
        clear hown hb3 hbw3 hown3 hb13
        go_wp2_with (at_builtin; refine wpList_append_own _ rfl _ _ 38 rfl w1.heap.size 9 i0 (.string ⟨#[]⟩) 1 16 Tryd.underlying38 hi hz0 hz1 hz2 rfl (by decide) _ _ _ rfl (HB.out.1.alloc _) ⟨w3.heap.size, 0, none⟩ 1 1 [.string (nameAt bs k ++ dg (fsOf (restAt bs k) t).n ++ mkT (fsOf (restAt bs k) t))] rfl rfl (cell_one_new _ _ _) (one_one _ rfl) (by unfold maxLen; omega) (by omega) (by simp; omega) ?_; intro v' w4 hown4 hgrow4 _)
        have hb4 : Below w1.heap.size w1 w4 := (HB.out.2.alloc hz3 _).grown hgrow4 (by simp; omega) (fun j hj => (HB.out.1.lt j hj).1)
        go_roundw
        case rel => exact ⟨k + 1, by omega, by go_num, by rw [HP.out, List.map_append]; exact hown4, hb4⟩
        case measure => simp [intOf]; omega
      · obtain rfl : k = bs.length := by omega
        have HO := Lib.hid (And.intro hown hbl)
        clear hown hbl
        go_wp2_with fail
        refine (Join_parts _ _ bs es t _ HV.out HO.out.1).mono ?_
        rintro e w3 ⟨rfl, hb3⟩
        have hfin := hall.trans ((HO.out.2.trans (hb3.mono hs2)).mono hz)
        go_wp2
        go_ret2
        exact ⟨by rw [HN.out]; rfl, hfin⟩
  · have HN := Lib.hid (show factsV bs es t = .tuple #[.string e0, .bool false] by
      rcases hno with h | h
      · exact factsV_no1 h
      · exact factsV_no2 h)
    clear hno
    go_wp2
    go_ret2
    exact ⟨by rw [HN.out]; rfl, hall⟩
end Go.Proofs.YtngcmjfkeageiaaDoor
end
