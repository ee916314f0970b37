import Derived.Test.YthkhccfemdjioaaDoorFsT
import Derived.Test.YthkhccfemdjioaaDoorRows4
import Derived.Test.YthkhccfemdjioaaDoorShelf
section
/-
  FactsOf of the model: the walk. Conditions: at most 1048576 blocks and edges, each text at most as many bytes.
-/
namespace Go.Proofs.YthkhccfemdjioaaDoor
open Go.RowKit Go.Maps

set_option maxRecDepth 100000 in
set_option maxHeartbeats 6400000 in
theorem FactsOf_spec (w : World) (bs es : List Pr) (ab ae : Option Addr) (cb ce : Nat) (t : ByteArray) (hpb : PairsAt w ab bs) (hpe : PairsAt w ae es) :
    Calls Tryd.prog 50 #[.agg #[.slice ab bs.length cb, .slice ae es.length ce], .string t] w fun e w' => e = .returned (factsV bs es t) ∧ Below w.heap.size w w' := by
  have h1 : Below w.heap.size w (w.alloc (.cells #[.slice ab bs.length cb, .slice ae es.length ce] 32)) := (Below.refl _ _).alloc (Nat.le_refl _) _
  have hpb1 := hpb.below h1
  have hpe1 := hpe.below h1
  have H1 := Lib.hid h1; clear h1
  go_enter Tryd.func50, Tryd.ntmps50
  go_wp2_with fail
  refine (ProgValid_spec _ bs es _ _ _ _ hpb1 hpe1).mono ?_
  rintro e w1 ⟨rfl, hb1⟩
  have hall : Below w.heap.size w w1 := H1.out.trans (hb1.mono (by simp))
  have hpb2 := hpb1.below hb1
  have c0 := (hb1.cell (p := ⟨w.heap.size, 0, none⟩) (by simp)).trans (show _ = some (.slice ab bs.length cb) by go_simp)
  have c1 := (hb1.cell (p := ⟨w.heap.size, 1, none⟩) (by simp)).trans (show _ = some (.slice ae es.length ce) by go_simp)
  have hz := hall.size
  cases hv : validB bs es
  · have HN := Lib.hid (factsV_no1 (t := t) hv)
    clear hv
    go_wp2
    go_ret2
    exact ⟨by rw [HN.out]; rfl, hall⟩
  · cases ht : isTm t
    · have HN := Lib.hid (factsV_no2 (bs := bs) (es := es) ht)
      have HT := Lib.hid ht
      clear hv ht
      go_wp2_with (go_at_call 78; refine (l1Term_lit _ _ HT.out _).mono ?_; rintro e w' ⟨rfl, rfl⟩)
      go_ret2
      exact ⟨by rw [HN.out]; rfl, hall⟩
    · have HN := Lib.hid (factsV_yes hv ht)
      have HT := Lib.hid ht
      have HV := Lib.hid (show Valid bs es by simpa [validB] using hv)
      have hl9 := HV.out.b.hi
      clear hv ht
      go_wp2_with (go_at_call 78; refine (l1Term_lit _ _ HT.out _).mono ?_; rintro e w' ⟨rfl, rfl⟩)
      go_loopw [20, 6] (fun i v wr => ∃ k : Nat, k ≤ bs.length ∧ i = .int .i64 k ∧ v = .string (accF bs t k) ∧ Below w1.heap.size w1 wr) (fun i _ _ => bs.length - (intOf i).toNat)
      case atStart => exact ⟨0, Nat.zero_le _, rfl, rfl, Below.refl _ _⟩
      case round =>
        obtain ⟨k, hk, rfl, rfl, hbl⟩ := hrel
        by_cases hlt : k < bs.length
        · obtain ⟨b, off, rfl, hb, g1, g2⟩ := hpb2.cell k hlt
          have d1 := (hbl.cell (p := ⟨b, off + k * 2, none⟩) hb).trans g1
          have d2 := (hbl.cell (p := ⟨b, off + k * 2 + 1, none⟩) hb).trans g2
          have hz2 := hbl.size
          have s1 := accF_size HV.out t k hk
          have s2 := HV.out.name_size (nameAt_mem hlt)
          have s3 := (HV.out.b.op _ (pair_mem hlt)).1
          have s4 := fsOf_n (restAt bs k) t
          simp only at s3
          obtain ⟨A, hA⟩ : ∃ A, A = accF bs t k := ⟨_, rfl⟩
          rw [← hA] at s1 ⊢
          have hyA : Below w1.heap.size w1 (wr.alloc (.cells #[.string (nameAt bs k), .string (restAt bs k)] 52)) := hbl.alloc hz2 _
          have HY := Lib.hid hyA; clear hyA
          have y0 : (wr.alloc (.cells #[.string (nameAt bs k), .string (restAt bs k)] 52)).cell? ⟨wr.heap.size, 0, none⟩ = some (.string (nameAt bs k)) := by go_simp
          have y1 : (wr.alloc (.cells #[.string (nameAt bs k), .string (restAt bs k)] 52)).cell? ⟨wr.heap.size, 1, none⟩ = some (.string (restAt bs k)) := by go_simp
          have hzB : wr.heap.size < (wr.alloc (.cells #[.string (nameAt bs k), .string (restAt bs k)] 52)).heap.size := by simp
          have hT := HT.out
          have h32 : (⟨#[32]⟩ : ByteArray).size = 1 := rfl
          by_cases h0 : 0 < k
          · have hE : accF bs t (k + 1) = (A ++ ⟨#[32]⟩) ++ partT bs t k := by rw [accF_next h0, hA]
            have t0 : ¬ 9223372036854775807 < A.size + (⟨#[32]⟩ : ByteArray).size := by omega
            have hA2 : (A ++ ⟨#[32]⟩).size ≤ 60 := by rw [ByteArray.size_append]; omega
            have HE0 := Lib.hid hE; have HT0 := Lib.hid hT; have HA0 := Lib.hid (And.intro hA hA2)
            clear hE hT hA hA2 h32
            go_wp2
            clear t0
            have hE := HE0.out; have hT := HT0.out; have hA := HA0.out.1; have hA2 := HA0.out.2
            clear HE0 HA0
            generalize A ++ ⟨#[32]⟩ = A2 at *
            generalize wr.alloc (.cells #[.string (nameAt bs k), .string (restAt bs k)] 52) = wB at *
            obtain ⟨a, ha⟩ : ∃ a, (fsOf (restAt bs k) t).up = a := ⟨_, rfl⟩
            obtain ⟨bb, hbb⟩ : ∃ a, (fsOf (restAt bs k) t).dn = a := ⟨_, rfl⟩
            obtain ⟨c, hc⟩ : ∃ a, (fsOf (restAt bs k) t).cl = a := ⟨_, rfl⟩
            have HE := Lib.hid (show accF bs t (k + 1) = letT (A2 ++ nameAt bs k ++ dg (fsOf (restAt bs k) t).n) a bb c by
              rw [hE, letT_eq]
              unfold partT mkT
              rw [ha, hbb, hc, ByteArray.append_assoc, ByteArray.append_assoc, ByteArray.append_assoc])
            have HF := Lib.hid (And.intro ha (And.intro hbb (And.intro hc (And.intro hT (show (restAt bs k).size ≤ 1048576 by omega)))))
            clear hE ha hbb hc hA
            have hn6 : (fsOf (restAt bs k) t).n ≤ 6 := by omega
            have nu : (⟨#[117]⟩ : ByteArray).size = 1 := rfl
            have nd : (⟨#[100]⟩ : ByteArray).size = 1 := rfl
            have nc : (⟨#[99]⟩ : ByteArray).size = 1 := rfl
            have n1 : ¬ (A2.size + (nameAt bs k).size > 9223372036854775807) := by omega
            have n2 : ¬ (A2.size + (nameAt bs k).size + (dg (fsOf (restAt bs k) t).n).size > 9223372036854775807) := by rw [dg_size]; omega
            have m1 : ¬ 9223372036854775807 < (A2 ++ nameAt bs k ++ dg (fsOf (restAt bs k) t).n).size + (⟨#[117]⟩ : ByteArray).size := by rw [ByteArray.size_append, ByteArray.size_append, dg_size]; omega
            have m2 : ¬ 9223372036854775807 < (A2 ++ nameAt bs k ++ dg (fsOf (restAt bs k) t).n).size + (⟨#[100]⟩ : ByteArray).size := by rw [ByteArray.size_append, ByteArray.size_append, dg_size]; omega
            have m3 : ¬ 9223372036854775807 < (A2 ++ nameAt bs k ++ dg (fsOf (restAt bs k) t).n).size + (⟨#[99]⟩ : ByteArray).size := by rw [ByteArray.size_append, ByteArray.size_append, dg_size]; omega
            have m4 : ¬ 9223372036854775807 < (A2 ++ nameAt bs k ++ dg (fsOf (restAt bs k) t).n).size + (⟨#[117]⟩ : ByteArray).size + (⟨#[100]⟩ : ByteArray).size := by rw [ByteArray.size_append, ByteArray.size_append, dg_size]; omega
            have m5 : ¬ 9223372036854775807 < (A2 ++ nameAt bs k ++ dg (fsOf (restAt bs k) t).n).size + (⟨#[117]⟩ : ByteArray).size + (⟨#[99]⟩ : ByteArray).size := by rw [ByteArray.size_append, ByteArray.size_append, dg_size]; omega
            have m6 : ¬ 9223372036854775807 < (A2 ++ nameAt bs k ++ dg (fsOf (restAt bs k) t).n).size + (⟨#[100]⟩ : ByteArray).size + (⟨#[99]⟩ : ByteArray).size := by rw [ByteArray.size_append, ByteArray.size_append, dg_size]; omega
            have m7 : ¬ 9223372036854775807 < (A2 ++ nameAt bs k ++ dg (fsOf (restAt bs k) t).n).size + (⟨#[117]⟩ : ByteArray).size + (⟨#[100]⟩ : ByteArray).size + (⟨#[99]⟩ : ByteArray).size := by rw [ByteArray.size_append, ByteArray.size_append, dg_size]; omega
            clear nu nd nc s2
            have HM := Lib.hid (And.intro m1 (And.intro m2 (And.intro m3 (And.intro m4 (And.intro m5 (And.intro m6 m7)))))); clear m1 m2 m3 m4 m5 m6 m7
            go_region_held3 (fun w' => w'.cell? ⟨wr.heap.size, 0, none⟩ = some (.string (nameAt bs k)) ∧ w'.cell? ⟨wr.heap.size, 1, none⟩ = some (.string (restAt bs k)) ∧ Below wB.heap.size wB w')
              (first
                | exact ⟨y0, y1, (Below.refl _ _).drew⟩
                | (have hq := below_new (‹_ ∧ _ ∧ Below wB.heap.size wB _›).2.2 hbN; exact ⟨(hq.cell (p := ⟨wr.heap.size, 0, none⟩) hzB).trans y0, (hq.cell (p := ⟨wr.heap.size, 1, none⟩) hzB).trans y1, hq⟩)
                | (have hq := below_new (‹_ ∧ _ ∧ Below wB.heap.size wB _›).2.2 hbM; exact ⟨(hq.cell (p := ⟨wr.heap.size, 0, none⟩) hzB).trans y0, (hq.cell (p := ⟨wr.heap.size, 1, none⟩) hzB).trans y1, hq⟩))
              (first
                | (go_at_call 109; refine (l3Groups_any (restAt bs k) t _ HF.out.2.2.2.2 HF.out.2.2.2.1).mono ?_; rintro e wM ⟨rfl, hbM⟩)
                | (go_at_call 108; refine (l15Dec_any _ hn6 _).mono ?_; rintro e wN ⟨rfl, hbN⟩))
            obtain ⟨k0, k1, kb⟩ := (‹_ ∧ _ ∧ Below wB.heap.size wB wN›)
            have kz : wr.heap.size < wN.heap.size := by have := kb.size; omega
            have KB := Lib.hid (HY.out.trans (kb.mono HY.out.size))
            clear n1 n2 k0 kb hbN
            generalize A2 ++ nameAt bs k ++ dg (fsOf (restAt bs k) t).n = O at *
            have m1 := HM.out.1
            have m2 := HM.out.2.1
            have m3 := HM.out.2.2.1
            have m4 := HM.out.2.2.2.1
            have m5 := HM.out.2.2.2.2.1
            have m6 := HM.out.2.2.2.2.2.1
            have m7 := HM.out.2.2.2.2.2.2
            cases a <;> cases bb <;> cases c
            all_goals
              go_wp2_with fail
              refine (l3Up_lit (restAt bs k) t _ HF.out.1 _ HF.out.2.2.2.2 HF.out.2.2.2.1).mono ?_
              rintro e w5 ⟨rfl, hb5⟩
              have k5 := (hb5.cell (p := ⟨wr.heap.size, 1, none⟩) kz).trans k1
              have kz5 : wr.heap.size < w5.heap.size := by have := hb5.size; omega
              go_wp2_with fail
              refine (l3Down_lit (restAt bs k) t _ HF.out.2.1 _ HF.out.2.2.2.2 HF.out.2.2.2.1).mono ?_
              rintro e w6 ⟨rfl, hb6⟩
              have k6 := (hb6.cell (p := ⟨wr.heap.size, 1, none⟩) kz5).trans k5
              go_wp2_with fail
              refine (l3Clear_lit (restAt bs k) t _ HF.out.2.2.1 _ HF.out.2.2.2.2 HF.out.2.2.2.1).mono ?_
              rintro e w7 ⟨rfl, hb7⟩
              have KB7 := Lib.hid (KB.out.trans (((hb5.trans (hb6.mono hb5.size)).trans (hb7.mono (Nat.le_trans hb5.size hb6.size))).mono KB.out.size))
              clear hb5 hb6 hb7
              go_wp2
              go_roundw
              case rel => exact ⟨k + 1, by omega, by go_num, by rw [HE.out]; rfl, KB7.out⟩
              case measure => simp [intOf]; omega
          · have hE : accF bs t (k + 1) = A ++ partT bs t k := by rw [accF_first h0, hA]
            have hA2 : A.size ≤ 60 := by omega
            have HE0 := Lib.hid hE; have HT0 := Lib.hid hT; have HA0 := Lib.hid hA
            clear hE hT hA h32
            go_wp2
            have hE := HE0.out; have hT := HT0.out; have hA := HA0.out
            clear HE0 HA0
            generalize wr.alloc (.cells #[.string (nameAt bs k), .string (restAt bs k)] 52) = wB at *
            obtain ⟨A2, rfl⟩ : ∃ A2, A2 = A := ⟨_, rfl⟩
            obtain ⟨a, ha⟩ : ∃ a, (fsOf (restAt bs k) t).up = a := ⟨_, rfl⟩
            obtain ⟨bb, hbb⟩ : ∃ a, (fsOf (restAt bs k) t).dn = a := ⟨_, rfl⟩
            obtain ⟨c, hc⟩ : ∃ a, (fsOf (restAt bs k) t).cl = a := ⟨_, rfl⟩
            have HE := Lib.hid (show accF bs t (k + 1) = letT (A2 ++ nameAt bs k ++ dg (fsOf (restAt bs k) t).n) a bb c by
              rw [hE, letT_eq]
              unfold partT mkT
              rw [ha, hbb, hc, ByteArray.append_assoc, ByteArray.append_assoc, ByteArray.append_assoc])
            have HF := Lib.hid (And.intro ha (And.intro hbb (And.intro hc (And.intro hT (show (restAt bs k).size ≤ 1048576 by omega)))))
            clear hE ha hbb hc hA
            have hn6 : (fsOf (restAt bs k) t).n ≤ 6 := by omega
            have nu : (⟨#[117]⟩ : ByteArray).size = 1 := rfl
            have nd : (⟨#[100]⟩ : ByteArray).size = 1 := rfl
            have nc : (⟨#[99]⟩ : ByteArray).size = 1 := rfl
            have n1 : ¬ (A2.size + (nameAt bs k).size > 9223372036854775807) := by omega
            have n2 : ¬ (A2.size + (nameAt bs k).size + (dg (fsOf (restAt bs k) t).n).size > 9223372036854775807) := by rw [dg_size]; omega
            have m1 : ¬ 9223372036854775807 < (A2 ++ nameAt bs k ++ dg (fsOf (restAt bs k) t).n).size + (⟨#[117]⟩ : ByteArray).size := by rw [ByteArray.size_append, ByteArray.size_append, dg_size]; omega
            have m2 : ¬ 9223372036854775807 < (A2 ++ nameAt bs k ++ dg (fsOf (restAt bs k) t).n).size + (⟨#[100]⟩ : ByteArray).size := by rw [ByteArray.size_append, ByteArray.size_append, dg_size]; omega
            have m3 : ¬ 9223372036854775807 < (A2 ++ nameAt bs k ++ dg (fsOf (restAt bs k) t).n).size + (⟨#[99]⟩ : ByteArray).size := by rw [ByteArray.size_append, ByteArray.size_append, dg_size]; omega
            have m4 : ¬ 9223372036854775807 < (A2 ++ nameAt bs k ++ dg (fsOf (restAt bs k) t).n).size + (⟨#[117]⟩ : ByteArray).size + (⟨#[100]⟩ : ByteArray).size := by rw [ByteArray.size_append, ByteArray.size_append, dg_size]; omega
            have m5 : ¬ 9223372036854775807 < (A2 ++ nameAt bs k ++ dg (fsOf (restAt bs k) t).n).size + (⟨#[117]⟩ : ByteArray).size + (⟨#[99]⟩ : ByteArray).size := by rw [ByteArray.size_append, ByteArray.size_append, dg_size]; omega
            have m6 : ¬ 9223372036854775807 < (A2 ++ nameAt bs k ++ dg (fsOf (restAt bs k) t).n).size + (⟨#[100]⟩ : ByteArray).size + (⟨#[99]⟩ : ByteArray).size := by rw [ByteArray.size_append, ByteArray.size_append, dg_size]; omega
            have m7 : ¬ 9223372036854775807 < (A2 ++ nameAt bs k ++ dg (fsOf (restAt bs k) t).n).size + (⟨#[117]⟩ : ByteArray).size + (⟨#[100]⟩ : ByteArray).size + (⟨#[99]⟩ : ByteArray).size := by rw [ByteArray.size_append, ByteArray.size_append, dg_size]; omega
            clear nu nd nc s2
            have HM := Lib.hid (And.intro m1 (And.intro m2 (And.intro m3 (And.intro m4 (And.intro m5 (And.intro m6 m7)))))); clear m1 m2 m3 m4 m5 m6 m7
            go_region_held3 (fun w' => w'.cell? ⟨wr.heap.size, 0, none⟩ = some (.string (nameAt bs k)) ∧ w'.cell? ⟨wr.heap.size, 1, none⟩ = some (.string (restAt bs k)) ∧ Below wB.heap.size wB w')
              (first
                | exact ⟨y0, y1, (Below.refl _ _).drew⟩
                | (have hq := below_new (‹_ ∧ _ ∧ Below wB.heap.size wB _›).2.2 hbN; exact ⟨(hq.cell (p := ⟨wr.heap.size, 0, none⟩) hzB).trans y0, (hq.cell (p := ⟨wr.heap.size, 1, none⟩) hzB).trans y1, hq⟩)
                | (have hq := below_new (‹_ ∧ _ ∧ Below wB.heap.size wB _›).2.2 hbM; exact ⟨(hq.cell (p := ⟨wr.heap.size, 0, none⟩) hzB).trans y0, (hq.cell (p := ⟨wr.heap.size, 1, none⟩) hzB).trans y1, hq⟩))
              (first
                | (go_at_call 109; refine (l3Groups_any (restAt bs k) t _ HF.out.2.2.2.2 HF.out.2.2.2.1).mono ?_; rintro e wM ⟨rfl, hbM⟩)
                | (go_at_call 108; refine (l15Dec_any _ hn6 _).mono ?_; rintro e wN ⟨rfl, hbN⟩))
            obtain ⟨k0, k1, kb⟩ := (‹_ ∧ _ ∧ Below wB.heap.size wB wN›)
            have kz : wr.heap.size < wN.heap.size := by have := kb.size; omega
            have KB := Lib.hid (HY.out.trans (kb.mono HY.out.size))
            clear n1 n2 k0 kb hbN
            generalize A2 ++ nameAt bs k ++ dg (fsOf (restAt bs k) t).n = O at *
            have m1 := HM.out.1
            have m2 := HM.out.2.1
            have m3 := HM.out.2.2.1
            have m4 := HM.out.2.2.2.1
            have m5 := HM.out.2.2.2.2.1
            have m6 := HM.out.2.2.2.2.2.1
            have m7 := HM.out.2.2.2.2.2.2
            cases a <;> cases bb <;> cases c
            all_goals
              go_wp2_with fail
              refine (l3Up_lit (restAt bs k) t _ HF.out.1 _ HF.out.2.2.2.2 HF.out.2.2.2.1).mono ?_
              rintro e w5 ⟨rfl, hb5⟩
              have k5 := (hb5.cell (p := ⟨wr.heap.size, 1, none⟩) kz).trans k1
              have kz5 : wr.heap.size < w5.heap.size := by have := hb5.size; omega
              go_wp2_with fail
              refine (l3Down_lit (restAt bs k) t _ HF.out.2.1 _ HF.out.2.2.2.2 HF.out.2.2.2.1).mono ?_
              rintro e w6 ⟨rfl, hb6⟩
              have k6 := (hb6.cell (p := ⟨wr.heap.size, 1, none⟩) kz5).trans k5
              go_wp2_with fail
              refine (l3Clear_lit (restAt bs k) t _ HF.out.2.2.1 _ HF.out.2.2.2.2 HF.out.2.2.2.1).mono ?_
              rintro e w7 ⟨rfl, hb7⟩
              have KB7 := Lib.hid (KB.out.trans (((hb5.trans (hb6.mono hb5.size)).trans (hb7.mono (Nat.le_trans hb5.size hb6.size))).mono KB.out.size))
              clear hb5 hb6 hb7
              go_wp2
              go_roundw
              case rel => exact ⟨k + 1, by omega, by go_num, by rw [HE.out]; rfl, KB7.out⟩
              case measure => simp [intOf]; omega
        · obtain rfl : k = bs.length := by omega
          have hfin := hall.trans (hbl.mono hz)
          go_wp2
          go_ret2
          exact ⟨by rw [HN.out]; rfl, hfin⟩
end Go.Proofs.YthkhccfemdjioaaDoor
end

section
/-
  The program's termBlock.text and termBlocksOf. Conditions: at most 1048576 blocks and edges, each text at most as many bytes; the errors' variables hold errors.
-/
namespace Go.Proofs.YthkhccfemdjioaaDoor
open Go.RowKit Go.Maps

set_option maxRecDepth 100000 in
set_option maxHeartbeats 1600000 in
theorem text_any (s : FS) (x : ByteArray) (t : Int) (hx : x.size ≤ 1) (hn : s.n ≤ 6) (w : World) :
    Calls Tryd.prog 107 #[.agg #[.int .u8 (fv s), .string x, .int .u8 t, .int .i64 (s.n : Int)]] w fun e w' => e = .returned (.string (x ++ dg s.n ++ mkT s)) ∧ Below w.heap.size w w' := by
  have h1 : Below w.heap.size w (w.alloc (.cells #[.int .u8 (fv s), .string x, .int .u8 t, .int .i64 (s.n : Int)] 133)) := (Below.refl _ _).alloc (Nat.le_refl _) _
  have y0 : (w.alloc (.cells #[.int .u8 (fv s), .string x, .int .u8 t, .int .i64 (s.n : Int)] 133)).cell? ⟨w.heap.size, 0, none⟩ = some (.int .u8 (fv s)) := by go_simp
  have y1 : (w.alloc (.cells #[.int .u8 (fv s), .string x, .int .u8 t, .int .i64 (s.n : Int)] 133)).cell? ⟨w.heap.size, 1, none⟩ = some (.string x) := by go_simp
  have y3 : (w.alloc (.cells #[.int .u8 (fv s), .string x, .int .u8 t, .int .i64 (s.n : Int)] 133)).cell? ⟨w.heap.size, 3, none⟩ = some (.int .i64 (s.n : Int)) := by go_simp
  have H1 := Lib.hid h1; clear h1
  have hm := mkB_size s.up s.dn s.cl
  have n1 : ¬ (x.size + (dg s.n).size > 9223372036854775807) := by rw [dg_size]; omega
  have n2 : ¬ (x.size + (dg s.n).size + (mkT s).size > 9223372036854775807) := by unfold mkT; rw [dg_size]; omega
  have n3 : ¬ 9223372036854775807 < x.size + (dg s.n).size := by omega
  have n4 : ¬ 9223372036854775807 < x.size + (dg s.n).size + (mkT s).size := by omega
  clear hm
  go_enter Tryd.func107, Tryd.ntmps107
  go_wp2
  generalize w.alloc (.cells #[.int .u8 (fv s), .string x, .int .u8 t, .int .i64 (s.n : Int)] 133) = wB at *
  go_quiet (first
    | exact Calls.quiet_of_same ((Itoa_any s.n hn _).mono fun _ _ h => ⟨h.1, h.2.symm⟩)
    | exact Calls.quiet_of_same ((marks_any s _).mono fun _ _ h => ⟨h.1, h.2.symm⟩))
  go_wp2
  go_ret
  exact ⟨rfl, below_drewN H1.out _⟩

/-- a block as a term sees it, as cells of a row -/
def blkCells (bs : List Pr) (t : ByteArray) (k : Nat) : List Value := [.int .u8 (fv (fsOf (restAt bs k) t)), .string (nameAt bs k), .int .u8 (byteAt t 0 : Int), .int .i64 ((fsOf (restAt bs k) t).n : Int)]
def blkRow (bs : List Pr) (t : ByteArray) (k : Nat) : List Value := ((List.range k).map (blkCells bs t)).flatten
theorem blkRow_succ (bs : List Pr) (t : ByteArray) (k : Nat) : blkRow bs t (k + 1) = blkRow bs t k ++ blkCells bs t k := by
  unfold blkRow
  rw [List.range_succ, List.map_append, List.flatten_append]
  simp
theorem blkRow_length (bs : List Pr) (t : ByteArray) : ∀ k, (blkRow bs t k).length = k * 4
  | 0 => rfl
  | k + 1 => by rw [blkRow_succ, List.length_append, blkRow_length bs t k]; show k * 4 + 4 = _; omega
theorem blkRow_at (bs : List Pr) (t : ByteArray) : ∀ (k i j : Nat), i < k → j < 4 → (blkRow bs t k)[i * 4 + j]? = (blkCells bs t i)[j]?
  | 0, i, _, h, _ => absurd h (Nat.not_lt_zero _)
  | k + 1, i, j, h, hj => by
    rw [blkRow_succ]
    rcases Nat.lt_or_ge i k with h' | h'
    · rw [List.getElem?_append_left (by rw [blkRow_length]; omega)]
      exact blkRow_at bs t k i j h' hj
    · obtain rfl : i = k := by omega
      rw [List.getElem?_append_right (by rw [blkRow_length]; omega), blkRow_length]
      congr 1
      omega

/-- what termBlocksOf leaves -/
def BlocksPost (w : World) (bs es : List Pr) (t : ByteArray) (e : Ending) (w' : World) : Prop :=
  Below w.heap.size w w' ∧ ((validB bs es = true ∧ isTm t = true ∧ ∃ v, e = .returned (.tuple #[v, .bool true]) ∧ w'.ownsRow w.heap.size 133 4 v bs.length (blkRow bs t bs.length)) ∨ ((validB bs es = false ∨ isTm t = false) ∧ e = .returned (.tuple #[.slice none 0 0, .bool false])))

set_option maxRecDepth 100000 in
set_option maxHeartbeats 3200000 in
theorem termBlocksOf_any (w : World) (bs es : List Pr) (ab ae : Option Addr) (cb ce : Nat) (t : ByteArray) (hpb : PairsAt w ab bs) (hpe : PairsAt w ae es) (hg : Errs w) :
    Calls Tryd.prog 106 #[.agg #[.slice ab bs.length cb, .slice ae es.length ce], .string t] w (BlocksPost w bs es t) := by
  have h1 : Below w.heap.size w (w.alloc (.cells #[.slice ab bs.length cb, .slice ae es.length ce] 32)) := (Below.refl _ _).alloc (Nat.le_refl _) _
  have hpb1 := hpb.below h1
  have hpe1 := hpe.below h1
  have hg1 := hg.keep h1
  have H1 := Lib.hid h1; clear h1
  go_enter Tryd.func106, Tryd.ntmps106
  go_wp2_with fail
  refine (planOf_any _ bs es _ _ _ _ hpb1 hpe1 hg1).mono ?_
  rintro e w1 ⟨hb1, hcase⟩
  have hall : Below w.heap.size w w1 := H1.out.trans (hb1.mono (by simp))
  have hz := hall.size
  have c0 := (hb1.cell (p := ⟨w.heap.size, 0, none⟩) (by simp)).trans (show _ = some (.slice ab bs.length cb) by go_simp)
  have c1 := (hb1.cell (p := ⟨w.heap.size, 1, none⟩) (by simp)).trans (show _ = some (.slice ae es.length ce) by go_simp)
  have hz1 : w.heap.size < w1.heap.size := by have := hb1.size; simp at this; omega
  rcases hcase with ⟨hv, o, lo, li, rfl, hp⟩ | ⟨hv, ty, z, rfl⟩
  · have HV := Lib.hid (show validB bs es = true by simpa [validB] using hv)
    have HVV := Lib.hid hv
    clear hv
    cases ht : isTm t
    · have HT := Lib.hid ht
      clear ht
      go_wp2_with (go_at_call 74; refine (isTerm_lit _ _ HT.out _).mono ?_; rintro e w' ⟨rfl, rfl⟩)
      go_ret2
      exact ⟨hall.alloc hz _, .inr ⟨.inr HT.out, rfl⟩⟩
    · have hwa : Below w1.heap.size w1 (w1.alloc (.cells #[.map (some o), .map (some lo), .map (some li)] 73)) := (Below.refl _ _).alloc (Nat.le_refl _) _
      obtain ⟨F, hO0⟩ := hp.ops
      have hO := hO0.below hwa
      have h0 : 0 < t.size := by rw [isTm_size ht]; decide
      have hB : (t[0].toNat : Int) ≤ 255 := by have := t[0].toNat_lt; omega
      have HT := Lib.hid (And.intro ht (And.intro (isTm_bd ht) (byteAt_get h0)))
      have hl9 := HVV.out.b.hi
      have hpb2 := (hpb1.below hb1).below hwa
      have y0 : (w1.alloc (.cells #[.map (some o), .map (some lo), .map (some li)] 73)).cell? ⟨w1.heap.size, 0, none⟩ = some (.map (some o)) := by go_simp
      have hzW : w1.heap.size < (w1.alloc (.cells #[.map (some o), .map (some lo), .map (some li)] 73)).heap.size := by simp
      have HA := Lib.hid (And.intro hO (And.intro hpb2 (hall.alloc hz (.cells #[.map (some o), .map (some lo), .map (some li)] 73)))); clear hO0 hO hpb2 hwa hp hpb1 hpe1 hg1 ht hb1
      obtain ⟨i0, hi, hz0, hz4, hz2⟩ := info_parts Tryd.infoTB
      go_wp2_with (go_at_call 74; refine (isTerm_lit _ _ HT.out.1 _).mono ?_; rintro e w' ⟨rfl, rfl⟩)
      generalize w1.alloc (.cells #[.map (some o), .map (some lo), .map (some li)] 73) = wA at *
      have hzA := HA.out.2.2.size
      go_loopw [26, 8] (fun i v wr => ∃ k : Nat, k ≤ bs.length ∧ i = .int .i64 k ∧ wr.ownsRow wA.heap.size 133 4 v k (blkRow bs t k) ∧ Below wA.heap.size wA wr) (fun i _ _ => bs.length - (intOf i).toNat)
      case atStart => exact ⟨0, Nat.zero_le _, rfl, World.ownsRow_nil _ _ _ _, Below.refl _ _⟩
      case round =>
        obtain ⟨k, hk, rfl, hown, hbl⟩ := hrel
        have hs2 := hbl.size
        by_cases hlt : k < bs.length
        · obtain ⟨b, off, rfl, hb, g1, g2⟩ := HA.out.2.1.cell k hlt
          have d1 := (hbl.cell (p := ⟨b, off + k * 2, none⟩) hb).trans g1
          have d2 := (hbl.cell (p := ⟨b, off + k * 2 + 1, none⟩) hb).trans g2
          have d3 := (hbl.cell (p := ⟨w1.heap.size, 0, none⟩) hzW).trans y0
          have hsx : (nameAt bs k).size ≤ 1048576 := (HA.out.2.1.size k hlt).1
          have hOr := (HA.out.1.below hbl).below (show Below wr.heap.size wr (wr.alloc (.cells #[.string (nameAt bs k), .string (restAt bs k)] 52)) from (Below.refl _ _).alloc (Nat.le_refl _) _)
          obtain ⟨v, hFv, hrow⟩ := hOr.row _ (pair_mem hlt)
          have lk := (hOr.map.drew).look Tryd.underlying69 (zeroOps _) (mx hsx)
          rw [show F (nameAt bs k) = some v from hFv, Option.getD_some] at lk
          obtain ⟨va, vc, rfl⟩ := row_len3 hrow
          have hok : opsOk (restAt bs k) := HVV.out.b.op _ (pair_mem hlt)
          obtain ⟨wa, wc, rfl⟩ := own_form hown
          have hlt0 : (0 : Int) < (t.size : Int) := by omega
          have hn3 : w1.heap.size < wr.heap.size := by omega
          have HK := Lib.hid (And.intro hrow (And.intro hok (And.intro hown hbl)))
          have HE1 := Lib.hid (blkRow_succ bs t k)
          clear hrow hok hown hbl hFv hOr g1 g2
          have hbk := HT.out.2.2
          rw [hbk] at hB
          go_wp2
          have hFour := four_one (.int .u8 (fv (fsOf (restAt bs k) t))) (.string (nameAt bs k)) (.int .u8 (byteAt t 0 : Int)) (.int .i64 ((fsOf (restAt bs k) t).n : Int)) rfl rfl rfl rfl
          have HFour := Lib.hid hFour; clear hFour
          have a0 : (wr.alloc (.cells #[.string (nameAt bs k), .string (restAt bs k)] 52)).cell? ⟨wr.heap.size, 0, none⟩ = some (.string (nameAt bs k)) := by go_simp
          have a2 : (wr.alloc (.cells #[.string (nameAt bs k), .string (restAt bs k)] 52)).cell? ⟨w1.heap.size, 0, none⟩ = some (.map (some o)) := (World.cell?_alloc_lt _ _ _ hn3).trans d3
          have hzB : wr.heap.size < (wr.alloc (.cells #[.string (nameAt bs k), .string (restAt bs k)] 52)).heap.size := by simp
          have HWB := Lib.hid (show Below wr.heap.size wr (wr.alloc (.cells #[.string (nameAt bs k), .string (restAt bs k)] 52)).drew from ((Below.refl _ _).alloc (Nat.le_refl _) _).drew)
          generalize wr.alloc (.cells #[.string (nameAt bs k), .string (restAt bs k)] 52) = wB at *
          have hzw1 : w1.heap.size < wB.heap.size := by omega
          have hb1 : some wr.heap.size ≠ (Value.slice wa k wc).ownBlock := fun e => by have h9 := (HK.out.2.2.1.lt wr.heap.size e.symm).2; omega
          have hb2 : some w1.heap.size ≠ (Value.slice wa k wc).ownBlock := fun e => by have h9 := (HK.out.2.2.1.lt w1.heap.size e.symm).1; omega
          go_region_held3 (fun w' => w'.cell? ⟨wr.heap.size, 0, none⟩ = some (.string (nameAt bs k)) ∧ w'.cell? ⟨w1.heap.size, 0, none⟩ = some (.map (some o)))
            (first
              | exact ⟨a0, a2⟩
              | exact ⟨(hbN.cell (p := ⟨wr.heap.size, 0, none⟩) hzB).trans a0, (hbN.cell (p := ⟨w1.heap.size, 0, none⟩) hzw1).trans a2⟩
              | exact ⟨(World.cell?_alloc_lt _ _ _ (show wr.heap.size < wN.heap.size from Nat.lt_of_lt_of_le hzB hbN.size)).trans ((hbN.cell (p := ⟨wr.heap.size, 0, none⟩) hzB).trans a0), (World.cell?_alloc_lt _ _ _ (show w1.heap.size < wN.heap.size from Nat.lt_of_lt_of_le hzw1 hbN.size)).trans ((hbN.cell (p := ⟨w1.heap.size, 0, none⟩) hzw1).trans a2)⟩
              | exact ⟨(hgrow4.cell_far ⟨wr.heap.size, 0, none⟩ (by have h9 : wr.heap.size < wN.heap.size := Nat.lt_of_lt_of_le hzB hbN.size; simp; omega) hb1).trans ((World.cell?_alloc_lt _ _ _ (show wr.heap.size < wN.heap.size from Nat.lt_of_lt_of_le hzB hbN.size)).trans ((hbN.cell (p := ⟨wr.heap.size, 0, none⟩) hzB).trans a0)), (hgrow4.cell_far ⟨w1.heap.size, 0, none⟩ (by have h9 : w1.heap.size < wN.heap.size := Nat.lt_of_lt_of_le hzw1 hbN.size; simp; omega) hb2).trans ((World.cell?_alloc_lt _ _ _ (show w1.heap.size < wN.heap.size from Nat.lt_of_lt_of_le hzw1 hbN.size)).trans ((hbN.cell (p := ⟨w1.heap.size, 0, none⟩) hzw1).trans a2))⟩)
            (first
            | (go_at_call 151; refine (seenBlock_any _ _ (restAt bs k) (nameAt bs k) (byteAt t 0) HT.out.2.1 (by have := HK.out.2.1.1; omega) HK.out.2.1.2 (RowAt.keepB HK.out.1 (Below.refl _ _).drew)).mono ?_; rintro e wN ⟨rfl, hbN⟩)
            | (refine step_append_lies _ rfl (.tmp 30) (.tmp 41) 128 rfl wA.heap.size 133 i0 (.agg #[.int .u8 0, .string ⟨#[]⟩, .int .u8 0, .int .i64 0]) 4 40 Tryd.underlying128 hi hz0 hz4 hz2 rfl (by decide) _ k (blkRow bs t k) rfl ((ownsRow_below HK.out.2.2.1 (HWB.out.trans (hbN.mono HWB.out.size))).alloc _) ⟨wN.heap.size, 0, none⟩ 1 1 (blkCells bs t k) rfl rfl (cell_four_new _ _ _ _ _ _) HFour.out (by decide) (by unfold maxLen; omega) (by omega) (by have := hbN.size; simp at this ⊢; omega) _ rfl ?_; intro g' cap' w4 hown4 hgrow4 _ _))
          all_goals
            have hb4 : Below wA.heap.size wA w4 := (((HK.out.2.2.2.trans (HWB.out.mono hs2)).trans (hbN.mono (Nat.le_trans hs2 HWB.out.size))).alloc (Nat.le_trans hs2 (Nat.le_trans HWB.out.size hbN.size)) _).grown hgrow4 (by have h9 : wA.heap.size ≤ wN.heap.size := Nat.le_trans hs2 (Nat.le_trans HWB.out.size hbN.size); simp; omega) (fun j hj => (HK.out.2.2.1.lt j hj).1)
            go_wp2
            go_roundw
            case rel => exact ⟨k + 1, by omega, by go_num, by rw [HE1.out]; exact hown4, hb4⟩
            case measure => simp [intOf]; omega
        · obtain rfl : k = bs.length := by omega
          obtain ⟨wa, wc, rfl⟩ := own_form hown
          have HK := Lib.hid (And.intro (own_base hown hzA) (HA.out.2.2.trans (hbl.mono hzA)))
          clear hown hbl
          go_wp2
          go_ret2
          exact ⟨HK.out.2, .inl ⟨HV.out, HT.out.1, _, rfl, HK.out.1⟩⟩
  · have HV := Lib.hid (show validB bs es = false by simpa [validB] using hv)
    clear hv
    go_wp2
    go_ret2
    exact ⟨hall.alloc hz _, .inr ⟨.inl HV.out, rfl⟩⟩
end Go.Proofs.YthkhccfemdjioaaDoor
end

section
/-
  The names that a map of edges holds, sorted by the edges' places: slices.SortedFunc over maps.Keys with namesAt's closure. Conditions: at most twelve names, each of one byte; at most 1000 edges.
-/
namespace Go.Proofs.YthkhccfemdjioaaDoor
open Go.RowKit Go.Maps

/-- the place of an edge, 0 if there is none -/
def ixN (E : List Pr) (x s : ByteArray) : Int := match idx E (x, s) with | some i => (i : Int) | none => 0
theorem inner_getD (E : List Pr) (x s : ByteArray) : (inner E x s).getD (.int .i64 0) = .int .i64 (ixN E x s) := by
  unfold inner ixN
  cases idx E (x, s) <;> rfl
theorem ixN_bd (E : List Pr) (x s : ByteArray) : 0 ≤ ixN E x s ∧ ixN E x s ≤ E.length := by
  unfold ixN
  split
  · rename_i i h
    have := (List.getElem?_eq_some_iff.1 (idx_some _ _ _ h).1).1
    omega
  · omega
theorem nodup_at {E : List Pr} (h : E.Nodup) {i : Nat} (hi : i < E.length) : idx E E[i] = some i :=
  idx_hit _ _ _ (List.getElem?_eq_getElem hi) (fun j hj e => by
    have := nodup_idx.1 h j i hj hi
    rw [e, List.getElem?_eq_getElem hi] at this
    exact this rfl)
theorem outL_sorted {E : List Pr} (h : E.Nodup) (x : ByteArray) : (outL E x).Pairwise fun a b => ixN E x a < ixN E x b := by
  unfold outL
  rw [List.pairwise_map]
  have h1 : E.Pairwise fun p q => ∀ i j, idx E p = some i → idx E q = some j → i < j := by
    rw [List.pairwise_iff_getElem]
    intro i j hi hj hij a b ha hb
    rw [nodup_at h hi] at ha
    rw [nodup_at h hj] at hb
    cases ha; cases hb; exact hij
  refine (List.Pairwise.filter (fun e : Pr => decide (e.1 = x)) h1).imp_of_mem fun {p q} hp hq hpq => ?_
  have e1 : p.1 = x := by simpa using (List.mem_filter.1 hp).2
  have e2 : q.1 = x := by simpa using (List.mem_filter.1 hq).2
  obtain ⟨i, hi, ei⟩ := List.getElem_of_mem (List.mem_filter.1 hp).1
  obtain ⟨j, hj, ej⟩ := List.getElem_of_mem (List.mem_filter.1 hq).1
  have h2 := nodup_at h hi
  have h3 := nodup_at h hj
  rw [ei] at h2
  rw [ej] at h3
  have h4 := hpq i j h2 h3
  have p1 : (x, p.2) = p := by rw [← e1]
  have q1 : (x, q.2) = q := by rw [← e2]
  unfold ixN
  rw [p1, q1, h2, h3]
  show (i : Int) < (j : Int)
  omega
theorem outL_nodup {E : List Pr} (h : E.Nodup) (x : ByteArray) : (outL E x).Nodup :=
  (outL_sorted h x).imp fun {a b} hab e => by rw [e] at hab; omega
theorem eq_of_perm_sorted {β : Type} (f : β → Int) : ∀ l1 l2 : List β, l1.Perm l2 → l1.Pairwise (fun a b => f a ≤ f b) → l2.Pairwise (fun a b => f a < f b) → l1 = l2
  | l1, [], hp, _, _ => by simpa using hp
  | [], b :: r2, hp, _, _ => by have := hp.length_eq; simp at this
  | a :: r1, b :: r2, hp, h1, h2 => by
    have ha : a ∈ b :: r2 := hp.mem_iff.1 (List.mem_cons_self ..)
    have hb : b ∈ a :: r1 := hp.mem_iff.2 (List.mem_cons_self ..)
    have hab : a = b := by
      rcases List.mem_cons.1 ha with h | h
      · exact h
      · rcases List.mem_cons.1 hb with h' | h'
        · exact h'.symm
        · have := (List.pairwise_cons.1 h2).1 a h
          have := (List.pairwise_cons.1 h1).1 b h'
          omega
    subst hab
    rw [eq_of_perm_sorted f r1 r2 hp.cons_inv (List.pairwise_cons.1 h1).2 (List.pairwise_cons.1 h2).2]
theorem length_le_of_sub {α : Type} [DecidableEq α] : ∀ (l m : List α), l.Nodup → (∀ x ∈ l, x ∈ m) → l.length ≤ m.length
  | [], _, _, _ => Nat.zero_le _
  | a :: r, m, hd, hs => by
    have ha : a ∈ m := hs a (List.mem_cons_self ..)
    have h1 := length_le_of_sub r (m.erase a) (List.nodup_cons.1 hd).2 (fun x hx => (List.mem_erase_of_ne (fun e : x = a => (List.nodup_cons.1 hd).1 (by rw [← e]; exact hx))).2 (hs x (List.mem_cons_of_mem _ hx)))
    have h2 := List.length_erase_of_mem ha
    have h3 : 0 < m.length := List.length_pos_of_mem ha
    simp only [List.length_cons]
    omega

/-- a text that can be a key -/
abbrev Nm := { s : ByteArray // s.size ≤ 1048576 }
instance : Inhabited Nm := ⟨⟨e0, by decide⟩⟩
def encN (x : Nm) : Value := .string x.1
theorem heap_sortW {α : Type} [Inhabited α] (enc : α → Value) (w : World) (blk off m : Nat) (dk : Array α) (os : Array Obj) {k : Nat} (hk : k < w.heap.size) (hne : k ≠ blk) : (sortWorld enc w blk off m dk os).heap[k]? = w.heap[k]? := by
  unfold sortWorld
  rw [Sort.heap_grow_old _ _ (by simpa using hk)]
  have h' : blk ≠ k := Ne.symm hne
  simp [Sort.putRow, Sort.mapBlock, Sort.ahead, Array.getElem?_modify, h']

set_option maxRecDepth 100000 in
theorem cmp_any (E : List Pr) (x : ByteArray) (hE : E.length ≤ 1000) (W : World) (H : Nat) (mb : Option Nat) (hbox : W.cell? ⟨H, 0, none⟩ = some (.map mb)) (a b : ByteArray)
    (ha : (Instr.lookup 114 (.map mb) (.string a) false).run Tryd.prog W = .ok (.int .i64 (ixN E x a)) W) (hb : (Instr.lookup 114 (.map mb) (.string b) false).run Tryd.prog W = .ok (.int .i64 (ixN E x b)) W) :
    Calls Tryd.prog 147 #[.string a, .string b, .pointer (some ⟨H, 0, none⟩)] W fun e w' => e = .returned (.int .i64 (ixN E x a - ixN E x b)) ∧ w' = W := by
  obtain ⟨a1, a2⟩ := ixN_bd E x a
  obtain ⟨b1, b2⟩ := ixN_bd E x b
  have hw : IntKind.i64.wrap (ixN E x a - ixN E x b) = ixN E x a - ixN E x b := IntWalk.i64_in _ (by omega)
  generalize ixN E x a = va at *
  generalize ixN E x b = vb at *
  go_enter Tryd.func147, Tryd.ntmps147
  go_wp2
  go_ret
  exact ⟨rfl, rfl⟩

/-- maps.Keys at a map of places -/
theorem keys_call (mb : Option Nat) (W : World) : Calls Tryd.prog 146 #[.map mb] W fun e w' => e = .returned (.func (.func 170) #[] #[.pointer (some ⟨W.heap.size, 0, none⟩)]) ∧ w' = W.alloc (.cells #[.map mb] 114) :=
  (callsIn_wide (n := 5)).1 (AnyZ.keys_in Tryd.keysS Fence.wide 5 trivial rfl mb W)
/-- slices.Collect at what it handed back -/
theorem collect_call (Bm b n : Nat) (D0 : DataW Value) (W : World) (hBm : Bm < W.heap.size) (hm : W.cell? ⟨Bm, 0, none⟩ = some (.map (some b))) (hown : W.ownsMap Tryd.prog 9 hR b n D0) (h1 : Maps.size D0 ≤ 1000) :
    Calls Tryd.prog 168 #[.func (.func 170) #[] #[.pointer (some ⟨Bm, 0, none⟩)]] W fun e w' => ∃ (v : Value) (ss : List (List UInt8)), e = .returned v ∧ ss.Perm (strKeys D0) ∧ w'.ownsRow W.heap.size 9 1 v ss.length (ss.map encStr) ∧ (v = .slice none 0 0 ↔ ss = []) ∧ Below W.heap.size W w' :=
  (callsIn_wide (n := 5)).1 (AnyZ.collect_in Tryd.collectS Fence.wide 5 trivial trivial rfl (by omega) 170 #[.pointer (some ⟨Bm, 0, none⟩)] trivial (enters_of Tryd.func170 (by kernel_rfl) rfl) _ (Maps.size D0) (by unfold maxLen; omega) (by omega) W
    (AnyZ.keys_gives (ρ := Tryd.keysS_ren) { Tryd.keysS with } Fence.wide _ trivial rfl (by omega) Bm b n D0 W hBm hm hown))
theorem collect_nil (Bm : Nat) (W : World) (hBm : Bm < W.heap.size) (hm : W.cell? ⟨Bm, 0, none⟩ = some (.map none)) :
    Calls Tryd.prog 168 #[.func (.func 170) #[] #[.pointer (some ⟨Bm, 0, none⟩)]] W fun e w' => e = .returned (.slice none 0 0) ∧ Below W.heap.size W w' :=
  ((callsIn_wide (n := 5)).1 (AnyZ.collect_in Tryd.collectS Fence.wide 5 trivial trivial rfl (by omega) 170 #[.pointer (some ⟨Bm, 0, none⟩)] trivial (enters_of Tryd.func170 (by kernel_rfl) rfl) (fun ss => ss = []) 0 (by unfold maxLen; omega) (by omega) W
    (AnyZ.keys_gives_nil (ρ := Tryd.keysS_ren) { Tryd.keysS with } Fence.wide _ trivial rfl Bm W hBm hm))).mono fun e w' ⟨v, ss, he, hs, _, hn, hb⟩ => ⟨by rw [he, hn.2 hs], hb⟩

set_option maxHeartbeats 1000000 in
theorem ins_none (p : Option Addr) (cap : Nat) (fv : Value) (w : World) :
    Calls Tryd.prog 213 #[.slice p 0 cap, .int .i64 0, .int .i64 0, fv] w fun e w' => e = .returned (.tuple #[]) ∧ w' = w := by
  go_enter Tryd.func213, Tryd.ntmps213
  go_wp2
  refine wp_loop_rounds 1 ?_
  rw [rounds_succ]
  go_wp2
  go_end0
  exact ⟨rfl, rfl⟩
set_option maxHeartbeats 1000000 in
theorem pdq_none (p : Option Addr) (cap : Nat) (lim : Int) (fv : Value) (w : World) :
    Calls Tryd.prog 195 #[.slice p 0 cap, .int .i64 0, .int .i64 0, .int .i64 lim, fv] w fun e w' => e = .returned (.tuple #[]) ∧ w' = w := by
  go_enter Tryd.func195, Tryd.ntmps195
  go_wp2
  refine wp_loop_rounds 1 ?_
  rw [rounds_succ]
  go_wp2_with fail
  refine (ins_none p cap fv _).mono ?_
  rintro e w' ⟨rfl, rfl⟩
  go_wp2
  (try simp only [Exit.inBlock, Exit.then]); refine bodyPost_ret (results_none rfl _ _ _) rfl ?_
  exact ⟨rfl, rfl⟩
theorem len0 (W : World) : Calls Tryd.prog 163 #[.int .u64 0] W fun e w' => (∃ l : Int, e = .returned (.int .i64 l)) ∧ w' = W :=
  (Tryd.bits_Len 0 W (by omega) (by omega)).mono fun _ _ ⟨he, hw⟩ => ⟨⟨_, he⟩, hw⟩
theorem lenN (n : Nat) (W : World) (h : n ≤ 12) : Calls Tryd.prog 163 #[.int .u64 n] W fun e w' => (∃ l : Int, e = .returned (.int .i64 l)) ∧ w' = W :=
  (Tryd.bits_Len n W (by omega) (by omega)).mono fun _ _ ⟨he, hw⟩ => ⟨⟨_, he⟩, hw⟩
theorem sort_none (p : Option Addr) (cap : Nat) (fv : Value) (w : World) :
    Calls Tryd.prog 169 #[.slice p 0 cap, fv] w fun e w' => e = .returned (.tuple #[]) ∧ w' = w := by
  go_enter Tryd.func169, Tryd.ntmps169
  go_wp2_with fail
  refine (len0 _).mono ?_
  rintro e w' ⟨⟨l, rfl⟩, rfl⟩
  go_wp2_with fail
  refine (pdq_none p cap l fv _).mono ?_
  rintro e w' ⟨rfl, rfl⟩
  go_wp2
  go_end0
  exact ⟨rfl, rfl⟩

/-- the row behind the sort -/
theorem own_putRow {w : World} {base g cap n : Nat} {e : TypeId} {cur : Array Value} (d' : Array Nm) (hb : w.heap[g]? = some (.cells cur e (0, 0))) (hbase : base ≤ g) (h1 : d'.size ≤ cap) (h2 : cap ≤ maxLen) (h3 : cur.size = cap * 1) :
    ((Sort.putRow encN w g 0 d').drewN n).ownsRow base e 1 (.slice (some ⟨g, 0, none⟩) d'.size cap) d'.size (d'.toList.map encN) := by
  refine ⟨by simp, .inr ⟨g, cap, Sort.putCells encN 0 d' cur, rfl, hbase, ?_, h1, h2, by simp [Sort.putCells, h3], ?_⟩⟩
  · show (Sort.putRow encN w g 0 d').heap[g]? = _
    simp [Sort.putRow, Sort.mapBlock, Array.getElem?_modify, hb, Sort.onCells]
  · apply List.ext_getElem?
    intro j
    by_cases hj : j < d'.size
    · rw [List.getElem?_take_of_lt (by omega), Array.getElem?_toList]
      simp [Sort.putCells, hj, show j < cur.size by omega]
    · rw [List.getElem?_take_eq_none (by omega), List.getElem?_eq_none (by simp; omega)]
theorem grown_putRow {w : World} {g n : Nat} (d' : Array Nm) : w.grownBy ((Sort.putRow encN w g 0 d').drewN n) (some g) := by
  refine ⟨rfl, rfl, rfl, by simp, fun k hk hne => ?_⟩
  show (Sort.putRow encN w g 0 d').heap[k]? = _
  have h' : g ≠ k := fun e => hne (by rw [e])
  simp [Sort.putRow, Sort.mapBlock, Array.getElem?_modify, h']
def nmOf (l : List UInt8) : Nm := if h : l.length ≤ 1048576 then ⟨⟨l.toArray⟩, by simpa [ByteArray.size] using h⟩ else default
theorem nmOf_enc {l : List UInt8} (h : l.length ≤ 1048576) : encN (nmOf l) = encStr l := by unfold nmOf encN; rw [dif_pos h]
theorem swo_ix (E : List Pr) (x : ByteArray) : Sort.SWO (ltOf fun a b : Nm => ixN E x a.1 - ixN E x b.1) where
  irrefl a := by simp [ltOf]
  trans a b c h1 h2 := by simp [ltOf] at *; omega
  ntrans a b c h1 h2 := by simp [ltOf] at *; omega
/-- what the keys are -/
theorem keys_perm {W : World} {b n : Nat} {D0 : DataW Value} {E : List Pr} {x : ByteArray} (hown : W.ownsMap Tryd.prog 9 hR b n D0) (hD : AtF D0 (inner E x)) (hnd : E.Nodup) : ((outL E x).map (·.data.toList)).Perm (strKeys D0) := by
  obtain ⟨es, hE, hpw, _⟩ := hown.entries keyed
  obtain ⟨es', hE', hk⟩ := hown.keysOf
  obtain rfl : es = es' := by rw [hE] at hE'; simpa using hE'
  subst hE
  refine perm_strKeys hpw (fun p hp => ?_) ?_ (fun a => ?_)
  · obtain ⟨v, hv⟩ := hk p hp
    obtain ⟨s, rfl⟩ := key_string hv
    exact ⟨_, (key_string' hv).2⟩
  · refine List.pairwise_map.2 ((outL_nodup hnd x).imp fun {a b} hab e => hab (ByteArray.ext (Array.toList_inj.1 e)))
  · have h1 := (hD ⟨a.toArray⟩).2
    have h2 : kS ⟨a.toArray⟩ = .string a := by simp [kS]
    rw [h2] at h1
    rw [h1, inner_isSome, ← mem_outL, List.mem_map]
    constructor
    · rintro ⟨y, hy, rfl⟩
      exact hy
    · intro h
      exact ⟨_, h, by simp⟩

theorem size_keys {W : World} {b n : Nat} {D0 : DataW Value} {E : List Pr} {x : ByteArray} (hown : W.ownsMap Tryd.prog 9 hR b n D0) (hD : AtF D0 (inner E x)) (hnd : E.Nodup) : Maps.size D0 = (outL E x).length := by
  have h := (keys_perm hown hD hnd).length_eq
  rw [List.length_map] at h
  rw [h]
  obtain ⟨es, rfl, _⟩ := hown.keysOf
  simp [strKeys, Maps.size]
/-- a row of names that the call has laid, or none -/
def NamesPost (W : World) (l : List ByteArray) (e : Ending) (w' : World) : Prop :=
  ∃ v, e = .returned v ∧ w'.ownsRow W.heap.size 9 1 v l.length (l.map Value.string) ∧ Below W.heap.size W w'
theorem cmp_reads (W w1 : World) (H bi n g : Nat) (E : List Pr) (x : ByteArray) (size : Nat) (hb1 : Below W.heap.size W w1) (hg : W.heap.size ≤ g) (hH : H < W.heap.size) (hbox : W.cell? ⟨H, 0, none⟩ = some (.map (some bi))) (hmi : MapV W bi n (inner E x)) (hE : E.length ≤ 1000) :
    CmpReads Tryd.prog 147 #[.pointer (some ⟨H, 0, none⟩)] encN (fun a b : Nm => ixN E x a.1 - ixN E x b.1) g 0 size w1 := by
  intro m os dk _ a b
  have hbi := hmi.lt
  have hw : ∀ k, k < W.heap.size → (sortWorld encN w1 g 0 m dk os).heap[k]? = W.heap[k]? := fun k hk => (heap_sortW encN w1 g 0 m dk os (by have := hb1.size; omega) (by omega)).trans (hb1.block k hk)
  have hmS : MapV (sortWorld encN w1 g 0 m dk os) bi n (inner E x) := hmi.same (hw bi hbi)
  have hlk : ∀ s : Nm, (Instr.lookup 114 (.map (some bi)) (.string s.1) false).run Tryd.prog (sortWorld encN w1 g 0 m dk os) = .ok (.int .i64 (ixN E x s.1)) (sortWorld encN w1 g 0 m dk os) := fun s => by
    have := hmS.look Tryd.underlying114 (zeroInt _) (mx s.2)
    rwa [inner_getD] at this
  exact (cmp_any E x hE _ H (some bi) ((World.cell?_of_block (hw H hH)).trans hbox) a.1 b.1 (hlk a) (hlk b)).mono fun e w' h => ⟨h.1, 0, h.2⟩
theorem size_le_of {l : List ByteArray} (h1 : ∀ y ∈ l, y.size ≤ 1048576) {ss : List (List UInt8)} (hp : ss.Perm (l.map (·.data.toList))) : ∀ a ∈ ss, a.length ≤ 1048576 := fun a ha => by
  obtain ⟨y, hy, rfl⟩ := List.mem_map.1 (hp.mem_iff.1 ha)
  exact h1 y hy
theorem sorted_list {E : List Pr} {x : ByteArray} (hnd : E.Nodup) (h1 : ∀ y ∈ outL E x, y.size ≤ 1048576) {ss : List (List UInt8)} (hp : ss.Perm ((outL E x).map (·.data.toList))) {d' : Array Nm} (hP : Sort.PermIn 0 ss.length (ss.map nmOf).toArray d') (hS : Sort.SortedIn (ltOf fun a b : Nm => ixN E x a.1 - ixN E x b.1) 0 ss.length d') :
    d'.toList.map (·.1) = outL E x := by
  obtain ⟨hz, _, hpm⟩ := hP
  have hz' : d'.size = ss.length := by simpa using hz
  have e1 : d'.extract 0 ss.length = d' := by rw [← hz']; simp
  have e2 : (ss.map nmOf).toArray.extract 0 ss.length = (ss.map nmOf).toArray := by
    apply Array.toList_inj.1
    rw [Array.toList_extract]
    simp [List.extract]
    exact List.take_of_length_le (by simp)
  rw [e1, e2] at hpm
  have hq : (d'.toList.map (·.1)).Perm (outL E x) := by
    refine (hpm.map (·.1)).trans ?_
    have h2 : ((ss.map nmOf).toArray.toList.map (·.1)) = ss.map fun l => (nmOf l).1 := by simp
    rw [h2]
    refine (hp.map fun l => (nmOf l).1).trans ?_
    rw [List.map_map]
    have h3 : (outL E x).map ((fun l => (nmOf l).1) ∘ fun y : ByteArray => y.data.toList) = (outL E x).map id := List.map_congr_left fun y hy => by
      show (nmOf y.data.toList).1 = y
      unfold nmOf
      rw [dif_pos (show y.data.toList.length ≤ 1048576 from h1 y hy)]
    rw [h3, List.map_id]
  refine eq_of_perm_sorted (ixN E x) _ _ hq ?_ (outL_sorted hnd x)
  rw [List.pairwise_map, List.pairwise_iff_getElem]
  intro i j hi hj hij
  have h4 := hS i j (Nat.zero_le _) hij (by rw [← hz']; simpa using hj)
  simp only [Array.length_toList] at hi hj
  rw [getElem!_pos d' j hj, getElem!_pos d' i hi] at h4
  simp [ltOf] at h4
  simpa using h4
theorem sort_call (W w1 : World) (H bi n g cap : Nat) (E : List Pr) (x : ByteArray) (ss : List (List UInt8)) (cur : Array Value) (hb1 : Below W.heap.size W w1) (hg : W.heap.size ≤ g) (hH : H < W.heap.size) (hbox : W.cell? ⟨H, 0, none⟩ = some (.map (some bi))) (hmi : MapV W bi n (inner E x)) (hE : E.length ≤ 1000) (hnd : E.Nodup) (hl : (outL E x).length ≤ 12)
    (h1 : ∀ y ∈ outL E x, y.size ≤ 1048576) (hp : ss.Perm ((outL E x).map (·.data.toList))) (hcur : w1.heap[g]? = some (.cells cur 9 (0, 0))) (hcap : ss.length ≤ cap) (hcm : cap ≤ maxLen) (hcs : cur.size = cap * 1) (htk : cur.toList.take (ss.length * 1) = ss.map encStr) :
    Calls Tryd.prog 169 #[.slice (some ⟨g, 0, none⟩) ss.length cap, .func (.func 147) #[] #[.pointer (some ⟨H, 0, none⟩)]] w1 fun e w' => e = .returned (.tuple #[]) ∧ w'.ownsRow W.heap.size 9 1 (.slice (some ⟨g, 0, none⟩) ss.length cap) (outL E x).length ((outL E x).map Value.string) ∧ w1.grownBy w' (some g) := by
  have hsm := size_le_of h1 hp
  have hlen : ss.length = (outL E x).length := by rw [hp.length_eq, List.length_map]
  have hdl : (ss.map nmOf).toArray.size = ss.length := by simp
  have henc : (ss.map nmOf).map encN = ss.map encStr := by
    rw [List.map_map]
    exact List.map_congr_left fun a ha => nmOf_enc (hsm a ha)
  have hHolds : Sort.Holds encN w1 g 0 (ss.map nmOf).toArray := by
    intro j hj
    rw [hdl] at hj
    refine ⟨?_, by simp [World.frozen?, hcur]⟩
    rw [Nat.zero_add, cell_of_row w1 g j _ _ (0, 0) hcur]
    have h2 : (cur.toList.take (ss.length * 1))[j]? = ((ss.map nmOf).map encN)[j]? := by rw [htk, henc]
    rw [List.getElem?_take_of_lt (by omega)] at h2
    rw [← Array.getElem?_toList, h2]
    simp [hj]
  have hsort := Tryd.slices_SortFunc_small_sorted encN (fun _ => rfl) _ (swo_ix E x) 147 #[.pointer (some ⟨H, 0, none⟩)] g 0 cap (ss.map nmOf).toArray w1 (enters_of Tryd.func147 (by kernel_rfl) rfl)
    (cmp_reads W w1 H bi n g E x _ hb1 hg hH hbox hmi hE) hHolds (by rw [hdl]; omega) (fun n W h => lenN n W h)
  rw [hdl] at hsort
  refine hsort.mono ?_
  rintro e w2 ⟨he, d', q, hPm, hSd, rfl⟩
  have hd := sorted_list hnd h1 hp hPm hSd
  have hz : d'.size = ss.length := by have := hPm.1; simpa using this
  refine ⟨he, ?_, grown_putRow d'⟩
  have h5 := own_putRow (n := q) (base := W.heap.size) d' hcur hg (by omega) hcm hcs
  have h6 : d'.toList.map encN = (outL E x).map Value.string := by
    rw [← hd, List.map_map]; rfl
  rw [h6, hz, hlen] at h5
  rw [hlen]
  exact h5

set_option maxRecDepth 100000 in
theorem SortedFunc_any (W : World) (Bm H bi n : Nat) (E : List Pr) (x : ByteArray) (hBm : Bm < W.heap.size) (hm : W.cell? ⟨Bm, 0, none⟩ = some (.map (some bi))) (hH : H < W.heap.size) (hbox : W.cell? ⟨H, 0, none⟩ = some (.map (some bi)))
    (hmi : MapV W bi n (inner E x)) (hE : E.length ≤ 1000) (hnd : E.Nodup) (hl : (outL E x).length ≤ 12) (h1 : ∀ y ∈ outL E x, y.size ≤ 1048576) (hne : outL E x ≠ []) :
    Calls Tryd.prog 145 #[.func (.func 170) #[] #[.pointer (some ⟨Bm, 0, none⟩)], .func (.func 147) #[] #[.pointer (some ⟨H, 0, none⟩)]] W (NamesPost W (outL E x)) := by
  obtain ⟨D0, hown, hD⟩ := hmi
  have hperm := keys_perm hown hD hnd
  have hsz := size_keys hown hD hnd
  have hcol := collect_call Bm bi n D0 W hBm hm hown (by omega)
  have hmi' : MapV W bi n (inner E x) := ⟨D0, hown, hD⟩
  have Hmi := Lib.hid (And.intro hmi' (And.intro hbox (And.intro hnd (And.intro h1 hne))))
  have Hpm := Lib.hid hperm
  clear hown hD hm hmi' hbox hnd h1 hne hperm hsz
  go_enter Tryd.func145, Tryd.ntmps145
  go_wp2_with fail
  refine hcol.mono ?_
  rintro e w1 ⟨v, ss, rfl, hss, hrow, hnil, hb1⟩
  have hpl : ss.Perm ((outL E x).map (·.data.toList)) := hss.trans Hpm.out.symm
  have hlen : ss.length = (outL E x).length := by rw [hpl.length_eq, List.length_map]
  obtain ⟨g, cap, hv, hg, hcap, hcm, cur, hcur, hcs, htk⟩ : ∃ g cap, v = .slice (some ⟨g, 0, none⟩) ss.length cap ∧ W.heap.size ≤ g ∧ ss.length ≤ cap ∧ cap ≤ maxLen ∧ ∃ cur, w1.heap[g]? = some (.cells cur 9 (0, 0)) ∧ cur.size = cap * 1 ∧ cur.toList.take (ss.length * 1) = ss.map encStr := by
    obtain ⟨_, ⟨rfl, h0⟩ | ⟨g, cap, cur, hv, hg, hh, hn, hc, hs, ht⟩⟩ := hrow
    · exact absurd (List.eq_nil_of_length_eq_zero (by omega)) Hmi.out.2.2.2.2
    · exact ⟨g, cap, hv, hg, hn, hc, cur, hh, hs, ht⟩
  subst hv
  have hsc := sort_call W w1 H bi n g cap E x ss cur hb1 hg hH Hmi.out.2.1 Hmi.out.1 hE Hmi.out.2.2.1 hl Hmi.out.2.2.2.1 hpl hcur hcap hcm hcs htk
  have HB := Lib.hid (And.intro hb1 (And.intro hg hlen))
  clear hpl hcur hcs htk hrow hss hnil hb1 hcol hlen
  go_wp2_with fail
  refine hsc.mono ?_
  rintro e w2 ⟨rfl, hown2, hgr⟩
  go_wp2
  go_ret
  exact ⟨_, rfl, hown2, HB.out.1.grown hgr HB.out.1.size (fun j hj => by cases hj; exact HB.out.2.1)⟩
end Go.Proofs.YthkhccfemdjioaaDoor
end

section
/-
  FactsOf of the program. Conditions: at most 1048576 blocks and edges, each text at most as many bytes; the errors' variables hold errors.
-/
namespace Go.Proofs.YthkhccfemdjioaaDoor
open Go.RowKit Go.Maps

theorem join_snoc2 (xs : List (List UInt8)) (h : xs ≠ []) (y sep : List UInt8) : Lib.join (xs ++ [y]) sep = Lib.join xs sep ++ sep ++ y := by
  cases xs with
  | nil => exact absurd rfl h
  | cons x r =>
    rw [List.cons_append, Lib.join_cons, Lib.join_cons]
    simp [Lib.joinTail, List.append_assoc]
/-- what is told of the first blocks, as a list -/
def partL (bs : List Pr) (t : ByteArray) (k : Nat) : List ByteArray := (List.range k).map (partT bs t)
theorem partL_succ (bs : List Pr) (t : ByteArray) (k : Nat) : partL bs t (k + 1) = partL bs t k ++ [partT bs t k] := by simp [partL, List.range_succ]
theorem partL_length (bs : List Pr) (t : ByteArray) (k : Nat) : (partL bs t k).length = k := by simp [partL]
theorem join_acc (bs : List Pr) (t : ByteArray) : ∀ k, (⟨(Lib.join ((partL bs t k).map (·.data.toList)) (⟨#[32]⟩ : ByteArray).data.toList).toArray⟩ : ByteArray) = accF bs t k
  | 0 => rfl
  | k + 1 => by
    have ih := congrArg (fun z : ByteArray => z.data.toList) (join_acc bs t k)
    simp only at ih
    apply bytes_ext2
    by_cases hk : 0 < k
    · rw [accF_next hk, partL_succ, List.map_append, List.map_cons, List.map_nil, join_snoc2 _ (by intro h; have := congrArg List.length h; simp [partL_length] at this; omega)]
      simp only [ByteArray.data_append, Array.toList_append, ← ih]
    · obtain rfl : k = 0 := by omega
      rw [accF_first hk]
      simp [partL, accF, Lib.join_one, ByteArray.data_append, e0]
theorem Join_parts (w : World) (v : Value) (bs es : List Pr) (t : ByteArray) (base : Nat) (hV : Valid bs es) (ho : w.ownsRow base 9 1 v bs.length ((partL bs t bs.length).map Value.string)) :
    Calls Tryd.prog 80 #[v, .string ⟨#[32]⟩] w fun e w' => e = .returned (.string (accF bs t bs.length)) ∧ Below w.heap.size w w' := by
  have h2 := hV.b.lo
  have h9 := hV.b.hi
  obtain ⟨h1, ⟨rfl, h0⟩ | ⟨g, cap, cur, rfl, _, hg, hc, hm, hcs, ht⟩⟩ := ho
  · omega
  · have hlen : (partL bs t bs.length).length = bs.length := partL_length _ _ _
    have hj : (Lib.join ((partL bs t bs.length).map (·.data.toList)) (⟨#[32]⟩ : ByteArray).data.toList).length ≤ 100 := by
      have := congrArg ByteArray.size (join_acc bs t bs.length)
      have h3 := accF_size hV t bs.length (Nat.le_refl _)
      have h4 : (⟨(Lib.join ((partL bs t bs.length).map (·.data.toList)) (⟨#[32]⟩ : ByteArray).data.toList).toArray⟩ : ByteArray).size = (Lib.join ((partL bs t bs.length).map (·.data.toList)) (⟨#[32]⟩ : ByteArray).data.toList).length := by simp [ByteArray.size]
      omega
    have := Tryd.strings_Join g 0 cap (partL bs t bs.length) ⟨#[32]⟩ w (fun j x hx => ?_) (Array.getElem?_eq_some_iff.1 hg).1 (by omega) (by omega) (by omega)
    · rw [join_acc, hlen] at this
      exact this
    · have hjl : j < bs.length := by have := (List.getElem?_eq_some_iff.1 hx).1; omega
      have hv : (cur.toList.take (bs.length * 1))[j]? = some (.string x) := by rw [ht]; simp [hx]
      rw [List.getElem?_take, if_pos (by omega)] at hv
      simp only [Nat.zero_add]
      simp [World.cell?, hg]
      simpa using hv

set_option maxRecDepth 100000 in
set_option maxHeartbeats 3200000 in
theorem FactsOf_impl (w : World) (bs es : List Pr) (ab ae : Option Addr) (cb ce : Nat) (t : ByteArray) (hpb : PairsAt w ab bs) (hpe : PairsAt w ae es) (hg : Errs w) :
    Calls Tryd.prog 49 #[.agg #[.slice ab bs.length cb, .slice ae es.length ce], .string t] w fun e w' => e = .returned (factsV bs es t) ∧ Below w.heap.size w w' := by
  have h1 : Below w.heap.size w (w.alloc (.cells #[.slice ab bs.length cb, .slice ae es.length ce] 32)) := (Below.refl _ _).alloc (Nat.le_refl _) _
  have hpb1 := hpb.below h1
  have hpe1 := hpe.below h1
  have hg1 := hg.keep h1
  have H1 := Lib.hid h1; clear h1
  obtain ⟨i0, hi, hz0, hz1, hz2⟩ := info_parts Tryd.infoStr
  go_enter Tryd.func49, Tryd.ntmps49
  go_wp2_with fail
  refine (termBlocksOf_any _ bs es _ _ _ _ t hpb1 hpe1 hg1).mono ?_
  rintro e w1 ⟨hb1, hcase⟩
  have hall : Below w.heap.size w w1 := H1.out.trans (hb1.mono (by simp))
  have hz := hall.size
  rcases hcase with ⟨hv, ht, v, rfl, hown⟩ | ⟨hno, rfl⟩
  · have HN := Lib.hid (factsV_yes hv ht)
    have HV := Lib.hid (show Valid bs es by simpa [validB] using hv)
    have hl9 := HV.out.b.hi
    obtain ⟨n, hn⟩ : ∃ n, bs.length = n + 1 := ⟨bs.length - 1, by have := HV.out.b.lo; omega⟩
    have hown2 : w1.ownsRow (w.alloc (.cells #[.slice ab bs.length cb, .slice ae es.length ce] 32)).heap.size 133 4 v (n + 1) (blkRow bs t bs.length) := by rw [← hn]; exact hown
    obtain ⟨g, cap, hvv, _, hgw, _, _, hcells⟩ := own_lastS hown2
    rw [← hn] at hvv
    subst hvv
    have HC := Lib.hid hcells
    clear hown hown2 hn hcells hv ht hpb1 hpe1 hg1 hb1
    go_wp2
    go_loopw [21, 8] (fun i v wr => ∃ k : Nat, k ≤ bs.length ∧ i = .int .i64 k ∧ wr.ownsRow w1.heap.size 9 1 v k ((partL bs t k).map Value.string) ∧ Below w1.heap.size w1 wr) (fun i _ _ => bs.length - (intOf i).toNat)
    case atStart => exact ⟨0, Nat.zero_le _, rfl, World.ownsRow_nil _ _ _ _, Below.refl _ _⟩
    case round =>
      obtain ⟨k, hk, rfl, hown, hbl⟩ := hrel
      have hs2 := hbl.size
      by_cases hlt : k < bs.length
      · have x0 := (hbl.cell (p := ⟨g, k * 4 + 0, none⟩) hgw).trans (HC.out (k * 4 + 0) _ (blkRow_at bs t bs.length k 0 hlt (by decide)))
        have x1 := (hbl.cell (p := ⟨g, k * 4 + 1, none⟩) hgw).trans (HC.out (k * 4 + 1) _ (blkRow_at bs t bs.length k 1 hlt (by decide)))
        have x2 := (hbl.cell (p := ⟨g, k * 4 + 2, none⟩) hgw).trans (HC.out (k * 4 + 2) _ (blkRow_at bs t bs.length k 2 hlt (by decide)))
        have x3 := (hbl.cell (p := ⟨g, k * 4 + 3, none⟩) hgw).trans (HC.out (k * 4 + 3) _ (blkRow_at bs t bs.length k 3 hlt (by decide)))
        simp only [Nat.add_zero] at x0
        have hs1 := HV.out.name_size (nameAt_mem hlt)
        have hs6 := (HV.out.b.op _ (pair_mem hlt)).1
        have hfn := fsOf_n (restAt bs k) t
        simp only at hs6
        have HX := Lib.hid (And.intro (show (nameAt bs k).size ≤ 1 by omega) (show (fsOf (restAt bs k) t).n ≤ 6 by omega))
        have HP := Lib.hid (partL_succ bs t k)
        have HO := Lib.hid (And.intro hown hbl)
        clear hs1 hs6 hfn hbl
        go_wp2_with fail
        refine (text_any (fsOf (restAt bs k) t) (nameAt bs k) (byteAt t 0 : Int) HX.out.1 HX.out.2 _).mono ?_
        rintro e w3 ⟨rfl, hb3⟩
        have hbw3 : Below wr.heap.size wr w3 := ((Below.refl _ _).alloc (Nat.le_refl _) _).trans (hb3.mono (by simp))
        have hz3 : w1.heap.size ≤ w3.heap.size := Nat.le_trans hs2 hbw3.size
        have hown3 := ownsRow_below HO.out.1 hbw3
        have hb13 := HO.out.2.trans (hbw3.mono hs2)
        have HB := Lib.hid (And.intro hown3 hb13)
        clear hown hb3 hbw3 hown3 hb13
        go_wp2_with (at_builtin; refine wpList_append_own _ rfl _ _ 50 rfl w1.heap.size 9 i0 (.string ⟨#[]⟩) 1 16 Tryd.underlying50 hi hz0 hz1 hz2 rfl (by decide) _ _ _ rfl (HB.out.1.alloc _) ⟨w3.heap.size, 0, none⟩ 1 1 [.string (nameAt bs k ++ dg (fsOf (restAt bs k) t).n ++ mkT (fsOf (restAt bs k) t))] rfl rfl (cell_one_new _ _ _) (one_one _ rfl) (by unfold maxLen; omega) (by omega) (by simp; omega) ?_; intro v' w4 hown4 hgrow4 _)
        have hb4 : Below w1.heap.size w1 w4 := (HB.out.2.alloc hz3 _).grown hgrow4 (by simp; omega) (fun j hj => (HB.out.1.lt j hj).1)
        go_roundw
        case rel => exact ⟨k + 1, by omega, by go_num, by rw [HP.out, List.map_append]; exact hown4, hb4⟩
        case measure => simp [intOf]; omega
      · obtain rfl : k = bs.length := by omega
        have HO := Lib.hid (And.intro hown hbl)
        clear hown hbl
        go_wp2_with fail
        refine (Join_parts _ _ bs es t _ HV.out HO.out.1).mono ?_
        rintro e w3 ⟨rfl, hb3⟩
        have hfin := hall.trans ((HO.out.2.trans (hb3.mono hs2)).mono hz)
        go_wp2
        go_ret2
        exact ⟨by rw [HN.out]; rfl, hfin⟩
  · have HN := Lib.hid (show factsV bs es t = .tuple #[.string e0, .bool false] by
      rcases hno with h | h
      · exact factsV_no1 h
      · exact factsV_no2 h)
    clear hno
    go_wp2
    go_ret2
    exact ⟨by rw [HN.out]; rfl, hall⟩
end Go.Proofs.YthkhccfemdjioaaDoor
end
