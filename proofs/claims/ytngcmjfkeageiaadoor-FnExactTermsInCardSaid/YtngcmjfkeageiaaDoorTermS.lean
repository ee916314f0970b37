/-
  TermsIn of the model. Conditions: at most 1048576 blocks and edges, each text at most as many bytes.
-/
import Derived.Test.YtngcmjfkeageiaaDoorTermM
import Derived.Test.YtngcmjfkeageiaaDoorSpecD
import Derived.Test.YtngcmjfkeageiaaDoorValid
namespace Go.Proofs.YtngcmjfkeageiaaDoor
open Go.RowKit Go.Maps

theorem l15Find_at (s : ByteArray) (c : Nat) (f i : Int) (hi : i = (c : Int)) (h : fndC s c = f) (w : World) (hs : s.size ≤ 1048576) :
    Calls Tryd.prog 60 #[.string s, .int .u8 i] w fun e w' => e = .returned (.int .i64 f) ∧ w = w' := by
  subst h hi; exact l15Find_any s c w hs
theorem three_at (w w' : World) (hb : Below w.heap.size w w') (b : Nat) (hlt : b < w.heap.size) (h : w.heap[b]? = some (.cells #[.string ⟨#[120]⟩, .string ⟨#[121]⟩, .string ⟨#[122]⟩] 9 (0, 0))) :
    w'.cell? ⟨b, 0, none⟩ = some (.string ⟨#[120]⟩) ∧ w'.cell? ⟨b, 1, none⟩ = some (.string ⟨#[121]⟩) ∧ w'.cell? ⟨b, 2, none⟩ = some (.string ⟨#[122]⟩) := by
  have h' := (hb.block b hlt).trans h
  refine ⟨?_, ?_, ?_⟩ <;> simp [World.cell?, h']

set_option maxRecDepth 100000 in
set_option maxHeartbeats 12800000 in
theorem TermsIn_spec (w : World) (bs es : List Pr) (ab ae : Option Addr) (cb ce : Nat) (hpb : PairsAt w ab bs) (hpe : PairsAt w ae es) :
    Calls Tryd.prog 13 #[.agg #[.slice ab bs.length cb, .slice ae es.length ce]] w fun e w' => e = .returned (termV bs es) ∧ Below w.heap.size w w' := by
  have h1 : Below w.heap.size w (w.alloc (.cells #[.slice ab bs.length cb, .slice ae es.length ce] 32)) := (Below.refl _ _).alloc (Nat.le_refl _) _
  have hpb1 := hpb.below h1
  have hpe1 := hpe.below h1
  have H1 := Lib.hid h1; clear h1
  go_enter Tryd.func13, Tryd.ntmps13
  go_wp2_with fail
  refine (ProgValid_spec _ bs es _ _ _ _ hpb1 hpe1).mono ?_
  rintro e w1 ⟨rfl, hb1⟩
  have hall : Below w.heap.size w w1 := H1.out.trans (hb1.mono (by simp))
  have hpb2 := hpb1.below hb1
  have c0 := (hb1.cell (p := ⟨w.heap.size, 0, none⟩) (by simp)).trans (show _ = some (.slice ab bs.length cb) by go_simp)
  have c1 := (hb1.cell (p := ⟨w.heap.size, 1, none⟩) (by simp)).trans (show _ = some (.slice ae es.length ce) by go_simp)
  have hz := hall.size
  have hzq : w.heap.size < w1.heap.size := by have := hb1.size; simp at this; omega
  have hlen := hpb.len
  cases hv : validB bs es
  · have HV := Lib.hid (termV_no hv)
    clear hv
    go_wp2
    go_ret2
    exact ⟨by rw [HV.out]; rfl, hall⟩
  · have HV := Lib.hid (termV_yes hv)
    clear hv hb1 hpb1 hpe1
    go_wp2
    have hT : (w1.alloc (.cells #[.string ⟨#[120]⟩, .string ⟨#[121]⟩, .string ⟨#[122]⟩] 9)).heap[w1.heap.size]? = some (.cells #[.string ⟨#[120]⟩, .string ⟨#[121]⟩, .string ⟨#[122]⟩] 9 (0, 0)) := heap_alloc_new _ _
    have hbA : Below w1.heap.size w1 (w1.alloc (.cells #[.string ⟨#[120]⟩, .string ⟨#[121]⟩, .string ⟨#[122]⟩] 9)) := (Below.refl _ _).alloc (Nat.le_refl _) _
    have hsA : w1.heap.size < (w1.alloc (.cells #[.string ⟨#[120]⟩, .string ⟨#[121]⟩, .string ⟨#[122]⟩] 9)).heap.size := by simp
    have hallA := hall.trans (hbA.mono hz)
    have hpbA := hpb2.below hbA
    have cA := (hbA.cell (p := ⟨w.heap.size, 0, none⟩) hzq).trans c0
    generalize w1.alloc (.cells #[.string ⟨#[120]⟩, .string ⟨#[121]⟩, .string ⟨#[122]⟩] 9) = wA at *
    have HA := Lib.hid (And.intro hT (And.intro hallA hpbA))
    have hzqA : w.heap.size < wA.heap.size := by omega
    clear hbA hT hallA hpbA hall hpb2 c0 c1
    go_loopw [14, 4] (fun i v wr => ∃ k : Nat, k ≤ 3 ∧ i = .int .i64 k ∧ v = .string (tmA bs k) ∧ Below wA.heap.size wA wr) (fun i _ _ => 3 - (intOf i).toNat)
    case atStart => exact ⟨0, by omega, rfl, rfl, Below.refl _ _⟩
    case round =>
      obtain ⟨k, hk, rfl, rfl, hbl⟩ := hrel
      have HB := Lib.hid hbl
      have hsz := tmA_size bs k
      obtain ⟨z0, z1, z2⟩ := three_at wA wr hbl w1.heap.size hsA HA.out.1
      have cR := (hbl.cell (p := ⟨w.heap.size, 0, none⟩) hzqA).trans cA
      have hzr := hbl.size
      clear hbl
      by_cases hlt : k < 3
      · obtain ⟨T, hT⟩ : ∃ T, tmN k = T := ⟨_, rfl⟩
        have hTs : T.size = 1 := by rw [← hT]; exact tmN_size k
        have hcell : wr.cell? ⟨w1.heap.size, k, none⟩ = some (.string T) := by
          rw [← hT]
          obtain rfl | rfl | rfl : k = 0 ∨ k = 1 ∨ k = 2 := by omega
          · exact z0
          · exact z1
          · exact z2
        have hT0 : ∃ h0 : 0 < T.size, (T[0].toNat : Int) = ((120 + k : Nat) : Int) := by
          subst hT
          obtain rfl | rfl | rfl : k = 0 ∨ k = 1 ∨ k = 2 := by omega
          all_goals exact ⟨by decide, rfl⟩
        obtain ⟨hT0, hTv⟩ := hT0
        have HT := Lib.hid (And.intro hT hTs)
        have hTi : (0 : Int) < (T.size : Int) := by omega
        have t1 : ¬ 9223372036854775807 < (tmA bs k).size + T.size := by omega
        have HTv := Lib.hid hTv
        have d3 : (k : Int) < 3 := by omega
        clear z0 z1 z2 hT hTs hTv hsz
        go_wp2
        go_loopw [21, 4] (fun j v wr2 => ∃ m : Nat, m ≤ bs.length ∧ j = .int .i64 m ∧ v = .string (tmA bs k) ∧ hasT bs (120 + k) m = false ∧ Below wA.heap.size wA wr2) (fun j _ _ => bs.length - (intOf j).toNat)
        case atStart => exact ⟨0, Nat.zero_le _, rfl, rfl, rfl, HB.out⟩
        case round =>
          obtain ⟨m, hm, rfl, rfl, hno, hbl⟩ := hrel
          have hsz2 := hbl.size
          have HN := Lib.hid (And.intro hno hbl)
          by_cases hlt2 : m < bs.length
          · obtain ⟨b, off, rfl, hb, g1, g2⟩ := HA.out.2.2.cell m hlt2
            have d1 := (hbl.cell (p := ⟨b, off + m * 2, none⟩) hb).trans g1
            have d2 := (hbl.cell (p := ⟨b, off + m * 2 + 1, none⟩) hb).trans g2
            have HS := Lib.hid (HA.out.2.2.size m hlt2).2
            obtain ⟨f, hf⟩ : ∃ f, fndC (restAt bs m) (120 + k) = f := ⟨_, rfl⟩
            have HF := Lib.hid hf
            clear hno hbl g1 g2 hf
            by_cases hf0 : (0 : Int) ≤ f
            · have HH := Lib.hid (show hasT bs (120 + k) bs.length = true from hasT_hit hlt2 (by rw [HF.out]; exact hf0))
              have dd : decide ((0 : Int) ≤ f) = true := decide_eq_true hf0
              go_wp2
              go_quiet (exact Calls.quiet_of_same ((l15Find_at (restAt bs m) (120 + k) f _ HTv.out HF.out _ HS.out).mono fun _ _ h => ⟨h.1, h.2.symm⟩))
              go_wp2
              go_roundw
              case rel => exact ⟨k + 1, by omega, by go_num, by rw [tmA_yes HH.out, HT.out.1], below_drewN (HN.out.2.alloc hsz2 _) _⟩
              case measure => simp [intOf]; omega
            · have HH := Lib.hid (show hasT bs (120 + k) (m + 1) = false from hasT_more HN.out.1 (by rw [HF.out]; omega))
              have dd : decide ((0 : Int) ≤ f) = false := decide_eq_false hf0
              go_wp2
              go_quiet (exact Calls.quiet_of_same ((l15Find_at (restAt bs m) (120 + k) f _ HTv.out HF.out _ HS.out).mono fun _ _ h => ⟨h.1, h.2.symm⟩))
              go_wp2
              go_roundw
              case rel => exact ⟨m + 1, by omega, by go_num, rfl, HH.out, below_drewN (HN.out.2.alloc hsz2 _) _⟩
              case measure => simp [intOf]; omega
          · obtain rfl : m = bs.length := by omega
            have HH := Lib.hid (tmA_no HN.out.1)
            clear hno hbl
            go_wp2
            go_roundw
            case rel => exact ⟨k + 1, by omega, by go_num, by rw [HH.out], HN.out.2⟩
            case measure => simp [intOf]; omega
      · obtain rfl : k = 3 := by omega
        go_wp2
        go_ret2
        exact ⟨by rw [HV.out]; rfl, HA.out.2.1.trans (HB.out.mono HA.out.2.1.size)⟩
end Go.Proofs.YtngcmjfkeageiaaDoor
