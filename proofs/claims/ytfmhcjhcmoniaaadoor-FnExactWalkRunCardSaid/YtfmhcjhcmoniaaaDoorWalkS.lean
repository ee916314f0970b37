/-
  WalkRun of the model. Conditions: at most 1048576 blocks, edges and picks, each text at most as many bytes.
-/
import Derived.Test.YtfmhcjhcmoniaaaDoorWalkM
import Derived.Test.YtfmhcjhcmoniaaaDoorShortN
namespace Go.Proofs.YtfmhcjhcmoniaaaDoor
open Go.RowKit Go.Maps

set_option maxRecDepth 100000 in
set_option maxHeartbeats 6400000 in
theorem WalkRun_spec (w : World) (bs es : List Pr) (ab ae : Option Addr) (cb ce : Nat) (ns : List Int) (an : Option Addr) (cn : Nat) (hpb : PairsAt w ab bs) (hpe : PairsAt w ae es) (hpn : IntsAt w an ns) :
    Calls Tryd.prog 11 #[.agg #[.slice ab bs.length cb, .slice ae es.length ce], .slice an ns.length cn] w fun e w' => e = .returned (walkV bs es ns) ∧ Below w.heap.size w w' := by
  have h1 : Below w.heap.size w (w.alloc (.cells #[.slice ab bs.length cb, .slice ae es.length ce] 32)) := (Below.refl _ _).alloc (Nat.le_refl _) _
  have hpb1 := hpb.below h1
  have hpe1 := hpe.below h1
  have hpn1 := hpn.below h1
  have hnl := hpn.len
  have H1 := Lib.hid h1; clear h1
  go_enter Tryd.func11, Tryd.ntmps11
  go_wp2_with fail
  refine (ProgValid_spec _ bs es _ _ _ _ hpb1 hpe1).mono ?_
  rintro e w1 ⟨rfl, hb1⟩
  have hall : Below w.heap.size w w1 := H1.out.trans (hb1.mono (by simp))
  have hpb2 := hpb1.below hb1
  have hpe2 := hpe1.below hb1
  have hpn2 := hpn1.below hb1
  have c0 := (hb1.cell (p := ⟨w.heap.size, 0, none⟩) (by simp)).trans (show _ = some (.slice ab bs.length cb) by go_simp)
  have c1 := (hb1.cell (p := ⟨w.heap.size, 1, none⟩) (by simp)).trans (show _ = some (.slice ae es.length ce) by go_simp)
  have hz := hall.size
  have hz1 : w.heap.size < w1.heap.size := by have := hb1.size; simp at this; omega
  cases hv : validB bs es
  · have HN := Lib.hid (walkV_no1 (ns := ns) hv)
    clear hv
    go_wp2
    go_ret2
    exact ⟨by rw [HN.out]; rfl, hall⟩
  · by_cases h40 : (40 : Int) < (ns.length : Int)
    · have HN := Lib.hid (walkV_no2 (bs := bs) (es := es) (picksOk_long (ns := ns) (by omega)))
      have d1 : decide ((40 : Int) < (ns.length : Int)) = true := by simpa using h40
      clear hv
      go_wp2
      go_ret2
      exact ⟨by rw [HN.out]; rfl, hall⟩
    have HVB := Lib.hid hv
    have hV : Valid bs es := by simpa [validB] using hv
    have d1 : decide ((40 : Int) < (ns.length : Int)) = false := by simpa using h40
    have hn40 : (ns.length : Int) ≤ 40 := by omega
    have hlb := hV.b.hi
    obtain ⟨n, hn⟩ : ∃ n, bs.length = n + 1 := ⟨bs.length - 1, by have := hV.b.lo; omega⟩
    obtain ⟨b, off, rfl, hb, g1, g2⟩ := hpb2.cell n (by omega)
    obtain ⟨b', off', e', hb', g0, _⟩ := hpb2.cell 0 (by omega)
    cases e'
    simp only [Nat.zero_mul, Nat.add_zero] at g0
    have hzN : nameAt bs n = lastN bs := by unfold lastN; rw [hn]; rfl
    rw [hzN] at g1
    have hw1 : IntKind.i64.wrap ((bs.length : Int) - 1) = (n : Int) := by rw [hn, show ((n + 1 : Nat) : Int) - 1 = (n : Int) by omega]; exact IntWalk.i64_in _ (by omega)
    have hi1 : (n : Int) < (bs.length : Int) := by omega
    have hi2 : (0 : Int) ≤ (n : Int) := by omega
    have hi0 : (0 : Int) < (bs.length : Int) := by omega
    have HV := Lib.hid (And.intro hV (And.intro hpb2 (And.intro hpe2 (And.intro hpn2 hall))))
    clear hv h40 hV hpb2 hpe2 hpn2 hzN hn g2 hpb1 hpe1 hpn1 hb1 hpb hpe hpn hall
    go_wp2
    clear hw1 hi1 hi2 hi0 g0 g1
    go_loopw [37, 6] (fun i v wr => ∃ k : Nat, k ≤ ns.length ∧ i = .int .i64 k ∧ v = .string (walkW es (lastN bs) (nameAt bs 0) (ns.take k)) ∧ Below w1.heap.size w1 wr ∧ ∀ j, j < k → 0 ≤ numAt ns j) (fun i _ _ => ns.length - (intOf i).toNat)
    case atStart => exact ⟨0, Nat.zero_le _, rfl, rfl, Below.refl _ _, fun j hj => absurd hj (Nat.not_lt_zero _)⟩
    case round =>
      obtain ⟨k, hk, rfl, rfl, hbl, hpos⟩ := hrel
      have HP := Lib.hid hpos; clear hpos
      have hs2 := hbl.size
      obtain ⟨O, hO⟩ : ∃ O, O = walkW es (lastN bs) (nameAt bs 0) (ns.take k) := ⟨_, rfl⟩
      have hW : OnWay bs O := by rw [hO]; exact OnWay.walk HV.out.1 _ _ (OnWay.start HV.out.1)
      rw [← hO]
      obtain ⟨m, hm⟩ : ∃ m, O.size = m + 1 := ⟨O.size - 1, by have := hW.lo; omega⟩
      have hO20 := hW.hi
      have hw2 : IntKind.i64.wrap ((O.size : Int) - 1) = (m : Int) := by rw [hm, show ((m + 1 : Nat) : Int) - 1 = (m : Int) by omega]; exact IntWalk.i64_in _ (by omega)
      have s3 : ∀ W : World, (Instr.slice 9 (.string O) (some (.int .i64 (m : Int))) none none).run Tryd.prog W = .ok (.string (lastC O)) W := fun W => by
        rw [← lastC_ext hm]; exact run_slice_end O (m : Int) m rfl (by omega) W
      have HO := Lib.hid (And.intro hO (And.intro hW hm)); clear hO hW hm
      have x0 := (hbl.cell (p := ⟨w.heap.size, 0, none⟩) hz1).trans c0
      have x1 := (hbl.cell (p := ⟨w.heap.size, 1, none⟩) hz1).trans c1
      have hn1 : w.heap.size < wr.heap.size := by omega
      by_cases hlt : k < ns.length
      · obtain ⟨bn, on, rfl, hbn, hcn⟩ := HV.out.2.2.2.1.cell k hlt
        have d3 := (hbl.cell (p := ⟨bn, on + k, none⟩) hbn).trans hcn
        clear hcn
        by_cases hneg : numAt ns k < 0
        · have HN := Lib.hid (walkV_no2 (bs := bs) (es := es) (picksOk_neg hlt hneg))
          have hfin := HV.out.2.2.2.2.trans (hbl.mono hz)
          go_wp2
          go_ret2
          exact ⟨by rw [HN.out]; rfl, hfin⟩
        · have hge : 0 ≤ numAt ns k := by omega
          have HS := Lib.hid (walkW_succ (es := es) (z := lastN bs) (out := nameAt bs 0) hlt)
          have HPn := Lib.hid (show ∀ j, j < k + 1 → 0 ≤ numAt ns j from all_step HP.out hge)
          clear hneg
          by_cases hzz : lastC O = lastN bs
          · have q1 : ((lastC O).toList == (lastN bs).toList) = true := by rw [toList_eq_iff]; exact decide_eq_true hzz
            have q2 : ((lastC O).toList != (lastN bs).toList) = false := by rw [bne, q1]; rfl
            have HE := Lib.hid (show stepW es (lastN bs) O (numAt ns k) = O from stepW_stop fun h => h.1 hzz)
            clear hzz
            go_wp2
            go_roundw
            case rel => exact ⟨k + 1, by omega, by go_num, by rw [HS.out, ← HO.out.1, HE.out], hbl, HPn.out⟩
            case measure => simp [intOf]; omega
          · have q1 : ((lastC O).toList == (lastN bs).toList) = false := by rw [toList_eq_iff]; exact decide_eq_false hzz
            have q2 : ((lastC O).toList != (lastN bs).toList) = true := by rw [bne, q1]; rfl
            by_cases h20 : (O.size : Int) < 20
            · obtain ⟨i, y, hi, hil, hy, hgd, hy1, hyn⟩ := pick_name HV.out.1 HO.out.2.1.at_ hzz (numAt ns k)
              have HE := Lib.hid (show stepW es (lastN bs) O (numAt ns k) = O ++ y by rw [stepW_go ⟨hzz, by omega⟩, hgd])
              have hL1 : ∀ y ∈ outL es (lastC O), y.size = 1 := fun y hy => HV.out.1.name_size (HV.out.1.e.to _ (mem_outL.1 hy))
              have hcs := cat_size hL1
              have hc0 : 0 < (cat (outL es (lastC O))).size := by omega
              have hc1 : (0 : Int) < ((cat (outL es (lastC O))).size : Int) := by omega
              have hc2 : ¬ ((cat (outL es (lastC O))).size : Int) = 0 := by omega
              have hmod : numAt ns k % ((cat (outL es (lastC O))).size : Int) = (i : Int) := by rw [hcs]; exact hi
              have hchy : ch (cat (outL es (lastC O))) i = y := by
                rw [ch_cat hL1 hil]
                rw [List.getElem?_eq_getElem hil] at hy
                exact Option.some.inj hy
              have w4 : IntKind.i64.wrap ((i : Int) + 1) = (i : Int) + 1 := IntWalk.i64_in _ (by have := HV.out.1.e.hi; have := outL_length es (lastC O); omega)
              have s4 : ∀ W : World, (Instr.slice 9 (.string (cat (outL es (lastC O)))) (some (.int .i64 (i : Int))) (some (.int .i64 ((i : Int) + 1))) none).run Tryd.prog W = .ok (.string y) W := fun W => by
                rw [← hchy]; exact run_slice_str (cat (outL es (lastC O))) ((i : Int)) ((i : Int) + 1) i (i + 1) rfl (by omega) (by omega) (by omega) W
              have t1 : ¬ 9223372036854775807 < O.size + y.size := by omega
              have hbl' := hbl.size
              have HB := Lib.hid hbl
              clear hzz hi hil hy hgd hy1 hyn hcs hL1 hchy hbl
              go_wp2_with fail
              refine (l2Out_any _ bs es _ _ _ _ (lastC O) HV.out.1 (HV.out.2.2.1.below HB.out)).mono ?_
              rintro e w5 ⟨rfl, hb5⟩
              have HB5 := Lib.hid (HB.out.trans (hb5.mono hbl')); clear hb5
              go_wp2
              go_roundw
              case rel => exact ⟨k + 1, by omega, by go_num, by rw [HS.out, ← HO.out.1, HE.out], HB5.out, HPn.out⟩
              case measure => simp [intOf]; omega
            · have HE := Lib.hid (show stepW es (lastN bs) O (numAt ns k) = O from stepW_stop fun h => h20 (by omega))
              have h20' : (20 : Int) ≤ (O.size : Int) := by omega
              clear hzz h20
              go_wp2
              go_roundw
              case rel => exact ⟨k + 1, by omega, by go_num, by rw [HS.out, ← HO.out.1, HE.out], hbl, HPn.out⟩
              case measure => simp [intOf]; omega
      · obtain rfl : k = ns.length := by omega
        have hpk : picksOk ns = true := picksOk_iff.2 ⟨by omega, fun i hi => HP.out i hi⟩
        have HN := Lib.hid (show walkV bs es ns = .tuple #[.string (O ++ (bestT es (lastC O) (lastN bs)).extract 1 (bestT es (lastC O) (lastN bs)).size), .bool true] by
          rw [walkV_yes HVB.out hpk]
          unfold fullW
          have := HO.out.1
          rw [List.take_length] at this
          rw [← this])
        have HB := Lib.hid hbl
        clear hpk hbl hlt
        obtain ⟨E, hE⟩ : ∃ E, E = (bestT es (lastC O) (lastN bs)).extract 1 (bestT es (lastC O) (lastN bs)).size := ⟨_, rfl⟩
        rw [← hE] at HN
        have HEx := Lib.hid hE; clear hE
        go_wp2
        go_region_held3 (fun w' => w'.cell? ⟨w.heap.size, 0, none⟩ = some (.slice (some ⟨b, off, none⟩) bs.length cb) ∧ w'.cell? ⟨w.heap.size, 1, none⟩ = some (.slice ae es.length ce) ∧ Below wr.heap.size wr w')
          (first
            | exact ⟨x0, x1, (Below.refl _ _).drew⟩
            | (have hq := below_new (‹_ ∧ _ ∧ Below wr.heap.size wr _›).2.2 hbN; exact ⟨(hq.cell (p := ⟨w.heap.size, 0, none⟩) hn1).trans x0, (hq.cell (p := ⟨w.heap.size, 1, none⟩) hn1).trans x1, hq⟩))
          (first
            | (go_at_call 20; refine (l2Short_best _ bs es _ _ _ _ (lastC O) HV.out.1 HO.out.2.1.at_ ?_ ?_).mono ?_; (exact HV.out.2.1.below (HB.out.trans ((‹_ ∧ _ ∧ Below wr.heap.size wr _›).2.2.mono HB.out.size))); (exact HV.out.2.2.1.below (HB.out.trans ((‹_ ∧ _ ∧ Below wr.heap.size wr _›).2.2.mono HB.out.size))); rintro e wN ⟨⟨rfl, hbt⟩, hbN⟩; obtain ⟨tt, hbest⟩ := hbt; have hbd := best_bd HV.out.1 HO.out.2.1.at_ hbest; have s5 := run_slice_end (bestT es (lastC O) (lastN bs)) 1 1 rfl hbd.1; rw [← HEx.out] at s5; have t5 : ¬ (O.size + E.size > 9223372036854775807) := (by rw [HEx.out, ByteArray.size_extract]; omega); clear hbest hbd))
        have hfin := HV.out.2.2.2.2.trans ((HB.out.trans ((‹_ ∧ _ ∧ Below wr.heap.size wr wN›).2.2.mono hs2)).mono hz)
        go_wp2
        go_ret2
        exact ⟨by rw [HN.out]; rfl, hfin⟩
end Go.Proofs.YtfmhcjhcmoniaaaDoor
