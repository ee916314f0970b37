/-
  WalkRun of the program. Conditions: at most 1048576 blocks, edges and picks, each text at most as many bytes; the errors' variables hold errors.
-/
import Derived.Test.YtfmhcjhcmoniaaaDoorWalkM
import Derived.Test.YtfmhcjhcmoniaaaDoorShortI
import Derived.Test.YtfmhcjhcmoniaaaDoorNamesAt
namespace Go.Proofs.YtfmhcjhcmoniaaaDoor
open Go.RowKit Go.Maps

set_option maxRecDepth 100000 in
theorem arePicks_any (ns : List Int) (a : Option Addr) (cap : Nat) (w : World) (hp : IntsAt w a ns) :
    Calls Tryd.prog 28 #[.slice a ns.length cap] w fun e w' => e = .returned (.bool (picksOk ns)) ∧ w = w' := by
  have hl := hp.len
  by_cases h40 : (40 : Int) < (ns.length : Int)
  · have HN := Lib.hid (picksOk_long (ns := ns) (by omega))
    go_enter Tryd.func28, Tryd.ntmps28
    go_wp2
    go_ret
    exact ⟨ret_bool HN.out.symm, rfl⟩
  · have h40' : (ns.length : Int) ≤ 40 := by omega
    clear h40
    go_enter Tryd.func28, Tryd.ntmps28
    go_wp2
    go_loop [10] (fun i => ∃ k : Nat, k ≤ ns.length ∧ i = .int .i64 k ∧ ∀ j, j < k → 0 ≤ numAt ns j) (fun i => ns.length - (intOf i).toNat)
    case atStart => exact ⟨0, Nat.zero_le _, rfl, fun j hj => absurd hj (Nat.not_lt_zero _)⟩
    case round =>
      obtain ⟨k, hk, rfl, hno⟩ := hrel
      have Hno := Lib.hid hno; clear hno
      by_cases hlt : k < ns.length
      · obtain ⟨b, off, rfl, hb, hc⟩ := hp.cell k hlt
        by_cases hneg : numAt ns k < 0
        · have HN := Lib.hid (picksOk_neg hlt hneg)
          go_wp2
          go_ret
          exact ⟨ret_bool HN.out.symm, rfl⟩
        · have hge : 0 ≤ numAt ns k := by omega
          have HG := Lib.hid (show ∀ j, j < k + 1 → 0 ≤ numAt ns j from all_step Hno.out hge)
          clear hneg
          go_wp2
          go_round
          case rel => exact ⟨k + 1, by omega, by go_num, HG.out⟩
          case measure => simp [intOf]; omega
      · obtain rfl : k = ns.length := by omega
        have HN := Lib.hid (show picksOk ns = true from picksOk_iff.2 ⟨by omega, fun i hi => Hno.out i hi⟩)
        go_wp2
        go_ret
        exact ⟨ret_bool HN.out.symm, rfl⟩
theorem arePicks_lit (ns : List Int) (a : Option Addr) (cap : Nat) (b : Bool) (h : picksOk ns = b) (w : World) (hp : IntsAt w a ns) :
    Calls Tryd.prog 28 #[.slice a ns.length cap] w fun e w' => e = .returned (.bool b) ∧ w = w' := by subst h; exact arePicks_any ns a cap w hp
theorem walk_end {bs es : List Pr} {ns : List Int} {O : ByteArray} {l : List ByteArray} {D : ByteArray → Option Nat} (hV : Valid bs es) (hp : picksOk ns = true) (hF : Far (flip es) (lastN bs) D) (hO : OnWay bs O) (he : walkW es (lastN bs) (nameAt bs 0) ns = O) (hg : Gr es D (lastC O) l) :
    walkV bs es ns = .tuple #[.string (O ++ cat l), .bool true] := by
  have hb := hg.best hF (fun e he => hV.name_size (hV.e.to _ he))
  rw [walkV_yes (show validB bs es = true by simpa [validB] using hV) hp]
  unfold fullW
  rw [he, best_tail (hV.name_size hO.at_) hb]
theorem names_pos {bs es : List Pr} (hV : Valid bs es) {x : ByteArray} (hx : x ∈ names bs) (hz : x ≠ lastN bs) : 0 < (cat (outL es x)).size := by
  rw [cat_size (fun y hy => hV.name_size (hV.e.to _ (mem_outL.1 hy)))]
  exact outL_pos hV hx hz

set_option maxRecDepth 100000 in
set_option maxHeartbeats 6400000 in
theorem WalkRun_impl (w : World) (bs es : List Pr) (ab ae : Option Addr) (cb ce : Nat) (ns : List Int) (an : Option Addr) (cn : Nat) (hpb : PairsAt w ab bs) (hpe : PairsAt w ae es) (hpn : IntsAt w an ns) (hg : Errs w) :
    Calls Tryd.prog 13 #[.agg #[.slice ab bs.length cb, .slice ae es.length ce], .slice an ns.length cn] w fun e w' => e = .returned (walkV bs es ns) ∧ Below w.heap.size w w' := by
  have h1 : Below w.heap.size w (w.alloc (.cells #[.slice ab bs.length cb, .slice ae es.length ce] 32)) := (Below.refl _ _).alloc (Nat.le_refl _) _
  have hpb1 := hpb.below h1
  have hpe1 := hpe.below h1
  have hpn1 := hpn.below h1
  have hg1 := hg.keep h1
  have H1 := Lib.hid h1; clear h1
  go_enter Tryd.func13, Tryd.ntmps13
  go_wp2_with fail
  refine (courseOf_any _ bs es _ _ _ _ hpb1 hpe1 hg1).mono ?_
  rintro e w1 ⟨hb1, hcase⟩
  have hall : Below w.heap.size w w1 := H1.out.trans (hb1.mono (by simp))
  have hz := hall.size
  have hpn2 := hpn1.below hb1
  rcases hcase with ⟨hv, o, lo, li, vn, f, D, rfl, hp⟩ | ⟨hv, rfl⟩
  · have hwa : Below w1.heap.size w1 (w1.alloc (.cells #[.map (some o), .map (some lo), .map (some li), vn, .map (some f)] 62)) := (Below.refl _ _).alloc (Nat.le_refl _) _
    have hpn3 := hpn2.below hwa
    cases hpk : picksOk ns
    · have HN := Lib.hid (walkV_no2 (bs := bs) (es := es) hpk)
      have HP := Lib.hid (And.intro hpk hpn3)
      have hfin := hall.alloc hz (.cells #[.map (some o), .map (some lo), .map (some li), vn, .map (some f)] 62)
      obtain ⟨ga, gc, rfl⟩ := own_form hp.names
      clear hp hv hpk hpn3 hpn2 hwa
      go_wp2_with (go_at_call 28; refine (arePicks_lit ns _ _ _ HP.out.1 _ HP.out.2).mono ?_; rintro e w' ⟨rfl, rfl⟩)
      go_ret2
      exact ⟨by rw [HN.out]; rfl, hfin⟩
    · obtain ⟨n, hn⟩ : ∃ n, bs.length = n + 1 := ⟨bs.length - 1, by have := hv.b.lo; omega⟩
      have hpA := hp.keep hwa
      have hkA : (w1.alloc (.cells #[.map (some o), .map (some lo), .map (some li), vn, .map (some f)] 62)).heap[w1.heap.size]? = some (.cells #[.map (some o), .map (some lo), .map (some li), vn, .map (some f)] 62 (0, 0)) := heap_alloc_new w1 _
      obtain ⟨⟨x0, x1, x2, x3, x4⟩, xa⟩ := block5 hkA
      obtain ⟨g, cap, rfl, hgw, hcells⟩ := names_cells hpA.names hn
      have q0 := hcells 0 (by omega)
      have N1 : (0 : Int) < (n : Int) + 1 := by omega
      have hn40 : (ns.length : Int) ≤ 40 := by have := (picksOk_iff.1 hpk).1; omega
      have HH := Lib.hid (And.intro hv (And.intro hpA (And.intro (hall.alloc hz (.cells #[.map (some o), .map (some lo), .map (some li), .slice (some ⟨g, 0, none⟩) (n + 1) cap, .map (some f)] 62)) (And.intro hpk hpn3))))
      have hwz : w1.heap.size < (w1.alloc (.cells #[.map (some o), .map (some lo), .map (some li), .slice (some ⟨g, 0, none⟩) (n + 1) cap, .map (some f)] 62)).heap.size := by simp
      clear hv hp hpA hkA hall hwa hcells hn hpk hpn3 hpn2 hpn1 hpb1 hpe1 hg1 hb1
      go_wp2_with (go_at_call 28; refine (arePicks_lit ns _ _ _ HH.out.2.2.2.1 _ HH.out.2.2.2.2).mono ?_; rintro e w' ⟨rfl, rfl⟩)
      generalize (w1.alloc (.cells #[.map (some o), .map (some lo), .map (some li), .slice (some ⟨g, 0, none⟩) (n + 1) cap, .map (some f)] 62)) = wA at *
      have hzA := HH.out.2.2.1.size
      go_loopw [31, 8] (fun i v wr => ∃ k : Nat, k ≤ ns.length ∧ i = .int .i64 k ∧ v = .string (walkW es (lastN bs) (nameAt bs 0) (ns.take k)) ∧ Below wA.heap.size wA wr) (fun i _ _ => ns.length - (intOf i).toNat)
      case atStart => exact ⟨0, Nat.zero_le _, rfl, rfl, Below.refl _ _⟩
      case round =>
        obtain ⟨k, hk, rfl, rfl, hbl⟩ := hrel
        have hs2 := hbl.size
        obtain ⟨O, hO⟩ : ∃ O, O = walkW es (lastN bs) (nameAt bs 0) (ns.take k) := ⟨_, rfl⟩
        have hW : OnWay bs O := by rw [hO]; exact OnWay.walk HH.out.1 _ _ (OnWay.start HH.out.1)
        rw [← hO]
        obtain ⟨m, hm⟩ : ∃ m, O.size = m + 1 := ⟨O.size - 1, by have := hW.lo; omega⟩
        have hO20 := hW.hi
        have hOs : O.size ≤ 1048576 := by omega
        have hlc : ch O m = lastC O := by unfold lastC; rw [hm]; rfl
        obtain ⟨pp, hpp, hpe'⟩ := List.mem_map.1 hW.at_
        obtain ⟨kd, hkd⟩ := HH.out.2.1.least.reach (show Reach (flip es) (lastN bs) (lastC O) by have := HH.out.1.rz pp hpp; rw [hpe'] at this; exact this)
        have HO := Lib.hid (And.intro hO (And.intro hW (And.intro hm (And.intro hlc hkd)))); clear hO hW hm hlc hkd hpp hpe'
        have z0 := (hbl.cell (p := ⟨w1.heap.size, 0, none⟩) hwz).trans x0
        have z1 := (hbl.cell (p := ⟨w1.heap.size, 1, none⟩) hwz).trans x1
        have z2 := (hbl.cell (p := ⟨w1.heap.size, 2, none⟩) hwz).trans x2
        have z3 := (hbl.cell (p := ⟨w1.heap.size, 3, none⟩) hwz).trans x3
        have z4 := (hbl.cell (p := ⟨w1.heap.size, 4, none⟩) hwz).trans x4
        have hn1 : w1.heap.size < wr.heap.size := by omega
        have HB := Lib.hid hbl
        by_cases hlt : k < ns.length
        · have hbl' := hbl; clear hbl'
          obtain ⟨bn, on, rfl, hbn, hcn⟩ := HH.out.2.2.2.2.cell k hlt
          have d3 := (hbl.cell (p := ⟨bn, on + k, none⟩) hbn).trans hcn
          have hge : 0 ≤ numAt ns k := (picksOk_iff.1 HH.out.2.2.2.1).2 k hlt
          have HS := Lib.hid (walkW_succ (es := es) (z := lastN bs) (out := nameAt bs 0) hlt)
          have hmem : ∀ y ∈ outL es (ch O m), y ∈ names bs := fun y hy => HH.out.1.e.to (ch O m, y) (mem_outL.1 hy)
          have hl9 : (outL es (ch O m)).length ≤ 12 := Nat.le_trans (length_le_of_sub _ (names bs) (outL_nodup HH.out.1.e.nd (ch O m)) hmem) (by rw [names_length]; have := HH.out.1.b.hi; omega)
          have HM := Lib.hid (And.intro hl9 (fun y hy => HH.out.1.name_size (hmem y hy)))
          have hxm : (ch O m).size ≤ 1048576 := by rw [HO.out.2.2.2.1, HH.out.1.name_size HO.out.2.1.at_]; decide
          have hE14 : (es : List Pr).length ≤ 1000 := by have := HH.out.1.e.hi; omega
          clear hmem hl9 hcn hbl
          go_wp2
          go_region_held3 (fun w' => w'.cell? ⟨w1.heap.size, 0, none⟩ = some (.map (some o)) ∧ w'.cell? ⟨w1.heap.size, 1, none⟩ = some (.map (some lo)) ∧ w'.cell? ⟨w1.heap.size, 2, none⟩ = some (.map (some li)) ∧ w'.cell? ⟨w1.heap.size, 3, none⟩ = some (.slice (some ⟨g, 0, none⟩) (n + 1) cap) ∧ w'.cell? ⟨w1.heap.size, 4, none⟩ = some (.map (some f)) ∧ Below wr.heap.size wr w')
            (first
              | exact ⟨z0, z1, z2, z3, z4, (Below.refl _ _).drew⟩
              | exact ⟨z0, z1, z2, z3, z4, Below.refl _ _⟩
              | (subst_vars; assumption)
              | (have hq := below_new (‹_ ∧ _ ∧ _ ∧ _ ∧ _ ∧ Below wr.heap.size wr _›).2.2.2.2.2 hbN; exact ⟨(hq.cell (p := ⟨w1.heap.size, 0, none⟩) hn1).trans z0, (hq.cell (p := ⟨w1.heap.size, 1, none⟩) hn1).trans z1, (hq.cell (p := ⟨w1.heap.size, 2, none⟩) hn1).trans z2, (hq.cell (p := ⟨w1.heap.size, 3, none⟩) hn1).trans z3, (hq.cell (p := ⟨w1.heap.size, 4, none⟩) hn1).trans z4, hq⟩))
            (first
              | (go_at_call 30; refine (lastOf_any O m HO.out.2.2.1 hOs _).mono ?_; rintro e wM ⟨rfl, rfl⟩)
              | (go_at_call 29; obtain ⟨fp, F, hL, hfp⟩ := (HH.out.2.1.keep (HB.out.trans ((‹_ ∧ _ ∧ _ ∧ _ ∧ _ ∧ Below wr.heap.size wr _›).2.2.2.2.2.mono HB.out.size))).plan.out; refine (namesAt_any _ lo fp es F (ch O m) hL hfp hxm hE14 HH.out.1.e.nd HM.out.1 HM.out.2).mono ?_; rintro e wN ⟨rfl, hbN⟩; clear hL hfp))
          obtain ⟨k0, k1, k2, k3, k4, kb⟩ := (‹_ ∧ _ ∧ _ ∧ _ ∧ _ ∧ Below wr.heap.size wr wN›)
          have HQ := Lib.hid (HB.out.trans (kb.mono HB.out.size)); clear kb hbN z0 z1 z2 z3 z4
          obtain ⟨N, hN⟩ : ∃ N, N = cat (outL es (ch O m)) := ⟨_, rfl⟩
          rw [← hN]
          rw [HO.out.2.2.2.1] at hN
          have HNm := Lib.hid hN; clear hN
          by_cases hzz : lastC O = lastN bs
          · have HDn := Lib.hid (show walkW es (lastN bs) (nameAt bs 0) ns = O by
              have h5 := HO.out.1
              rw [h5]
              refine walkW_done (k := k) fun h => ?_
              rw [← h5] at h
              exact h.1 hzz)
            have hN0 : N = e0 := by rw [HNm.out, hzz, outL_exit HH.out.1]; rfl
            have t1 : N.toList = [] := by rw [hN0, ByteArray.toList_eq]; rfl
            have t2 : N.toList.isEmpty = true := by rw [t1]; rfl
            clear hN0 hzz
            have hck := HH.out.2.1.keep HQ.out
            have HCk := Lib.hid hck; clear hck
            go_wp2_with fail
            refine (finish_any _ o lo li f kd m _ bs es D O (lastC O) HO.out.2.2.1 (by omega) HO.out.2.2.2.1 HO.out.2.2.2.2 HH.out.1 HCk.out).mono ?_
            rintro e w5 ⟨⟨l, rfl, hgr⟩, hb5⟩
            have HE := Lib.hid (walk_end HH.out.1 HH.out.2.2.2.1 HH.out.2.1.least HO.out.2.1 HDn.out hgr)
            have hfin := HH.out.2.2.1.trans ((HQ.out.trans (hb5.mono HQ.out.size)).mono hzA)
            clear hgr hb5
            go_wp2
            go_ret2
            exact ⟨by rw [HE.out]; rfl, hfin⟩
          · have hp0 : 0 < N.size := by rw [HNm.out]; exact names_pos HH.out.1 HO.out.2.1.at_ hzz
            have t2 : N.toList.isEmpty = false := by rw [isEmpty_eq]; exact decide_eq_false fun e => by rw [e] at hp0; exact absurd hp0 (by decide)
            have t1 : ¬ N.toList = [] := fun e => by rw [e] at t2; cases t2
            by_cases h20 : (O.size : Int) < 20
            · obtain ⟨i, y, hi, hil, hy, hgd, hy1, hyn⟩ := pick_name HH.out.1 HO.out.2.1.at_ hzz (numAt ns k)
              have HE := Lib.hid (show stepW es (lastN bs) O (numAt ns k) = O ++ y by rw [stepW_go ⟨hzz, by omega⟩, hgd])
              have hL1 : ∀ y ∈ outL es (lastC O), y.size = 1 := fun y hy => HH.out.1.name_size (HH.out.1.e.to _ (mem_outL.1 hy))
              have hcs : N.size = (outL es (lastC O)).length := by rw [HNm.out]; exact cat_size hL1
              have hc1 : (0 : Int) < (N.size : Int) := by omega
              have hc2 : ¬ (N.size : Int) = 0 := by omega
              have hmod : numAt ns k % (N.size : Int) = (i : Int) := by rw [hcs]; exact hi
              have hchy : ch N i = y := by
                rw [HNm.out, ch_cat hL1 hil]
                rw [List.getElem?_eq_getElem hil] at hy
                exact Option.some.inj hy
              have w4 : IntKind.i64.wrap ((i : Int) + 1) = (i : Int) + 1 := IntWalk.i64_in _ (by have := outL_length es (lastC O); omega)
              have s4 : ∀ W : World, (Instr.slice 9 (.string N) (some (.int .i64 (i : Int))) (some (.int .i64 ((i : Int) + 1))) none).run Tryd.prog W = .ok (.string y) W := fun W => by
                rw [← hchy]; exact run_slice_str N ((i : Int)) ((i : Int) + 1) i (i + 1) rfl (by omega) (by omega) (by omega) W
              have t5 : ¬ 9223372036854775807 < O.size + y.size := by omega
              clear hzz hi hil hy hgd hy1 hyn hcs hL1 hchy
              go_wp2
              go_roundw
              case rel => exact ⟨k + 1, by omega, by go_num, by rw [HS.out, ← HO.out.1, HE.out], HQ.out⟩
              case measure => simp [intOf]; omega
            · have h20' : (20 : Int) ≤ (O.size : Int) := by omega
              have HDn := Lib.hid (show walkW es (lastN bs) (nameAt bs 0) ns = O by
                have h5 := HO.out.1
                rw [h5]
                refine walkW_done (k := k) fun h => ?_
                rw [← h5] at h
                omega)
              clear h20 hzz
              have hck := HH.out.2.1.keep HQ.out
              have HCk := Lib.hid hck; clear hck
              go_wp2_with fail
              refine (finish_any _ o lo li f kd m _ bs es D O (lastC O) HO.out.2.2.1 (by omega) HO.out.2.2.2.1 HO.out.2.2.2.2 HH.out.1 HCk.out).mono ?_
              rintro e w5 ⟨⟨l, rfl, hgr⟩, hb5⟩
              have HE := Lib.hid (walk_end HH.out.1 HH.out.2.2.2.1 HH.out.2.1.least HO.out.2.1 HDn.out hgr)
              have hfin := HH.out.2.2.1.trans ((HQ.out.trans (hb5.mono HQ.out.size)).mono hzA)
              clear hgr hb5
              go_wp2
              go_ret2
              exact ⟨by rw [HE.out]; rfl, hfin⟩
        · obtain rfl : k = ns.length := by omega
          clear hbl hlt
          have hck := HH.out.2.1.keep HB.out
          have HCk := Lib.hid hck; clear hck
          go_wp2_with fail
          refine (finish_any _ o lo li f kd m _ bs es D O (lastC O) HO.out.2.2.1 (by omega) HO.out.2.2.2.1 HO.out.2.2.2.2 HH.out.1 HCk.out).mono ?_
          rintro e w5 ⟨⟨l, rfl, hgr⟩, hb5⟩
          have HE := Lib.hid (walk_end HH.out.1 HH.out.2.2.2.1 HH.out.2.1.least HO.out.2.1 (by have := HO.out.1; rw [List.take_length] at this; exact this.symm) hgr)
          have hfin := HH.out.2.2.1.trans ((HB.out.trans (hb5.mono hs2)).mono hzA)
          clear hgr hb5
          go_wp2
          go_ret2
          exact ⟨by rw [HE.out]; rfl, hfin⟩
  · have HN := Lib.hid (walkV_no1 (ns := ns) (show validB bs es = false by simpa [validB] using hv))
    have hfin := fun o => hall.alloc hz o
    clear hv
    go_wp2
    go_ret2
    exact ⟨by rw [HN.out]; rfl, hfin _⟩
end Go.Proofs.YtfmhcjhcmoniaaaDoor
