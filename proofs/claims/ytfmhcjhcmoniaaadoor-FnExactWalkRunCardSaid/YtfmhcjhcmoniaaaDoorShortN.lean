/-
  The model's l2Short: the walk. Conditions: a valid program; a name of one of its blocks.
-/
import Derived.Test.YtfmhcjhcmoniaaaDoorShortM
namespace Go.Proofs.YtfmhcjhcmoniaaaDoor
open Go.RowKit Go.Maps

theorem lastC_ext {u : ByteArray} {n : Nat} (h : u.size = n + 1) : u.extract n u.size = lastC u := by
  unfold lastC ch
  rw [h]; rfl
/-- 's[i:]' of a text -/
theorem run_slice_end (s : ByteArray) (i : Int) (a : Nat) (hi : i = a) (ha : a ≤ s.size) (W : World) :
    (Instr.slice 9 (.string s) (some (.int .i64 i)) none none).run Tryd.prog W = .ok (.string (s.extract a s.size)) W := by
  subst hi
  have h2 : (a : Int) ≤ s.size := by omega
  simp [Instr.slice, Instr.sliceBounds, Instr.sliceBound, run_underlying Tryd.underlying9, asIntOf, ha]
theorem own_empty (w : World) (e : TypeId) : (w.alloc (.cells #[] e)).ownsRow w.heap.size e 1 (.slice (some ⟨w.heap.size, 0, none⟩) 0 0) 0 [] :=
  ⟨rfl, .inr ⟨w.heap.size, 0, #[], rfl, Nat.le_refl _, heap_alloc_new w _, Nat.le_refl _, by decide, rfl, rfl⟩⟩

set_option maxRecDepth 100000 in
set_option maxHeartbeats 6400000 in
theorem l2Short_best (w : World) (bs es : List Pr) (ab ae : Option Addr) (cb ce : Nat) (x : ByteArray) (hV : Valid bs es) (hx : x ∈ names bs) (hpb : PairsAt w ab bs) (hpe : PairsAt w ae es) :
    Calls Tryd.prog 20 #[.agg #[.slice ab bs.length cb, .slice ae es.length ce], .string x] w fun e w' => (e = .returned (.string (bestT es x (lastN bs))) ∧ ∃ t, Best es x (lastN bs) t) ∧ Below w.heap.size w w' := by
  have h1 : Below w.heap.size w (w.alloc (.cells #[.slice ab bs.length cb, .slice ae es.length ce] 32)) := (Below.refl _ _).alloc (Nat.le_refl _) _
  have hpb1 := hpb.below h1
  have hpe1 := hpe.below h1
  have hx1 : x.size = 1 := hV.name_size hx
  obtain ⟨l0, hp0, hl8, hmin⟩ := hV.least hx
  obtain ⟨d, hd⟩ : ∃ d, d = l0.length := ⟨_, rfl⟩
  have hlb := hV.b.hi
  obtain ⟨n, hn⟩ : ∃ n, bs.length = n + 1 := ⟨bs.length - 1, by have := hV.b.lo; omega⟩
  obtain ⟨b, off, rfl, hb, g1, g2⟩ := hpb1.cell n (by omega)
  have hzN : nameAt bs n = lastN bs := by unfold lastN; rw [hn]; rfl
  rw [hzN] at g1
  have hw1 : IntKind.i64.wrap ((bs.length : Int) - 1) = (n : Int) := by rw [hn, show ((n + 1 : Nat) : Int) - 1 = (n : Int) by omega]; exact IntWalk.i64_in _ (by omega)
  have hi1 : (n : Int) < (bs.length : Int) := by omega
  have hi2 : (0 : Int) ≤ (n : Int) := by omega
  have y0 : (w.alloc (.cells #[.slice (some ⟨b, off, none⟩) bs.length cb, .slice ae es.length ce] 32)).cell? ⟨w.heap.size, 0, none⟩ = some (.slice (some ⟨b, off, none⟩) bs.length cb) := by go_simp
  have y1 : (w.alloc (.cells #[.slice (some ⟨b, off, none⟩) bs.length cb, .slice ae es.length ce] 32)).cell? ⟨w.heap.size, 1, none⟩ = some (.slice ae es.length ce) := by go_simp
  have hsA : w.heap.size < (w.alloc (.cells #[.slice (some ⟨b, off, none⟩) bs.length cb, .slice ae es.length ce] 32)).heap.size := by simp
  have HV := Lib.hid (And.intro hV (And.intro hx (And.intro hx1 (And.intro hp0 (And.intro hmin hd)))))
  have HA := Lib.hid (And.intro h1 (And.intro hpb1 hpe1))
  have hd8 : d ≤ 8 := by omega
  clear hV hx hx1 hp0 hmin hd hn hzN h1 hpb1 hpe1 g2 hl8 hpb hpe
  go_enter Tryd.func20, Tryd.ntmps20
  go_wp2
  generalize hwA : w.alloc (.cells #[.slice (some ⟨b, off, none⟩) bs.length cb, .slice ae es.length ce] 32) = wA at *
  have hzA : wA.heap.size = w.heap.size + 1 := by rw [← hwA]; simp
  have hst : (wA.alloc (.cells #[.string x] 9)).ownsRow wA.heap.size 9 1 (.slice (some ⟨w.heap.size + 1, 0, none⟩) 1 1) 1 [.string x] := by
    rw [← hzA]; exact own_one _ _ _
  have HH := Lib.hid (And.intro hst hzA); clear hst hzA hwA hw1 hi1 hi2 g1
  go_loopg [6] d (fun n' v wr => ∃ (j : Nat) (ts : List ByteArray), n' + j = d ∧ wr.ownsRow wA.heap.size 9 1 v ts.length (ts.map Value.string) ∧ Lev es x j ts ∧ Below wA.heap.size wA wr)
  case atStart => exact ⟨0, [x], by omega, HH.out.1, Lev.start HV.out.2.2.1, (Below.refl _ _).alloc (Nat.le_refl _) _⟩
  case round =>
    obtain ⟨j, ts, hgk, hown, hL, hbl⟩ := hrel
    have hsz := hL.sizes HV.out.1 HV.out.2.2.1
    have hlen := distinct_len hL.dist (hL.ends HV.out.1 HV.out.2.1)
    have hj8 : j ≤ 8 := by omega
    have hs1 := hbl.size
    obtain ⟨ga, gc, rfl⟩ := own_form hown
    have HL := Lib.hid (And.intro hL (And.intro hgk (And.intro hown (And.intro hbl hsz)))); clear hL hgk hown hbl hsz
    have htl : ts.length ≤ 9 := by omega
    clear hlen
    obtain ⟨wo, rfl⟩ : ∃ wo : World, wo = wr := ⟨_, rfl⟩
    have hownE := own_empty wo 9
    have hbE : Below wo.heap.size wo (wo.alloc (.cells #[] 9)) := (Below.refl _ _).alloc (Nat.le_refl _) _
    have hownB := own_below HL.out.2.2.1 hbE
    have HE := Lib.hid (And.intro hownE (And.intro hbE hownB)); clear hownE hbE hownB
    go_wp2
    generalize wo.alloc (.cells #[] 9) = wB at *
    go_loop [29, 8] (fun i bv => ∃ (m : Nat) (bb : ByteArray), m ≤ ts.length ∧ i = .int .i64 m ∧ bv = .string bb ∧ BestIn ts (lastN bs) m bb) (fun i _ => ts.length - (intOf i).toNat)
    case atStart => exact ⟨0, e0, Nat.zero_le _, rfl, rfl, BestIn.start _ _⟩
    case round =>
      obtain ⟨m, bb, hm, rfl, rfl, hB⟩ := hrel
      have HB := Lib.hid hB; clear hB
      by_cases hlt : m < ts.length
      · obtain ⟨u, hu⟩ : ∃ u, ts[m]? = some u := ⟨ts[m], List.getElem?_eq_getElem hlt⟩
        have hus := HL.out.2.2.2.2 u (List.mem_of_getElem? hu)
        obtain ⟨n', hn'⟩ : ∃ n', ts.length = n' + 1 := ⟨ts.length - 1, by omega⟩
        have hown2 : wB.ownsRow wA.heap.size 9 1 (.slice ga ts.length gc) (n' + 1) (ts.map Value.string) := by rw [← hn']; exact HE.out.2.2
        obtain ⟨g, cap, hv, hgb, hgw, hfr, _, hcells⟩ := own_last hown2
        rw [← hn'] at hv
        cases hv
        have hcu := hcells m (.string u) (by rw [List.getElem?_map, hu]; rfl)
        have hw2 : IntKind.i64.wrap ((u.size : Int) - 1) = (j : Int) := by rw [hus, show ((j + 1 : Nat) : Int) - 1 = (j : Int) by omega]; exact IntWalk.i64_in _ (by omega)
        have s3 : ∀ W : World, (Instr.slice 9 (.string u) (some (.int .i64 (j : Int))) none none).run Tryd.prog W = .ok (.string (lastC u)) W := fun W => by
          rw [← lastC_ext hus]; exact run_slice_end u (j : Int) j rfl (by omega) W
        have HU := Lib.hid (And.intro hu hus); clear hu hus hn' hown2 hcells
        by_cases hz : lastC u = lastN bs
        · have q1 : ((lastC u).toList == (lastN bs).toList) = true := by rw [toList_eq_iff]; exact decide_eq_true hz
          have hb0 := HB.out.empty HL.out.1.dist HU.out.1 hz
          have HZ := Lib.hid (BestIn.hit HU.out.1 hz); clear hz
          subst hb0
          have z1 : e0.toList = [] := by rw [ByteArray.toList_eq]; rfl
          have z2 : e0.toList.isEmpty = true := by rw [z1]; rfl
          go_wp2
          go_round
          case rel => exact ⟨m + 1, u, by omega, by go_num, rfl, HZ.out⟩
          case measure => simp [intOf]; omega
        · have q1 : ((lastC u).toList == (lastN bs).toList) = false := by rw [toList_eq_iff]; exact decide_eq_false hz
          have HZ := Lib.hid (HB.out.miss HU.out.1 hz); clear hz
          go_wp2
          go_round
          case rel => exact ⟨m + 1, bb, by omega, by go_num, rfl, HZ.out⟩
          case measure => simp [intOf]; omega
      · obtain rfl : m = ts.length := by omega
        rcases HB.out with ⟨hb0, hnone⟩ | ⟨jj, hjj, hbj, hzj⟩
        · subst hb0
          have HN := Lib.hid hnone
          have hj1 : j < d := by
            have h1 := HL.out.2.1
            rcases Nat.lt_or_ge j d with h2 | h2
            · exact h2
            · exfalso
              have h3 := HV.out.2.2.2.2.2
              obtain ⟨t, ht, h4, _⟩ := HL.out.1.cover l0 _ HV.out.2.2.2.1 (by omega)
              obtain ⟨k, hk, ek⟩ := List.getElem_of_mem ht
              exact hnone k t hk (by rw [List.getElem?_eq_getElem hk, ek]) h4
          clear hnone hlt
          have z1 : e0.toList = [] := by rw [ByteArray.toList_eq]; rfl
          have z2 : e0.toList.isEmpty = true := by rw [z1]; rfl
          go_wp2
          clear z1 z2
          go_loopw [56, 7] (fun i nv wq => ∃ (m : Nat) (ks : List ByteArray), m ≤ ts.length ∧ i = .int .i64 m ∧ wq.ownsRow wo.heap.size 9 1 nv ks.length (ks.map Value.string) ∧ Nxt es (Made es ts m 0) ks ∧ Below wo.heap.size wo wq) (fun i _ _ => ts.length - (intOf i).toNat)
          case atStart => exact ⟨0, [], Nat.zero_le _, rfl, HE.out.1, (Nxt.start es).same Made.zero, HE.out.2.1⟩
          case round =>
            obtain ⟨m, ks, hm, rfl, hownK, hN, hblq⟩ := hrel
            have HK := Lib.hid (And.intro hownK (And.intro hN hblq)); clear hownK hN
            have hsq := hblq.size
            have hbAq := HL.out.2.2.2.1.trans (hblq.mono hs1)
            have x0 := (hbAq.cell (p := ⟨w.heap.size, 0, none⟩) hsA).trans y0
            have x1 := (hbAq.cell (p := ⟨w.heap.size, 1, none⟩) hsA).trans y1
            have HBA := Lib.hid hbAq; clear hbAq
            by_cases hlt : m < ts.length
            · obtain ⟨u, hu⟩ : ∃ u, ts[m]? = some u := ⟨ts[m], List.getElem?_eq_getElem hlt⟩
              have hus := HL.out.2.2.2.2 u (List.mem_of_getElem? hu)
              obtain ⟨n', hn'⟩ : ∃ n', ts.length = n' + 1 := ⟨ts.length - 1, by omega⟩
              have hown2 : wr.ownsRow wA.heap.size 9 1 (.slice ga ts.length gc) (n' + 1) (ts.map Value.string) := by rw [← hn']; exact own_below HL.out.2.2.1 hblq
              obtain ⟨g, cap, hv, hgb, hgw, hfr, _, hcells⟩ := own_last hown2
              rw [← hn'] at hv
              cases hv
              have hcu := hcells m (.string u) (by rw [List.getElem?_map, hu]; rfl)
              have hw2 : IntKind.i64.wrap ((u.size : Int) - 1) = (j : Int) := by rw [hus, show ((j + 1 : Nat) : Int) - 1 = (j : Int) by omega]; exact IntWalk.i64_in _ (by omega)
              have s3 : ∀ W : World, (Instr.slice 9 (.string u) (some (.int .i64 (j : Int))) none none).run Tryd.prog W = .ok (.string (lastC u)) W := fun W => by
                rw [← lastC_ext hus]; exact run_slice_end u (j : Int) j rfl (by omega) W
              have hn1 : w.heap.size < wr.heap.size := by have := HBA.out.size; omega
              have HU := Lib.hid (And.intro hu hus); clear hu hus hn' hown2 hcells hblq
              go_wp2
              go_region_held3 (fun w' => w'.cell? ⟨w.heap.size, 0, none⟩ = some (.slice (some ⟨b, off, none⟩) bs.length cb) ∧ w'.cell? ⟨w.heap.size, 1, none⟩ = some (.slice ae es.length ce) ∧ Below wr.heap.size wr w')
                (first
                  | exact ⟨x0, x1, (Below.refl _ _).drew⟩
                  | (have hq := below_new (‹_ ∧ _ ∧ Below wr.heap.size wr _›).2.2 hbN; exact ⟨(hq.cell (p := ⟨w.heap.size, 0, none⟩) hn1).trans x0, (hq.cell (p := ⟨w.heap.size, 1, none⟩) hn1).trans x1, hq⟩))
                (first
                  | (go_at_call 27; refine (l2Out_any _ bs es _ _ _ _ (lastC u) HV.out.1 ?_).mono ?_; (exact HA.out.2.2.below (HBA.out.trans ((‹_ ∧ _ ∧ Below wr.heap.size wr _›).2.2.mono HBA.out.size))); rintro e wN ⟨rfl, hbN⟩))
              have hbQ := (‹_ ∧ _ ∧ Below wr.heap.size wr wN›).2.2
              have HQ := Lib.hid hbQ; clear hbQ
              have hL1 : ∀ y ∈ outL es (lastC u), y.size = 1 := fun y hy => HV.out.1.name_size (HV.out.1.e.to _ (mem_outL.1 hy))
              have hcs := cat_size hL1
              have hc14 : (cat (outL es (lastC u))).size ≤ 14 := by have := outL_length es (lastC u); have := HV.out.1.e.hi; omega
              have HC := Lib.hid (And.intro hcs hL1); clear hcs hL1
              obtain ⟨wp, rfl⟩ : ∃ wp : World, wp = wr := ⟨_, rfl⟩
              go_wp2
              go_loopw [69, 7] (fun i nv wz => ∃ (q : Nat) (ks' : List ByteArray), q ≤ (cat (outL es (lastC u))).size ∧ i = .int .i64 q ∧ wz.ownsRow wo.heap.size 9 1 nv ks'.length (ks'.map Value.string) ∧ Nxt es (Made es ts m q) ks' ∧ Below wo.heap.size wo wz) (fun i _ _ => (cat (outL es (lastC u))).size - (intOf i).toNat)
              case atStart => exact ⟨0, ks, Nat.zero_le _, rfl, own_below HK.out.1 HQ.out, HK.out.2.1, HK.out.2.2.trans (HQ.out.mono hsq)⟩
              case round =>
                obtain ⟨q, ks', hq, rfl, hownZ, hNz, hblz⟩ := hrel
                obtain ⟨gz, gy, rfl⟩ := own_form hownZ
                have HZ := Lib.hid (And.intro hownZ (And.intro hNz hblz)); clear hownZ hNz
                have hsz := hblz.size
                clear hblz
                by_cases hltq : q < (cat (outL es (lastC u))).size
                · have hql : q < (outL es (lastC u)).length := by rw [← HC.out.1]; exact hltq
                  obtain ⟨y, hy⟩ : ∃ y, (outL es (lastC u))[q]? = some y := ⟨(outL es (lastC u))[q], List.getElem?_eq_getElem hql⟩
                  have hy1 : y.size = 1 := HC.out.2 y (List.mem_of_getElem? hy)
                  have hchy : ch (cat (outL es (lastC u))) q = y := by
                    rw [ch_cat HC.out.2 hql]
                    rw [List.getElem?_eq_getElem hql] at hy
                    exact Option.some.inj hy
                  have w4 : IntKind.i64.wrap ((q : Int) + 1) = (q : Int) + 1 := IntWalk.i64_in _ (by omega)
                  have s4 : ∀ W : World, (Instr.slice 9 (.string (cat (outL es (lastC u)))) (some (.int .i64 (q : Int))) (some (.int .i64 ((q : Int) + 1))) none).run Tryd.prog W = .ok (.string y) W := fun W => by
                    rw [← hchy]; exact run_slice_str (cat (outL es (lastC u))) ((q : Int)) ((q : Int) + 1) q (q + 1) rfl (by omega) (by omega) (by omega) W
                  have t1 : ¬ 9223372036854775807 < u.size + y.size := by have := HU.out.2; omega
                  have hinfo := fun c hc => Made.info HV.out.1 HV.out.2.2.1 HL.out.1 (m := m) (q := q) (c := c) hc
                  have hks : ∀ c ∈ ks', 1 ≤ c.size ∧ c.size ≤ 1000 := fun c hc => by have := (hinfo c (HZ.out.2.1.mem c hc)).1; omega
                  have hkl : ks'.length ≤ 1000 := by have := distinct_len HZ.out.2.1.dist (fun c hc => (hinfo c (HZ.out.2.1.mem c hc)).2); omega
                  have huy : 1 ≤ (u ++ y).size ∧ (u ++ y).size ≤ 1000 := by rw [ByteArray.size_append, hy1, HU.out.2]; omega
                  have HY := Lib.hid (And.intro hks (And.intro hkl (And.intro huy ((HZ.out.2.1.keep (u ++ y)).same (Made.name HU.out.1 hy)))))
                  clear hinfo hks hkl huy hy hy1 hchy hql
                  go_wp2_with fail
                  refine (l2Keep_any _ wo.heap.size _ ks' (u ++ y) hsz HY.out.1 HY.out.2.2.1 HY.out.2.1 HZ.out.1).mono ?_
                  rintro e w5 ⟨⟨v5, rfl, hown5⟩, hb5⟩
                  have HR := Lib.hid (And.intro hown5 (HZ.out.2.2.trans hb5)); clear hown5 hb5
                  go_wp2
                  go_roundw
                  case rel => exact ⟨q + 1, _, by omega, by go_num, HR.out.1, HY.out.2.2.2, HR.out.2⟩
                  case measure => simp [intOf]; omega
                · obtain rfl : q = (cat (outL es (lastC u))).size := by omega
                  have HN2 : Hid (Nxt es (Made es ts (m + 1) 0) ks') := Lib.hid (by
                    have h5 := HZ.out.2.1
                    rw [HC.out.1] at h5
                    exact h5.same (Made.way HU.out.1))
                  go_wp2
                  go_roundw
                  case rel => exact ⟨m + 1, ks', by omega, by go_num, HZ.out.1, HN2.out, HZ.out.2.2⟩
                  case measure => simp [intOf]; omega
            · obtain rfl : m = ts.length := by omega
              obtain ⟨gz, gy, rfl⟩ := own_form HK.out.1
              have hs1' := fun (e : Pr) (he : e ∈ es) => HV.out.1.name_size (HV.out.1.e.to _ he)
              have HX := Lib.hid (HL.out.1.next hs1' HV.out.2.2.1 (HK.out.2.1.same Made.all)); clear hs1'
              have HW := Lib.hid (own_base HK.out.1 hs1)
              go_wp2
              go_roundg (d - (j + 1))
              case measure => have := HL.out.2.1; omega
              case rel => exact ⟨j + 1, ks, by omega, HW.out, HX.out, HBA.out⟩
        · have hbs := HL.out.2.2.2.2 bb (List.mem_of_getElem? hbj)
          have hne : bb.toList.isEmpty = false := by rw [isEmpty_eq]; exact decide_eq_false fun e => by rw [e] at hbs; cases hbs
          have hne2 : ¬ bb.toList = [] := fun e => by rw [e] at hne; cases hne
          have hbest : Best es x (lastN bs) bb := HL.out.1.best (List.mem_of_getElem? hbj) hzj fun l hl => by
            have h1 := HV.out.2.2.2.2.1 l hl
            have h2 := HL.out.2.1
            have h3 := HV.out.2.2.2.2.2
            omega
          have HX := Lib.hid (And.intro (bestT_eq hbest) (show ∃ t, Best es x (lastN bs) t from ⟨_, hbest⟩))
          clear hbj hzj hjj hbs hbest hlt
          go_wp2
          go_ret
          exact ⟨⟨by rw [HX.out.1]; rfl, HX.out.2⟩, HA.out.1.trans ((HL.out.2.2.2.1.trans (HE.out.2.1.mono hs1)).mono HA.out.1.size)⟩
theorem l2Short_any (w : World) (bs es : List Pr) (ab ae : Option Addr) (cb ce : Nat) (x : ByteArray) (hV : Valid bs es) (hx : x ∈ names bs) (hpb : PairsAt w ab bs) (hpe : PairsAt w ae es) :
    Calls Tryd.prog 20 #[.agg #[.slice ab bs.length cb, .slice ae es.length ce], .string x] w fun e w' => e = .returned (.string (bestT es x (lastN bs))) ∧ Below w.heap.size w w' :=
  (l2Short_best w bs es ab ae cb ce x hV hx hpb hpe).mono fun _ _ h => ⟨h.1.1, h.2⟩
end Go.Proofs.YtfmhcjhcmoniaaaDoor
