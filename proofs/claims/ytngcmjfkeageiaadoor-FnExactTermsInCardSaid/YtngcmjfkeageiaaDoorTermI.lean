/-
  TermsIn of the program. Conditions: at most 1048576 blocks and edges, each text at most as many bytes; the errors' variables hold errors.
-/
import Derived.Test.YtngcmjfkeageiaaDoorSortedB
import Derived.Test.YtngcmjfkeageiaaDoorBlkI
import Derived.Test.YtngcmjfkeageiaaDoorBlkF
import Derived.Test.YtngcmjfkeageiaaDoorPlan
import Derived.Deep.CutRange
namespace Go.Proofs.YtngcmjfkeageiaaDoor
open Go.RowKit Go.Maps

/-- a letter of a block that a walk over the blocks has had -/
def Had (bs : List Pr) (lf : Lit → Bool) (x : Nat) : Prop := ∃ p ∈ bs, lf (kS p.1) = false ∧ ∃ j, j < p.2.size ∧ byteAt p.2 j = x
/-- the keys that are in -/
def InF (S : Int → Bool) (P : Nat → Prop) : Prop := ∀ y, S y = true ↔ ∃ x : Nat, y = (x : Int) ∧ lowB x = true ∧ P x
theorem InF.congr {S : Int → Bool} {P Q : Nat → Prop} (h : InF S P) (e : ∀ x, P x ↔ Q x) : InF S Q := fun y => (h y).trans ⟨fun ⟨x, a, b, c⟩ => ⟨x, a, b, (e x).1 c⟩, fun ⟨x, a, b, c⟩ => ⟨x, a, b, (e x).2 c⟩⟩
theorem InF.put {S : Int → Bool} {s : ByteArray} {k : Nat} {P : Nat → Prop} (h : InF S (fun x => P x ∨ ∃ j, j < k ∧ byteAt s j = x)) (hl : lowB (byteAt s k) = true) :
    InF (fun y => S y || decide (y = ((byteAt s k : Nat) : Int))) (fun x => P x ∨ ∃ j, j < k + 1 ∧ byteAt s j = x) := by
  intro y
  simp only [Bool.or_eq_true, decide_eq_true_eq, h y]
  constructor
  · rintro (⟨x, e, hl', hp | ⟨j, hj, e'⟩⟩ | e)
    · exact ⟨x, e, hl', .inl hp⟩
    · exact ⟨x, e, hl', .inr ⟨j, by omega, e'⟩⟩
    · exact ⟨byteAt s k, e, hl, .inr ⟨k, by omega, rfl⟩⟩
  · rintro ⟨x, e, hl', hp | ⟨j, hj, e'⟩⟩
    · exact .inl ⟨x, e, hl', .inl hp⟩
    · rcases Nat.lt_or_ge j k with h' | h'
      · exact .inl ⟨x, e, hl', .inr ⟨j, h', e'⟩⟩
      · obtain rfl : j = k := by omega
        exact .inr (by rw [e, e'])
theorem InF.skip {S : Int → Bool} {s : ByteArray} {k : Nat} {P : Nat → Prop} (h : InF S (fun x => P x ∨ ∃ j, j < k ∧ byteAt s j = x)) (hl : lowB (byteAt s k) = false) :
    InF S (fun x => P x ∨ ∃ j, j < k + 1 ∧ byteAt s j = x) := by
  intro y
  rw [h y]
  constructor
  · rintro ⟨x, e, hl', hp | ⟨j, hj, e'⟩⟩
    · exact ⟨x, e, hl', .inl hp⟩
    · exact ⟨x, e, hl', .inr ⟨j, by omega, e'⟩⟩
  · rintro ⟨x, e, hl', hp | ⟨j, hj, e'⟩⟩
    · exact ⟨x, e, hl', .inl hp⟩
    · rcases Nat.lt_or_ge j k with h' | h'
      · exact ⟨x, e, hl', .inr ⟨j, h', e'⟩⟩
      · obtain rfl : j = k := by omega
        rw [e', hl'] at hl; cases hl
theorem had_step {bs : List Pr} (hnd : (names bs).Nodup) {lf : Lit → Bool} {p : Pr} (hp : p ∈ bs) (x : Nat) :
    (Had bs lf x ∨ ∃ j, j < p.2.size ∧ byteAt p.2 j = x) ↔ Had bs (fun z => lf z && !z.sameKey (kS p.1)) x := by
  constructor
  · rintro (⟨q, hq, hl, h⟩ | h)
    · exact ⟨q, hq, by show (lf (kS q.1) && _) = false; rw [hl]; rfl, h⟩
    · exact ⟨p, hp, by show (lf (kS p.1) && !(kS p.1).sameKey (kS p.1)) = false; rw [WideAt.sameKey_self (isKeyS _)]; simp, h⟩
  · rintro ⟨q, hq, hl, h⟩
    cases hl' : lf (kS q.1)
    · exact .inl ⟨q, hq, hl', h⟩
    · have hl2 : (lf (kS q.1) && !(kS q.1).sameKey (kS p.1)) = false := hl
      rw [hl'] at hl2
      have hk : kS q.1 = kS p.1 := WideAt.sameKey_eq (by simpa using hl2)
      have he := kS_inj.1 hk
      obtain ⟨i, hi, e1, e2⟩ := mem_at hp
      obtain ⟨j, hj, f1, f2⟩ := mem_at hq
      have := names_inj hnd hj hi (by rw [f1, e1, he])
      subst this
      rw [← f2, e2] at h
      exact .inr h
theorem had_all {bs : List Pr} {lf : Lit → Bool} (hl : ∀ kl, lf kl = false) (x : Nat) : Had bs lf x ↔ hasT bs x bs.length = true := by
  rw [hasT_iff]
  constructor
  · rintro ⟨p, hp, _, h⟩
    obtain ⟨i, hi, _, e2⟩ := mem_at hp
    exact ⟨i, hi, by rw [e2]; exact h⟩
  · rintro ⟨i, hi, h⟩
    exact ⟨_, pair_mem hi, hl _, h⟩
theorem InF.fin {S : Int → Bool} {bs : List Pr} (h : InF S (fun x => hasT bs x bs.length = true)) : (∀ x, S x = true → x = 120 ∨ x = 121 ∨ x = 122) ∧ [120, 121, 122].filter S = (tmL bs).map fun n => ((n : Nat) : Int) := by
  have key : ∀ n : Nat, lowB n = true → S (n : Int) = hasT bs n bs.length := fun n hn => by
    rw [Bool.eq_iff_iff, h]
    constructor
    · rintro ⟨x, e, _, hx⟩
      obtain rfl : n = x := by omega
      exact hx
    · intro hx; exact ⟨n, rfl, hn, hx⟩
  have k0 := key 120 rfl
  have k1 := key 121 rfl
  have k2 := key 122 rfl
  refine ⟨fun x hx => ?_, ?_⟩
  · obtain ⟨n, e, hn, _⟩ := (h x).1 hx
    unfold lowB at hn
    simp only [Bool.and_eq_true, decide_eq_true_eq] at hn
    omega
  · unfold tmL
    simp only [List.filter]
    rw [show S 120 = _ from k0, show S 121 = _ from k1, show S 122 = _ from k2]
    cases hasT bs 120 bs.length <;> cases hasT bs 121 bs.length <;> cases hasT bs 122 bs.length <;> rfl

theorem ownB_size {w : World} {b n : Nat} {D : DataW Value} (h : w.ownsMap Tryd.prog 5 hR b n D) : Maps.size D ≤ n := by
  obtain ⟨es', clock, _, _, hes, rfl⟩ := h
  simpa [Maps.size, length_sorted] using hes
theorem conv_none (W : World) : (convert 36 9 (.slice none 0 0)).run Tryd.prog W = .ok (.string ⟨#[]⟩) W := by kernel_rfl
theorem conv_row (w : World) (g cap : Nat) (l : List Nat) (h3 : ∀ x ∈ l, x < 256) (hc : CellsB w g (l.map fun n => ((n : Nat) : Int))) :
    (convert 36 9 (.slice (some ⟨g, 0, none⟩) l.length cap)).run Tryd.prog w = .ok (.string ⟨(l.map UInt8.ofNat).toArray⟩) w := by
  have h := run_convert_bytes_back (P := Tryd.prog) w 36 9 5 ⟨g, 0, none⟩ cap (l.map UInt8.ofNat) Tryd.underlying36 Tryd.underlying5 Tryd.underlying9 (fun j hj => ?_)
  · rw [List.length_map] at h; exact h
  · have hj' : j < l.length := by simpa using hj
    have h1 := (hc j (by simpa using hj')).1
    have hx := h3 (l[j]) (List.getElem_mem hj')
    have e1 : (l.map fun n => ((n : Nat) : Int)).getD j 0 = ((l[j] : Nat) : Int) := by simp [List.getD_eq_getElem?_getD, hj']
    rw [e1] at h1
    have e2 : (((l.map UInt8.ofNat)[j]).toNat : Int) = ((l[j] : Nat) : Int) := by
      rw [List.getElem_map, UInt8.toNat_ofNat', Nat.mod_eq_of_lt hx]
    have e3 : (⟨g, 0, none⟩ : Addr).add j = ⟨g, j, none⟩ := by by_cases h : j = 0 <;> simp [Addr.add, h]
    rw [e2, e3]
    exact h1

set_option maxRecDepth 100000 in
set_option maxHeartbeats 12800000 in
theorem TermsIn_impl (w : World) (bs es : List Pr) (ab ae : Option Addr) (cb ce : Nat) (hpb : PairsAt w ab bs) (hpe : PairsAt w ae es) (hg : Errs w) :
    Calls Tryd.prog 15 #[.agg #[.slice ab bs.length cb, .slice ae es.length ce]] w fun e w' => e = .returned (termV bs es) ∧ Below w.heap.size w w' := by
  have h1 : Below w.heap.size w (w.alloc (.cells #[.slice ab bs.length cb, .slice ae es.length ce] 32)) := (Below.refl _ _).alloc (Nat.le_refl _) _
  have hpb1 := hpb.below h1
  have hpe1 := hpe.below h1
  have hg1 := hg.keep h1
  have H1 := Lib.hid h1; clear h1
  have hmm := @run_makeMap Tryd.prog
  go_enter Tryd.func15, Tryd.ntmps15
  go_wp2_with fail
  refine (planOf_any _ bs es _ _ _ _ hpb1 hpe1 hg1).mono ?_
  rintro e w1 ⟨hb1, hcase⟩
  have hall : Below w.heap.size w w1 := H1.out.trans (hb1.mono (by simp))
  have hz := hall.size
  rcases hcase with ⟨hv, o, lo, li, rfl, hp⟩ | ⟨hv, t, z, rfl⟩
  · have HV := Lib.hid (show validB bs es = true by simpa [validB] using hv)
    have HVV := Lib.hid hv
    obtain ⟨F, hO⟩ := hp.ops
    have hol := hO.map.lt
    have hP : Below w1.heap.size w1 (w1.alloc (.cells #[.map (some o), .map (some lo), .map (some li)] 83)) := (Below.refl _ _).alloc (Nat.le_refl _) _
    have hM : Below w1.heap.size w1 ((w1.alloc (.cells #[.map (some o), .map (some lo), .map (some li)] 83)).alloc (.map #[] 0)) := hP.alloc hP.size _
    have hS0 := SetB.made (w1.alloc (.cells #[.map (some o), .map (some lo), .map (some li)] 83))
    rw [show (w1.alloc (.cells #[.map (some o), .map (some lo), .map (some li)] 83)).heap.size = w1.heap.size + 1 by simp] at hS0
    have c0 : ((w1.alloc (.cells #[.map (some o), .map (some lo), .map (some li)] 83)).alloc (.map #[] 0)).cell? ⟨w1.heap.size, 0, none⟩ = some (.map (some o)) := by go_simp
    have hO1 := hO.below hM
    have hsM : ((w1.alloc (.cells #[.map (some o), .map (some lo), .map (some li)] 83)).alloc (.map #[] 0)).heap.size = w1.heap.size + 2 := by simp
    have HO := Lib.hid (And.intro hO1 (And.intro hM hall))
    have HO1 := Lib.hid hO
    clear hv hp hpb1 hpe1 hg1 hb1 hO hP hM hall hO1
    go_upto_region 5 with fail
    generalize (w1.alloc (.cells #[.map (some o), .map (some lo), .map (some li)] 83)).alloc (.map #[] 0) = wM at *
    obtain ⟨D, hown, hD⟩ := HO.out.1.map
    have HD := Lib.hid hD
    have HSM := Lib.hid hsM
    have hqM : w1.heap.size + 1 < wM.heap.size := by omega
    clear hD hsM
    go_wp2_with (first
      | (at_range; refine wpList_range_own _ rfl _ 79 rfl 9 89 keyed Tryd.underlying79 hR o bs.length D rfl hown ?_; intro w0 hrg0 hg0 hs0)
      | go_in)
    go_frame
    have hb0 : Below w1.heap.size w1 w0 := HO.out.2.1.grown hg0 HO.out.2.1.size (fun j hj => by cases hj)
    have hS1 := hS0.kept hg0 (by simp)
    have hsz0 : Maps.size D ≤ bs.length := by
      obtain ⟨es', clock, _, _, hes, rfl⟩ := hown
      simpa [Maps.size, length_sorted] using hes
    have h9 := HVV.out.b.hi
    have HR := Lib.hid (And.intro hb0 hS1)
    clear hb0 hS1 hS0 hg0 hs0 hown c0
    go_loopw [8] (fun _ wr => ∃ (lf : Lit → Bool) (cnt n : Nat) (S : Int → Bool), wr.ranges Tryd.prog 9 hR o wM.heap.size bs.length D lf cnt ∧ SetB wr (w1.heap.size + 1) n S ∧ n + 6 * cnt ≤ 54 ∧ Below w1.heap.size w1 wr ∧ InF S (Had bs lf)) (fun _ wr => wr.rangeLeft o wM.heap.size)
    case atStart =>
      refine ⟨_, _, 0, _, hrg0, HR.out.2, by omega, HR.out.1, fun y => ⟨fun h => absurd h (by simp), ?_⟩⟩
      rintro ⟨x, _, _, p, hp, hl, _⟩
      exfalso
      rw [(HD.out p.1).2] at hl
      cases hf : F p.1 with
      | none => exact (HO.out.1.none_ p.1).1 hf (List.mem_map.2 ⟨p, hp, rfl⟩)
      | some v => rw [hf] at hl; cases hl
    case round =>
      obtain ⟨lf, cnt, n, S, hrg, hS, hn, hbr, hI⟩ := hrel
      have HI := Lib.hid hI; clear hI
      go_wp2_with (first
        | (at_next; refine wpList_next_ranges _ rfl _ rfl 9 keyed hR Value.string (fun v : Value => v) (fun key kl hkey => key_string hkey) (fun v y _ => ⟨v, rfl⟩) o wM.heap.size bs.length _ _ _ rfl hrg ?_ ?_)
        | go_in)
      · intro _ hl0
        have Hl0 := Lib.hid hl0; clear hl0
        have HF := Lib.hid (HI.out.congr (fun x => had_all Hl0.out x)).fin
        obtain ⟨DB, hownB, hSB⟩ := hS.alloc (.cells #[.map (some (w1.heap.size + 1))] 88)
        have hszB : Maps.size DB ≤ 1048576 := by
          have h1 := ownB_size hownB
          omega
        have hbq : Below w1.heap.size w1 (wr.alloc (.cells #[.map (some (w1.heap.size + 1))] 88)) := hbr.alloc hbr.size _
        have HQ := Lib.hid (And.intro hbq (And.intro hownB (And.intro hSB hszB)))
        clear hrg hS hbr hownB hSB hszB hbq
        go_wp2_with (go_at_call 65; refine (keysB_any _ _).mono ?_; rintro e w' ⟨rfl, rfl⟩)
        refine (sortedB_any (wr.alloc (.cells #[.map (some (w1.heap.size + 1))] 88)) wr.heap.size (w1.heap.size + 1) n S DB HQ.out.2.2.1 HF.out.1 (by simp) (by go_simp) HQ.out.2.1 HQ.out.2.2.2).mono ?_
        rintro e w5 ⟨hb5, v, rfl, hcase⟩
        have HZ := Lib.hid (HO.out.2.2.trans ((HQ.out.1.trans (hb5.mono HQ.out.1.size)).mono hz))
        rcases hcase with ⟨rfl, hnil⟩ | ⟨g, m, cap, rfl, hm, hc⟩
        · have hcv := fun W => conv_none W
          have HE := Lib.hid (show tmA bs 3 = ⟨#[]⟩ by
            have h1 : tmL bs = [] := by have h2 := HF.out.2; rw [hnil] at h2; simpa using h2.symm
            rw [tmA_tmL, h1]; rfl)
          clear hnil hb5
          go_wp2
          go_ret2
          exact ⟨by rw [termV_yes HV.out, HE.out]; rfl, HZ.out⟩
        · rw [HF.out.2] at hm hc
          have hcv := conv_row w5 g cap (tmL bs) (fun x hx => by
            have := (List.mem_filter.1 hx).1
            simp at this
            omega) hc
          rw [List.length_map] at hm
          subst hm
          rw [← tmA_tmL] at hcv
          have HC := Lib.hid hc
          clear hc hb5
          go_wp2
          go_ret2
          exact ⟨by rw [termV_yes HV.out]; rfl, HZ.out⟩
      · intro x c kl y1 y2 w2 cnt2 hkey hlk hRc hat hrg2 hlt2 hgr2 hsz2 hen
        obtain ⟨hxs, rfl⟩ := key_string' hkey
        have hmem : x ∈ names bs := by
          have h1 := has_true_of_atKey hat
          rw [(HD.out x).2] at h1
          by_cases hx : x ∈ names bs
          · exact hx
          · rw [(HO.out.1.none_ x).2 hx] at h1; cases h1
        obtain ⟨p, hp, rfl⟩ := List.mem_map.1 hmem
        obtain ⟨v, hFv, hrow⟩ := HO1.out.row p hp
        have hcv : c = v := by
          have h1 := hat (.held .nilIface)
          rw [(HD.out p.1).1, hFv] at h1
          simp only [hR, Option.some.injEq, Prod.mk.injEq] at hRc
          rw [← hRc.1] at h1
          simpa using h1.symm
        subst hcv
        obtain ⟨aa, ca, hcf⟩ := row_len3 hrow
        rw [opVals_length] at hcf
        subst hcf
        have HRow := Lib.hid hrow
        have hop6 := (HVV.out.b.op p hp).1
        have HOp := Lib.hid (HVV.out.b.op p hp).2
        have hrm : ∀ j, some wM.heap.size = some j → w1.heap.size ≤ j := fun j hj => by cases hj; have := HSM.out; omega
        have hb2 : Below w1.heap.size w1 w2 := hbr.grown hgr2 hbr.size (fun j hj => hrm j hj)
        have hS2 : SetB w2 (w1.heap.size + 1) n S := hS.kept hgr2 (by intro h; have h1 := Option.some.inj h; have := HSM.out; omega)
        have H2 := Lib.hid (And.intro hrg2 (And.intro hS2 hb2))
        have HP := Lib.hid (And.intro hp (And.intro hlk hrg.left_eq))
        have hql : w1.heap.size + 1 ≠ wM.heap.size := by have := HSM.out; omega
        have hqo : w1.heap.size + 1 ≠ o := by omega
        clear hrow hat hRc hkey hmem hb2 hS2 hrg2 hgr2 hsz2 hFv hrm hS hbr hrg hlk hp
        go_wp2
        go_loopw [30] (fun j wr2 => ∃ (k n2 : Nat) (S2 : Int → Bool), k ≤ p.2.size ∧ j = .int .i64 k ∧ wr2.ranges Tryd.prog 9 hR o wM.heap.size bs.length D (fun z => lf z && !z.sameKey (kS p.1)) cnt2 ∧ SetB wr2 (w1.heap.size + 1) n2 S2 ∧ n2 ≤ n + k ∧ Below w1.heap.size w1 wr2 ∧ InF S2 (fun x => Had bs lf x ∨ ∃ i, i < k ∧ byteAt p.2 i = x)) (fun j _ => p.2.size - (intOf j).toNat)
        case atStart => exact ⟨0, n, S, Nat.zero_le _, rfl, H2.out.1, H2.out.2.1, by omega, H2.out.2.2, HI.out.congr (fun x => ⟨.inl, fun h => h.elim id (fun ⟨i, hi, _⟩ => absurd hi (Nat.not_lt_zero _))⟩)⟩
        case round =>
          obtain ⟨k, n2, S2, hk, rfl, hrg3, hS3, hn3, hb3, hI3⟩ := hrel
          have HI3 := Lib.hid hI3
          clear hI3
          by_cases hlt : k < p.2.size
          · obtain ⟨g, cap', e, hg, hc⟩ := row_cell3 HRow.out (k := k) (by rw [opVals_length]; exact hlt)
            rw [opVals_length] at e
            simp only [Value.slice.injEq, true_and] at e
            obtain ⟨rfl, rfl⟩ := e
            rw [opVals_at3 hlt] at hc
            have d1 := (hb3.cell (p := ⟨g, k, none⟩) hg).trans hc
            clear hc
            cases hlow : lowB (byteAt p.2 k)
            · have HL := Lib.hid (HI3.out.skip hlow)
              unfold opVal at d1
              rw [hlow] at d1
              simp only [Bool.false_eq_true, if_false] at d1
              have a1 := fun w => Tryd.isSC ((byteAt p.2 k : Int) - 88 + 120) w
              have a2 := fun w => Tryd.isSS ((byteAt p.2 k : Int) - 88 + 120) w
              clear hlow
              go_wp2
              go_roundw
              case rel => exact ⟨k + 1, n2, S2, by omega, by go_num, hrg3.alloc _, hS3.alloc _, by omega, hb3.alloc hb3.size _, HL.out⟩
              case measure => simp [intOf]; omega
            · have hl := hlow
              unfold lowB at hl
              simp only [Bool.and_eq_true, decide_eq_true_eq] at hl
              have HL := Lib.hid (And.intro (HI3.out.put hlow) hl)
              unfold opVal at d1
              rw [hlow] at d1
              simp only [if_true] at d1
              have a1 := fun w => Tryd.isCC (byteAt p.2 k : Int) w
              clear hlow hl
              go_wp2_with (at_mapUpdate; refine wpList_putB _ rfl _ _ _ 88 rfl 4 Tryd.underlying88 (w1.heap.size + 1) n2 S2 rfl (hS3.alloc _) (by unfold maxLen; omega) (byteAt p.2 k : Int) rfl (wfB HL.out.2.1 HL.out.2.2) (.bool true) rfl ?_; intro w4 hS4 hg4 hs4)
              go_roundw
              case rel => exact ⟨k + 1, n2 + 1, _, by omega, by go_num, (hrg3.alloc _).kept hg4 (by intro h; exact hqo (Option.some.inj h).symm) (by intro h; exact hql (Option.some.inj h).symm), hS4, by omega, (hb3.alloc hb3.size _).grown hg4 (hb3.alloc hb3.size _).size (fun j hj => by cases hj; exact Nat.le_succ _), HL.out.1⟩
              case measure => simp [intOf]; omega
          · obtain rfl : k = p.2.size := by omega
            go_wp2
            go_roundw
            case rel => exact ⟨_, cnt2, n2, S2, hrg3, hS3, by omega, hb3, HI3.out.congr (had_step HVV.out.b.nd HP.out.1)⟩
            case measure => rw [hrg3.left_eq, HP.out.2.2]; exact hlt2
  · have HV := Lib.hid (termV_no (show validB bs es = false by simpa [validB] using hv))
    clear hv hpb1 hpe1 hg1 hb1
    go_wp2
    go_ret2
    exact ⟨by rw [HV.out]; rfl, hall.alloc hz _⟩
end Go.Proofs.YtngcmjfkeageiaaDoor
