/-
  The program's chapter 1: checkEnds: the entry, the exit, and the ways between them. Conditions: texts of at most 1048576 bytes, at most 1000 edges; the errors' variables hold errors.
-/
import Derived.Test.YtfmhcjhcmoniaaaDoorReach
namespace Go.Proofs.YtfmhcjhcmoniaaaDoor
open Go.RowKit Go.Maps

structure EndsOk (bs es : List Pr) (a z : ByteArray) : Prop where
  en : ∀ p ∈ bs, p.1 = a → p.2.size = 0
  ne : ∀ e ∈ es, e.2 ≠ a
  nx : ∀ e ∈ es, e.1 ≠ z
  ra : ∀ p ∈ bs, Reach es a p.1
  rz : ∀ p ∈ bs, Reach (flip es) z p.1
def EndsPost (w : World) (bs es : List Pr) (a z : ByteArray) (e : Ending) (w' : World) : Prop :=
  Below w.heap.size w w' ∧ ((EndsOk bs es a z ∧ e = .returned .nilIface) ∨ (¬ EndsOk bs es a z ∧ ∃ t x, e = .returned (.iface t x)))
theorem Links.below_ {w w' : World} {b : Nat} {fp : List Nat} {E : List Pr} {F : ByteArray → Option Value} (h : Links w b fp E F) (hb : Below w.heap.size w w') (hf : ∀ k ∈ fp, k < w.heap.size) : Links w' b fp E F :=
  h.turns (.of_below (S := fun _ => False) hb) h.map.lt hf (fun _ _ h => h)
theorem len_nilMap (ty : TypeId) (w : World) : (Builtin.len_ #[60] ty #[.map none]).run Tryd.prog w = .ok (.int .i64 0) w := Maps.len_nil Tryd.underlying60 ty
theorem MapV.len_pos {w : World} {b n : Nat} {f : ByteArray → Option Value} (h : MapV w b n f) (ty : TypeId) {s : ByteArray} (hs : (f s).isSome = true) : ∃ m : Nat, 0 < m ∧ (Builtin.len_ #[60] ty #[.map (some b)]).run Tryd.prog w = .ok (.int .i64 m) w := by
  obtain ⟨D, h, k⟩ := h
  refine ⟨Maps.size D, ?_, h.len Tryd.underlying60 ty⟩
  have h1 := (k s).2
  rw [hs] at h1
  obtain ⟨es, rfl⟩ := h.isMap
  rw [has_eq] at h1
  rw [size_eq]
  rcases es with _ | ⟨p, r⟩
  · simp at h1
  · simp

set_option maxRecDepth 100000 in
set_option maxHeartbeats 6400000 in
theorem checkEnds_any (w : World) (o lo li : Nat) (bs es : List Pr) (fo fi : List Nat) (FO FL FI : ByteArray → Option Value) (a z : ByteArray) (hO : OpsMap w o bs FO) (hL : Links w lo fo es FL) (hI : Links w li fi (flip es) FI) (hfo : ∀ k ∈ fo, k < w.heap.size) (hfi : ∀ k ∈ fi, k < w.heap.size)
    (ha : a.size ≤ 1048576) (hz : z.size ≤ 1048576) (hE : es.length ≤ 1000) (hae : ∃ p ∈ bs, p.1 = a) (hnd : (names bs).Nodup) (g4 : ErrAt w 3) (g5 : ErrAt w 4) (g6 : ErrAt w 5) :
    Calls Tryd.prog 63 #[.agg #[.map (some o), .map (some lo), .map (some li)], .string a, .string z] w (EndsPost w bs es a z) := by
  have hw : Below w.heap.size w (w.alloc (.cells #[.map (some o), .map (some lo), .map (some li)] 58)) := (Below.refl _ _).alloc (Nat.le_refl _) _
  have hO1 := hO.below hw
  have hmL := hL.map.below hw hL.map.lt
  have hmI := hI.map.below hw hI.map.lt
  obtain ⟨pa, hpa, rfl⟩ := hae
  obtain ⟨va, hva, hra⟩ := hO1.row pa hpa
  obtain ⟨aa, ca, rfl⟩ := own_form hra
  rw [opVals_length] at hva
  have l1 := hO1.map.look Tryd.underlying54 (zeroOps _) (mx ha)
  rw [hva] at l1
  simp only [Option.getD_some] at l1
  obtain ⟨gl4, et4, ev4, ec4⟩ := g4.keep hw
  obtain ⟨gl5, et5, ev5, ec5⟩ := g5.keep hw
  have hsame : ∀ p ∈ bs, p.1 = pa.1 → p.2 = pa.2 := by
    intro p hp e
    obtain ⟨i, hi, e1, e2⟩ := mem_at hp
    obtain ⟨j, hj, f1, f2⟩ := mem_at hpa
    have := names_inj hnd hi hj (by rw [e1, f1, e])
    subst this
    rw [← e2, ← f2]
  by_cases hpos : (0 : Int) < (pa.2.size : Int)
  · have H' := Lib.hid (show ¬ EndsOk bs es pa.1 z from fun h => by have := h.en pa hpa rfl; omega)
    have HW := Lib.hid hw
    have hdN : decide (0 < pa.2.size) = true := by simp; omega
    clear hO hL hI hO1 hmL hmI hra hva hsame hfo hfi hw
    go_enter Tryd.func63, Tryd.ntmps63
    go_wp2
    go_ret
    exact ⟨HW.out, .inr ⟨H'.out, _, _, rfl⟩⟩
  · have hz0 : pa.2.size = 0 := by omega
    have HZ := Lib.hid hz0
    rw [hz0] at l1
    have l2 := hmI.look Tryd.underlying56 (zeroMap _) (mx ha)
    clear hz0 hpos
    cases hFI : FI pa.1 with
    | some v =>
      obtain ⟨bi, rfl, hbi, hmi, y, hy⟩ := hI.some_ _ v hFI
      rw [hFI] at l2
      simp only [Option.getD_some] at l2
      obtain ⟨m, hm0, hlen⟩ := (hmi.below hw (hfi bi hbi)).len_pos 3 ((inner_isSome _ _ _).2 hy)
      have H' := Lib.hid (show ¬ EndsOk bs es pa.1 z from fun h => h.ne _ (mem_flip.1 hy) rfl)
      have HW := Lib.hid hw
      clear hO hL hI hO1 hmL hmI hra hva hsame hfo hfi hw hFI hmi hy
      go_enter Tryd.func63, Tryd.ntmps63
      go_wp2
      go_ret
      exact ⟨HW.out, .inr ⟨H'.out, _, _, rfl⟩⟩
    | none =>
      rw [hFI] at l2
      simp only [Option.getD_none] at l2
      have hln := len_nilMap 3
      have hne := hI.none_ _ hFI
      have l3 := hmL.look Tryd.underlying56 (zeroMap _) (mx hz)
      cases hFL : FL z with
      | some v =>
        obtain ⟨bi, rfl, hbi, hmi, y, hy⟩ := hL.some_ _ v hFL
        rw [hFL] at l3
        simp only [Option.getD_some] at l3
        obtain ⟨m, hm0, hlen⟩ := (hmi.below hw (hfo bi hbi)).len_pos 3 ((inner_isSome _ _ _).2 hy)
        have H' := Lib.hid (show ¬ EndsOk bs es pa.1 z from fun h => h.nx _ hy rfl)
        have HW := Lib.hid hw
        clear hO hL hI hO1 hmL hmI hra hva hsame hfo hfi hw hFI hmi hy hne hFL
        go_enter Tryd.func63, Tryd.ntmps63
        go_wp2
        go_ret
        exact ⟨HW.out, .inr ⟨H'.out, _, _, rfl⟩⟩
      | none =>
        rw [hFL] at l3
        simp only [Option.getD_none] at l3
        have hnx := hL.none_ _ hFL
        have H0 := Lib.hid (And.intro hne (And.intro hnx hsame))
        have b0 : ((w.alloc (.cells #[.map (some o), .map (some lo), .map (some li)] 58))).cell? ⟨w.heap.size, 0, none⟩ = some (.map (some o)) := by go_simp
        have b1 : ((w.alloc (.cells #[.map (some o), .map (some lo), .map (some li)] 58))).cell? ⟨w.heap.size, 1, none⟩ = some (.map (some lo)) := by go_simp
        have b2 : ((w.alloc (.cells #[.map (some o), .map (some lo), .map (some li)] 58))).cell? ⟨w.heap.size, 2, none⟩ = some (.map (some li)) := by go_simp
        have hL1 := hL.turns (.of_below (S := fun _ => False) hw) hL.map.lt hfo (fun _ _ h => h)
        have hI1 := hI.turns (.of_below (S := fun _ => False) hw) hI.map.lt hfi (fun _ _ h => h)
        have hfo1 : ∀ k ∈ fo, k < (w.alloc (.cells #[.map (some o), .map (some lo), .map (some li)] 58)).heap.size := fun k hk => by have := hfo k hk; simp; omega
        have hfi1 : ∀ k ∈ fi, k < (w.alloc (.cells #[.map (some o), .map (some lo), .map (some li)] 58)).heap.size := fun k hk => by have := hfi k hk; simp; omega
        have hg6 := g6.keep hw
        have hsw : w.heap.size < (w.alloc (.cells #[.map (some o), .map (some lo), .map (some li)] 58)).heap.size := by simp
        have K := Lib.hid (And.intro hO1 (And.intro hL1 (And.intro hI1 (And.intro hfo1 (And.intro hfi1 (And.intro hg6 hw))))))
        clear hO hL hI hO1 hmL hmI hra hva hsame hfo hfi hw hFI hne hFL hnx hL1 hI1 hfo1 hfi1 hg6 ec4 ec5
        go_enter Tryd.func63, Tryd.ntmps63
        go_wp2
        generalize w.alloc (.cells #[.map (some o), .map (some lo), .map (some li)] 58) = W0 at *
        clear l1 l2 l3 hln
        go_region_held3 (fun w' => w'.cell? ⟨w.heap.size, 0, none⟩ = some (.map (some o)) ∧ w'.cell? ⟨w.heap.size, 1, none⟩ = some (.map (some lo)) ∧ w'.cell? ⟨w.heap.size, 2, none⟩ = some (.map (some li)) ∧ Below W0.heap.size W0 w')
          (first
            | exact ⟨b0, b1, b2, (Below.refl _ _).drew⟩
            | (have hq := below_new (‹_ ∧ _ ∧ _ ∧ Below W0.heap.size W0 _›).2.2.2 hbM; exact ⟨(hq.cell (p := ⟨w.heap.size, 0, none⟩) (by simp; omega)).trans b0, (hq.cell (p := ⟨w.heap.size, 1, none⟩) (by simp; omega)).trans b1, (hq.cell (p := ⟨w.heap.size, 2, none⟩) (by simp; omega)).trans b2, hq⟩)
            | (have hq := below_new (‹_ ∧ _ ∧ _ ∧ Below W0.heap.size W0 _›).2.2.2 hbN; exact ⟨(hq.cell (p := ⟨w.heap.size, 0, none⟩) (by simp; omega)).trans b0, (hq.cell (p := ⟨w.heap.size, 1, none⟩) (by simp; omega)).trans b1, (hq.cell (p := ⟨w.heap.size, 2, none⟩) (by simp; omega)).trans b2, hq⟩))
          (first
            | (go_at_call 75; ((with_reducible refine (reach_any _ lo fo es FL pa.1 ?_ ?_ ha hE).mono ?_); (first | exact K.out.2.1.below_ (‹_ ∧ _ ∧ _ ∧ Below W0.heap.size W0 _›).2.2.2 K.out.2.2.2.1 | exact K.out.2.1.same (fun _ _ => rfl)); (first | exact fun k hk => Nat.lt_of_lt_of_le (K.out.2.2.2.1 k hk) (‹_ ∧ _ ∧ _ ∧ Below W0.heap.size W0 _›).2.2.2.size | exact K.out.2.2.2.1); rintro e wN hN; obtain ⟨hbN, ba, na, Ga, rfl, hga, Ma, hra⟩ := hN))
            | (go_at_call 75; ((with_reducible refine (reach_any _ li fi (flip es) FI z ?_ ?_ hz (by rw [flip_length]; exact hE)).mono ?_); (first | exact K.out.2.2.1.below_ (‹_ ∧ _ ∧ _ ∧ Below W0.heap.size W0 _›).2.2.2 K.out.2.2.2.2.1 | exact K.out.2.2.1.same (fun _ _ => rfl)); (first | exact fun k hk => Nat.lt_of_lt_of_le (K.out.2.2.2.2.1 k hk) (‹_ ∧ _ ∧ _ ∧ Below W0.heap.size W0 _›).2.2.2.size | exact K.out.2.2.2.2.1); rintro e wM hM; obtain ⟨hbM, bb, nb, Gb, rfl, hgb, Mb, hrb⟩ := hM)))
        obtain ⟨c0, c1, c2, hWb⟩ := ‹_ ∧ _ ∧ _ ∧ Below W0.heap.size W0 wM›
        have hO2 := K.out.1.below hWb
        obtain ⟨eg6, et6, ev6, ec6⟩ := K.out.2.2.2.2.2.1.keep hWb
        have hbw : Below w.heap.size w wM := K.out.2.2.2.2.2.2.trans (hWb.mono (by omega))
        have Ma2 := Ma.below hbM Ma.lt
        have hwM : w.heap.size < wM.heap.size := by have := hWb.size; omega
        have Hra := Lib.hid hra; clear hra
        have Hrb := Lib.hid hrb; clear hrb
        obtain ⟨D, hown, hD⟩ := hO2.map
        have HD := Lib.hid hD; clear hD
        have HN := Lib.hid hO2.none_
        clear hO2 hbN hga hgb Ma b0 b1 b2
        go_wp2_with (first
          | (at_range; refine wpList_range_own _ rfl _ 54 rfl 9 125 keyed Tryd.underlying54 hR o bs.length D rfl hown ?_; intro w0 hrg0 hg0 hs0)
          | go_in)
        go_frame
        have hb0 : Below wM.heap.size wM w0 := (Below.refl _ _).grown hg0 (Nat.le_refl _) (fun j hj => by cases hj)
        have hs0' : wM.heap.size < w0.heap.size := by omega
        clear hs0 hg0
        go_loopw [9] (fun _ wr => ∃ (lf : Lit → Bool) (cnt : Nat), wr.ranges Tryd.prog 9 hR o wM.heap.size bs.length D lf cnt ∧ Below wM.heap.size wM wr ∧ ∀ s, s ∈ names bs → lf (kS s) = false → Reach es pa.1 s ∧ Reach (flip es) z s) (fun _ wr => wr.rangeLeft o wM.heap.size)
        case atStart =>
          refine ⟨_, _, hrg0, hb0, fun s hs hl => ?_⟩
          rw [(HD.out s).2] at hl
          cases hf : FO s with
          | none => exact absurd hs ((HN.out s).1 hf)
          | some v => rw [hf] at hl; cases hl
        case round =>
          obtain ⟨lf, cnt, hrg, hbr, hI⟩ := hrel
          have HI := Lib.hid hI; clear hI
          go_wp2_with (first
            | (at_next; refine wpList_next_ranges _ rfl _ rfl 9 keyed hR Value.string (fun v : Value => v) (fun key kl hkey => key_string hkey) (fun v y _ => ⟨v, rfl⟩) o wM.heap.size bs.length _ _ _ rfl hrg ?_ ?_)
            | go_in)
          · intro _ hl0
            have Hl0 := Lib.hid hl0; clear hl0
            go_wp2
            go_ret
            refine ⟨hbw.trans (hbr.mono (by omega)), .inl ⟨⟨fun p hp e => by rw [H0.out.2.2 p hp e]; exact HZ.out, fun e he h => H0.out.1 e.1 (mem_flip.2 (by rw [← h]; exact he)), fun e he h => H0.out.2.1 e.2 (by rw [← h]; exact he), fun p hp => ?_, fun p hp => ?_⟩, rfl⟩⟩
            · exact (HI.out p.1 (List.mem_map.2 ⟨p, hp, rfl⟩) (Hl0.out _)).1
            · exact (HI.out p.1 (List.mem_map.2 ⟨p, hp, rfl⟩) (Hl0.out _)).2
          · intro x c kl y1 y2 w2 cnt2 hkey hlk hRc hat hrg2 hlt2 hgr2 hsz2 hen
            obtain ⟨hxs, rfl⟩ := key_string' hkey
            have hmem : x ∈ names bs := by
              have h1 := has_true_of_atKey hat
              rw [(HD.out x).2] at h1
              by_cases hx : x ∈ names bs
              · exact hx
              · rw [(HN.out x).2 hx] at h1; cases h1
            have hb2 := hbr.grown hgr2 hbr.size (fun j hj => by cases hj; exact Nat.le_refl _)
            have la := (Ma2.below hb2 Ma2.lt).look Tryd.underlying129 (zeroBool w2) hxs
            have lb := (Mb.below hb2 Mb.lt).look Tryd.underlying129 (zeroBool w2) hxs
            have ec6' := (hb2.cell (p := ⟨5, 0, none⟩) eg6).trans ec6
            obtain ⟨q, hq, hqe⟩ := List.mem_map.1 hmem
            clear hsz2 hat hRc hkey hmem
            rcases Hra.out x with ⟨ga, ra⟩ | ⟨ga, ra⟩
            · rw [ga] at la
              simp only [Option.getD_some] at la
              rcases Hrb.out x with ⟨gb, rb⟩ | ⟨gb, rb⟩
              · rw [gb] at lb
                simp only [Option.getD_some] at lb
                have H' := Lib.hid (And.intro ra rb); clear ra rb ga gb hq hqe
                go_wp2
                go_roundw
                case rel =>
                  refine ⟨_, cnt2, hrg2, hb2, fun s hs hl => ?_⟩
                  cases hl' : lf (kS s)
                  · exact HI.out s hs hl'
                  · have hl2 : (lf (kS s) && !(kS s).sameKey (kS x)) = false := hl
                    rw [hl'] at hl2
                    have hk : kS s = kS x := WideAt.sameKey_eq (by simpa using hl2)
                    rw [kS_inj.1 hk]; exact H'.out
                case measure => rw [hrg2.left_eq, hrg.left_eq]; exact hlt2
              · rw [gb] at lb
                simp only [Option.getD_none] at lb
                have H' := Lib.hid (show ¬ EndsOk bs es pa.1 z from fun h => rb (by rw [← hqe]; exact h.rz q hq)); clear ra rb ga gb hq hqe
                go_wp2
                go_ret
                exact ⟨hbw.trans (hb2.mono (by omega)), .inr ⟨H'.out, _, _, rfl⟩⟩
            · rw [ga] at la
              simp only [Option.getD_none] at la
              have H' := Lib.hid (show ¬ EndsOk bs es pa.1 z from fun h => ra (by rw [← hqe]; exact h.ra q hq)); clear ra ga hq hqe
              go_wp2
              go_ret
              exact ⟨hbw.trans (hb2.mono (by omega)), .inr ⟨H'.out, _, _, rfl⟩⟩
end Go.Proofs.YtfmhcjhcmoniaaaDoor
