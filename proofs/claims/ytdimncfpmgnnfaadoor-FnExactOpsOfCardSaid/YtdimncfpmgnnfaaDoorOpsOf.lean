/-
  OpsOf, the program's and the model's: what a block of a valid program does. Conditions: at most 1048576 blocks and edges, each text at most as many bytes; the errors' variables hold errors.
-/
import Derived.Test.YtdimncfpmgnnfaaDoorWith
import Derived.Test.YtdimncfpmgnnfaaDoorWriteOps
namespace Go.Proofs.YtdimncfpmgnnfaaDoor
open Go.RowKit Go.Maps

noncomputable def opsV (bs es : List Pr) (x : ByteArray) : Value := if hasB bs es x = true then .tuple #[.string (restAt bs (fnd bs x).toNat), .bool true] else .tuple #[.string e0, .bool false]
theorem opsV_yes {bs es : List Pr} {x : ByteArray} (h : hasB bs es x = true) : opsV bs es x = .tuple #[.string (restAt bs (fnd bs x).toNat), .bool true] := by unfold opsV; rw [if_pos h]
theorem opsV_no {bs es : List Pr} {x : ByteArray} (h : hasB bs es x = false) : opsV bs es x = .tuple #[.string e0, .bool false] := by unfold opsV; rw [if_neg (by rw [h]; simp)]
theorem opsV_form (bs es : List Pr) (x : ByteArray) : ∃ (r : ByteArray) (ok : Bool), opsV bs es x = .tuple #[.string r, .bool ok] := by
  cases h : hasB bs es x
  · exact ⟨_, _, opsV_no h⟩
  · exact ⟨_, _, opsV_yes h⟩

theorem l1Find_k (name : ByteArray) (w : World) (l : List Pr) (a : Option Addr) (cap : Nat) (ve : Value) (k : Nat) (hk : fnd l name = (k : Int)) (hp : PairsAt w a l) :
    Calls Tryd.prog 57 #[.agg #[.slice a l.length cap, ve], .string name] w fun e w' => e = .returned (.int .i64 (k : Int)) ∧ Below w.heap.size w w' :=
  (l1Find_any name w l a cap ve hp).mono fun e w' h => ⟨by rw [h.1, hk], h.2⟩
set_option maxRecDepth 100000 in
theorem OpsOf_spec (w : World) (bs es : List Pr) (ab ae : Option Addr) (cb ce : Nat) (x : ByteArray) (hpb : PairsAt w ab bs) (hpe : PairsAt w ae es) :
    Calls Tryd.prog 45 #[.agg #[.slice ab bs.length cb, .slice ae es.length ce], .string x] w fun e w' => e = .returned (opsV bs es x) ∧ Below w.heap.size w w' := by
  have h1 : Below w.heap.size w (w.alloc (.cells #[.slice ab bs.length cb, .slice ae es.length ce] 26)) := (Below.refl _ _).alloc (Nat.le_refl _) _
  have hpb1 := hpb.below h1
  have hpe1 := hpe.below h1
  have H1 := Lib.hid h1; clear h1
  go_enter Tryd.func45, Tryd.ntmps45
  go_wp2_with fail
  refine (l1Has_any _ bs es _ _ _ _ x hpb1 hpe1).mono ?_
  rintro e w1 ⟨rfl, hb1⟩
  have hall : Below w.heap.size w w1 := H1.out.trans (hb1.mono (by simp))
  have hpb2 := hpb1.below hb1
  have c0 := (hb1.cell (p := ⟨w.heap.size, 0, none⟩) (by simp)).trans (show _ = some (.slice ab bs.length cb) by go_simp)
  have c1 := (hb1.cell (p := ⟨w.heap.size, 1, none⟩) (by simp)).trans (show _ = some (.slice ae es.length ce) by go_simp)
  have hz := hall.size
  cases hv : hasB bs es x
  · have HV := Lib.hid (opsV_no hv)
    clear hv
    go_wp2
    go_ret2
    exact ⟨by rw [HV.out]; rfl, hall⟩
  · have HV := Lib.hid (opsV_yes hv)
    have HM := Lib.hid (hasB_iff.1 hv).2
    clear hv
    obtain ⟨k, hk, hf, hn⟩ := fnd_pos HM.out
    have HF := Lib.hid hf
    have HN := Lib.hid hn
    clear hf hn
    obtain ⟨b, off, rfl, hb, g1, g2⟩ := hpb2.cell k hk
    have hs : w.heap.size < w1.heap.size := by have := hb1.size; simp at this; omega
    have l1 : (k : Int) < (bs.length : Int) := by omega
    have l2 : (0 : Int) ≤ (k : Int) := by omega
    go_wp2
    go_region_held3 (fun w' => w'.cell? ⟨w.heap.size, 0, none⟩ = some (.slice (some ⟨b, off, none⟩) bs.length cb) ∧ w'.cell? ⟨w.heap.size, 1, none⟩ = some (.slice ae es.length ce) ∧ w'.cell? ⟨b, off + k * 2 + 1, none⟩ = some (.string (restAt bs k)) ∧ Below w1.heap.size w1 w')
      (first
        | exact ⟨c0, c1, g2, (Below.refl _ _).drew⟩
        | (have hq := below_new (‹_ ∧ _ ∧ _ ∧ Below w1.heap.size w1 _›).2.2.2 hbN; exact ⟨(hq.cell (p := ⟨w.heap.size, 0, none⟩) hs).trans c0, (hq.cell (p := ⟨w.heap.size, 1, none⟩) hs).trans c1, (hq.cell (p := ⟨b, off + k * 2 + 1, none⟩) hb).trans g2, hq⟩))
      (first
        | (go_at_call 57; refine (l1Find_k x _ bs _ cb _ k HF.out ?_).mono ?_; (exact hpb2.drew); rintro e wN ⟨rfl, hbN⟩))
    have hfin : Below w.heap.size w wN := hall.trans ((‹_ ∧ _ ∧ _ ∧ Below w1.heap.size w1 wN›).2.2.2.mono hz)
    go_wp2
    go_ret2
    exact ⟨by rw [HV.out, HF.out]; rfl, hfin⟩

set_option maxRecDepth 100000 in
theorem OpsOf_impl (w : World) (bs es : List Pr) (ab ae : Option Addr) (cb ce : Nat) (x : ByteArray) (hx : x.size ≤ 1048576) (hpb : PairsAt w ab bs) (hpe : PairsAt w ae es) (hg : Errs w) :
    Calls Tryd.prog 40 #[.agg #[.slice ab bs.length cb, .slice ae es.length ce], .string x] w fun e w' => e = .returned (opsV bs es x) ∧ Below w.heap.size w w' := by
  have h1 : Below w.heap.size w (w.alloc (.cells #[.slice ab bs.length cb, .slice ae es.length ce] 26)) := (Below.refl _ _).alloc (Nat.le_refl _) _
  have hpb1 := hpb.below h1
  have hpe1 := hpe.below h1
  have hg1 := hg.keep h1
  have H1 := Lib.hid h1; clear h1
  go_enter Tryd.func40, Tryd.ntmps40
  go_wp2_with fail
  refine (planWith_any _ bs es _ _ _ _ x hx hpb1 hpe1 hg1).mono ?_
  rintro e w1 ⟨hb1, hcase⟩
  have hall : Below w.heap.size w w1 := H1.out.trans (hb1.mono (by simp))
  have hz := hall.size
  rcases hcase with ⟨hv, o, lo, li, rfl, hp⟩ | ⟨hv, rfl⟩
  · have HV := Lib.hid (opsV_yes hv)
    have HM := Lib.hid (hasB_iff.1 hv)
    clear hv
    obtain ⟨F, hO⟩ := hp.ops
    obtain ⟨k, hk, hf, hn⟩ := fnd_pos HM.out.2
    have HF := Lib.hid hf
    have hwa : Below w1.heap.size w1 (w1.alloc (.cells #[.map (some o), .map (some lo), .map (some li)] 74)) := (Below.refl _ _).alloc (Nat.le_refl _) _
    obtain ⟨v, hFv, hrow⟩ := (hO.below hwa).row _ (pair_mem hk)
    rw [show (nameAt bs k, restAt bs k).1 = x from hn] at hFv
    have l1 := (hO.below hwa).map.look Tryd.underlying70 (zeroOps _) (mx hx)
    rw [hFv] at l1
    have HRow := Lib.hid hrow
    have HOK := Lib.hid (show opsOk (restAt bs k) from (show Valid bs es by simpa [validB] using HM.out.1).b.op _ (pair_mem hk))
    clear hf hn hrow
    go_wp2_with fail
    refine (writeOps_any _ v (restAt bs k) HOK.out HRow.out).mono ?_
    rintro e w2 ⟨rfl, hb2⟩
    go_wp2
    go_ret2
    exact ⟨by rw [HV.out, HF.out]; rfl, (hall.alloc hz _).trans (hb2.mono (by simp; omega))⟩
  · have HV := Lib.hid (opsV_no hv)
    clear hv
    go_wp2
    go_ret2
    exact ⟨by rw [HV.out]; rfl, hall.alloc hz _⟩
end Go.Proofs.YtdimncfpmgnnfaaDoor
