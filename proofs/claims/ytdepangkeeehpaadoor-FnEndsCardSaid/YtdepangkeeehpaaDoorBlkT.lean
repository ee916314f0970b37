/-
  The model's chapter 3: whether a program is valid and has a block, and what the block does. Conditions: at most 1048576 blocks and edges, each text at most as many bytes.
-/
import Derived.Test.YtdepangkeeehpaaDoorBlkS
namespace Go.Proofs.YtdepangkeeehpaaDoor
open Go.RowKit Go.Maps

noncomputable def blkB (bs es : List Pr) (x t : ByteArray) : Bool := hasB bs es x && isTm t
theorem blkB_iff {bs es : List Pr} {x t : ByteArray} : blkB bs es x t = true ↔ hasB bs es x = true ∧ isTm t = true := by simp [blkB]
theorem blkB_no1 {bs es : List Pr} {x t : ByteArray} (h : hasB bs es x = false) : blkB bs es x t = false := by simp [blkB, h]
theorem blkB_yes {bs es : List Pr} {x t : ByteArray} (h : hasB bs es x = true) : blkB bs es x t = isTm t := by simp [blkB, h]
def blkOps (bs : List Pr) (x : ByteArray) : ByteArray := restAt bs (fnd bs x).toNat
theorem blkOps_ok {bs es : List Pr} {x : ByteArray} (h : hasB bs es x = true) : opsOk (blkOps bs x) := by
  obtain ⟨hv, hm⟩ := hasB_iff.1 h
  have hV : Valid bs es := by simpa [validB] using hv
  obtain ⟨k, hk, hf, _⟩ := fnd_pos hm
  unfold blkOps
  rw [hf]
  exact hV.b.op _ (pair_mem hk)
theorem l1Find_k3 (name : ByteArray) (w : World) (l : List Pr) (a : Option Addr) (cap : Nat) (ve : Value) (k : Nat) (hk : fnd l name = (k : Int)) (hp : PairsAt w a l) :
    Calls Tryd.prog 133 #[.agg #[.slice a l.length cap, ve], .string name] w fun e w' => e = .returned (.int .i64 (k : Int)) ∧ Below w.heap.size w w' :=
  (l1Find_any name w l a cap ve hp).mono fun e w' h => ⟨by rw [h.1, hk], h.2⟩

set_option maxRecDepth 100000 in
theorem l3Asked_any (w : World) (bs es : List Pr) (ab ae : Option Addr) (cb ce : Nat) (x t : ByteArray) (hpb : PairsAt w ab bs) (hpe : PairsAt w ae es) :
    Calls Tryd.prog 118 #[.agg #[.slice ab bs.length cb, .slice ae es.length ce], .string x, .string t] w fun e w' => e = .returned (.bool (blkB bs es x t)) ∧ Below w.heap.size w w' := by
  have h1 : Below w.heap.size w (w.alloc (.cells #[.slice ab bs.length cb, .slice ae es.length ce] 30)) := (Below.refl _ _).alloc (Nat.le_refl _) _
  have hpb1 := hpb.below h1
  have hpe1 := hpe.below h1
  have H1 := Lib.hid h1; clear h1
  go_enter Tryd.func118, Tryd.ntmps118
  go_wp2_with fail
  refine (l1Has_any _ bs es _ _ _ _ x hpb1 hpe1).mono ?_
  rintro e w1 ⟨rfl, hb1⟩
  have hall : Below w.heap.size w w1 := H1.out.trans (hb1.mono (by simp))
  cases hv : hasB bs es x
  · have HN := Lib.hid (blkB_no1 (t := t) hv)
    clear hv
    go_wp2
    go_ret
    exact ⟨ret_bool HN.out.symm, hall⟩
  · have HN := Lib.hid (blkB_yes (t := t) hv)
    clear hv
    go_wp2_with (go_at_call 73; refine (l1Term_any _ _).mono ?_; rintro e w' ⟨rfl, rfl⟩)
    go_ret
    exact ⟨ret_bool HN.out.symm, hall⟩

set_option maxRecDepth 100000 in
theorem l3Ops_any (w : World) (bs : List Pr) (ab ae : Option Addr) (cb ne ce : Nat) (x : ByteArray) (hx : x ∈ names bs) (hpb : PairsAt w ab bs) :
    Calls Tryd.prog 120 #[.agg #[.slice ab bs.length cb, .slice ae ne ce], .string x] w fun e w' => e = .returned (.string (blkOps bs x)) ∧ Below w.heap.size w w' := by
  have h1 : Below w.heap.size w (w.alloc (.cells #[.slice ab bs.length cb, .slice ae ne ce] 30)) := (Below.refl _ _).alloc (Nat.le_refl _) _
  have hpb1 := hpb.below h1
  obtain ⟨k, hk, hf, hn⟩ := fnd_pos hx
  have HF := Lib.hid hf
  have HO := Lib.hid (show blkOps bs x = restAt bs k by unfold blkOps; rw [hf]; rfl)
  clear hf hn
  obtain ⟨b, off, rfl, hb, g1, g2⟩ := hpb1.cell k hk
  have hl := hpb.len
  have l1 : (k : Int) < (bs.length : Int) := by omega
  have l2 : (0 : Int) ≤ (k : Int) := by omega
  have y0 : (w.alloc (.cells #[.slice (some ⟨b, off, none⟩) bs.length cb, .slice ae ne ce] 30)).cell? ⟨w.heap.size, 0, none⟩ = some (.slice (some ⟨b, off, none⟩) bs.length cb) := by go_simp
  have y1 : (w.alloc (.cells #[.slice (some ⟨b, off, none⟩) bs.length cb, .slice ae ne ce] 30)).cell? ⟨w.heap.size, 1, none⟩ = some (.slice ae ne ce) := by go_simp
  have hs : w.heap.size < (w.alloc (.cells #[.slice (some ⟨b, off, none⟩) bs.length cb, .slice ae ne ce] 30)).heap.size := by simp
  have H1 := Lib.hid (And.intro h1 hpb1)
  clear g1 h1 hpb1
  go_enter Tryd.func120, Tryd.ntmps120
  go_wp2
  generalize w.alloc (.cells #[.slice (some ⟨b, off, none⟩) bs.length cb, .slice ae ne ce] 30) = wA at *
  have hs2 := H1.out.1.size
  go_region_held3 (fun w' => w'.cell? ⟨w.heap.size, 0, none⟩ = some (.slice (some ⟨b, off, none⟩) bs.length cb) ∧ w'.cell? ⟨w.heap.size, 1, none⟩ = some (.slice ae ne ce) ∧ w'.cell? ⟨b, off + k * 2 + 1, none⟩ = some (.string (restAt bs k)) ∧ Below wA.heap.size wA w')
    (first
      | exact ⟨y0, y1, g2, (Below.refl _ _).drew⟩
      | (have hq := below_new (‹_ ∧ _ ∧ _ ∧ Below wA.heap.size wA _›).2.2.2 hbN; exact ⟨(hq.cell (p := ⟨w.heap.size, 0, none⟩) hs).trans y0, (hq.cell (p := ⟨w.heap.size, 1, none⟩) hs).trans y1, (hq.cell (p := ⟨b, off + k * 2 + 1, none⟩) hb).trans g2, hq⟩))
    (first
      | (go_at_call 133; refine (l1Find_k3 x _ bs _ cb _ k HF.out ?_).mono ?_; (exact H1.out.2.drew); rintro e wN ⟨rfl, hbN⟩))
  have hfin : Below w.heap.size w wN := H1.out.1.trans ((‹_ ∧ _ ∧ _ ∧ Below wA.heap.size wA wN›).2.2.2.mono hs2)
  go_wp2
  go_ret
  exact ⟨by first | (rw [HO.out]; rfl) | rw [HO.out], hfin⟩

noncomputable def groupsV (bs es : List Pr) (x t : ByteArray) : Int := if blkB bs es x t = true then ((fsOf (blkOps bs x) t).n : Int) else -1
noncomputable def upV (bs es : List Pr) (x t : ByteArray) : Bool := blkB bs es x t && (fsOf (blkOps bs x) t).up
noncomputable def downV (bs es : List Pr) (x t : ByteArray) : Bool := blkB bs es x t && (fsOf (blkOps bs x) t).dn
noncomputable def clearV (bs es : List Pr) (x t : ByteArray) : Bool := blkB bs es x t && (fsOf (blkOps bs x) t).cl

set_option maxRecDepth 100000 in
theorem GroupsIn_spec (w : World) (bs es : List Pr) (ab ae : Option Addr) (cb ce : Nat) (x t : ByteArray) (hpb : PairsAt w ab bs) (hpe : PairsAt w ae es) :
    Calls Tryd.prog 54 #[.agg #[.slice ab bs.length cb, .slice ae es.length ce], .string x, .string t] w fun e w' => e = .returned (.int .i64 (groupsV bs es x t)) ∧ Below w.heap.size w w' := by
  have h1 : Below w.heap.size w (w.alloc (.cells #[.slice ab bs.length cb, .slice ae es.length ce] 30)) := (Below.refl _ _).alloc (Nat.le_refl _) _
  have hpb1 := hpb.below h1
  have hpe1 := hpe.below h1
  have H1 := Lib.hid h1; clear h1
  go_enter Tryd.func54, Tryd.ntmps54
  go_wp2_with fail
  refine (l3Asked_any _ bs es _ _ _ _ x t hpb1 hpe1).mono ?_
  rintro e w1 ⟨rfl, hb1⟩
  have hall : Below w.heap.size w w1 := H1.out.trans (hb1.mono (by simp))
  have hpb2 := hpb1.below hb1
  have c0 := (hb1.cell (p := ⟨w.heap.size, 0, none⟩) (by simp)).trans (show _ = some (.slice ab bs.length cb) by go_simp)
  have c1 := (hb1.cell (p := ⟨w.heap.size, 1, none⟩) (by simp)).trans (show _ = some (.slice ae es.length ce) by go_simp)
  have hz := hall.size
  cases hv : blkB bs es x t
  · have HN := Lib.hid (show groupsV bs es x t = -1 by unfold groupsV; rw [hv]; rfl)
    clear hv
    go_wp2
    go_ret
    exact ⟨by first | (rw [HN.out]; rfl) | rw [HN.out], hall⟩
  · have HN := Lib.hid (show groupsV bs es x t = ((fsOf (blkOps bs x) t).n : Int) by unfold groupsV; rw [hv]; rfl)
    obtain ⟨hh, ht⟩ := blkB_iff.1 hv
    have hm := (hasB_iff.1 hh).2
    have hok := blkOps_ok hh
    have HT := Lib.hid (And.intro ht (show (blkOps bs x).size ≤ 1048576 by have := hok.1; omega))
    clear hv hh ht hok
    go_wp2_with fail
    refine (l3Ops_any _ bs ab ae cb es.length ce x hm hpb2).mono ?_
    rintro e w2 ⟨rfl, hb2⟩
    have hall2 := hall.trans (hb2.mono hz)
    have hz2 := hall2.size
    go_wp2_with fail
    refine (l3Groups_any (blkOps bs x) t _ HT.out.2 HT.out.1).mono ?_
    rintro e w3 ⟨rfl, hb3⟩
    go_wp2
    go_ret
    exact ⟨by first | (rw [HN.out]; rfl) | rw [HN.out], hall2.trans (hb3.mono hz2)⟩

set_option maxRecDepth 100000 in
theorem UpIn_spec (w : World) (bs es : List Pr) (ab ae : Option Addr) (cb ce : Nat) (x t : ByteArray) (hpb : PairsAt w ab bs) (hpe : PairsAt w ae es) :
    Calls Tryd.prog 51 #[.agg #[.slice ab bs.length cb, .slice ae es.length ce], .string x, .string t] w fun e w' => e = .returned (.bool (upV bs es x t)) ∧ Below w.heap.size w w' := by
  have h1 : Below w.heap.size w (w.alloc (.cells #[.slice ab bs.length cb, .slice ae es.length ce] 30)) := (Below.refl _ _).alloc (Nat.le_refl _) _
  have hpb1 := hpb.below h1
  have hpe1 := hpe.below h1
  have H1 := Lib.hid h1; clear h1
  go_enter Tryd.func51, Tryd.ntmps51
  go_wp2_with fail
  refine (l3Asked_any _ bs es _ _ _ _ x t hpb1 hpe1).mono ?_
  rintro e w1 ⟨rfl, hb1⟩
  have hall : Below w.heap.size w w1 := H1.out.trans (hb1.mono (by simp))
  have hpb2 := hpb1.below hb1
  have c0 := (hb1.cell (p := ⟨w.heap.size, 0, none⟩) (by simp)).trans (show _ = some (.slice ab bs.length cb) by go_simp)
  have c1 := (hb1.cell (p := ⟨w.heap.size, 1, none⟩) (by simp)).trans (show _ = some (.slice ae es.length ce) by go_simp)
  have hz := hall.size
  cases hv : blkB bs es x t
  · have HN := Lib.hid (show upV bs es x t = false by unfold upV; rw [hv]; rfl)
    clear hv
    go_wp2
    go_ret
    exact ⟨by first | (rw [HN.out]; rfl) | rw [HN.out], hall⟩
  · have HN := Lib.hid (show upV bs es x t = (fsOf (blkOps bs x) t).up by unfold upV; rw [hv]; rfl)
    obtain ⟨hh, ht⟩ := blkB_iff.1 hv
    have hm := (hasB_iff.1 hh).2
    have hok := blkOps_ok hh
    have HT := Lib.hid (And.intro ht (show (blkOps bs x).size ≤ 1048576 by have := hok.1; omega))
    clear hv hh ht hok
    go_wp2_with fail
    refine (l3Ops_any _ bs ab ae cb es.length ce x hm hpb2).mono ?_
    rintro e w2 ⟨rfl, hb2⟩
    have hall2 := hall.trans (hb2.mono hz)
    have hz2 := hall2.size
    go_wp2_with fail
    refine (l3Up_any (blkOps bs x) t _ HT.out.2 HT.out.1).mono ?_
    rintro e w3 ⟨rfl, hb3⟩
    go_wp2
    go_ret
    exact ⟨by first | (rw [HN.out]; rfl) | rw [HN.out], hall2.trans (hb3.mono hz2)⟩

set_option maxRecDepth 100000 in
theorem DownIn_spec (w : World) (bs es : List Pr) (ab ae : Option Addr) (cb ce : Nat) (x t : ByteArray) (hpb : PairsAt w ab bs) (hpe : PairsAt w ae es) :
    Calls Tryd.prog 52 #[.agg #[.slice ab bs.length cb, .slice ae es.length ce], .string x, .string t] w fun e w' => e = .returned (.bool (downV bs es x t)) ∧ Below w.heap.size w w' := by
  have h1 : Below w.heap.size w (w.alloc (.cells #[.slice ab bs.length cb, .slice ae es.length ce] 30)) := (Below.refl _ _).alloc (Nat.le_refl _) _
  have hpb1 := hpb.below h1
  have hpe1 := hpe.below h1
  have H1 := Lib.hid h1; clear h1
  go_enter Tryd.func52, Tryd.ntmps52
  go_wp2_with fail
  refine (l3Asked_any _ bs es _ _ _ _ x t hpb1 hpe1).mono ?_
  rintro e w1 ⟨rfl, hb1⟩
  have hall : Below w.heap.size w w1 := H1.out.trans (hb1.mono (by simp))
  have hpb2 := hpb1.below hb1
  have c0 := (hb1.cell (p := ⟨w.heap.size, 0, none⟩) (by simp)).trans (show _ = some (.slice ab bs.length cb) by go_simp)
  have c1 := (hb1.cell (p := ⟨w.heap.size, 1, none⟩) (by simp)).trans (show _ = some (.slice ae es.length ce) by go_simp)
  have hz := hall.size
  cases hv : blkB bs es x t
  · have HN := Lib.hid (show downV bs es x t = false by unfold downV; rw [hv]; rfl)
    clear hv
    go_wp2
    go_ret
    exact ⟨by first | (rw [HN.out]; rfl) | rw [HN.out], hall⟩
  · have HN := Lib.hid (show downV bs es x t = (fsOf (blkOps bs x) t).dn by unfold downV; rw [hv]; rfl)
    obtain ⟨hh, ht⟩ := blkB_iff.1 hv
    have hm := (hasB_iff.1 hh).2
    have hok := blkOps_ok hh
    have HT := Lib.hid (And.intro ht (show (blkOps bs x).size ≤ 1048576 by have := hok.1; omega))
    clear hv hh ht hok
    go_wp2_with fail
    refine (l3Ops_any _ bs ab ae cb es.length ce x hm hpb2).mono ?_
    rintro e w2 ⟨rfl, hb2⟩
    have hall2 := hall.trans (hb2.mono hz)
    have hz2 := hall2.size
    go_wp2_with fail
    refine (l3Down_any (blkOps bs x) t _ HT.out.2 HT.out.1).mono ?_
    rintro e w3 ⟨rfl, hb3⟩
    go_wp2
    go_ret
    exact ⟨by first | (rw [HN.out]; rfl) | rw [HN.out], hall2.trans (hb3.mono hz2)⟩

set_option maxRecDepth 100000 in
theorem ClearIn_spec (w : World) (bs es : List Pr) (ab ae : Option Addr) (cb ce : Nat) (x t : ByteArray) (hpb : PairsAt w ab bs) (hpe : PairsAt w ae es) :
    Calls Tryd.prog 53 #[.agg #[.slice ab bs.length cb, .slice ae es.length ce], .string x, .string t] w fun e w' => e = .returned (.bool (clearV bs es x t)) ∧ Below w.heap.size w w' := by
  have h1 : Below w.heap.size w (w.alloc (.cells #[.slice ab bs.length cb, .slice ae es.length ce] 30)) := (Below.refl _ _).alloc (Nat.le_refl _) _
  have hpb1 := hpb.below h1
  have hpe1 := hpe.below h1
  have H1 := Lib.hid h1; clear h1
  go_enter Tryd.func53, Tryd.ntmps53
  go_wp2_with fail
  refine (l3Asked_any _ bs es _ _ _ _ x t hpb1 hpe1).mono ?_
  rintro e w1 ⟨rfl, hb1⟩
  have hall : Below w.heap.size w w1 := H1.out.trans (hb1.mono (by simp))
  have hpb2 := hpb1.below hb1
  have c0 := (hb1.cell (p := ⟨w.heap.size, 0, none⟩) (by simp)).trans (show _ = some (.slice ab bs.length cb) by go_simp)
  have c1 := (hb1.cell (p := ⟨w.heap.size, 1, none⟩) (by simp)).trans (show _ = some (.slice ae es.length ce) by go_simp)
  have hz := hall.size
  cases hv : blkB bs es x t
  · have HN := Lib.hid (show clearV bs es x t = false by unfold clearV; rw [hv]; rfl)
    clear hv
    go_wp2
    go_ret
    exact ⟨by first | (rw [HN.out]; rfl) | rw [HN.out], hall⟩
  · have HN := Lib.hid (show clearV bs es x t = (fsOf (blkOps bs x) t).cl by unfold clearV; rw [hv]; rfl)
    obtain ⟨hh, ht⟩ := blkB_iff.1 hv
    have hm := (hasB_iff.1 hh).2
    have hok := blkOps_ok hh
    have HT := Lib.hid (And.intro ht (show (blkOps bs x).size ≤ 1048576 by have := hok.1; omega))
    clear hv hh ht hok
    go_wp2_with fail
    refine (l3Ops_any _ bs ab ae cb es.length ce x hm hpb2).mono ?_
    rintro e w2 ⟨rfl, hb2⟩
    have hall2 := hall.trans (hb2.mono hz)
    have hz2 := hall2.size
    go_wp2_with fail
    refine (l3Clear_any (blkOps bs x) t _ HT.out.2 HT.out.1).mono ?_
    rintro e w3 ⟨rfl, hb3⟩
    go_wp2
    go_ret
    exact ⟨by first | (rw [HN.out]; rfl) | rw [HN.out], hall2.trans (hb3.mono hz2)⟩

end Go.Proofs.YtdepangkeeehpaaDoor
