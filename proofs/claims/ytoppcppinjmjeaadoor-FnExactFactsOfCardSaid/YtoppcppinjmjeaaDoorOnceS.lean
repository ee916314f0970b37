/-
  CountOnce of the model: how often the blocks of a run compute a term by themselves. Conditions: at most 1048576 blocks and edges, each text at most as many bytes.
-/
import Derived.Test.YtoppcppinjmjeaaDoorBlkT
import Derived.Test.YtoppcppinjmjeaaDoorOpsM
namespace Go.Proofs.YtoppcppinjmjeaaDoor
open Go.RowKit Go.Maps

def onceTo (bs : List Pr) (run t : ByteArray) : Nat → Nat
  | 0 => 0
  | k + 1 => onceTo bs run t k + (fsOf (blkOps bs (ch run k)) t).n
theorem onceTo_zero (bs : List Pr) (run t : ByteArray) : onceTo bs run t 0 = 0 := rfl
theorem onceTo_succ (bs : List Pr) (run t : ByteArray) (k : Nat) : onceTo bs run t (k + 1) = onceTo bs run t k + (fsOf (blkOps bs (ch run k)) t).n := rfl
theorem blkOps_opsAt (bs : List Pr) (x : ByteArray) : blkOps bs x = opsAt bs x := rfl
theorem onceTo_le {bs es : List Pr} {run t : ByteArray} (hV : Valid bs es) (hR : RunOk bs es run) : ∀ k, k ≤ run.size → onceTo bs run t k ≤ 6 * k
  | 0, _ => Nat.le_refl _
  | k + 1, hk => by
    have h1 := onceTo_le (t := t) hV hR k (by omega)
    have h2 := (opsAt_ok hV (hR.mem hV (k := k) (by omega))).1
    have h3 := fsOf_n (blkOps bs (ch run k)) t
    rw [blkOps_opsAt] at h3
    rw [onceTo_succ, blkOps_opsAt]
    omega
noncomputable def onceV (bs es : List Pr) (run t : ByteArray) : Int := if (isRunB bs es run && isTm t) = true then (onceTo bs run t run.size : Int) else -1
theorem onceV_yes {bs es : List Pr} {run t : ByteArray} (h : isRunB bs es run = true) (h' : isTm t = true) : onceV bs es run t = (onceTo bs run t run.size : Int) := by unfold onceV; rw [h, h']; rfl
theorem onceV_no1 {bs es : List Pr} {run t : ByteArray} (h : isRunB bs es run = false) : onceV bs es run t = -1 := by unfold onceV; rw [h]; rfl
theorem onceV_no2 {bs es : List Pr} {run t : ByteArray} (h : isTm t = false) : onceV bs es run t = -1 := by unfold onceV; rw [h, Bool.and_false]; rfl
theorem l1Term_lit (s : ByteArray) (b : Bool) (h : isTm s = b) (w : World) :
    Calls Tryd.prog 58 #[.string s] w fun e w' => e = .returned (.bool b) ∧ w = w' :=
  (l1Term_any s w).mono fun e w' k => ⟨by rw [k.1, h], k.2⟩

set_option maxRecDepth 100000 in
set_option maxHeartbeats 1600000 in
theorem CountOnce_spec (w : World) (bs es : List Pr) (ab ae : Option Addr) (cb ce : Nat) (run t : ByteArray) (hr : run.size ≤ 1048576) (hpb : PairsAt w ab bs) (hpe : PairsAt w ae es) :
    Calls Tryd.prog 27 #[.agg #[.slice ab bs.length cb, .slice ae es.length ce], .string run, .string t] w fun e w' => e = .returned (.int .i64 (onceV bs es run t)) ∧ Below w.heap.size w w' := by
  have h1 : Below w.heap.size w (w.alloc (.cells #[.slice ab bs.length cb, .slice ae es.length ce] 31)) := (Below.refl _ _).alloc (Nat.le_refl _) _
  have hpb1 := hpb.below h1
  have hpe1 := hpe.below h1
  have H1 := Lib.hid h1; clear h1
  go_enter Tryd.func27, Tryd.ntmps27
  go_wp2_with fail
  refine (IsRun_spec _ bs es _ _ _ _ run hr hpb1 hpe1).mono ?_
  rintro e w1 ⟨rfl, hb1⟩
  have hall : Below w.heap.size w w1 := H1.out.trans (hb1.mono (by simp))
  have hpb2 := hpb1.below hb1
  have c0 := (hb1.cell (p := ⟨w.heap.size, 0, none⟩) (by simp)).trans (show _ = some (.slice ab bs.length cb) by go_simp)
  have c1 := (hb1.cell (p := ⟨w.heap.size, 1, none⟩) (by simp)).trans (show _ = some (.slice ae es.length ce) by go_simp)
  have hz := hall.size
  have hz1 : w.heap.size < w1.heap.size := by have := hb1.size; simp at this; omega
  cases hv : isRunB bs es run
  · have HN := Lib.hid (onceV_no1 (t := t) hv)
    clear hv
    go_wp2
    go_ret
    exact ⟨by rw [HN.out]; rfl, hall⟩
  · cases ht : isTm t
    · have HN := Lib.hid (onceV_no2 (bs := bs) (es := es) (run := run) ht)
      have HT := Lib.hid ht
      clear hv ht
      go_wp2_with (go_at_call 58; refine (l1Term_lit _ _ HT.out _).mono ?_; rintro e w' ⟨rfl, rfl⟩)
      go_ret
      exact ⟨by rw [HN.out]; rfl, hall⟩
    · have HN := Lib.hid (onceV_yes hv ht)
      have HT := Lib.hid ht
      have HR := Lib.hid (isRunB_iff.1 hv)
      have hr40 := HR.out.2.hi
      have HA := Lib.hid (And.intro hall hpb2)
      clear hv ht hall hpb2 hpb1 hpe1 hb1
      go_wp2_with (go_at_call 58; refine (l1Term_lit _ _ HT.out _).mono ?_; rintro e w' ⟨rfl, rfl⟩)
      go_loopw [20, 7] (fun i v wr => ∃ k : Nat, k ≤ run.size ∧ i = .int .i64 k ∧ v = .int .i64 (onceTo bs run t k : Int) ∧ Below w1.heap.size w1 wr) (fun i _ _ => run.size - (intOf i).toNat)
      case atStart => exact ⟨0, Nat.zero_le _, rfl, rfl, Below.refl _ _⟩
      case round =>
        obtain ⟨k, hk, rfl, rfl, hbl⟩ := hrel
        have hs2 := hbl.size
        by_cases hlt : k < run.size
        · have x0 := (hbl.cell (p := ⟨w.heap.size, 0, none⟩) hz1).trans c0
          have x1 := (hbl.cell (p := ⟨w.heap.size, 1, none⟩) hz1).trans c1
          have hn1 : w.heap.size < wr.heap.size := by omega
          have hmem := HR.out.2.mem HR.out.1 hlt
          have hs6 := (opsAt_ok HR.out.1 hmem).1
          have hsz := onceTo_le (t := t) HR.out.1 HR.out.2 k hk
          have hfs := fsOf_n (blkOps bs (ch run k)) t
          have s3 := run_slice_str run ((k : Int)) ((k : Int) + 1) k (k + 1) rfl (by omega) (by omega) (by omega)
          have w2 : IntKind.i64.wrap ((k : Int) + 1) = (k : Int) + 1 := IntWalk.i64_in _ (by omega)
          have w3 : IntKind.i64.wrap ((onceTo bs run t k : Int) + ((fsOf (blkOps bs (ch run k)) t).n : Int)) = (onceTo bs run t (k + 1) : Int) := by
            rw [onceTo_succ]
            rw [blkOps_opsAt] at hfs
            rw [blkOps_opsAt]
            have := IntWalk.i64_in ((onceTo bs run t k : Int) + ((fsOf (opsAt bs (ch run k)) t).n : Int)) (by omega)
            rw [this]; omega
          have HM := Lib.hid (And.intro hmem (show (blkOps bs (ch run k)).size ≤ 1048576 by rw [blkOps_opsAt]; omega))
          have hpr := HA.out.2.below hbl
          have HP := Lib.hid (And.intro hpr hbl)
          clear hmem hs6 hpr hbl hsz hfs
          go_wp2
          go_region_held3 (fun w' => w'.cell? ⟨w.heap.size, 0, none⟩ = some (.slice ab bs.length cb) ∧ w'.cell? ⟨w.heap.size, 1, none⟩ = some (.slice ae es.length ce) ∧ Below wr.heap.size wr w')
            (first
              | exact ⟨x0, x1, (Below.refl _ _).drew⟩
              | (have hq := below_new (‹_ ∧ _ ∧ Below wr.heap.size wr _›).2.2 hbN; exact ⟨(hq.cell (p := ⟨w.heap.size, 0, none⟩) hn1).trans x0, (hq.cell (p := ⟨w.heap.size, 1, none⟩) hn1).trans x1, hq⟩)
              | (have hq := below_new (‹_ ∧ _ ∧ Below wr.heap.size wr _›).2.2 hbM; exact ⟨(hq.cell (p := ⟨w.heap.size, 0, none⟩) hn1).trans x0, (hq.cell (p := ⟨w.heap.size, 1, none⟩) hn1).trans x1, hq⟩))
            (first
              | (go_at_call 47; refine (l3Ops_any _ bs ab ae cb es.length ce (ch run k) HM.out.1 ?_).mono ?_; (exact HP.out.1.below (‹_ ∧ _ ∧ Below wr.heap.size wr _›).2.2); rintro e wM ⟨rfl, hbM⟩)
              | (go_at_call 46; refine (l3Groups_any (blkOps bs (ch run k)) t _ HM.out.2 HT.out).mono ?_; rintro e wN ⟨rfl, hbN⟩))
          have hbN2 : Below w1.heap.size w1 wN := HP.out.2.trans ((‹_ ∧ _ ∧ Below wr.heap.size wr wN›).2.2.mono hs2)
          go_wp2
          go_roundw
          case rel => exact ⟨k + 1, by omega, by go_num, rfl, hbN2⟩
          case measure => simp [intOf]; omega
        · obtain rfl : k = run.size := by omega
          have hfin := HA.out.1.trans (hbl.mono hz)
          go_wp2
          go_ret
          exact ⟨by rw [HN.out]; rfl, hfin⟩
end Go.Proofs.YtoppcppinjmjeaaDoor
