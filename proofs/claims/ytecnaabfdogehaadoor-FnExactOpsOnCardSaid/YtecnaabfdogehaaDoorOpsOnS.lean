/-
  OpsOn of the model: what the blocks of a run do, one behind the other. Conditions: at most 1048576 blocks and edges, each text at most as many bytes.
-/
import Derived.Test.YtecnaabfdogehaaDoorNames
import Derived.Test.YtecnaabfdogehaaDoorIsRun
import Derived.Test.YtecnaabfdogehaaDoorWriteOps
namespace Go.Proofs.YtecnaabfdogehaaDoor
open Go.RowKit Go.Maps

/-- what the block of a name does -/
def opsAt (bs : List Pr) (x : ByteArray) : ByteArray := restAt bs (fnd bs x).toNat
def opsTxt (bs : List Pr) (run : ByteArray) (k : Nat) : ByteArray := cat ((List.range k).map fun i => opsAt bs (ch run i))
theorem opsTxt_succ (bs : List Pr) (run : ByteArray) (k : Nat) : opsTxt bs run (k + 1) = opsTxt bs run k ++ opsAt bs (ch run k) := by
  unfold opsTxt
  rw [List.range_succ, List.map_append, List.map_cons, List.map_nil, cat_snoc]
theorem RunOk.mem {bs es : List Pr} {run : ByteArray} (h : RunOk bs es run) (hV : Valid bs es) {k : Nat} (hk : k < run.size) : ch run k ∈ names bs := by
  cases k with
  | zero => rw [h.st]; exact nameAt_mem (by have := hV.b.lo; omega)
  | succ k => exact hV.e.to _ (h.ed k hk)
theorem opsAt_ok {bs es : List Pr} {x : ByteArray} (hV : Valid bs es) (h : x ∈ names bs) : opsOk (opsAt bs x) := by
  obtain ⟨k, hk, hf, _⟩ := fnd_pos h
  unfold opsAt
  rw [hf]
  exact hV.b.op _ (pair_mem hk)
theorem opsTxt_size {bs es : List Pr} {run : ByteArray} (hV : Valid bs es) (hR : RunOk bs es run) : ∀ k, k ≤ run.size → (opsTxt bs run k).size ≤ 6 * k
  | 0, _ => by show (cat []).size ≤ 0; exact Nat.le_refl _
  | k + 1, hk => by
    have h1 := opsTxt_size hV hR k (by omega)
    have h2 := (opsAt_ok hV (hR.mem hV (k := k) (by omega))).1
    rw [opsTxt_succ, ByteArray.size_append]
    omega
noncomputable def opsOnV (bs es : List Pr) (run : ByteArray) : Value := if isRunB bs es run = true then .tuple #[.string (opsTxt bs run run.size), .bool true] else .tuple #[.string e0, .bool false]
theorem opsOnV_yes {bs es : List Pr} {x : ByteArray} (h : isRunB bs es x = true) : opsOnV bs es x = .tuple #[.string (opsTxt bs x x.size), .bool true] := by unfold opsOnV; rw [if_pos h]
theorem opsOnV_no {bs es : List Pr} {x : ByteArray} (h : isRunB bs es x = false) : opsOnV bs es x = .tuple #[.string e0, .bool false] := by unfold opsOnV; rw [if_neg (by rw [h]; simp)]
theorem opsOnV_form (bs es : List Pr) (x : ByteArray) : ∃ (r : ByteArray) (ok : Bool), opsOnV bs es x = .tuple #[.string r, .bool ok] := by
  cases h : isRunB bs es x
  · exact ⟨_, _, opsOnV_no h⟩
  · exact ⟨_, _, opsOnV_yes h⟩
theorem isRunB_iff {bs es : List Pr} {run : ByteArray} : isRunB bs es run = true ↔ Valid bs es ∧ RunOk bs es run := by simp [isRunB, validB, runB]
theorem l1Find_k2 (name : ByteArray) (w : World) (l : List Pr) (a : Option Addr) (cap : Nat) (ve : Value) (k : Nat) (hk : fnd l name = (k : Int)) (hp : PairsAt w a l) :
    Calls Tryd.prog 104 #[.agg #[.slice a l.length cap, ve], .string name] w fun e w' => e = .returned (.int .i64 (k : Int)) ∧ Below w.heap.size w w' :=
  (l1Find_any name w l a cap ve hp).mono fun e w' h => ⟨by rw [h.1, hk], h.2⟩

set_option maxRecDepth 100000 in
set_option maxHeartbeats 1600000 in
theorem l2Ops_any (w : World) (bs es : List Pr) (ab ae : Option Addr) (cb ce : Nat) (run : ByteArray) (hV : Valid bs es) (hR : RunOk bs es run) (hpb : PairsAt w ab bs) :
    Calls Tryd.prog 74 #[.agg #[.slice ab bs.length cb, .slice ae es.length ce], .string run] w fun e w' => e = .returned (.string (opsTxt bs run run.size)) ∧ Below w.heap.size w w' := by
  have h1 : Below w.heap.size w (w.alloc (.cells #[.slice ab bs.length cb, .slice ae es.length ce] 31)) := (Below.refl _ _).alloc (Nat.le_refl _) _
  have y0 : (w.alloc (.cells #[.slice ab bs.length cb, .slice ae es.length ce] 31)).cell? ⟨w.heap.size, 0, none⟩ = some (.slice ab bs.length cb) := by go_simp
  have y1 : (w.alloc (.cells #[.slice ab bs.length cb, .slice ae es.length ce] 31)).cell? ⟨w.heap.size, 1, none⟩ = some (.slice ae es.length ce) := by go_simp
  have hsA : w.heap.size < (w.alloc (.cells #[.slice ab bs.length cb, .slice ae es.length ce] 31)).heap.size := by simp
  have hpbA := hpb.below h1
  have hr40 := hR.hi
  have HV := Lib.hid (And.intro hV hR); clear hV hR
  go_enter Tryd.func74, Tryd.ntmps74
  go_wp2
  generalize w.alloc (.cells #[.slice ab bs.length cb, .slice ae es.length ce] 31) = wA at *
  have HA := Lib.hid (And.intro hpbA h1); clear hpbA h1
  go_loopw [9, 5] (fun i v wr => ∃ k : Nat, k ≤ run.size ∧ i = .int .i64 k ∧ v = .string (opsTxt bs run k) ∧ Below wA.heap.size wA wr) (fun i _ _ => run.size - (intOf i).toNat)
  case atStart => exact ⟨0, Nat.zero_le _, rfl, rfl, Below.refl _ _⟩
  case round =>
    obtain ⟨k, hk, rfl, rfl, hbl⟩ := hrel
    have hs2 := hbl.size
    have hall : Below w.heap.size w wr := HA.out.2.trans (hbl.mono (by omega))
    by_cases hlt : k < run.size
    · have x0 := (hbl.cell (p := ⟨w.heap.size, 0, none⟩) hsA).trans y0
      have x1 := (hbl.cell (p := ⟨w.heap.size, 1, none⟩) hsA).trans y1
      have hn1 : w.heap.size < wr.heap.size := by omega
      have hmem := HV.out.2.mem HV.out.1 hlt
      obtain ⟨kk, hkk, hf, hn⟩ := fnd_pos hmem
      have hpr := HA.out.1.below hbl
      obtain ⟨b, off, rfl, hb, g1, g2⟩ := hpr.cell kk hkk
      have hat : opsAt bs (ch run k) = restAt bs kk := by unfold opsAt; rw [hf]; rfl
      have hs6 := (opsAt_ok HV.out.1 hmem).1
      rw [hat] at hs6
      have hsz := opsTxt_size HV.out.1 HV.out.2 k hk
      have t1 : ¬ 9223372036854775807 < (opsTxt bs run k).size + (restAt bs kk).size := by omega
      have HS := Lib.hid (show opsTxt bs run (k + 1) = opsTxt bs run k ++ restAt bs kk by rw [opsTxt_succ, hat])
      have HF := Lib.hid hf
      have s3 := run_slice_str run ((k : Int)) ((k : Int) + 1) k (k + 1) rfl (by omega) (by omega) (by omega)
      have w2 : IntKind.i64.wrap ((k : Int) + 1) = (k : Int) + 1 := IntWalk.i64_in _ (by omega)
      have i1 : (0 : Int) ≤ (kk : Int) := by omega
      have i2 : (kk : Int) < (bs.length : Int) := by omega
      clear hmem hf hn hat hsz g1
      go_wp2
      go_region_held3 (fun w' => w'.cell? ⟨w.heap.size, 0, none⟩ = some (.slice (some ⟨b, off, none⟩) bs.length cb) ∧ w'.cell? ⟨w.heap.size, 1, none⟩ = some (.slice ae es.length ce) ∧ w'.cell? ⟨b, off + kk * 2 + 1, none⟩ = some (.string (restAt bs kk)) ∧ Below wr.heap.size wr w')
        (first
          | exact ⟨x0, x1, g2, (Below.refl _ _).drew⟩
          | (have hq := below_new (‹_ ∧ _ ∧ _ ∧ Below wr.heap.size wr _›).2.2.2 hbN; exact ⟨(hq.cell (p := ⟨w.heap.size, 0, none⟩) hn1).trans x0, (hq.cell (p := ⟨w.heap.size, 1, none⟩) hn1).trans x1, (hq.cell (p := ⟨b, off + kk * 2 + 1, none⟩) hb).trans g2, hq⟩))
        (first
          | (go_at_call 104; refine (l1Find_k2 (ch run k) _ bs _ cb _ kk HF.out ?_).mono ?_; (exact hpr.drew); rintro e wN ⟨rfl, hbN⟩))
      have hbN2 : Below wA.heap.size wA wN := hbl.trans ((‹_ ∧ _ ∧ _ ∧ Below wr.heap.size wr wN›).2.2.2.mono hs2)
      go_wp2
      go_roundw
      case rel => exact ⟨k + 1, by omega, by go_num, by rw [HS.out], hbN2⟩
      case measure => simp [intOf]; omega
    · obtain rfl : k = run.size := by omega
      go_wp2
      go_ret
      exact ⟨rfl, hall⟩

set_option maxRecDepth 100000 in
theorem OpsOn_spec (w : World) (bs es : List Pr) (ab ae : Option Addr) (cb ce : Nat) (run : ByteArray) (hr : run.size ≤ 1048576) (hpb : PairsAt w ab bs) (hpe : PairsAt w ae es) :
    Calls Tryd.prog 33 #[.agg #[.slice ab bs.length cb, .slice ae es.length ce], .string run] w fun e w' => e = .returned (opsOnV bs es run) ∧ Below w.heap.size w w' := by
  have h1 : Below w.heap.size w (w.alloc (.cells #[.slice ab bs.length cb, .slice ae es.length ce] 31)) := (Below.refl _ _).alloc (Nat.le_refl _) _
  have hpb1 := hpb.below h1
  have hpe1 := hpe.below h1
  have H1 := Lib.hid h1; clear h1
  go_enter Tryd.func33, Tryd.ntmps33
  go_wp2_with fail
  refine (IsRun_spec _ bs es _ _ _ _ run hr hpb1 hpe1).mono ?_
  rintro e w1 ⟨rfl, hb1⟩
  have hall : Below w.heap.size w w1 := H1.out.trans (hb1.mono (by simp))
  have hpb2 := hpb1.below hb1
  have c0 := (hb1.cell (p := ⟨w.heap.size, 0, none⟩) (by simp)).trans (show _ = some (.slice ab bs.length cb) by go_simp)
  have c1 := (hb1.cell (p := ⟨w.heap.size, 1, none⟩) (by simp)).trans (show _ = some (.slice ae es.length ce) by go_simp)
  have hz := hall.size
  cases hv : isRunB bs es run
  · have HN := Lib.hid (opsOnV_no hv)
    clear hv
    go_wp2
    go_ret2
    exact ⟨by rw [HN.out]; rfl, hall⟩
  · have HN := Lib.hid (opsOnV_yes hv)
    have HR := Lib.hid (isRunB_iff.1 hv)
    clear hv
    go_wp2_with fail
    refine (l2Ops_any _ bs es _ _ _ _ run HR.out.1 HR.out.2 hpb2).mono ?_
    rintro e w2 ⟨rfl, hb2⟩
    go_wp2
    go_ret2
    exact ⟨by rw [HN.out]; rfl, hall.trans (hb2.mono hz)⟩
end Go.Proofs.YtecnaabfdogehaaDoor
