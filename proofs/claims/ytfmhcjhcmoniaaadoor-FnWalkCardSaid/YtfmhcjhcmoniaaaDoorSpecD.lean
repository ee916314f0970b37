/-
  The model's chapter 1: ProgValid returns whether a program is valid, for every program. Conditions: at most 1048576 blocks and edges, each text at most as many bytes.
-/
import Derived.Test.YtfmhcjhcmoniaaaDoorSpecC
namespace Go.Proofs.YtfmhcjhcmoniaaaDoor
open Go.RowKit

open Classical in
/-- whether a program is valid -/
noncomputable def validB (bs es : List Pr) : Bool := decide (Valid bs es)
/-- an edge is as it has to be, seen from its place -/
def EdgeAt (bs es : List Pr) (k : Nat) : Prop :=
  ¬ fnd bs (nameAt es k) < 0 ∧ ¬ fnd bs (restAt es k) < 1 ∧ fnd bs (nameAt es k) ≠ (bs.length : Int) - 1 ∧ ¬ fndE es (nameAt es k, restAt es k) < k
theorem fnd_mem {l : List Pr} {s : ByteArray} : 0 ≤ fnd l s ↔ s ∈ names l := by
  constructor
  · intro h
    by_cases hm : s ∈ names l
    · exact hm
    · rw [fnd_no hm] at h; omega
  · intro h
    obtain ⟨k, _, e, _⟩ := fnd_yes h
    omega
theorem edges_of {bs es : List Pr} (hB : BlocksOk bs) (h14 : es.length ≤ 14) (h : ∀ k, k < es.length → EdgeAt bs es k) : EdgesOk bs es where
  hi := h14
  fr e he := by obtain ⟨i, hi, e1, e2⟩ := mem_at he; rw [← e1]; exact fnd_mem.1 (by have := (h i hi).1; omega)
  to e he := by obtain ⟨i, hi, e1, e2⟩ := mem_at he; rw [← e2]; exact fnd_mem.1 (by have := (h i hi).2.1; omega)
  nd := nodupE_iff.2 fun i hi j hj e => (h i hi).2.2.2 ((fndE_lt hi).2 ⟨j, hj, e⟩)
  ne e he e' := by
    obtain ⟨i, hi, e1, e2⟩ := mem_at he
    have := (h i hi).2.1
    rw [e2, e', fnd_at hB.nd (by have := hB.lo; omega)] at this
    omega
  nx e he e' := by
    obtain ⟨i, hi, e1, e2⟩ := mem_at he
    have := (h i hi).2.2.1
    have hlo := hB.lo
    rw [e1, e', fnd_at hB.nd (by omega)] at this
    omega
theorem at_of_edges {bs es : List Pr} (hB : BlocksOk bs) (h : EdgesOk bs es) {k : Nat} (hk : k < es.length) : EdgeAt bs es k := by
  have hm := pair_mem hk
  have hlo := hB.lo
  obtain ⟨x, hx, ex, nx⟩ := fnd_yes (h.fr _ hm)
  obtain ⟨y, hy, ey, ny⟩ := fnd_yes (h.to _ hm)
  simp only at ex nx ey ny
  refine ⟨by omega, ?_, ?_, ?_⟩
  · intro h1
    have : y = 0 := by omega
    subst this
    exact h.ne _ hm ny.symm
  · intro h1
    have : x = bs.length - 1 := by omega
    subst this
    exact h.nx _ hm nx.symm
  · intro hf
    obtain ⟨j, hj, e⟩ := (fndE_lt hk).1 hf
    exact nodupE_iff.1 h.nd k hk j hj e
theorem validB_no_blocks {bs es : List Pr} (h : blocksB bs = false) : validB bs es = false := by
  simp only [blocksB, decide_eq_false_iff_not] at h
  simp only [validB, decide_eq_false_iff_not]
  exact fun h' => h h'.b
theorem blocksB_yes {bs : List Pr} (h : blocksB bs = true) : BlocksOk bs := by simpa [blocksB] using h
theorem validB_no_count {bs es : List Pr} (h : (14 : Int) < es.length) : validB bs es = false := by
  simp only [validB, decide_eq_false_iff_not]
  exact fun h' => by have := h'.e.hi; omega
theorem validB_no_edge {bs es : List Pr} {k : Nat} (hB : BlocksOk bs) (hk : k < es.length) (h : ¬ EdgeAt bs es k) : validB bs es = false := by
  simp only [validB, decide_eq_false_iff_not]
  exact fun h' => h (at_of_edges hB h'.e hk)
theorem validB_no_reach {bs es : List Pr} {k : Nat} (hk : k < bs.length) (h : ¬ Reach es (nameAt bs 0) (nameAt bs k)) : validB bs es = false := by
  simp only [validB, decide_eq_false_iff_not]
  exact fun h' => h (h'.ra _ (pair_mem hk))
theorem validB_no_back {bs es : List Pr} {k : Nat} (hk : k < bs.length) (h : ¬ Reach (flip es) (nameAt bs (bs.length - 1)) (nameAt bs k)) : validB bs es = false := by
  simp only [validB, decide_eq_false_iff_not]
  exact fun h' => h (h'.rz _ (pair_mem hk))
theorem validB_yes {bs es : List Pr} (hB : BlocksOk bs) (hE : EdgesOk bs es) (h1 : ∀ k, k < bs.length → Reach es (nameAt bs 0) (nameAt bs k) ∧ Reach (flip es) (nameAt bs (bs.length - 1)) (nameAt bs k)) : validB bs es = true := by
  simp only [validB, decide_eq_true_eq]
  exact ⟨hB, hE, fun p hp => by obtain ⟨i, hi, e, _⟩ := mem_at hp; rw [← e]; exact (h1 i hi).1, fun p hp => by obtain ⟨i, hi, e, _⟩ := mem_at hp; rw [← e]; exact (h1 i hi).2⟩

/-- the struct parameter's box, and all that was there, stand as they were -/
structure Bx (w wr : World) (x0 x1 : Value) : Prop where
  below : Below w.heap.size w wr
  size : w.heap.size < wr.heap.size
  c0 : wr.cell? ⟨w.heap.size, 0, none⟩ = some x0
  c1 : wr.cell? ⟨w.heap.size, 1, none⟩ = some x1
theorem Bx.next {w wr wr' : World} {x0 x1 : Value} (h : Bx w wr x0 x1) (hb : Below (w.heap.size + 1) wr wr') : Bx w wr' x0 x1 :=
  ⟨h.below.trans (hb.mono (by omega)), Nat.lt_of_lt_of_le h.size hb.size, (hb.cell (p := ⟨w.heap.size, 0, none⟩) (by simp)).trans h.c0, (hb.cell (p := ⟨w.heap.size, 1, none⟩) (by simp)).trans h.c1⟩
theorem Bx.start (w : World) (x0 x1 : Value) (t : TypeId) : Bx w (w.alloc (.cells #[x0, x1] t)) x0 x1 :=
  ⟨(Below.refl _ _).alloc (Nat.le_refl _) _, by simp, by go_simp, by go_simp⟩
theorem Bx.of {w w1 : World} {x0 x1 : Value} {t : TypeId} (hb : Below (w.alloc (.cells #[x0, x1] t)).heap.size (w.alloc (.cells #[x0, x1] t)) w1) : Bx w w1 x0 x1 :=
  (Bx.start w x0 x1 t).next (hb.mono (by simp))

theorem l1Reached_int (w : World) (bs es : List Pr) (ab ae : Option Addr) (cb ce : Nat) (F : Int) (f : Nat) (back : Bool) (hF : F = f) (hpb : PairsAt w ab bs) (hpe : PairsAt w ae es) (hf : f < bs.length) (hd : (names bs).Nodup) (hE : ∀ e ∈ es, e.1 ∈ names bs ∧ e.2 ∈ names bs) :
    Calls Tryd.prog 42 #[.agg #[.slice ab bs.length cb, .slice ae es.length ce], .int .i64 F, .bool back] w (ReachPost w bs (dir back es) f) := by
  subst hF
  exact l1Reached_any w bs es ab ae cb ce f back hpb hpe hf hd hE

set_option maxRecDepth 100000 in
set_option maxHeartbeats 3200000 in
theorem ProgValid_spec (w : World) (bs es : List Pr) (ab ae : Option Addr) (cb ce : Nat) (hpb : PairsAt w ab bs) (hpe : PairsAt w ae es) :
    Calls Tryd.prog 19 #[.agg #[.slice ab bs.length cb, .slice ae es.length ce]] w fun e w' => e = .returned (.bool (validB bs es)) ∧ Below w.heap.size w w' := by
  have hlb := hpb.len
  have hle := hpe.len
  have hpb1 : PairsAt (w.alloc (.cells #[.slice ab bs.length cb, .slice ae es.length ce] 32)) ab bs := hpb.alloc _
  by_cases t1 : blocksB bs = true
  · have hB := blocksB_yes t1
    have hlo := hB.lo
    by_cases t2 : (14 : Int) < es.length
    · go_enter Tryd.func19, Tryd.ntmps19
      go_wp2_with (go_at_call 39; refine (l1Blocks_any _ bs _ _ _ hpb1).mono ?_; rintro e w1 ⟨rfl, hb1⟩; obtain ⟨q1, q2⟩ := bcell hb1)
      go_ret
      exact ⟨ret_bool (validB_no_count t2).symm, ((Below.refl _ _).alloc (Nat.le_refl _) _).trans (hb1.mono (by simp))⟩
    · have h14 : (es.length : Int) ≤ 14 := by omega
      go_enter Tryd.func19, Tryd.ntmps19
      go_wp2_with (go_at_call 39; refine (l1Blocks_any _ bs _ _ _ hpb1).mono ?_; rintro e w1 ⟨rfl, hb1⟩; obtain ⟨q1, q2⟩ := bcell hb1)
      have hbx : Bx w w1 (.slice ab bs.length cb) (.slice ae es.length ce) := Bx.of hb1
      clear q1 q2 hb1 t1
      have HB := Lib.hid hB; clear hB
      go_loopw [27] (fun i wr => ∃ k : Nat, k ≤ es.length ∧ i = .int .i64 k ∧ Bx w wr (.slice ab bs.length cb) (.slice ae es.length ce) ∧ ∀ j, j < k → EdgeAt bs es j) (fun i _ => es.length - (intOf i).toNat)
      case atStart => exact ⟨0, Nat.zero_le _, rfl, hbx, all_zero⟩
      case round =>
        obtain ⟨k, hk, rfl, hx, hno⟩ := hrel
        have Hno := Lib.hid hno; clear hno
        have hd0 := hx.c0
        have hd1 := hx.c1
        have hsz := hx.size
        by_cases hlt : k < es.length
        · obtain ⟨b, off, rfl, hb, h1, h2⟩ := hpe.cell k hlt
          have c1 := (hx.below.cell (p := ⟨b, off + k * 2, none⟩) hb).trans h1
          have c2 := (hx.below.cell (p := ⟨b, off + k * 2 + 1, none⟩) hb).trans h2
          clear h1 h2
          go_wp2
          have e0 : (wr.alloc (.cells #[.string (nameAt es k), .string (restAt es k)] 81)).cell? ⟨wr.heap.size, 0, none⟩ = some (.string (nameAt es k)) := by go_simp
          have e1 : (wr.alloc (.cells #[.string (nameAt es k), .string (restAt es k)] 81)).cell? ⟨wr.heap.size, 1, none⟩ = some (.string (restAt es k)) := by go_simp
          have hx0 : Bx w (wr.alloc (.cells #[.string (nameAt es k), .string (restAt es k)] 81)) (.slice ab bs.length cb) (.slice (some ⟨b, off, none⟩) es.length ce) := hx.next ((Below.refl _ _).alloc (by omega) _)
          have s0 : wr.heap.size < (wr.alloc (.cells #[.string (nameAt es k), .string (restAt es k)] 81)).heap.size := by simp
          clear hd0 hd1 c1 c2
          generalize wr.alloc (.cells #[.string (nameAt es k), .string (restAt es k)] 81) = W0 at *
          have f0 := hx0.c0
          have f1 := hx0.c1
          have p0 := hpb.below hx0.below
          have p1 := hpe.below hx0.below
          go_region_held3 (fun w' => w'.cell? ⟨w.heap.size, 0, none⟩ = some (.slice ab bs.length cb) ∧ w'.cell? ⟨w.heap.size, 1, none⟩ = some (.slice (some ⟨b, off, none⟩) es.length ce) ∧ w'.cell? ⟨wr.heap.size, 0, none⟩ = some (.string (nameAt es k)) ∧ w'.cell? ⟨wr.heap.size, 1, none⟩ = some (.string (restAt es k)) ∧ Below W0.heap.size W0 w')
            (first | exact ⟨f0, f1, e0, e1, (Below.refl _ _).drew⟩ | (have hq := below_new (‹_ ∧ _ ∧ _ ∧ _ ∧ Below W0.heap.size W0 _›).2.2.2.2 hbN; exact ⟨(hq.cell (p := ⟨w.heap.size, 0, none⟩) (by simp; omega)).trans f0, (hq.cell (p := ⟨w.heap.size, 1, none⟩) (by simp; omega)).trans f1, (hq.cell (p := ⟨wr.heap.size, 0, none⟩) (by simp; omega)).trans e0, (hq.cell (p := ⟨wr.heap.size, 1, none⟩) (by simp; omega)).trans e1, hq⟩))
            (first | (go_at_call 40; refine (l1Find_any _ _ bs _ _ _ ?_).mono ?_; (first | exact p0.below (‹_ ∧ _ ∧ _ ∧ _ ∧ Below W0.heap.size W0 _›).2.2.2.2 | exact p0.drew); rintro e wN ⟨rfl, hbN⟩))
          obtain ⟨g0, g1, g2, g3, hWb⟩ := ‹_ ∧ _ ∧ _ ∧ _ ∧ Below W0.heap.size W0 _›
          have hsW := hWb.size
          have hxN := hx0.next (hWb.mono (by omega))
          have PB := p1.below hWb
          have bd1 := fnd_bd bs (nameAt es k)
          have bd2 := fnd_bd bs (restAt es k)
          have bd3 := fndE_bd es (nameAt es k, restAt es k)
          by_cases u1 : fnd bs (nameAt es k) < 0
          · go_wp2
            go_ret
            exact ⟨ret_bool (validB_no_edge HB.out hlt (fun h => h.1 u1)).symm, hxN.below⟩
          · by_cases u2 : fnd bs (restAt es k) < 1
            · go_wp2
              go_ret
              exact ⟨ret_bool (validB_no_edge HB.out hlt (fun h => h.2.1 u2)).symm, hxN.below⟩
            · by_cases u3 : fnd bs (nameAt es k) = (bs.length : Int) - 1
              · have U := Lib.hid u3
                have u3' : (fnd bs (nameAt es k) == (bs.length : Int) - 1) = true := by rw [beq_iff_eq]; exact u3
                clear u3
                go_wp2
                go_ret
                exact ⟨ret_bool (validB_no_edge HB.out hlt (fun h => h.2.2.1 U.out)).symm, hxN.below⟩
              · have u3' : (fnd bs (nameAt es k) == (bs.length : Int) - 1) = false := by rw [beq_eq_false_iff_ne]; exact u3
                have U := Lib.hid u3
                clear u3
                go_wp2_with fail
                refine (l1Edge_any _ _ _ es _ _ _ PB).mono ?_
                rintro e wM ⟨rfl, hbM⟩
                have hxM := hxN.next (hbM.mono (by have := hxN.size; omega))
                by_cases u4 : fndE es (nameAt es k, restAt es k) < k
                · go_wp2
                  go_ret
                  exact ⟨ret_bool (validB_no_edge HB.out hlt (fun h => h.2.2.2 u4)).symm, hxM.below⟩
                · have H' := Lib.hid (show EdgeAt bs es k from ⟨by omega, by omega, U.out, by omega⟩)
                  go_wp2
                  go_roundw
                  case rel => exact ⟨k + 1, by omega, by go_num, hxM, all_step Hno.out H'.out⟩
                  case measure => simp [intOf]; omega
        · have hE := edges_of HB.out (by omega) (fun j hj => Hno.out j (by omega))
          have HE := Lib.hid hE; clear hE
          have p0 := hpb.below hx.below
          have p1 := hpe.below hx.below
          go_wp2
          go_region_held3 (fun w' => w'.cell? ⟨w.heap.size, 0, none⟩ = some (.slice ab bs.length cb) ∧ w'.cell? ⟨w.heap.size, 1, none⟩ = some (.slice ae es.length ce) ∧ Below wr.heap.size wr w')
            (first
              | exact ⟨hd0, hd1, (Below.refl _ _).drew⟩
              | (have hq := below_new (‹_ ∧ _ ∧ Below wr.heap.size wr _›).2.2 hbM; exact ⟨(hq.cell (p := ⟨w.heap.size, 0, none⟩) (by simp; omega)).trans hd0, (hq.cell (p := ⟨w.heap.size, 1, none⟩) (by simp; omega)).trans hd1, hq⟩)
              | (have hq := below_new (‹_ ∧ _ ∧ Below wr.heap.size wr _›).2.2 hbN; exact ⟨(hq.cell (p := ⟨w.heap.size, 0, none⟩) (by simp; omega)).trans hd0, (hq.cell (p := ⟨w.heap.size, 1, none⟩) (by simp; omega)).trans hd1, hq⟩))
            (first
              | (go_at_call 42; ((with_reducible refine (l1Reached_int _ bs es _ _ _ _ 0 0 false rfl ?_ ?_ (by omega) HB.out.nd (fun e he => ⟨HE.out.fr e he, HE.out.to e he⟩)).mono ?_); (first | exact p0.below (‹_ ∧ _ ∧ Below wr.heap.size wr _›).2.2 | exact p0.drew); (first | exact p1.below (‹_ ∧ _ ∧ Below wr.heap.size wr _›).2.2 | exact p1.drew); rintro e wN hN; obtain ⟨ga, La, rfl, Ba, hga, hla, hra, hbN⟩ := hN))
              | (go_at_call 42; ((with_reducible refine (l1Reached_int _ bs es _ _ _ _ ((bs.length : Int) - 1) (bs.length - 1) true (by omega) ?_ ?_ (by omega) HB.out.nd (fun e he => ⟨HE.out.fr e he, HE.out.to e he⟩)).mono ?_); (first | exact p0.below (‹_ ∧ _ ∧ Below wr.heap.size wr _›).2.2 | exact p0.drew); (first | exact p1.below (‹_ ∧ _ ∧ Below wr.heap.size wr _›).2.2 | exact p1.drew); rintro e wM hM; obtain ⟨gb, Lb, rfl, Bb, hgb, hlb2, hrb, hbM⟩ := hM)))
          obtain ⟨g0, g1, hWb⟩ := ‹_ ∧ _ ∧ Below wr.heap.size wr wM›
          have hxM := hx.next (hWb.mono (by omega))
          have Ba' := Ba.below hbM Ba.lt
          have Hra := Lib.hid hra; clear hra
          have Hrb := Lib.hid hrb; clear hrb
          clear hbN hga hgb Ba
          go_wp2
          go_loopw [70] (fun i wz => ∃ k : Nat, k ≤ bs.length ∧ i = .int .i64 k ∧ wz = wM ∧ ∀ j, j < k → Reach es (nameAt bs 0) (nameAt bs j) ∧ Reach (flip es) (nameAt bs (bs.length - 1)) (nameAt bs j)) (fun i _ => bs.length - (intOf i).toNat)
          case atStart => exact ⟨0, Nat.zero_le _, rfl, rfl, all_zero⟩
          case round =>
            obtain ⟨m, hm, rfl, rfl, hno2⟩ := hrel
            have Hno2 := Lib.hid hno2; clear hno2
            by_cases hlm : m < bs.length
            · have r1 := Ba'.cell (i := m) (by omega)
              have r2 := Bb.cell (i := m) (by omega)
              by_cases v1 : La.getD m false = true
              · by_cases v2 : Lb.getD m false = true
                · have H' := Lib.hid (And.intro ((Hra.out m hlm).1 v1) ((Hrb.out m hlm).1 v2))
                  rw [v1] at r1; rw [v2] at r2; clear v1 v2
                  go_wp2
                  go_roundw
                  case rel => exact ⟨m + 1, by omega, by go_num, (by first | rfl | trivial), all_step Hno2.out H'.out⟩
                  case measure => simp [intOf]; omega
                · have v2' : Lb.getD m false = false := by simpa using v2
                  have H' := Lib.hid (fun h => v2 ((Hrb.out m hlm).2 h))
                  rw [v1] at r1; rw [v2'] at r2; clear v1 v2 v2'
                  go_wp2
                  go_ret
                  exact ⟨ret_bool (validB_no_back hlm H'.out).symm, hxM.below⟩
              · have v1' : La.getD m false = false := by simpa using v1
                have H' := Lib.hid (fun h => v1 ((Hra.out m hlm).2 h))
                rw [v1'] at r1; clear v1 v1'
                go_wp2
                go_ret
                exact ⟨ret_bool (validB_no_reach hlm H'.out).symm, hxM.below⟩
            · have H' := Lib.hid (validB_yes HB.out HE.out (fun j hj => Hno2.out j (by omega)))
              go_wp2
              go_ret
              exact ⟨ret_bool H'.out.symm, hxM.below⟩
  · have t1' : blocksB bs = false := by simpa using t1
    clear t1
    go_enter Tryd.func19, Tryd.ntmps19
    go_wp2_with (go_at_call 39; refine (l1Blocks_any _ bs _ _ _ hpb1).mono ?_; rintro e w1 ⟨rfl, hb1⟩; obtain ⟨q1, q2⟩ := bcell hb1)
    go_ret
    exact ⟨ret_bool (validB_no_blocks t1').symm, ((Below.refl _ _).alloc (Nat.le_refl _) _).trans (hb1.mono (by simp))⟩
end Go.Proofs.YtfmhcjhcmoniaaaDoor
