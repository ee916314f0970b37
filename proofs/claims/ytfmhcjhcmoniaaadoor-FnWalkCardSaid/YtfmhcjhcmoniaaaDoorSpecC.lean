/-
  The model's chapter 1: l1Reached: which blocks one comes to along edges, or against them. Conditions: the edges' ends are names of blocks.
-/
import Derived.Test.YtfmhcjhcmoniaaaDoorSpecB
import Derived.Test.YtfmhcjhcmoniaaaDoorBools
namespace Go.Proofs.YtfmhcjhcmoniaaaDoor
open Go.RowKit

/-- what l1Reached leaves: a new block of truths -/
def ReachPost (w : World) (bs E : List Pr) (f : Nat) (e : Ending) (w' : World) : Prop :=
  ∃ g L, e = .returned (.slice (some ⟨g, 0, none⟩) bs.length bs.length) ∧ BL w' g L ∧ w.heap.size ≤ g ∧ L.length = bs.length ∧ (∀ i, i < bs.length → (L.getD i false = true ↔ Reach E (nameAt bs f) (nameAt bs i))) ∧ Below w.heap.size w w'
theorem Tryd.infoBool : (Tryd.prog.info? 4).map (fun i => (i.zero, i.size, i.bytes)) = some (some (.bool false), 1, 1) := by kernel_rfl

/-- the edges, along or against -/
def dir (back : Bool) (es : List Pr) : List Pr := if back then flip es else es
def fromAt (back : Bool) (es : List Pr) (k : Nat) : ByteArray := if back then restAt es k else nameAt es k
def toAt (back : Bool) (es : List Pr) (k : Nat) : ByteArray := if back then nameAt es k else restAt es k
theorem mem_dir {back : Bool} {es : List Pr} {k : Nat} (h : k < es.length) : (fromAt back es k, toAt back es k) ∈ dir back es := by
  cases back
  · exact pair_mem h
  · exact mem_flip.2 (pair_mem h)
theorem dir_at {back : Bool} {es : List Pr} {x y : ByteArray} (h : (x, y) ∈ dir back es) : ∃ k, k < es.length ∧ fromAt back es k = x ∧ toAt back es k = y := by
  cases back
  · obtain ⟨i, hi, e1, e2⟩ := mem_at h
    exact ⟨i, hi, e1, e2⟩
  · obtain ⟨i, hi, e1, e2⟩ := mem_at (mem_flip.1 h)
    exact ⟨i, hi, e2, e1⟩
/-- the truths are those of blocks that are reached, and of the first one -/
structure Sound (bs E : List Pr) (f : Nat) (L : List Bool) : Prop where
  len : L.length = bs.length
  at_ : L.getD f false = true
  sound : ∀ i, i < bs.length → L.getD i false = true → Reach E (nameAt bs f) (nameAt bs i)
/-- the first k edges lead nowhere new -/
def Shut (bs es : List Pr) (back : Bool) (L : List Bool) (k : Nat) : Prop :=
  ∀ j, j < k → ∀ x y : Nat, fnd bs (fromAt back es j) = x → fnd bs (toAt back es j) = y → L.getD x false = true → L.getD y false = true
theorem reach_end {bs es : List Pr} {back : Bool} {f : Nat} {L : List Bool} (hd : (names bs).Nodup) (hE : ∀ e ∈ es, e.1 ∈ names bs ∧ e.2 ∈ names bs) (hf : f < bs.length) (hS : Sound bs (dir back es) f L) (hC : Shut bs es back L es.length) :
    ∀ i, i < bs.length → (L.getD i false = true ↔ Reach (dir back es) (nameAt bs f) (nameAt bs i)) := by
  intro i hi
  refine ⟨hS.sound i hi, fun h => ?_⟩
  have key : ∃ j, j < bs.length ∧ nameAt bs j = nameAt bs i ∧ L.getD j false = true := by
    refine h.closed (S := fun s => ∃ j, j < bs.length ∧ nameAt bs j = s ∧ L.getD j false = true) ⟨f, hf, rfl, hS.at_⟩ ?_
    rintro x y hxy ⟨j, hj, rfl, hL⟩
    obtain ⟨k, hk, e1, e2⟩ := dir_at hxy
    have hy : toAt back es k ∈ names bs := by
      have := hE _ (pair_mem hk)
      cases back
      · exact this.2
      · exact this.1
    obtain ⟨m, hm, em, en⟩ := fnd_yes hy
    exact ⟨m, hm, en.trans e2, hC k hk j m (by rw [e1]; exact fnd_at hd hj) em hL⟩
  obtain ⟨j, hj, e, hL⟩ := key
  rw [names_inj hd hj hi e] at hL
  exact hL

/-- the struct parameter's box, and all that was there, stand as they were -/
structure St (w wr : World) (x0 x1 : Value) : Prop where
  below : Below w.heap.size w wr
  size : w.heap.size + 1 < wr.heap.size
  c0 : wr.cell? ⟨w.heap.size, 0, none⟩ = some x0
  c1 : wr.cell? ⟨w.heap.size, 1, none⟩ = some x1
theorem St.next {w wr wr' : World} {x0 x1 : Value} (h : St w wr x0 x1) (hb : Below (w.heap.size + 1) wr wr') : St w wr' x0 x1 :=
  ⟨h.below.trans (hb.mono (by omega)), Nat.lt_of_lt_of_le h.size hb.size, (hb.cell (p := ⟨w.heap.size, 0, none⟩) (by simp)).trans h.c0, (hb.cell (p := ⟨w.heap.size, 1, none⟩) (by simp)).trans h.c1⟩
theorem St.start {w w1 : World} {x0 x1 : Value} {t : TypeId} (hg : (w.alloc (.cells #[x0, x1] t)).grownBy w1 none) (hs : w.heap.size + 1 < w1.heap.size) (f : Nat) : St w (w1.setCell ⟨w.heap.size + 1, f, none⟩ (.bool true)) x0 x1 := by
  have hb : Below (w.alloc (.cells #[x0, x1] t)).heap.size (w.alloc (.cells #[x0, x1] t)) w1 := (Below.refl _ _).grown hg (Nat.le_refl _) (fun k hk => by cases hk)
  have hb2 : Below (w.heap.size + 1) (w.alloc (.cells #[x0, x1] t)) (w1.setCell ⟨w.heap.size + 1, f, none⟩ (.bool true)) := (hb.mono (by simp)).setCell (p := ⟨w.heap.size + 1, f, none⟩) (Nat.le_refl _) _
  refine ⟨((Below.refl _ _).alloc (Nat.le_refl _) _).trans (hb2.mono (by omega)), by simpa [World.setCell] using hs, ?_, ?_⟩
  · rw [hb2.cell (p := ⟨w.heap.size, 0, none⟩) (by simp)]; go_simp
  · rw [hb2.cell (p := ⟨w.heap.size, 1, none⟩) (by simp)]; go_simp
/-- the inner loop, k edges looked at: L at its start, L' now, A: has anything been set -/
def Inn (bs es : List Pr) (back : Bool) (f : Nat) (L L' : List Bool) (A : Bool) (k : Nat) : Prop :=
  Sound bs (dir back es) f L' ∧ (A = false → nots L' = nots L ∧ Shut bs es back L' k) ∧ (A = true → nots L' < nots L)
theorem Inn.keep {bs es : List Pr} {back : Bool} {f k x y : Nat} {L L' : List Bool} {A : Bool} (h : Inn bs es back f L L' A k) (hx : fnd bs (fromAt back es k) = x) (hy : fnd bs (toAt back es k) = y)
    (hc : L'.getD x false = true → L'.getD y false = true) : Inn bs es back f L L' A (k + 1) := by
  refine ⟨h.1, fun e => ⟨(h.2.1 e).1, ?_⟩, h.2.2⟩
  refine all_step (h.2.1 e).2 ?_
  intro x' y' hx' hy' hL
  obtain rfl : x' = x := by rw [hx] at hx'; omega
  obtain rfl : y' = y := by rw [hy] at hy'; omega
  exact hc hL
theorem Inn.set_ {bs es : List Pr} {back : Bool} {f k x y : Nat} {L L' : List Bool} {A : Bool} (h : Inn bs es back f L L' A k) (hk : k < es.length) (hx : nameAt bs x = fromAt back es k) (hy : nameAt bs y = toAt back es k)
    (hxl : x < bs.length) (hyl : y < bs.length) (h1 : L'.getD x false = true) (h2 : L'.getD y false = false) : Inn bs es back f L (L'.set y true) true (k + 1) := by
  have hS := h.1
  refine ⟨⟨by simp [hS.len], getD_set_keep hS.at_, fun i hi hL => ?_⟩, (fun e => by cases e), fun _ => ?_⟩
  · rcases getD_set_true hL with rfl | hL'
    · have := hS.sound x hxl h1
      rw [hx] at this
      rw [hy]
      exact .step this (mem_dir hk)
    · exact hS.sound i hi hL'
  · have := nots_set (L := L') (i := y) (by rw [hS.len]; exact hyl) h2
    cases A
    · have := (h.2.1 rfl).1; omega
    · have := h.2.2 rfl; omega
theorem sound_start (bs E : List Pr) {f : Nat} (hf : f < bs.length) : Sound bs E f ((List.replicate bs.length false).set f true) where
  len := by simp
  at_ := by simp [hf]
  sound i hi h := by
    rcases getD_set_true h with rfl | h'
    · exact .refl
    · simp [hi] at h'

set_option maxRecDepth 100000 in
set_option maxHeartbeats 1600000 in
theorem l1Reached_any (w : World) (bs es : List Pr) (ab ae : Option Addr) (cb ce : Nat) (f : Nat) (back : Bool) (hpb : PairsAt w ab bs) (hpe : PairsAt w ae es) (hf : f < bs.length) (hd : (names bs).Nodup) (hE : ∀ e ∈ es, e.1 ∈ names bs ∧ e.2 ∈ names bs) :
    Calls Tryd.prog 42 #[.agg #[.slice ab bs.length cb, .slice ae es.length ce], .int .i64 f, .bool back] w (ReachPost w bs (dir back es) f) := by
  have hlb := hpb.len
  have hle := hpe.len
  obtain ⟨i0, hi, hz0, hz1, hz2⟩ := info_parts Tryd.infoBool
  have Hd := Lib.hid (And.intro hd hE); clear hd hE
  go_enter Tryd.func42, Tryd.ntmps42
  go_wp2_with (at_make; refine wpList_make_full _ rfl _ _ _ rfl w.heap.size 4 i0 (.bool false) 1 Tryd.underlying84 hi hz0 hz1 .i64 .i64 bs.length bs.length bs.length rfl rfl rfl rfl (by rw [hz2]; omega) (by unfold maxLen; omega) (by simp) ?_; intro w1 hown1 hg1; have B1 := BL.of_own (g := w.heap.size + 1) (L := List.replicate bs.length false) (by simpa using hown1) (made_false _); have q1 := B1.cell (i := f) (by simpa using hf); have q2 := B1.frozen f; clear hown1)
  have hs1 : w.heap.size + 1 < w1.heap.size := B1.lt
  have hst := St.start hg1 hs1 f
  have B2 := B1.set_ f true
  have hS0 : Sound bs (dir back es) f ((List.replicate bs.length false).set f true) := sound_start _ _ hf
  clear q1 q2 B1 hg1 hz0 hz1 hz2 hi
  generalize w1.setCell ⟨w.heap.size + 1, f, none⟩ (.bool true) = w2 at *
  go_loopg [8] (2 * nots ((List.replicate bs.length false).set f true) + 1) (fun n ag wr => ∃ (A : Bool) (L : List Bool), ag = .bool A ∧ BL wr (w.heap.size + 1) L ∧ Sound bs (dir back es) f L ∧ (A = false → Shut bs es back L es.length) ∧ n = 2 * nots L + (if A then 1 else 0) ∧ St w wr (.slice ab bs.length cb) (.slice ae es.length ce))
  case atStart => exact ⟨true, _, rfl, B2, hS0, (fun h => by cases h), rfl, hst⟩
  case round =>
    obtain ⟨A, L, rfl, BL1, hS, hC, hn, hst1⟩ := hrel
    cases A
    · have HC := Lib.hid (hC rfl); clear hC hn
      go_wp2
      have hend := reach_end Hd.out.1 Hd.out.2 hf hS HC.out
      refine bodyPost_ret (v := .slice (some ⟨w.heap.size + 1, 0, none⟩) bs.length bs.length) (by simp [results, go_sem]) rfl ?_
      exact ⟨w.heap.size + 1, L, rfl, BL1, by omega, hS.len, hend, hst1.below⟩
    · clear hC
      have hc0 := hst1.c0
      have hc1 := hst1.c1
      have Hn := Lib.hid hn; clear hn
      have HS := Lib.hid hS; clear hS
      go_wp2
      obtain ⟨wo, rfl⟩ : ∃ wo : World, wo = wr := ⟨_, rfl⟩
      go_loopw [8, 24] (fun ag i wr => ∃ (k : Nat) (A : Bool) (L' : List Bool), k ≤ es.length ∧ i = .int .i64 k ∧ ag = .bool A ∧ BL wr (w.heap.size + 1) L' ∧ St w wr (.slice ab bs.length cb) (.slice ae es.length ce) ∧ Inn bs es back f L L' A k) (fun _ i _ => es.length - (intOf i).toNat)
      case atStart => exact ⟨0, false, L, Nat.zero_le _, rfl, rfl, BL1, hst1, HS.out, fun _ => ⟨rfl, all_zero⟩, fun h => by cases h⟩
      case round =>
        obtain ⟨k, A, L', hk, rfl, rfl, BL2, hst2, hI⟩ := hrel
        have HI := Lib.hid hI; clear hI
        have hd0 := hst2.c0
        have hd1 := hst2.c1
        by_cases hlt : k < es.length
        · have hsz := hst2.size
          obtain ⟨xf, hxf, exf, nxf⟩ := fnd_yes (Hd.out.2 _ (pair_mem hlt)).1
          obtain ⟨xt, hxt, ext, nxt⟩ := fnd_yes (Hd.out.2 _ (pair_mem hlt)).2
          obtain ⟨b, off, rfl, hb, h1, h2⟩ := hpe.cell k hlt
          have c1 := (hst2.below.cell (p := ⟨b, off + k * 2, none⟩) hb).trans h1
          have c2 := (hst2.below.cell (p := ⟨b, off + k * 2 + 1, none⟩) hb).trans h2
          clear h1 h2
          go_wp2
          have e0 : (wr.alloc (.cells #[.string (nameAt es k), .string (restAt es k)] 81)).cell? ⟨wr.heap.size, 0, none⟩ = some (.string (nameAt es k)) := by go_simp
          have e1 : (wr.alloc (.cells #[.string (nameAt es k), .string (restAt es k)] 81)).cell? ⟨wr.heap.size, 1, none⟩ = some (.string (restAt es k)) := by go_simp
          have f0 := (World.cell?_alloc_lt wr (.cells #[.string (nameAt es k), .string (restAt es k)] 81) ⟨w.heap.size, 0, none⟩ (by simp; omega)).trans hd0
          have f1 := (World.cell?_alloc_lt wr (.cells #[.string (nameAt es k), .string (restAt es k)] 81) ⟨w.heap.size, 1, none⟩ (by simp; omega)).trans hd1
          have p0 := (hpb.below hst2.below).alloc (.cells #[.string (nameAt es k), .string (restAt es k)] 81)
          have s0 : (wr.alloc (.cells #[.string (nameAt es k), .string (restAt es k)] 81)).heap.size = wr.heap.size + 1 := by simp
          have b0 : Below wr.heap.size wr (wr.alloc (.cells #[.string (nameAt es k), .string (restAt es k)] 81)) := (Below.refl _ _).alloc (Nat.le_refl _) _
          clear hd0 hd1 c1 c2
          generalize wr.alloc (.cells #[.string (nameAt es k), .string (restAt es k)] 81) = W0 at *
          have S0 := Lib.hid s0
          have hH : wr.heap.size < W0.heap.size := by omega
          clear s0
          go_region_held3 (fun w' => w'.cell? ⟨w.heap.size, 0, none⟩ = some (.slice ab bs.length cb) ∧ w'.cell? ⟨w.heap.size, 1, none⟩ = some (.slice (some ⟨b, off, none⟩) es.length ce) ∧ w'.cell? ⟨wr.heap.size, 0, none⟩ = some (.string (nameAt es k)) ∧ w'.cell? ⟨wr.heap.size, 1, none⟩ = some (.string (restAt es k)) ∧ Below W0.heap.size W0 w')
            (first | exact ⟨f0, f1, e0, e1, (Below.refl _ _).drew⟩ | (have hq := below_new (‹_ ∧ _ ∧ _ ∧ _ ∧ Below W0.heap.size W0 _›).2.2.2.2 hbN; exact ⟨(hq.cell (p := ⟨w.heap.size, 0, none⟩) (by simp; omega)).trans f0, (hq.cell (p := ⟨w.heap.size, 1, none⟩) (by simp; omega)).trans f1, (hq.cell (p := ⟨wr.heap.size, 0, none⟩) (by simp; omega)).trans e0, (hq.cell (p := ⟨wr.heap.size, 1, none⟩) (by simp; omega)).trans e1, hq⟩))
            (first | (go_at_call 40; refine (l1Find_any _ _ bs _ _ _ ?_).mono ?_; (first | exact p0.below (‹_ ∧ _ ∧ _ ∧ _ ∧ Below W0.heap.size W0 _›).2.2.2.2 | exact p0.drew); rintro e wN ⟨rfl, hbN⟩))
          obtain ⟨g0, g1, g2, g3, hWb⟩ := ‹_ ∧ _ ∧ _ ∧ _ ∧ Below W0.heap.size W0 _›
          have hsW := hWb.size
          have hall : Below wr.heap.size wr wN := b0.trans (hWb.mono (by omega))
          have PB := p0.below hWb
          have BLN := BL2.below hall (by omega)
          have stN := hst2.next (hall.mono (by omega))
          have hL' := HI.out.1.len
          cases back
          · have q1 := BLN.cell (i := xf) (by omega)
            have q2 := BLN.cell (i := xt) (by omega)
            by_cases hX : L'.getD xf false = true
            · by_cases hY : L'.getD xt false = true
              · have HI' := Lib.hid (HI.out.keep (back := false) (x := xf) (y := xt) exf ext (fun _ => hY))
                rw [hX] at q1; rw [hY] at q2; clear hX hY
                go_wp2
                go_roundw
                case rel => exact ⟨k + 1, A, L', by omega, by go_num, rfl, BLN, stN, HI'.out⟩
                case measure => simp [intOf]; omega
              · have hY' : L'.getD xt false = false := by simpa using hY
                have HI' := Lib.hid (HI.out.set_ (back := false) (x := xf) (y := xt) hlt nxf nxt hxf hxt hX hY')
                rw [hX] at q1; rw [hY'] at q2; clear hX hY hY'
                have fz := BLN.frozen xt
                go_wp2
                go_roundw
                case rel => exact ⟨k + 1, true, L'.set xt true, by omega, by go_num, rfl, BLN.set_ _ _, stN.next ((Below.refl _ _).setCell (p := ⟨w.heap.size + 1, xt, none⟩) (Nat.le_refl _) _), HI'.out⟩
                case measure => simp [intOf]; omega
            · have hX' : L'.getD xf false = false := by simpa using hX
              have HI' := Lib.hid (HI.out.keep (back := false) (x := xf) (y := xt) exf ext (fun h => absurd h hX))
              rw [hX'] at q1; clear hX hX'
              go_wp2
              go_roundw
              case rel => exact ⟨k + 1, A, L', by omega, by go_num, rfl, BLN, stN, HI'.out⟩
              case measure => simp [intOf]; omega
          · go_wp2_with fail
            refine (l1Find_any _ _ bs _ _ _ PB).mono ?_
            rintro e wM ⟨rfl, hbM⟩
            have PB2 := PB.below hbM
            have k0 := (hbM.cell (p := ⟨w.heap.size, 0, none⟩) (by simp; omega)).trans g0
            have k1 := (hbM.cell (p := ⟨w.heap.size, 1, none⟩) (by simp; omega)).trans g1
            have k2 := (hbM.cell (p := ⟨wr.heap.size, 0, none⟩) (by simp; omega)).trans g2
            have k3 := (hbM.cell (p := ⟨wr.heap.size, 1, none⟩) (by simp; omega)).trans g3
            go_wp2_with fail
            refine (l1Find_any _ _ bs _ _ _ PB2).mono ?_
            rintro e wO ⟨rfl, hbO⟩
            have hbb := hbM.trans (hbO.mono hbM.size)
            have BLO := BLN.below hbb (by have := stN.size; omega)
            have stO := stN.next (hbb.mono (by have := stN.size; omega))
            have q1 := BLO.cell (i := xt) (by omega)
            have q2 := BLO.cell (i := xf) (by omega)
            by_cases hX : L'.getD xt false = true
            · by_cases hY : L'.getD xf false = true
              · have HI' := Lib.hid (HI.out.keep (back := true) (x := xt) (y := xf) ext exf (fun _ => hY))
                rw [hX] at q1; rw [hY] at q2; clear hX hY
                go_wp2
                go_roundw
                case rel => exact ⟨k + 1, A, L', by omega, by go_num, rfl, BLO, stO, HI'.out⟩
                case measure => simp [intOf]; omega
              · have hY' : L'.getD xf false = false := by simpa using hY
                have HI' := Lib.hid (HI.out.set_ (back := true) (x := xt) (y := xf) hlt nxt nxf hxt hxf hX hY')
                rw [hX] at q1; rw [hY'] at q2; clear hX hY hY'
                have fz := BLO.frozen xf
                go_wp2
                go_roundw
                case rel => exact ⟨k + 1, true, L'.set xf true, by omega, by go_num, rfl, BLO.set_ _ _, stO.next ((Below.refl _ _).setCell (p := ⟨w.heap.size + 1, xf, none⟩) (Nat.le_refl _) _), HI'.out⟩
                case measure => simp [intOf]; omega
            · have hX' : L'.getD xt false = false := by simpa using hX
              have HI' := Lib.hid (HI.out.keep (back := true) (x := xt) (y := xf) ext exf (fun h => absurd h hX))
              rw [hX'] at q1; clear hX hX'
              go_wp2
              go_roundw
              case rel => exact ⟨k + 1, A, L', by omega, by go_num, rfl, BLO, stO, HI'.out⟩
              case measure => simp [intOf]; omega
        · have hkl : k = es.length := by omega
          have HI' : Hid (Inn bs es back f L L' A es.length) := by rw [← hkl]; exact HI
          go_wp2
          cases A
          · go_roundg (2 * nots L')
            case measure => rw [Hn.out, (HI'.out.2.1 rfl).1]; simp
            case rel => exact ⟨false, L', rfl, BL2, HI'.out.1, fun _ => (HI'.out.2.1 rfl).2, by simp, hst2⟩
          · go_roundg (2 * nots L' + 1)
            case measure => have := HI'.out.2.2 rfl; rw [Hn.out]; simp; omega
            case rel => exact ⟨true, L', rfl, BL2, HI'.out.1, (fun h => by cases h), by simp, hst2⟩
end Go.Proofs.YtfmhcjhcmoniaaaDoor
