/-
  The program's chapter 2: distances: along how many links one comes from a block to each other one, at least. Conditions: texts of at most 1048576 bytes, at most 1000 edges.
-/
import Derived.Test.YtfmhcjhcmoniaaaDoorDist
namespace Go.Proofs.YtfmhcjhcmoniaaaDoor
open Go.RowKit Go.Maps

/-- what distances leaves: the map of what is reached -/
def FarMap (w : World) (E : List Pr) (name : ByteArray) (e : Ending) (w' : World) : Prop :=
  Below w.heap.size w w' ∧ ∃ b n D, e = .returned (.map (some b)) ∧ w.heap.size ≤ b ∧ MapV w' b n (fun s => dV (D s)) ∧ Far E name D ∧ ∀ s k, D s = some k → k ≤ E.length + 1
def unD (E : List Pr) (name : ByteArray) (D : ByteArray → Option Nat) : Nat := unf E name (fun s => dV (D s))
theorem unD_put {E : List Pr} {name s : ByteArray} {D : ByteArray → Option Nat} (hs : s ∈ name :: E.map (·.2)) (hD : D s = none) (k : Nat) : unD E name (putD D s k) + 1 ≤ unD E name D := by
  unfold unD
  rw [dV_putD]
  exact unf_put hs (dV_none.2 hD) _
theorem unD_le (E : List Pr) (name : ByteArray) (D : ByteArray → Option Nat) : unD E name D ≤ E.length + 1 := unf_le _ _ _
/-- the queue, what is found, and the bounds -/
structure Que (E : List Pr) (name : ByteArray) (H : ByteArray → Prop) (S : List ByteArray) (D : ByteArray → Option Nat) (m : Nat) : Prop where
  ri : DI E name H S D
  sz : ∀ s ∈ S, s.size ≤ maxLen
  num : m + unD E name D ≤ E.length + 2
  len : 2 * unD E name D + S.length ≤ 2 * E.length + 3
  dst : ∀ s k, D s = some k → k + unD E name D ≤ E.length + 1
theorem Que.start (E : List Pr) (name : ByteArray) (hn : name.size ≤ maxLen) : Que E name (fun _ => False) [name] (putD (fun _ => none) name 0) 1 where
  ri := .start E name
  sz s hs := by simp at hs; subst hs; exact hn
  num := by have := unD_le E name (putD (fun _ => none) name 0); omega
  len := by have := unD_le E name (putD (fun _ => none) name 0); simp; omega
  dst s k h := by
    have := unD_le E name (putD (fun _ => none) name 0)
    by_cases e : s = name
    · subst e; rw [putD_same] at h; cases h; omega
    · rw [putD_other _ e] at h; cases h
/-- the inner loop: what its blocks are at the start (S0, D) and now (S, D'), lf: what is still to come -/
def Inq (E : List Pr) (name h : ByteArray) (kh : Nat) (S0 S : List ByteArray) (D D' : ByteArray → Option Nat) (lf : Lit → Bool) : Prop :=
  D' h = some kh ∧ 2 * unD E name D' + S.length ≤ 2 * unD E name D + S0.length ∧ ∀ y, (h, y) ∈ E → lf (kS y) = false → D' y ≠ none

theorem sizeStr (w : World) : (sizeOf 9).run Tryd.prog w = .ok 1 w := by kernel_rfl
theorem run_slice_off1 {g off n : Nat} (h : n = 0) (W : World) : (Instr.slice 59 (.slice (some ⟨g, off, none⟩) (n + 1) 1) (some (.int .i64 1)) none none).run Tryd.prog W = .ok (.slice (some ⟨g, off, none⟩) n (1 - 1)) W := by
  subst h
  simp [Instr.slice, Instr.sliceBounds, Instr.sliceBound, run_underlying Tryd.underlying59, asIntOf]
theorem run_slice_off {g off n cap : Nat} (h : cap ≠ 1) (W : World) : (Instr.slice 59 (.slice (some ⟨g, off, none⟩) (n + 1) cap) (some (.int .i64 1)) none none).run Tryd.prog W = .ok (.slice (some ⟨g, off + 1, none⟩) n (cap - 1)) W := by
  have h1 : ¬ cap = 1 := h
  simp [Instr.slice, Instr.sliceBounds, Instr.sliceBound, run_underlying Tryd.underlying59, asIntOf, h1, Addr.add_lit]
  intro h2
  omega

set_option maxRecDepth 100000 in
set_option maxHeartbeats 3200000 in
theorem distances_any (w : World) (lo : Nat) (fp : List Nat) (E : List Pr) (F : ByteArray → Option Value) (name : ByteArray) (hL : Links w lo fp E F) (hfp : ∀ k ∈ fp, k < w.heap.size) (hn : name.size ≤ 1048576) (hE : E.length ≤ 1000) :
    Calls Tryd.prog 47 #[.map (some lo), .string name] w (FarMap w E name) := by
  have hmm := @run_makeMap Tryd.prog
  obtain ⟨w1, hins, hm1, hg1, hs1⟩ := (MapV.made w).put (t := 60) (e := 3) Tryd.underlying60 (mxl (by omega)) (mx hn) (.int .i64 0)
  obtain ⟨i0, hi, hz0, hz1, hz2⟩ := info_parts Tryd.infoStr
  go_enter Tryd.func47, Tryd.ntmps47
  go_wp2
  have hB1 : Below w.heap.size w w1 := ((Below.refl _ _).alloc (Nat.le_refl _) _).grown hg1 (by simp) (fun j hj => by cases hj; exact Nat.le_refl _)
  have hst : OffRow (w1.alloc (.cells #[.string name] 9)) w.heap.size 9 (.slice (some ⟨w.heap.size + 1, 0, none⟩) 1 1) [.string name] := by
    have h1 := OffRow.one (base := w.heap.size) w1 (.string name) 9 (by rw [hs1]; simp)
    rw [hs1] at h1
    simpa using h1
  have hmA : MapV (w1.alloc (.cells #[.string name] 9)) w.heap.size 1 (fun s => dV (putD (fun _ => none) name 0 s)) := by
    rw [dV_putD]
    exact hm1.alloc (.cells #[.string name] 9)
  have hbA : Below w.heap.size w (w1.alloc (.cells #[.string name] 9)) := hB1.alloc hB1.size _
  have hu0 := unD_le E name (putD (fun _ => none) name 0)
  clear hins hm1 hg1
  generalize w1.alloc (.cells #[.string name] 9) = wA at *
  have HL := Lib.hid (And.intro hL hfp); clear hL hfp
  have Hu0 := Lib.hid hu0; clear hu0
  go_loopg [6] (2 * unD E name (putD (fun _ => none) name 0) + 1) (fun n v wr => ∃ (S : List ByteArray) (D : ByteArray → Option Nat) (m : Nat), OffRow wr w.heap.size 9 v (S.map Value.string) ∧ MapV wr w.heap.size m (fun s => dV (D s)) ∧ Que E name (fun _ => False) S D m ∧ n = 2 * unD E name D + S.length ∧ Below w.heap.size w wr)
  case atStart => exact ⟨[name], _, 1, hst, hmA, Que.start E name (mx hn), rfl, hbA⟩
  case round =>
    obtain ⟨S, D, m, hown, hm, hS, hgk, hbl⟩ := hrel
    have HS := Lib.hid hS; clear hS
    have Hgk := Lib.hid hgk; clear hgk
    have hsz := hbl.size
    have hmlt := hm.lt
    rcases S with _ | ⟨h, S0⟩
    · obtain ⟨a0, off0, cap0, rfl⟩ := hown.form
      clear hown
      go_wp2
      refine bodyPost_ret (v := .map (some w.heap.size)) (by simp [results, go_sem]) rfl ?_
      exact ⟨hbl, _, _, D, rfl, Nat.le_refl _, hm, HS.out.ri.end_, fun s k hk => Nat.le_trans (Nat.le_add_right _ _) (HS.out.dst s k hk)⟩
    · obtain ⟨g, off, cap, hv6, hgw, hcap, hhead, hp1, hp2⟩ := hown.front
      rw [List.length_map] at hv6
      subst hv6
      have hsl : S0.length ≤ 4000 := by have := HS.out.len; simp at this; omega
      simp only [List.length_map] at hcap
      simp only [List.length_map] at hp1 hp2
      obtain ⟨av, hpop, hsli⟩ : ∃ av, OffRow wr w.heap.size 9 (.slice av S0.length (cap - 1)) (S0.map Value.string) ∧ ∀ W : World, (Instr.slice 59 (.slice (some ⟨g, off, none⟩) (S0.length + 1) cap) (some (.int .i64 1)) none none).run Tryd.prog W = .ok (.slice av S0.length (cap - 1)) W := by
        by_cases h1 : cap = 1
        · refine ⟨some ⟨g, off, none⟩, hp1 h1, fun W => ?_⟩
          subst h1
          exact run_slice_off1 (by omega) W
        · exact ⟨some ⟨g, off + 1, none⟩, hp2, fun W => run_slice_off h1 W⟩
      clear hown hp1 hp2
      have hh := HS.out.sz h (by simp)
      have HH := Lib.hid hh
      have hLr : Links wr lo fp E F := HL.out.1.turns (S := fun k => w.heap.size ≤ k) ⟨hbl.os, hbl.tape, hbl.output, hbl.size, fun k hk _ => hbl.block k hk⟩ HL.out.1.map.lt HL.out.2 (fun k hk => by rcases hk with rfl | hk; (have := HL.out.1.map.lt; omega); (have := HL.out.2 k hk; omega))
      have lk := hLr.map.look Tryd.underlying56 (zeroMap wr) hh
      have lkW : ∀ W : World, Below w.heap.size w W → True := fun _ _ => trivial
      clear hh lkW
      cases hFh : F h with
      | none =>
        rw [hFh] at lk
        simp only [Option.getD_none] at lk
        have HF := Lib.hid hFh; clear hFh
        have hrg := run_range_nilMap (P := Tryd.prog) wr 60 9 3 Tryd.underlying60
        have hnx : ∀ ty, (Instr.next (.pointer (some ⟨wr.heap.size, 0, none⟩)) false ty).run Tryd.prog (wr.alloc (.mapIter none 0 #[] 0)) = _ := fun ty => run_next_nilMap wr ty 0 0 #[]
        go_wp2
        refine wp_loop_rounds 1 ?_
        rw [rounds_succ]
        go_wp2
        go_roundg (2 * unD E name D + S0.length)
        case measure => rw [Hgk.out]; simp
        case rel =>
          have hR : DI E name (fun _ => False) S0 D := HS.out.ri.pop.done (fun y hy => absurd hy (HL.out.1.none_ h HF.out y))
          exact ⟨S0, D, m, hpop.alloc _, hm.alloc _, ⟨hR, fun s hs => HS.out.sz s (List.mem_cons_of_mem _ hs), HS.out.num, by have := HS.out.len; simp at this; omega, HS.out.dst⟩, rfl, hbl.alloc hsz _⟩
      | some v =>
        obtain ⟨bi, rfl, hbi, hmi, _⟩ := hLr.some_ h v hFh
        rw [hFh] at lk
        simp only [Option.getD_some] at lk
        have hbiw := HL.out.2 bi hbi
        obtain ⟨DD, hownD, hD⟩ := hmi
        have hD' := Lib.hid hD; clear hD
        have Hbi := Lib.hid hbi; clear hbi
        clear hFh hLr
        go_wp2_with (first
          | (at_range; refine wpList_range_own _ rfl _ 60 rfl 9 3 keyed Tryd.underlying60 hR bi E.length DD rfl hownD ?_; intro w0 hrg0 hg0 hs0)
          | go_in)
        go_frame
        have hmr := hm.kept hg0 (by simp)
        have hpr := hpop.kept hg0 (Classical.em _)
        have hbr := hbl.grown hg0 hsz (fun j hj => by cases hj)
        have hst0 : Que E name (· = h) S0 D m := ⟨HS.out.ri.pop, fun s hs => HS.out.sz s (List.mem_cons_of_mem _ hs), HS.out.num, by have := HS.out.len; simp at this; omega, HS.out.dst⟩
        obtain ⟨kh, hkh⟩ : ∃ kh, D h = some kh := by
          cases hk : D h with
          | none => exact absurd hk (HS.out.ri.st h (by simp))
          | some k => exact ⟨k, rfl⟩
        obtain ⟨wo, rfl⟩ : ∃ wo : World, wo = wr := ⟨_, rfl⟩
        go_loopw [6] (fun v wr => ∃ (S : List ByteArray) (D' : ByteArray → Option Nat) (m : Nat) (lf : Lit → Bool) (cnt : Nat), OffRow wr w.heap.size 9 v (S.map Value.string) ∧ MapV wr w.heap.size m (fun s => dV (D' s)) ∧ Que E name (· = h) S D' m ∧ wr.ranges Tryd.prog 9 hR bi wo.heap.size E.length DD lf cnt ∧ Below w.heap.size w wr ∧ Inq E name h kh S0 S D D' lf)
          (fun _ wr => wr.rangeLeft bi wo.heap.size)
        case atStart =>
          refine ⟨S0, D, m, _, _, hpr, hmr, hst0, hrg0, hbr, hkh, Nat.le_refl _, fun y hy hl => ?_⟩
          rw [(hD'.out y).2] at hl
          rw [(inner_isSome E h y).2 hy] at hl
          cases hl
        case round =>
          obtain ⟨S, D', m', lf, cnt, hown2, hm2, hS2, hrg, hbl2, hI⟩ := hrel
          have HS2 := Lib.hid hS2; clear hS2
          have HI := Lib.hid hI; clear hI
          clear hst0 hkh hpr hmr
          go_wp2_with (first
            | (at_next; refine wpList_next_ranges _ rfl _ rfl 9 keyed hR Value.string (fun v : Value => v) (fun key kl hkey => key_string hkey) (fun v y _ => ⟨v, rfl⟩) bi wo.heap.size E.length _ _ _ rfl hrg ?_ ?_)
            | go_in)
          · intro _ hl0
            have Hl0 := Lib.hid hl0; clear hl0
            go_wp2
            go_roundg (2 * unD E name D' + S.length)
            case measure => have := HI.out.2.1; rw [Hgk.out]; simp; omega
            case rel => exact ⟨S, D', m', hown2, hm2, ⟨HS2.out.ri.done (fun y hy => HI.out.2.2 y hy (Hl0.out _)), HS2.out.sz, HS2.out.num, HS2.out.len, HS2.out.dst⟩, rfl, hbl2⟩
          · intro x c kl y1 y2 w2 cnt2 hkey hlk hRc hat hrg2 hlt2 hgr2 hsz2 hen
            obtain ⟨hxs, rfl⟩ := key_string' hkey
            have hEx : (h, x) ∈ E := by
              have h1 := has_true_of_atKey hat
              rw [(hD'.out x).2] at h1
              exact (inner_isSome E h x).1 h1
            have HEx := Lib.hid hEx
            have HX := Lib.hid hxs
            have hm3 := hm2.kept hgr2 (by simp; omega)
            have lk2 := hm3.look_ok Tryd.underlying60 (zeroInt w2) hxs
            have lk3 := hm3.look Tryd.underlying60 (zeroInt w2) HH.out
            have hDh := HI.out.1
            rw [hDh] at lk3
            simp only [dV] at lk3
            have hkb := HS2.out.dst h kh hDh
            have hown3 := hown2.kept hgr2 (hown2.ne_iter hrg)
            have hbl3 := hbl2.grown hgr2 hbl2.size (fun j hj => by cases hj; exact hsz)
            have hI3 : ∀ (S' : List ByteArray) (G2 : ByteArray → Option Nat), G2 h = some kh → 2 * unD E name G2 + S'.length ≤ 2 * unD E name D + S0.length → G2 x ≠ none → (∀ y, D' y ≠ none → G2 y ≠ none) → Inq E name h kh S0 S' D G2 (fun z => lf z && !z.sameKey (kS x)) := by
              intro S' G2 a1 a2 a3 a4
              refine ⟨a1, a2, fun y hy hl => ?_⟩
              cases hl' : lf (kS y)
              · exact a4 y (HI.out.2.2 y hy hl')
              · have hl2 : (lf (kS y) && !(kS y).sameKey (kS x)) = false := hl
                rw [hl'] at hl2
                have hk : kS y = kS x := WideAt.sameKey_eq (by simpa using hl2)
                rw [kS_inj.1 hk]; exact a3
            have HI3 := Lib.hid hI3; clear hI3
            have HDh := Lib.hid hDh; clear hDh
            have hkb2 : (kh : Int) + 1 ≤ 2000 := by omega
            have hkb3 : IntKind.i64.wrap ((kh : Int) + 1) = (kh : Int) + 1 := IntWalk.i64_in _ (by omega)
            have hrw2 : wo.heap.size < w2.heap.size := hrg2.lt
            clear hat hRc hEx hxs hkey hlk hm2 hown2 hbl2 hsz2
            cases hG : D' x with
            | none =>
              rw [hG] at lk2
              simp only [dV] at lk2
              have HG := Lib.hid hG; clear hG
              have hput : unD E name (putD D' x (kh + 1)) + 1 ≤ unD E name D' := unD_put (E := E) (name := name) (List.mem_cons_of_mem _ (List.mem_map.2 ⟨_, HEx.out, rfl⟩)) HG.out (kh + 1)
              have Hput := Lib.hid hput; clear hput
              have hmE : m' ≤ 1048576 := by have := HS2.out.num; omega
              have hSl : S.length ≤ 4000 := by have := HS2.out.len; omega
              have hwsz := hbl3.size
              go_wp2_with (first
                | (at_mapUpdate; refine wpList_putV _ rfl _ _ _ 60 rfl 3 Tryd.underlying60 w.heap.size m' (fun s => dV (D' s)) rfl hm3 (mxl hmE) x rfl HX.out (.int .i64 ((kh : Int) + 1)) rfl ?_; intro w3 hm4 hg4 hs4; clear hs4)
                | (at_builtin; refine wpList_append_off rfl _ _ 59 rfl w.heap.size 9 i0 (.string ⟨#[]⟩) 16 Tryd.underlying59 hi hz0 hz1 hz2 rfl _ _ rfl ((hown3.kept hg4 (hown3.ne_map hm3)).alloc _) ⟨w3.heap.size, 0, none⟩ 1 (.string x) rfl (cell_one_new _ _ _) (one_one _ rfl) (by simp; unfold maxLen; omega) (by simp; omega) (by have := hg4.size; simp; omega) ?_; intro v' w4 hown5 hg5))
              have hown4 := hown3.kept hg4 (hown3.ne_map hm3)
              have hownx := hown4.alloc (.cells #[.string x] 9)
              have hmx := hm4.alloc (.cells #[.string x] 9)
              have hm5 := hmx.kept hg5 (ne_of_own (hownx.ne_map hmx))
              have hm6 : MapV w4 w.heap.size (m' + 1) (fun s => dV (putD D' x (kh + 1) s)) := by
                rw [dV_putD]
                simpa using hm5
              have hrg4 := (hrg2.kept hg4 (by simp; omega) (by simp; omega)).alloc (.cells #[.string x] 9)
              have hrg5 := hrg4.kept hg5 (ne_of_own (hownx.ne_owns hrg4.owns)) (ne_of_own (hownx.ne_iter hrg4))
              have hb4 := hbl3.grown hg4 hbl3.size (fun j hj => by cases hj; exact Nat.le_refl _)
              have hb5 : Below w.heap.size w w4 := (hb4.alloc hb4.size (.cells #[.string x] 9)).grown hg5 (by have := hb4.size; simp; omega) (fun j hj => (hown4.lt j hj).1)
              have hne : h ≠ x := fun e => by have := HDh.out; rw [e, HG.out] at this; cases this
              have hSt : Que E name (· = h) (S ++ [x]) (putD D' x (kh + 1)) (m' + 1) := by
                refine ⟨HS2.out.ri.push HDh.out HEx.out HG.out, fun s hs => ?_, by have := HS2.out.num; have := Hput.out; omega, by have := HS2.out.len; have := Hput.out; simp; omega, fun s k hk => ?_⟩
                · rcases List.mem_append.1 hs with h' | h'
                  · exact HS2.out.sz s h'
                  · rw [List.mem_singleton.1 h']; exact HX.out
                · by_cases e : s = x
                  · subst e; rw [putD_same] at hk; cases hk
                    have := HS2.out.dst h kh HDh.out; have := Hput.out; omega
                  · rw [putD_other _ e] at hk
                    have := HS2.out.dst s k hk; have := Hput.out; omega
              have hI5 := HI3.out (S ++ [x]) (putD D' x (kh + 1)) (by rw [putD_other _ hne]; exact HDh.out) (by have := HI.out.2.1; have := Hput.out; simp; omega) (by rw [putD_same]; simp) (fun y hy => by by_cases e : y = x; (rw [e, putD_same]; simp); (rw [putD_other _ e]; exact hy))
              go_roundw
              case rel => exact ⟨S ++ [x], _, m' + 1, _, cnt2, by simpa using hown5, hm6, hSt, hrg5, hb5, hI5⟩
              case measure => rw [hrg5.left_eq, hrg.left_eq]; exact hlt2
            | some kx =>
              rw [hG] at lk2
              simp only [dV] at lk2
              have hI5 := HI3.out S D' HDh.out HI.out.2.1 (by rw [hG]; simp) (fun y hy => hy)
              have HI5 := Lib.hid hI5; clear hI5 hG
              clear lk3 hkb hkb2 hkb3
              go_wp2
              go_roundw
              case rel => exact ⟨S, D', m', _, cnt2, hown3, hm3, HS2.out, hrg2, hbl3, HI5.out⟩
              case measure => rw [hrg2.left_eq, hrg.left_eq]; exact hlt2
end Go.Proofs.YtfmhcjhcmoniaaaDoor
