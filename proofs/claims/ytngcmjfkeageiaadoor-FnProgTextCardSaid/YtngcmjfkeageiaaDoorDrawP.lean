/-
  The model's draw of a text that mostly tells a program, off bytes. Conditions: none but what bytes that came in are.
-/
import Derived.Test.YtngcmjfkeageiaaDoorFsC
import Derived.Test.YtngcmjfkeageiaaDoorFmtS
import Derived.Deep.RegionHeldLaw
import Derived.Deep.CutRange
namespace Go.Proofs.YtngcmjfkeageiaaDoor
open Go.RowKit Go.Maps

def parS : List ByteArray := [⟨#[]⟩, ⟨#[44]⟩, ⟨#[58]⟩, ⟨#[65]⟩, ⟨#[120]⟩, ⟨#[66]⟩, ⟨#[66, 66]⟩]
/-- a text is drawn -/
def DrawT (w : World) (e : Ending) (w' : World) : Prop := ∃ t : ByteArray, e = .returned (.string t) ∧ t.size ≤ 2000 ∧ Below w.heap.size w w'
theorem acc_pos (l : List Pr) (p : ByteArray) : ∀ k, p.size ≤ (acc l p k).size
  | 0 => Nat.le_refl _
  | k + 1 => by
    have ih := acc_pos l p k
    by_cases hk : 0 < k
    · rw [acc_next hk]; simp only [ByteArray.size_append]; omega
    · rw [acc_first hk]; simp only [ByteArray.size_append]; omega
theorem fmtV_size {bs es : List Pr} (hV : Valid bs es) : 1 ≤ (fmtV bs es).size ∧ (fmtV bs es).size ≤ 300 := by
  have h1 := acc_size (p := e0) hV.smallB bs.length (Nat.le_refl _)
  have h2 := acc_size (p := acc bs e0 bs.length ++ ⟨#[58]⟩) hV.smallE es.length (Nat.le_refl _)
  have h3 := acc_pos es (acc bs e0 bs.length ++ ⟨#[58]⟩) es.length
  have h4 := hV.b.hi
  have h5 := hV.e.hi
  have h6 : (⟨#[58]⟩ : ByteArray).size = 1 := rfl
  have h7 : e0.size = 0 := rfl
  unfold fmtV
  rw [if_pos (by simpa [validB] using hV)]
  rw [ByteArray.size_append] at h2 h3
  omega

theorem run_upto (s : ByteArray) (k : Nat) (hk : k ≤ s.size) (W : World) : (Instr.slice 9 (.string s) none (some (.int .i64 (k : Int))) none).run Tryd.prog W = .ok (.string (s.extract 0 k)) W := by
  have h1 : ¬ s.size < k := by omega
  simp [Instr.slice, Instr.sliceBounds, Instr.sliceBound, run_underlying Tryd.underlying9, asIntOf, h1]
theorem run_from (s : ByteArray) (k : Nat) (hk : k ≤ s.size) (W : World) : (Instr.slice 9 (.string s) (some (.int .i64 (k : Int))) none none).run Tryd.prog W = .ok (.string (s.extract k s.size)) W := by
  have h1 : ¬ s.size < k := by omega
  simp [Instr.slice, Instr.sliceBounds, Instr.sliceBound, run_underlying Tryd.underlying9, asIntOf, h1]

set_option maxRecDepth 100000 in
set_option maxHeartbeats 3200000 in
theorem DrawParseProg_any (w : World) (a : Option Addr) (n cap : Nat) (h : BytesRaw w a n cap) :
    Calls Tryd.prog 33 #[.slice a n cap] w (DrawT w) := by
  go_enter Tryd.func33, Tryd.ntmps33
  go_wp2_with fail
  refine (l15Open_any _ a n cap h).mono ?_
  rintro e w1 ⟨m, rfl, hrd, hb1⟩
  have hg1 := hrd.lt
  clear h
  go_wp2_with fail
  refine (l1Good_any w1 w.heap.size a m cap 0 (by omega) hrd).mono ?_
  rintro e w2 ⟨bs, es, ab, ae, cb, ce, rfl, hV, hPb, hPe, p2, hp2, hrd2, htu2⟩
  have hall2 : Below w.heap.size w w2 := hb1.trans (htu2.below hb1.size (fun k hk => by omega))
  have hTz := fmtV_size hV
  obtain ⟨T, hT⟩ : ∃ T, fmtV bs es = T := ⟨_, rfl⟩
  rw [hT] at hTz
  have HT := Lib.hid (And.intro hT hTz)
  have HP := Lib.hid (And.intro hPb hPe)
  have H2 := Lib.hid (And.intro hall2 hrd2)
  clear hrd htu2 hb1 hall2 hV hT hTz hPb hPe hrd2
  go_wp2_with fail
  refine (FormatProg_spec w2 bs es _ _ _ _ HP.out.1 HP.out.2).mono ?_
  rintro e w3 ⟨rfl, hb3⟩
  rw [HT.out.1]
  have hrd3 := H2.out.2.below hb3
  have H3 := Lib.hid (H2.out.1.trans (hb3.mono H2.out.1.size))
  have hp3 : p2 ≤ 900 := by omega
  clear hb3 H2 HP
  go_wp2_with fail
  refine (pick_any w3 w.heap.size a m cap p2 2 (by decide) (by decide) (by omega) hrd3).mono ?_
  rintro e w4 ⟨r, rfl, hr0, hr1, hrd4, htu4⟩
  have H4 := Lib.hid (H3.out.trans (htu4.below H3.out.size (fun k hk => by omega)))
  clear htu4 H3 hrd3 hr1
  by_cases hz : r = 0
  · subst hz
    clear hrd4
    go_wp2
    go_ret
    exact ⟨T, rfl, by have := HT.out.2.2; omega, H4.out⟩
  · have hzb : (r == 0) = false := by rw [beq_eq_false_iff_ne]; exact hz
    have HTz := HT.out.2
    go_wp2_with fail
    refine (pick_any w4 w.heap.size a m cap (p2 + 1) (T.size : Int) (by omega) (by omega) (by omega) hrd4).mono ?_
    rintro e w5 ⟨k, rfl, hk0, hk1, hrd5, htu5⟩
    obtain ⟨kn, rfl⟩ : ∃ kn : Nat, k = (kn : Int) := ⟨k.toNat, by omega⟩
    have hk2 : kn + 1 ≤ T.size := by have := hk1 (by omega); omega
    have H5 := Lib.hid (And.intro (H4.out.trans (htu5.below H4.out.size (fun k hk => by omega))) hrd5)
    have hg5 := hrd5.lt
    have s1 := run_upto T kn (by omega)
    have HE := Lib.hid (show ∀ o, ((w5.alloc o).drew).heap[w5.heap.size]? = some o from fun o => heap_alloc_new w5 o)
    clear htu5 H4 hrd4 hrd5 hk1 hz hzb hr0
    obtain ⟨U, hU⟩ : ∃ U, T.extract 0 kn = U := ⟨_, rfl⟩
    have hUz : U.size ≤ 300 := by rw [← hU]; have := extract_size_le T 0 kn; omega
    rw [hU] at s1
    have HS1 := Lib.hid hU
    clear hU
    go_wp2
    go_region_law (go_simp; first
      | (go_at_call 72; refine (of_at _ w.heap.size a m cap (p2 + 1 + 1) _ parS _ (by with_reducible exact HE.out _) (by rfl) (by omega) (by omega) (H5.out.2.below ((Below.refl _ _).alloc (Nat.le_refl _) _).drew) (by decide) (by decide)).mono ?_; rintro e w6 ⟨y, hy, rfl, hrd6, htu6⟩; have hys : y.size ≤ 1000 := short_of (by decide) hy; have t0 : ¬ 9223372036854775807 < U.size + y.size := (by omega); have H6 := Lib.hid (And.intro hrd6 htu6); clear hy hrd6 htu6)
      | (go_at_call 87; refine (pick_any w6 w.heap.size a m cap (p2 + 1 + 1 + 1) 2 (by decide) (by decide) (by omega) H6.out.1).mono ?_; rintro e w7 ⟨r2, rfl, hr20, hr21, hrd7, htu7⟩; obtain ⟨rn, rfl⟩ : ∃ rn : Nat, r2 = (rn : Int) := (by exact ⟨r2.toNat, by omega⟩); have hrn : rn < 2 := (by have := hr21 (by decide); omega); have e7 : IntKind.i64.wrap ((kn : Int) + (rn : Int)) = (kn : Int) + (rn : Int) := (IntWalk.i64_in _ (by omega)); have x1 : (0 : Int) ≤ (kn : Int) + (rn : Int) := (by omega); have x2 : (kn : Int) + (rn : Int) ≤ (T.size : Int) := (by omega); have e8 : ((kn : Int) + (rn : Int)).toNat = kn + rn := (by omega); have hVz : (T.extract (kn + rn) T.size).size ≤ 300 := (by have := extract_size_le T (kn + rn) T.size; omega); have t1 : ¬ 9223372036854775807 < U.size + y.size + (T.size - (kn + rn)) := (by omega); have H7 := Lib.hid (And.intro hrd7 htu7); clear hrd7 htu7 hr20 hr21))
    all_goals
      have HX := Lib.hid (And.intro (show (U ++ y ++ T.extract (kn + rn) T.size).size ≤ 2000 by simp only [ByteArray.size_append]; omega) (H5.out.1.trans ((((Below.refl w5.heap.size w5).alloc (Nat.le_refl _) (.cells (parS.map Value.string).toArray 9)).drew.mono H5.out.1.size).trans ((H6.out.2.below (by simp; omega) (fun k hk => by omega)).trans (H7.out.2.below (by have := H6.out.2.size; simp at this; omega) (fun k hk => by omega))))))
      go_wp2
      go_ret
      exact ⟨_, rfl, HX.out.1, HX.out.2⟩
end Go.Proofs.YtngcmjfkeageiaaDoor
