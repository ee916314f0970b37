import Derived.Test.YtflnkahgmbndiaaDoorSomeS
import Derived.Test.YtflnkahgmbndiaaDoorOpen
import Derived.Test.YtflnkahgmbndiaaDoorShR
import Derived.Test.YtflnkahgmbndiaaDoorShA
import Derived.Test.YtflnkahgmbndiaaDoorShC
section
/-
  The model's draw of a program for ShortestRun, off bytes. Conditions: none but what bytes that came in are.
-/
namespace Go.Proofs.YtflnkahgmbndiaaDoor
open Go.RowKit Go.Maps

/-- what the draw of a program off bytes leaves -/
def DrawBS (w : World) (e : Ending) (w' : World) : Prop := ∃ bs es ab ae cb ce, e = .returned (.agg #[.slice ab (List.length bs) cb, .slice ae (List.length es) ce]) ∧ Sh bs ∧ Sh es ∧ PairsAt w' ab bs ∧ PairsAt w' ae es ∧ Below w.heap.size w w'

set_option maxRecDepth 100000 in
set_option maxHeartbeats 1600000 in
theorem DrawShortestRun_any (w : World) (a : Option Addr) (n cap : Nat) (h : BytesRaw w a n cap) :
    Calls Tryd.prog 15 #[.slice a n cap] w (DrawBS w) := by
  have hA : Below w.heap.size w (w.alloc (.cells #[.slice none 0 0, .slice none 0 0] 33)) := (Below.refl _ _).alloc (Nat.le_refl _) _
  have hR : Two (w.alloc (.cells #[.slice none 0 0, .slice none 0 0] 33)) w.heap.size (.slice none 0 0) (.slice none 0 0) := heap_alloc_new _ _
  have hbA := h.below hA
  have H0 := Lib.hid (And.intro hA hR)
  clear h hA hR
  go_enter Tryd.func15, Tryd.ntmps15
  go_wp2_with fail
  refine (l15Open_any _ a n cap hbA).mono ?_
  rintro e w1 ⟨m, rfl, hrd, hb1⟩
  have hz : (w.alloc (.cells #[.slice none 0 0, .slice none 0 0] 33)).heap.size = w.heap.size + 1 := by simp
  rw [hz] at hrd ⊢
  have hR1 : Two w1 w.heap.size _ _ := H0.out.2.of_cells (hb1.block _ (by omega))
  have hall : Below w.heap.size w w1 := H0.out.1.trans (hb1.mono (by omega))
  have H1 := Lib.hid (And.intro hR1 hall)
  have hg1 := hrd.lt
  clear hR1 hall hb1 hbA
  go_wp2_with fail
  refine (l1Some_any w1 (w.heap.size + 1) a m cap 0 (by omega) hrd).mono ?_
  rintro e w2 ⟨bs, es, ab, ae, cb, ce, rfl, hSb, hSe, hPb, hPe, p1, hp1, hrd2, htu⟩
  have hR2 : Two w2 w.heap.size _ _ := htu.two H1.out.1 (by omega)
  have hn : ∀ s, Value.slice none 0 0 ≠ .string s := fun s h => by cases h
  obtain ⟨r0, r1, t0, t1, _⟩ := hR2.cells
  have hb := (hPb.setZ r0 hn (u := .slice ab bs.length cb)).setZ (p := ⟨w.heap.size, 1, none⟩) (u := .slice ae es.length ce) (Two.set0 hR2 (.slice ab bs.length cb)).cells.2.1 hn
  have he := (hPe.setZ r0 hn (u := .slice ab bs.length cb)).setZ (p := ⟨w.heap.size, 1, none⟩) (u := .slice ae es.length ce) (Two.set0 hR2 (.slice ab bs.length cb)).cells.2.1 hn
  have hbw : Below w.heap.size w w2 := H1.out.2.trans (htu.below H1.out.2.size (fun k hk => by omega))
  have hfin := (hbw.setCell (p := ⟨w.heap.size, 0, none⟩) (Nat.le_refl _) (.slice ab bs.length cb)).setCell (p := ⟨w.heap.size, 1, none⟩) (Nat.le_refl _) (.slice ae es.length ce)
  have HX := Lib.hid (And.intro hSb (And.intro hSe (And.intro hb (And.intro he hfin))))
  clear hPb hPe hb he hbw hfin hSb hSe htu hR2 hn hrd hrd2
  go_wp2
  refine bodyPost_ret (v := .agg #[.slice ab bs.length cb, .slice ae es.length ce]) (by simp [results, Tryd.results15, go_sem, r0, r1]) rfl ?_
  exact ⟨bs, es, ab, ae, cb, ce, rfl, HX.out.1, HX.out.2.1, HX.out.2.2.1, HX.out.2.2.2.1, HX.out.2.2.2.2⟩
end Go.Proofs.YtflnkahgmbndiaaDoor
end

section
/-
  The model's draws of a program, a block's name and a term; of a program and a name; of bytes. Conditions: at most 700000 numbers drawn before.
-/
namespace Go.Proofs.YtflnkahgmbndiaaDoor
open Go.RowKit Go.Maps

/-- a program in a block of its own -/
structure PAt (w : World) (q : Nat) (ab ae : Option Addr) (cb ce : Nat) (bs es : List Pr) : Prop where
  two : Two w q (.slice ab bs.length cb) (.slice ae es.length ce)
  b : PairsAt w ab bs
  e : PairsAt w ae es
section
variable {w w' : World} {q : Nat} {ab ae : Option Addr} {cb ce : Nat} {bs es : List Pr}
theorem PAt.below (h : PAt w q ab ae cb ce bs es) (hb : Below w.heap.size w w') : PAt w' q ab ae cb ce bs es := ⟨h.two.of_cells (hb.block _ h.two.cells.2.2.2.2), h.b.below hb, h.e.below hb⟩
theorem PAt.new (ab ae : Option Addr) (cb ce : Nat) (hb : PairsAt w ab bs) (he : PairsAt w ae es) : PAt (w.alloc (.cells #[.slice ab bs.length cb, .slice ae es.length ce] 33)) w.heap.size ab ae cb ce bs es := ⟨heap_alloc_new _ _, hb.alloc _, he.alloc _⟩
theorem PAt.lt (h : PAt w q ab ae cb ce bs es) : q < w.heap.size := h.two.cells.2.2.2.2
theorem PAt.c0 (h : PAt w q ab ae cb ce bs es) : w.cell? ⟨q, 0, none⟩ = some (.slice ab bs.length cb) := h.two.cells.1
theorem PAt.c1 (h : PAt w q ab ae cb ce bs es) : w.cell? ⟨q, 1, none⟩ = some (.slice ae es.length ce) := h.two.cells.2.1
end
/-- rows of pairs stand where only a source is written -/
theorem PairsAt.turns {w w' : World} {g : Nat} {a : Option Addr} {l : List Pr} (h : PairsAt w a l) (ht : Turns (fun k => k = g) w w') (hg : ∀ i x, w.cell? ⟨g, i, none⟩ = some x → ∀ s, x ≠ .string s) : PairsAt w' a l :=
  ⟨h.len, h.size, fun i hi => by
    obtain ⟨b, off, e, hb, h1, h2⟩ := h.cell i hi
    have hne : b ≠ g := by
      rintro rfl
      exact hg _ _ h1 _ rfl
    exact ⟨b, off, e, Nat.lt_of_lt_of_le hb ht.size, (ht.cellT hb hne).trans h1, (ht.cellT hb hne).trans h2⟩⟩
theorem RdAt.nostr {w : World} {g : Nat} {a : Option Addr} {n cap p : Nat} (h : RdAt w g a n cap p) : ∀ i x, w.cell? ⟨g, i, none⟩ = some x → ∀ s, x ≠ .string s := by
  intro i x hx s e
  subst e
  rw [cell_of_row w g i _ _ (0, 0) h.here] at hx
  match i with
  | 0 => cases hx
  | 1 => cases hx
  | i + 2 => simp at hx
theorem PairsAt.draw {w w' : World} {g : Nat} {a : Option Addr} {n cap p : Nat} {a' : Option Addr} {l : List Pr} (h : PairsAt w a' l) (hr : RdAt w g a n cap p) (ht : Turns (fun k => k = g) w w') : PairsAt w' a' l := h.turns ht hr.nostr
theorem PAt.draw {w w' : World} {q g : Nat} {ab ae : Option Addr} {cb ce : Nat} {bs es : List Pr} {a : Option Addr} {n cap p : Nat} (h : PAt w q ab ae cb ce bs es) (hr : RdAt w g a n cap p) (ht : Turns (fun k => k = g) w w') : PAt w' q ab ae cb ce bs es := by
  have hne : q ≠ g := by
    rintro rfl
    have h1 := h.two
    have h2 := hr.here
    unfold Two at h1
    rw [h1] at h2
    simp at h2
  exact ⟨ht.two h.two hne, h.b.draw hr ht, h.e.draw hr ht⟩
/-- what a draw of a program and two texts leaves -/
def Draw2 (w : World) (g : Nat) (e : Ending) (w' : World) : Prop := ∃ bs es ab ae cb ce x y, e = .returned (.tuple #[.agg #[.slice ab (List.length bs) cb, .slice ae (List.length es) ce], .string x, .string y]) ∧ Sh bs ∧ Sh es ∧ x.size ≤ 1000 ∧ y.size ≤ 1000 ∧ PairsAt w' ab bs ∧ PairsAt w' ae es ∧ Turns (fun k => k = g) w w'
def wordL : List ByteArray := [⟨#[65]⟩, ⟨#[66]⟩, ⟨#[67]⟩, ⟨#[68]⟩, ⟨#[69]⟩, ⟨#[67]⟩, ⟨#[74]⟩, ⟨#[]⟩, ⟨#[65, 66]⟩]
def termL : List ByteArray := [⟨#[120]⟩, ⟨#[120]⟩, ⟨#[120]⟩, ⟨#[121]⟩, ⟨#[120]⟩, ⟨#[122]⟩, ⟨#[120]⟩, ⟨#[88]⟩, ⟨#[]⟩, ⟨#[120, 121]⟩]
theorem wordL_sh {x : ByteArray} (h : x ∈ wordL) : x.size ≤ 1000 := short_of (by decide) h
theorem termL_sh {x : ByteArray} (h : x ∈ termL) : x.size ≤ 1000 := short_of (by decide) h
/-- a program and the block that takes a draw's result -/
structure DS (w wr : World) (g : Nat) (a : Option Addr) (n cap p R q : Nat) (ab ae : Option Addr) (cb ce : Nat) (bs es : List Pr) : Prop where
  ent : ∃ p0, RdAt w g a n cap p0
  rd : RdAt wr g a n cap p
  res : Two wr R (.slice none 0 0) (.slice none 0 0)
  at_ : PAt wr q ab ae cb ce bs es
  tu : Turns (fun k => k = g) w wr
section
variable {w wr w' : World} {g : Nat} {a : Option Addr} {n cap p p' R q : Nat} {ab ae : Option Addr} {cb ce : Nat} {bs es : List Pr}
theorem DS.rne (h : DS w wr g a n cap p R q ab ae cb ce bs es) : R ≠ g := by
  rintro rfl
  have h1 := h.res
  have h2 := h.rd.here
  unfold Two at h1
  rw [h1] at h2
  simp at h2
theorem DS.draw (h : DS w wr g a n cap p R q ab ae cb ce bs es) (ht : Turns (fun k => k = g) wr w') (hr : RdAt w' g a n cap p') : DS w w' g a n cap p' R q ab ae cb ce bs es :=
  ⟨h.ent, hr, ht.rd h.res h.rne, h.at_.draw h.rd ht, h.tu.trans ht⟩
theorem DS.below (h : DS w wr g a n cap p R q ab ae cb ce bs es) (hb : Below wr.heap.size wr w') : DS w w' g a n cap p R q ab ae cb ce bs es := h.draw (.of_below hb) (h.rd.below hb)
theorem DS.alloc (h : DS w wr g a n cap p R q ab ae cb ce bs es) (o : Obj) : DS w (wr.alloc o) g a n cap p R q ab ae cb ce bs es := h.below ((Below.refl _ _).alloc (Nat.le_refl _) _)
theorem DS.drewD (h : DS w wr g a n cap p R q ab ae cb ce bs es) : DS w wr.drew g a n cap p R q ab ae cb ce bs es := h.below (Below.refl _ _).drew
/-- the result written -/
theorem DS.fin (h : DS w wr g a n cap p R q ab ae cb ce bs es) (hR : w.heap.size ≤ R) :
    PairsAt ((wr.setCell ⟨R, 0, none⟩ (.slice ab bs.length cb)).setCell ⟨R, 1, none⟩ (.slice ae es.length ce)) ab bs ∧ PairsAt ((wr.setCell ⟨R, 0, none⟩ (.slice ab bs.length cb)).setCell ⟨R, 1, none⟩ (.slice ae es.length ce)) ae es ∧ RdAt ((wr.setCell ⟨R, 0, none⟩ (.slice ab bs.length cb)).setCell ⟨R, 1, none⟩ (.slice ae es.length ce)) g a n cap p ∧ Turns (fun k => k = g) w ((wr.setCell ⟨R, 0, none⟩ (.slice ab bs.length cb)).setCell ⟨R, 1, none⟩ (.slice ae es.length ce)) := by
  have hn : ∀ s, Value.slice none 0 0 ≠ .string s := fun s h => by cases h
  obtain ⟨r0, r1, t0, t1, _⟩ := h.res.cells
  have htf := (h.tu.setNew (p := ⟨R, 0, none⟩) hR (.slice ab bs.length cb)).setNew (p := ⟨R, 1, none⟩) hR (.slice ae es.length ce)
  have hhf : ((wr.setCell ⟨R, 0, none⟩ (.slice ab bs.length cb)).setCell ⟨R, 1, none⟩ (.slice ae es.length ce)).heap[g]? = wr.heap[g]? := (Below.heap_setCell _ _ _ _ (Ne.symm h.rne)).trans (Below.heap_setCell _ _ _ _ (Ne.symm h.rne))
  obtain ⟨p0, h0⟩ := h.ent
  exact ⟨(h.at_.b.setZ r0 hn).setZ (p := ⟨R, 1, none⟩) (Two.set0 h.res _).cells.2.1 hn, (h.at_.e.setZ r0 hn).setZ (p := ⟨R, 1, none⟩) (Two.set0 h.res _).cells.2.1 hn, h0.turns htf (hhf.trans h.rd.here), htf⟩
theorem DS.after (h : DS w wr g a n cap p R q ab ae cb ce bs es) (hRq : q ≠ R) : ∀ u v, ((wr.setCell ⟨R, 0, none⟩ u).setCell ⟨R, 1, none⟩ v).cell? ⟨q, 0, none⟩ = some (.slice ab bs.length cb) ∧ ((wr.setCell ⟨R, 0, none⟩ u).setCell ⟨R, 1, none⟩ v).cell? ⟨q, 1, none⟩ = some (.slice ae es.length ce) := fun u v => by
  have := ((h.at_.two.far (p := ⟨R, 0, none⟩) hRq u).far (p := ⟨R, 1, none⟩) hRq v).cells
  exact ⟨this.1, this.2.1⟩
end

/-- what a draw off bytes leaves -/
def DrawB2 (w : World) (e : Ending) (w' : World) : Prop := ∃ bs es ab ae cb ce x y, e = .returned (.tuple #[.agg #[.slice ab (List.length bs) cb, .slice ae (List.length es) ce], .string x, .string y]) ∧ Sh bs ∧ Sh es ∧ x.size ≤ 1000 ∧ y.size ≤ 1000 ∧ PairsAt w' ab bs ∧ PairsAt w' ae es ∧ Below w.heap.size w w'

end Go.Proofs.YtflnkahgmbndiaaDoor
end

section
/-
  The walk of the law FnShortest. Conditions: what came in are bytes; the errors' variables hold errors.
-/
namespace Go.Proofs.YtflnkahgmbndiaaDoor
open Go.RowKit Go.Maps

theorem IsRun_implS (w : World) (bs es : List Pr) (ab ae : Option Addr) (cb ce : Nat) (x : ByteArray) (h : Valid bs es) (hr : RunOk bs es x) (hpb : PairsAt w ab bs) (hpe : PairsAt w ae es) (hg : Errs w) :
    Calls Tryd.prog 18 #[.agg #[.slice ab bs.length cb, .slice ae es.length ce], .string x] w fun e w' => e = .returned (.bool true) ∧ Below w.heap.size w w' :=
  (IsRun_impl w bs es ab ae cb ce x (by have := hr.hi; omega) hpb hpe hg).mono fun e w' k => ⟨by rw [k.1, show isRunB bs es x = true by rw [isRunB_yes (by simpa [validB] using h)]; exact runB_yes hr], k.2⟩
set_option maxRecDepth 100000 in
set_option maxHeartbeats 6400000 in
theorem LawFnShortest_any (w : World) (a : Option Addr) (n cap : Nat) (hby : BytesRaw w a n cap) (hg : Errs w) :
    Calls Tryd.prog 4 #[.slice a n cap] w fun e w' => e = .returned (.bool true) ∧ Below w.heap.size w w' := by
  go_enter Tryd.func4, Tryd.ntmps4
  by_cases hL : (1048576 : Int) < (n : Int)
  · go_wp2
    go_ret
    exact ⟨rfl, Below.refl _ _⟩
  have HG := Lib.hid hg
  clear hg
  go_wp2_with fail
  refine (DrawShortestRun_any w a n cap hby).mono ?_
  rintro e w1 ⟨bs, es, ab, ae, cb, ce, rfl, hSb, hSe, hPb, hPe, hb1⟩
  have hP := PAt.new ab ae cb ce hPb hPe
  have hall : Below w.heap.size w (w1.alloc (.cells #[.slice ab bs.length cb, .slice ae es.length ce] 33)) := hb1.alloc hb1.size _
  go_upto_region 4 with fail
  generalize w1.alloc (.cells #[.slice ab bs.length cb, .slice ae es.length ce] 33) = wP at *
  have HC := Lib.hid (show ∀ W', Below wP.heap.size wP W' → (W'.cell? ⟨w1.heap.size, 0, none⟩ = some (.slice ab bs.length cb) ∧ W'.cell? ⟨w1.heap.size, 1, none⟩ = some (.slice ae es.length ce)) from fun W' hB => ⟨(hP.below hB).c0, (hP.below hB).c1⟩)
  have HPP := Lib.hid (show ∀ W', Below wP.heap.size wP W' → (PairsAt W' ab bs ∧ PairsAt W' ae es ∧ Errs W') from fun W' hB => ⟨(hP.below hB).b, (hP.below hB).e, HG.out.keep (hall.trans (hB.mono hall.size))⟩)
  have HF := Lib.hid (show ∀ W', Below wP.heap.size wP W' → Below w.heap.size w W' from fun W' hB => hall.trans (hB.mono hall.size))
  obtain ⟨c0, c1⟩ := HC.out _ (Below.refl _ _)
  have hbl := hSb.1
  generalize w1.heap.size = q at *
  clear hP hPb hPe hb1 hSb hSe hby hall HG
  have H0 := Lib.hid (HPP.out _ (Below.refl _ _))
  cases hv : validB bs es
  · have HE := Lib.hid (shortV_no (bs := bs) (es := es) hv)
    clear hv
    go_wp2_with fail
    refine (ShortestRun_impl2 _ bs es _ _ _ _ H0.out.1 H0.out.2.1 H0.out.2.2).mono ?_
    rintro e w2 ⟨he, hb2⟩
    rw [HE.out] at he
    subst he
    have HQ2 := Lib.hid hb2
    have H2 := Lib.hid (HPP.out _ hb2)
    obtain ⟨c0, c1⟩ := HC.out _ HQ2.out
    clear hb2
    go_wp2_with fail
    refine (ShortestRun_spec _ bs es _ _ _ _ H2.out.1 H2.out.2.1).mono ?_
    rintro e w3 ⟨he, hb3⟩
    rw [HE.out] at he
    subst he
    have HQ3 := Lib.hid (HF.out _ (below_new HQ2.out hb3))
    have z0 : (⟨#[]⟩ : ByteArray).toList = [] := by rw [ByteArray.toList_eq]
    have z1 : e0.toList = [] := z0
    clear hb3 HQ2 H2
    go_wp2
    go_ret
    exact ⟨rfl, HQ3.out⟩
  · have hV : Valid bs es := by simpa [validB] using hv
    obtain ⟨hSh, hle⟩ := short_list hV
    obtain ⟨hsr, _⟩ := short_run hV
    have hE : shortV bs es = .tuple #[.string (bestT es (nameAt bs 0) (lastN bs)), .bool true] := by unfold shortV; rw [if_pos hv]
    have hb9 := hV.b.hi
    obtain ⟨B, hB⟩ : ∃ B, bestT es (nameAt bs 0) (lastN bs) = B := ⟨_, rfl⟩
    rw [hB] at hSh hle hsr hE
    obtain ⟨L, b, hR⟩ : ∃ L b, runsR bs es (B.size : Int) = (L, b) := ⟨_, _, rfl⟩
    have hLB : b = true → ShortL B L ∧ L.length ≤ 300 := by
      intro hbt
      unfold runsR at hR
      by_cases c : validB bs es = true ∧ inB (B.size : Int) 0 12 = true ∧ (allRuns bs es (B.size : Int).toNat).length ≤ 300
      · rw [if_pos c] at hR
        cases hR
        rw [Int.toNat_natCast] at *
        exact ⟨hSh, c.2.2⟩
      · rw [if_neg c] at hR
        cases hR
        cases hbt
    have HE := Lib.hid (And.intro hE (And.intro hV (And.intro hsr (And.intro hR hLB))))
    have i1 : (B.size : Int) ≤ (bs.length : Int) := by omega
    have tB : (B.toList == B.toList) = true := by rw [toList_eq_iff]; exact decide_eq_true rfl
    clear hv hV hsr hSh hE hR hLB hB hle hb9
    go_wp2_with fail
    refine (ShortestRun_impl2 _ bs es _ _ _ _ H0.out.1 H0.out.2.1 H0.out.2.2).mono ?_
    rintro e w2 ⟨he, hb2⟩
    rw [HE.out.1] at he
    subst he
    have HQ2 := Lib.hid hb2
    have H2 := Lib.hid (HPP.out _ hb2)
    obtain ⟨c0, c1⟩ := HC.out _ HQ2.out
    clear hb2
    go_wp2_with fail
    refine (ShortestRun_spec _ bs es _ _ _ _ H2.out.1 H2.out.2.1).mono ?_
    rintro e w3 ⟨he, hb3⟩
    rw [HE.out.1] at he
    subst he
    have HQ3 := Lib.hid (below_new HQ2.out hb3)
    have H3 := Lib.hid (HPP.out _ HQ3.out)
    obtain ⟨c0, c1⟩ := HC.out _ HQ3.out
    clear hb3 HQ2 H2
    go_wp2_with fail
    refine (RunsUpTo_implL L b bs es _ _ _ _ _ _ HE.out.2.2.2.1 H3.out.1 H3.out.2.1 H3.out.2.2).mono ?_
    rintro e w4 ⟨a1, n1, rfl, ho4, hb4⟩
    have HQ4 := Lib.hid (below_new HQ3.out hb4)
    have H4 := Lib.hid (HPP.out _ HQ4.out)
    have HO := Lib.hid ho4
    obtain ⟨c0, c1⟩ := HC.out _ HQ4.out
    have HL := Lib.hid HE.out.2.2.2.2
    clear hb4 ho4 HQ3 H3
    cases b
    · have HZ := Lib.hid (HF.out _ HQ4.out)
      go_wp2
      all_goals
        go_ret
        exact ⟨rfl, HZ.out⟩
    · obtain ⟨hS, hl300⟩ := HL.out rfl
      have HSL := Lib.hid hS
      clear hS
      go_wp2
      go_loopw [62] (fun i wr => ∃ m : Nat, m ≤ L.length ∧ i = .int .i64 m ∧ wr = w4) (fun i _ => L.length - (intOf i).toNat)
      case atStart => exact ⟨0, Nat.zero_le _, rfl, rfl⟩
      case round =>
        obtain ⟨m, hm, rfl, rfl⟩ := hrel
        by_cases hlt : m < L.length
        · obtain ⟨x, hx⟩ : ∃ x, L[m]? = some x := ⟨_, List.getElem?_eq_getElem hlt⟩
          obtain ⟨g, rfl, cx⟩ := own_atR HO.out hx
          have s1 : (x.size : Int) = (B.size : Int) := by have := HSL.out.sz x (List.mem_of_getElem? hx); omega
          have s2 : ((x.size : Int) != (B.size : Int)) = false := by simp [s1]
          have s3 : Op.bytesLess x.toList B.toList = false := HSL.out.lt x (List.mem_of_getElem? hx)
          clear hx
          go_wp2
          go_roundw
          case rel => exact ⟨m + 1, by omega, by go_num, trivial⟩
          case measure => simp [intOf]; omega
        · obtain rfl : m = L.length := by omega
          have hp : (0 : Int) < (L.length : Int) := by have := HSL.out.pos; omega
          go_wp2_with fail
          refine (IsRun_implS _ bs es _ _ _ _ _ HE.out.2.1 HE.out.2.2.1 H4.out.1 H4.out.2.1 H4.out.2.2).mono ?_
          rintro e w5 ⟨rfl, hb5⟩
          have HQ5 := Lib.hid (below_new HQ4.out hb5)
          obtain ⟨c0, c1⟩ := HC.out _ HQ5.out
          have HZ := Lib.hid (HF.out _ HQ5.out)
          clear hb5 HQ4 H4
          go_wp2
          go_ret
          exact ⟨rfl, HZ.out⟩
end Go.Proofs.YtflnkahgmbndiaaDoor
end
