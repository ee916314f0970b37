import Derived.Test.YtfmhcjhcmoniaaaDoorSomeS
import Derived.Test.YtfmhcjhcmoniaaaDoorOpen
import Derived.Deep.CutRange
import Derived.Test.YtfmhcjhcmoniaaaDoorIrB
import Derived.Deep.RegionLawGrows
section
/-
  The model's draws of a program, a block's name and a term; of a program and a name; of bytes. Conditions: at most 700000 numbers drawn before.
-/
namespace Go.Proofs.YtfmhcjhcmoniaaaDoor
open Go.RowKit Go.Maps

/-- a program in a block of its own -/
structure PAt (w : World) (q : Nat) (ab ae : Option Addr) (cb ce : Nat) (bs es : List Pr) : Prop where
  two : Two w q (.slice ab bs.length cb) (.slice ae es.length ce)
  b : PairsAt w ab bs
  e : PairsAt w ae es
section
variable {w w' : World} {q : Nat} {ab ae : Option Addr} {cb ce : Nat} {bs es : List Pr}
theorem PAt.below (h : PAt w q ab ae cb ce bs es) (hb : Below w.heap.size w w') : PAt w' q ab ae cb ce bs es := ⟨h.two.of_cells (hb.block _ h.two.cells.2.2.2.2), h.b.below hb, h.e.below hb⟩
theorem PAt.new (ab ae : Option Addr) (cb ce : Nat) (hb : PairsAt w ab bs) (he : PairsAt w ae es) : PAt (w.alloc (.cells #[.slice ab bs.length cb, .slice ae es.length ce] 32)) w.heap.size ab ae cb ce bs es := ⟨heap_alloc_new _ _, hb.alloc _, he.alloc _⟩
theorem PAt.lt (h : PAt w q ab ae cb ce bs es) : q < w.heap.size := h.two.cells.2.2.2.2
theorem PAt.c0 (h : PAt w q ab ae cb ce bs es) : w.cell? ⟨q, 0, none⟩ = some (.slice ab bs.length cb) := h.two.cells.1
theorem PAt.c1 (h : PAt w q ab ae cb ce bs es) : w.cell? ⟨q, 1, none⟩ = some (.slice ae es.length ce) := h.two.cells.2.1
end
/-- rows of pairs stand where only a source is written -/
theorem PairsAt.turns {w w' : World} {g : Nat} {a : Option Addr} {l : List Pr} (h : PairsAt w a l) (ht : Turns (fun k => k = g) w w') (hg : ∀ i x, w.cell? ⟨g, i, none⟩ = some x → ∀ s, x ≠ .string s) : PairsAt w' a l :=
  ⟨h.len, h.size, fun i hi => by
    obtain ⟨b, off, e, hb, h1, h2⟩ := h.cell i hi
    have hne : b ≠ g := by
      rintro rfl
      exact hg _ _ h1 _ rfl
    exact ⟨b, off, e, Nat.lt_of_lt_of_le hb ht.size, (ht.cellT hb hne).trans h1, (ht.cellT hb hne).trans h2⟩⟩
theorem RdAt.nostr {w : World} {g : Nat} {a : Option Addr} {n cap p : Nat} (h : RdAt w g a n cap p) : ∀ i x, w.cell? ⟨g, i, none⟩ = some x → ∀ s, x ≠ .string s := by
  intro i x hx s e
  subst e
  rw [cell_of_row w g i _ _ (0, 0) h.here] at hx
  match i with
  | 0 => cases hx
  | 1 => cases hx
  | i + 2 => simp at hx
theorem PairsAt.draw {w w' : World} {g : Nat} {a : Option Addr} {n cap p : Nat} {a' : Option Addr} {l : List Pr} (h : PairsAt w a' l) (hr : RdAt w g a n cap p) (ht : Turns (fun k => k = g) w w') : PairsAt w' a' l := h.turns ht hr.nostr
theorem PAt.draw {w w' : World} {q g : Nat} {ab ae : Option Addr} {cb ce : Nat} {bs es : List Pr} {a : Option Addr} {n cap p : Nat} (h : PAt w q ab ae cb ce bs es) (hr : RdAt w g a n cap p) (ht : Turns (fun k => k = g) w w') : PAt w' q ab ae cb ce bs es := by
  have hne : q ≠ g := by
    rintro rfl
    have h1 := h.two
    have h2 := hr.here
    unfold Two at h1
    rw [h1] at h2
    simp at h2
  exact ⟨ht.two h.two hne, h.b.draw hr ht, h.e.draw hr ht⟩
/-- what a draw of a program and two texts leaves -/
def Draw2 (w : World) (g : Nat) (e : Ending) (w' : World) : Prop := ∃ bs es ab ae cb ce x y, e = .returned (.tuple #[.agg #[.slice ab (List.length bs) cb, .slice ae (List.length es) ce], .string x, .string y]) ∧ Sh bs ∧ Sh es ∧ x.size ≤ 1000 ∧ y.size ≤ 1000 ∧ PairsAt w' ab bs ∧ PairsAt w' ae es ∧ Turns (fun k => k = g) w w'
def wordL : List ByteArray := [⟨#[65]⟩, ⟨#[66]⟩, ⟨#[67]⟩, ⟨#[68]⟩, ⟨#[69]⟩, ⟨#[67]⟩, ⟨#[74]⟩, ⟨#[]⟩, ⟨#[65, 66]⟩]
def termL : List ByteArray := [⟨#[120]⟩, ⟨#[120]⟩, ⟨#[120]⟩, ⟨#[121]⟩, ⟨#[120]⟩, ⟨#[122]⟩, ⟨#[120]⟩, ⟨#[88]⟩, ⟨#[]⟩, ⟨#[120, 121]⟩]
theorem wordL_sh {x : ByteArray} (h : x ∈ wordL) : x.size ≤ 1000 := short_of (by decide) h
theorem termL_sh {x : ByteArray} (h : x ∈ termL) : x.size ≤ 1000 := short_of (by decide) h
/-- a program and the block that takes a draw's result -/
structure DS (w wr : World) (g : Nat) (a : Option Addr) (n cap p R q : Nat) (ab ae : Option Addr) (cb ce : Nat) (bs es : List Pr) : Prop where
  ent : ∃ p0, RdAt w g a n cap p0
  rd : RdAt wr g a n cap p
  res : Two wr R (.slice none 0 0) (.slice none 0 0)
  at_ : PAt wr q ab ae cb ce bs es
  tu : Turns (fun k => k = g) w wr
section
variable {w wr w' : World} {g : Nat} {a : Option Addr} {n cap p p' R q : Nat} {ab ae : Option Addr} {cb ce : Nat} {bs es : List Pr}
theorem DS.rne (h : DS w wr g a n cap p R q ab ae cb ce bs es) : R ≠ g := by
  rintro rfl
  have h1 := h.res
  have h2 := h.rd.here
  unfold Two at h1
  rw [h1] at h2
  simp at h2
theorem DS.draw (h : DS w wr g a n cap p R q ab ae cb ce bs es) (ht : Turns (fun k => k = g) wr w') (hr : RdAt w' g a n cap p') : DS w w' g a n cap p' R q ab ae cb ce bs es :=
  ⟨h.ent, hr, ht.rd h.res h.rne, h.at_.draw h.rd ht, h.tu.trans ht⟩
theorem DS.below (h : DS w wr g a n cap p R q ab ae cb ce bs es) (hb : Below wr.heap.size wr w') : DS w w' g a n cap p R q ab ae cb ce bs es := h.draw (.of_below hb) (h.rd.below hb)
theorem DS.alloc (h : DS w wr g a n cap p R q ab ae cb ce bs es) (o : Obj) : DS w (wr.alloc o) g a n cap p R q ab ae cb ce bs es := h.below ((Below.refl _ _).alloc (Nat.le_refl _) _)
theorem DS.drewD (h : DS w wr g a n cap p R q ab ae cb ce bs es) : DS w wr.drew g a n cap p R q ab ae cb ce bs es := h.below (Below.refl _ _).drew
/-- the result written -/
theorem DS.fin (h : DS w wr g a n cap p R q ab ae cb ce bs es) (hR : w.heap.size ≤ R) :
    PairsAt ((wr.setCell ⟨R, 0, none⟩ (.slice ab bs.length cb)).setCell ⟨R, 1, none⟩ (.slice ae es.length ce)) ab bs ∧ PairsAt ((wr.setCell ⟨R, 0, none⟩ (.slice ab bs.length cb)).setCell ⟨R, 1, none⟩ (.slice ae es.length ce)) ae es ∧ RdAt ((wr.setCell ⟨R, 0, none⟩ (.slice ab bs.length cb)).setCell ⟨R, 1, none⟩ (.slice ae es.length ce)) g a n cap p ∧ Turns (fun k => k = g) w ((wr.setCell ⟨R, 0, none⟩ (.slice ab bs.length cb)).setCell ⟨R, 1, none⟩ (.slice ae es.length ce)) := by
  have hn : ∀ s, Value.slice none 0 0 ≠ .string s := fun s h => by cases h
  obtain ⟨r0, r1, t0, t1, _⟩ := h.res.cells
  have htf := (h.tu.setNew (p := ⟨R, 0, none⟩) hR (.slice ab bs.length cb)).setNew (p := ⟨R, 1, none⟩) hR (.slice ae es.length ce)
  have hhf : ((wr.setCell ⟨R, 0, none⟩ (.slice ab bs.length cb)).setCell ⟨R, 1, none⟩ (.slice ae es.length ce)).heap[g]? = wr.heap[g]? := (Below.heap_setCell _ _ _ _ (Ne.symm h.rne)).trans (Below.heap_setCell _ _ _ _ (Ne.symm h.rne))
  obtain ⟨p0, h0⟩ := h.ent
  exact ⟨(h.at_.b.setZ r0 hn).setZ (p := ⟨R, 1, none⟩) (Two.set0 h.res _).cells.2.1 hn, (h.at_.e.setZ r0 hn).setZ (p := ⟨R, 1, none⟩) (Two.set0 h.res _).cells.2.1 hn, h0.turns htf (hhf.trans h.rd.here), htf⟩
theorem DS.after (h : DS w wr g a n cap p R q ab ae cb ce bs es) (hRq : q ≠ R) : ∀ u v, ((wr.setCell ⟨R, 0, none⟩ u).setCell ⟨R, 1, none⟩ v).cell? ⟨q, 0, none⟩ = some (.slice ab bs.length cb) ∧ ((wr.setCell ⟨R, 0, none⟩ u).setCell ⟨R, 1, none⟩ v).cell? ⟨q, 1, none⟩ = some (.slice ae es.length ce) := fun u v => by
  have := ((h.at_.two.far (p := ⟨R, 0, none⟩) hRq u).far (p := ⟨R, 1, none⟩) hRq v).cells
  exact ⟨this.1, this.2.1⟩
end

/-- what a draw off bytes leaves -/
def DrawB2 (w : World) (e : Ending) (w' : World) : Prop := ∃ bs es ab ae cb ce x y, e = .returned (.tuple #[.agg #[.slice ab (List.length bs) cb, .slice ae (List.length es) ce], .string x, .string y]) ∧ Sh bs ∧ Sh es ∧ x.size ≤ 1000 ∧ y.size ≤ 1000 ∧ PairsAt w' ab bs ∧ PairsAt w' ae es ∧ Below w.heap.size w w'

end Go.Proofs.YtfmhcjhcmoniaaaDoor
end

section
/-
  The model's draws of a program and a name, of a program and two names, off bytes. Conditions: none but what bytes that came in are.
-/
namespace Go.Proofs.YtfmhcjhcmoniaaaDoor
open Go.RowKit Go.Maps

section
variable {w wr w' : World} {g : Nat} {a : Option Addr} {n cap p p' R q : Nat} {ab ae : Option Addr} {cb ce : Nat} {bs es : List Pr}
theorem DS.far2 (h : DS w wr g a n cap p R q ab ae cb ce bs es) {b : Nat} (hb : q ≠ b) : ∀ u v, ((wr.setCell ⟨b, 0, none⟩ u).setCell ⟨b, 1, none⟩ v).cell? ⟨q, 0, none⟩ = some (.slice ab bs.length cb) ∧ ((wr.setCell ⟨b, 0, none⟩ u).setCell ⟨b, 1, none⟩ v).cell? ⟨q, 1, none⟩ = some (.slice ae es.length ce) := fun u v => by
  have := ((h.at_.two.far (p := ⟨b, 0, none⟩) hb u).far (p := ⟨b, 1, none⟩) hb v).cells
  exact ⟨this.1, this.2.1⟩
theorem edge_kept {w3 w4 : World} {g : Nat} (ht : Turns (fun k => k = g) ((w3.alloc (.cells #[.string ⟨#[]⟩, .string ⟨#[]⟩] 81)).drew) w4) (hg : g < w3.heap.size) :
    w4.heap[w3.heap.size]? = some (.cells #[.string ⟨#[]⟩, .string ⟨#[]⟩] 81) ∧ w4.cell? ⟨w3.heap.size, 0, none⟩ = some (.string ⟨#[]⟩) ∧ w4.cell? ⟨w3.heap.size, 1, none⟩ = some (.string ⟨#[]⟩) ∧ w4.frozen? ⟨w3.heap.size, 0, none⟩ = false ∧ w4.frozen? ⟨w3.heap.size, 1, none⟩ = false := by
  have h1 : w4.heap[w3.heap.size]? = (w3.alloc (.cells #[.string ⟨#[]⟩, .string ⟨#[]⟩] 81)).heap[w3.heap.size]? := ht.block w3.heap.size (show w3.heap.size < (w3.alloc _).heap.size by simp) (by omega)
  have h2 := h1.trans (heap_alloc_new _ _)
  exact ⟨h2, by simp [World.cell?, h2], by simp [World.cell?, h2], by simp [World.frozen?, h2], by simp [World.frozen?, h2]⟩
theorem cell_far2 {w : World} {b R i : Nat} (hb : b ≠ R) (u v : Value) : ((w.setCell ⟨R, 0, none⟩ u).setCell ⟨R, 1, none⟩ v).cell? ⟨b, i, none⟩ = w.cell? ⟨b, i, none⟩ :=
  World.cell?_of_block ((Below.heap_setCell _ _ _ _ hb).trans (Below.heap_setCell _ _ _ _ hb))
theorem cell_far2D {w : World} {b R i : Nat} (hb : b ≠ R) (u v : Value) : (((w.setCell ⟨R, 0, none⟩ u).setCell ⟨R, 1, none⟩ v).drew).cell? ⟨b, i, none⟩ = w.drew.cell? ⟨b, i, none⟩ := cell_far2 (w := w) hb u v
theorem DS.afterD {w wr : World} {g : Nat} {a : Option Addr} {n cap p R q : Nat} {ab ae : Option Addr} {cb ce : Nat} {bs es : List Pr} (h : DS w wr g a n cap p R q ab ae cb ce bs es) (hRq : q ≠ R) : ∀ u v, (((wr.setCell ⟨R, 0, none⟩ u).setCell ⟨R, 1, none⟩ v).drew).cell? ⟨q, 0, none⟩ = some (.slice ab bs.length cb) ∧ (((wr.setCell ⟨R, 0, none⟩ u).setCell ⟨R, 1, none⟩ v).drew).cell? ⟨q, 1, none⟩ = some (.slice ae es.length ce) := fun u v => h.after hRq u v
/-- a block that is newer than w3 written -/
theorem DS.setNew2 {w3 : World} (h : DS w w3 g a n cap p' R q ab ae cb ce bs es) (ht : Turns (fun k => k = g) w3 wr) (hr : RdAt wr g a n cap p) {b : Nat} (hb : w3.heap.size ≤ b) (u v : Value) : DS w ((wr.setCell ⟨b, 0, none⟩ u).setCell ⟨b, 1, none⟩ v) g a n cap p R q ab ae cb ce bs es := by
  have h1 := (ht.setNew (p := ⟨b, 0, none⟩) hb u).setNew (p := ⟨b, 1, none⟩) hb v
  have hg : g ≠ b := by have := h.rd.lt; omega
  exact h.draw h1 (h.rd.turns h1 (((Below.heap_setCell _ _ _ _ hg).trans (Below.heap_setCell _ _ _ _ hg)).trans hr.here))
end
/-- what a draw of a program and a text off bytes leaves -/
def DrawB1 (w : World) (e : Ending) (w' : World) : Prop := ∃ bs es ab ae cb ce x, e = .returned (.tuple #[.agg #[.slice ab (List.length bs) cb, .slice ae (List.length es) ce], .string x]) ∧ Sh bs ∧ Sh es ∧ x.size ≤ 1000 ∧ PairsAt w' ab bs ∧ PairsAt w' ae es ∧ Below w.heap.size w w'

end Go.Proofs.YtfmhcjhcmoniaaaDoor
end

section
/-
  The model's draws of a program alone, and of a program and a text that is mostly a term, off bytes. Conditions: none but what bytes that came in are.
-/
namespace Go.Proofs.YtfmhcjhcmoniaaaDoor
open Go.RowKit Go.Maps

/-- what a draw of a program alone leaves -/
def DrawB0 (w : World) (e : Ending) (w' : World) : Prop := ∃ bs es ab ae cb ce, e = .returned (.agg #[.slice ab (List.length bs) cb, .slice ae (List.length es) ce]) ∧ Sh bs ∧ Sh es ∧ PairsAt w' ab bs ∧ PairsAt w' ae es ∧ Below w.heap.size w w'
def Draw1 (w : World) (g : Nat) (e : Ending) (w' : World) : Prop := ∃ bs es ab ae cb ce x, e = .returned (.tuple #[.agg #[.slice ab (List.length bs) cb, .slice ae (List.length es) ce], .string x]) ∧ Sh bs ∧ Sh es ∧ x.size ≤ 1000 ∧ PairsAt w' ab bs ∧ PairsAt w' ae es ∧ Turns (fun k => k = g) w w'

end Go.Proofs.YtfmhcjhcmoniaaaDoor
end

section
/-
  The model's draws of picks, of a program and a run of it, off bytes. Conditions: at most 600000 numbers drawn before.
-/
namespace Go.Proofs.YtfmhcjhcmoniaaaDoor
open Go.RowKit Go.Maps

def pickN : List Int := [5, 8, 3, 0, 12]
theorem pickN_in : ∀ x ∈ pickN, 0 ≤ x ∧ x ≤ 12 := by decide
/-- what a draw of picks leaves -/
def PicksDraw (w : World) (g : Nat) (a : Option Addr) (n cap p : Nat) (e : Ending) (w' : World) : Prop := ∃ ns v, e = .returned v ∧ List.length ns ≤ 12 ∧ w'.ownsRow w.heap.size 3 1 v (List.length ns) (ns.map (Value.int .i64)) ∧ Drawn w w' g a n cap p 13

set_option maxRecDepth 100000 in
set_option maxHeartbeats 1600000 in
theorem l2Picks_any (w : World) (g : Nat) (a : Option Addr) (n cap p : Nat) (hp : p ≤ 900000) (h : RdAt w g a n cap p) :
    Calls Tryd.prog 33 #[.pointer (some ⟨g, 0, none⟩)] w (PicksDraw w g a n cap p) := by
  have hgl := h.lt
  obtain ⟨i0, hi, hz0, hz1, hz2⟩ := info_parts Tryd.infoInt
  have hA : Below w.heap.size w (w.alloc (.cells #[] 3)) := (Below.refl _ _).alloc (Nat.le_refl _) _
  have hrA := h.below hA
  have ho := World.ownsRow_made w (base := w.heap.size) (e := 3) (size := 1) #[] 0 (Nat.le_refl _) (Nat.zero_le _) rfl
  have H0 := Lib.hid (And.intro h (And.intro (Turns.of_below (S := fun k => k = g) hA) ho))
  clear h hA ho
  go_enter Tryd.func33, Tryd.ntmps33
  go_upto_region 2 with fail
  generalize hwA : w.alloc (.cells #[] 3) = wA at *
  have HSA := Lib.hid (show wA.heap.size = w.heap.size + 1 by rw [← hwA]; simp)
  clear hwA
  go_wp2_with fail
  refine (num_new wA g a n cap p [5, 8, 3, 0, 12] (by omega) hrA (by decide) (by decide)).mono ?_
  rintro e w2 ⟨nn, hnn, rfl, hrd2, htu2⟩
  obtain ⟨hn0, hn12⟩ : 0 ≤ nn ∧ nn ≤ 12 := pickN_in nn hnn
  obtain ⟨N, rfl⟩ := Int.eq_ofNat_of_zero_le hn0
  have hs2 : w.heap.size + 1 ≤ w2.heap.size := by have h1 := htu2.size; have h2 := HSA.out; omega
  have ho2 := htu2.row H0.out.2.2 (fun b hb e => by simp [Value.ownBlock] at hb; omega)
  have HX := Lib.hid (And.intro hrd2 (And.intro (H0.out.2.1.trans htu2) ho2))
  clear hrA htu2 hrd2 ho2 hnn
  go_wp2
  go_loopw [8, 3] (fun i v wr => ∃ (k : Nat) (ns : List Int), k ≤ N ∧ i = .int .i64 k ∧ ns.length = k ∧ RdAt wr g a n cap (p + 1 + k) ∧ Turns (fun k => k = g) w wr ∧ wr.ownsRow w.heap.size 3 1 v k (ns.map (Value.int .i64))) (fun i _ _ => N - (intOf i).toNat)
  case atStart => exact ⟨0, [], Nat.zero_le _, rfl, rfl, HX.out.1, HX.out.2.1, HX.out.2.2⟩
  case round =>
    obtain ⟨k, ns, hk, rfl, hl, hr, ht, ho⟩ := hrel
    obtain ⟨wa, wc, rfl⟩ := own_form ho
    have HR := Lib.hid (And.intro hr (And.intro ht (And.intro ho hl)))
    clear hr ht ho hl
    by_cases hlt : k < N
    · go_wp2_with fail
      refine (pick_any wr g a n cap (p + 1 + k) 4 (by decide) (by decide) (by omega) HR.out.1).mono ?_
      rintro e w4 ⟨r, rfl, _, _, hrd4, htu4⟩
      have ho4 := htu4.row HR.out.2.2.1 (fun b hb e => by
        have h1 := (HR.out.2.2.1.lt b hb).1
        omega)
      have H4 := Lib.hid (And.intro hrd4 (And.intro (HR.out.2.1.trans htu4) ho4))
      have hs4 := (HR.out.2.1.trans htu4).size
      clear hrd4 htu4 ho4
      go_wp2_with (at_builtin; refine wpList_append_own _ rfl _ _ 36 rfl w.heap.size 3 i0 (.int .i64 0) 1 8 Tryd.underlying36 hi hz0 hz1 hz2 rfl (by decide) _ _ _ rfl (H4.out.2.2.alloc _) ⟨w4.heap.size, 0, none⟩ 1 1 [.int .i64 r] rfl rfl (cell_one_new _ _ _) (one_one _ rfl) (by unfold maxLen; omega) (by omega) (by simp; omega) ?_; intro v' w5 hown5 hgrow5 _)
      have hgr : (Value.slice wa k wc).ownBlock ≠ some g := fun e => by
        have h1 := (H4.out.2.2.lt g e).1
        omega
      have htA : Turns (fun k => k = g) w (w4.alloc (.cells #[.int .i64 r] 3)) := H4.out.2.1.trans (Turns.alloc _ _)
      have ht5 : Turns (fun k => k = g) w w5 := htA.then_ (Turns.of_grown hgrow5) (fun _ _ h => h) (fun b hb e => by
        have h1 := (H4.out.2.2.lt b e.symm).1
        omega)
      have hgl4 := H4.out.1.lt
      have hh5 : w5.heap[g]? = some (.cells #[.slice a n cap, .int .i64 ((p + 1 + k + 1 : Nat) : Int)] 103 (0, 0)) :=
        ((hgrow5.block g (by simp; omega) (fun e => hgr e.symm)).trans (Below.heap_alloc _ _ _ hgl4)).trans H4.out.1.here
      have HZ := Lib.hid (And.intro (H0.out.1.turns ht5 hh5) (And.intro ht5 hown5))
      have HL := Lib.hid HR.out.2.2.2
      clear hgr htA ht5 hgl4 hh5 hown5 hgrow5 HR
      go_roundw
      case rel => exact ⟨k + 1, ns ++ [r], by omega, by go_num, by simp [HL.out], HZ.out.1, HZ.out.2.1, by simpa using HZ.out.2.2⟩
      case measure => simp [intOf]; omega
    · obtain rfl : k = N := by omega
      go_wp2
      go_ret
      refine ⟨ns, _, rfl, by have := HR.out.2.2.2; omega, ?_, p + 1 + k, by omega, HR.out.1, HR.out.2.1⟩
      rw [HR.out.2.2.2]; exact HR.out.2.2.1
/-- numbers in memory of one's own -/
theorem ints_of_own {w : World} {base n c : Nat} {a : Option Addr} {ns : List Int} (hn : n = ns.length) (h : w.ownsRow base 3 1 (.slice a n c) n (ns.map (Value.int .i64))) (hl : ns.length ≤ 1048576) : IntsAt w a ns := by
  subst hn
  refine ⟨hl, fun i hi => ?_⟩
  obtain ⟨_, ⟨hv, h0⟩ | ⟨g, cap, cur, hv, hg, hh, hm, hc, hs, ht⟩⟩ := h
  · omega
  · simp only [Value.slice.injEq, true_and] at hv
    refine ⟨g, 0, hv.1, (Array.getElem?_eq_some_iff.1 hh).1, ?_⟩
    rw [Nat.zero_add, cell_of_row w g _ _ _ _ hh]
    have h1 : (cur.toList.take (ns.length * 1))[i]? = some (.int .i64 (numAt ns i)) := by
      rw [ht]
      simp [numAt, hi]
    rw [List.getElem?_take, if_pos (by omega)] at h1
    simpa using h1
/-- the model's walk, short -/
theorem WalkRun_specS (w : World) (bs es : List Pr) (ab ae : Option Addr) (cb ce : Nat) (ns : List Int) (an : Option Addr) (cn : Nat) (hpb : PairsAt w ab bs) (hpe : PairsAt w ae es) (hpn : IntsAt w an ns) :
    Calls Tryd.prog 11 #[.agg #[.slice ab bs.length cb, .slice ae es.length ce], .slice an ns.length cn] w fun e w' => ∃ r ok, e = .returned (.tuple #[.string r, .bool ok]) ∧ r.size ≤ 29 ∧ Below w.heap.size w w' :=
  (WalkRun_spec w bs es ab ae cb ce ns an cn hpb hpe hpn).mono fun e w' h => by
    obtain ⟨rfl, hb⟩ := h
    cases hv : validB bs es
    · exact ⟨e0, false, by rw [walkV_no1 hv], by decide, hb⟩
    · cases hp : picksOk ns
      · exact ⟨e0, false, by rw [walkV_no2 hp], by decide, hb⟩
      · have hV : Valid bs es := by simpa [validB] using hv
        have h1 := (full_run hV ns).2
        have h2 := hV.b.hi
        exact ⟨_, true, by rw [walkV_yes hv hp], by omega, hb⟩
end Go.Proofs.YtfmhcjhcmoniaaaDoor
end

section
/-
  The model's draws of a program and two texts that are mostly terms, and of a program alone, off bytes. Conditions: none but what bytes that came in are.
-/
namespace Go.Proofs.YtfmhcjhcmoniaaaDoor
open Go.RowKit Go.Maps

def swTL : List ByteArray := [⟨#[120]⟩, ⟨#[121]⟩, ⟨#[120]⟩, ⟨#[122]⟩, ⟨#[88]⟩, ⟨#[]⟩]
def swUL : List ByteArray := [⟨#[121]⟩, ⟨#[120]⟩, ⟨#[122]⟩, ⟨#[119]⟩, ⟨#[120, 121]⟩]
end Go.Proofs.YtfmhcjhcmoniaaaDoor
end

section
/-
  The model's draw of a program and picks, off bytes. Conditions: none but what bytes that came in are.
-/
namespace Go.Proofs.YtfmhcjhcmoniaaaDoor
open Go.RowKit Go.Maps

/-- what a draw of a program and picks leaves -/
def DrawWk (w : World) (e : Ending) (w' : World) : Prop := ∃ bs es ab ae cb ce ns an cn, e = .returned (.tuple #[.agg #[.slice ab (List.length bs) cb, .slice ae (List.length es) ce], .slice an (List.length ns) cn]) ∧ Sh bs ∧ Sh es ∧ (List.length ns) ≤ 1000 ∧ PairsAt w' ab bs ∧ PairsAt w' ae es ∧ IntsAt w' an ns ∧ Below w.heap.size w w'
theorem IntsAt.far {w : World} {a : Option Addr} {ns : List Int} (h : IntsAt w a ns) {p : Addr} (hp : ∀ b off, a = some ⟨b, off, none⟩ → b ≠ p.block) (u : Value) : IntsAt (w.setCell p u) a ns :=
  ⟨h.len, fun i hi => by
    obtain ⟨b, off, e, hb, hc⟩ := h.cell i hi
    exact ⟨b, off, e, by simpa [World.setCell] using hb, (World.cell?_of_block (Below.heap_setCell _ _ _ _ (hp b off e))).trans hc⟩⟩
theorem IntsAt.drew {w : World} {a : Option Addr} {ns : List Int} (h : IntsAt w a ns) : IntsAt w.drew a ns := h.below (Below.refl _ _).drew
/-- the result written -/
theorem DS.finW {w0 w wr : World} {g : Nat} {a : Option Addr} {n cap p R q : Nat} {ab ae an : Option Addr} {cb ce : Nat} {bs es : List Pr} {ns : List Int} (h : DS w wr g a n cap p R q ab ae cb ce bs es) (h0 : Below w0.heap.size w0 w) (hR : w0.heap.size ≤ R) (hg : w0.heap.size ≤ g) (hi : IntsAt wr an ns) (hne0 : ∀ b off, an = some ⟨b, off, none⟩ → b ≠ R) :
    PairsAt ((wr.setCell ⟨R, 0, none⟩ (.slice ab bs.length cb)).setCell ⟨R, 1, none⟩ (.slice ae es.length ce)) ab bs ∧ PairsAt ((wr.setCell ⟨R, 0, none⟩ (.slice ab bs.length cb)).setCell ⟨R, 1, none⟩ (.slice ae es.length ce)) ae es ∧ IntsAt ((wr.setCell ⟨R, 0, none⟩ (.slice ab bs.length cb)).setCell ⟨R, 1, none⟩ (.slice ae es.length ce)) an ns ∧ Below w0.heap.size w0 ((wr.setCell ⟨R, 0, none⟩ (.slice ab bs.length cb)).setCell ⟨R, 1, none⟩ (.slice ae es.length ce)) := by
  have hn : ∀ s, Value.slice none 0 0 ≠ .string s := fun s h => by cases h
  obtain ⟨r0, r1, t0, t1, _⟩ := h.res.cells
  have hb := (h.at_.b.setZ r0 hn (u := .slice ab bs.length cb)).setZ (p := ⟨R, 1, none⟩) (u := .slice ae es.length ce) (Two.set0 h.res (.slice ab bs.length cb)).cells.2.1 hn
  have he := (h.at_.e.setZ r0 hn (u := .slice ab bs.length cb)).setZ (p := ⟨R, 1, none⟩) (u := .slice ae es.length ce) (Two.set0 h.res (.slice ab bs.length cb)).cells.2.1 hn
  have hbw : Below w0.heap.size w0 wr := h0.trans (h.tu.below h0.size (fun k hk => by omega))
  exact ⟨hb, he, (hi.far hne0 _).far hne0 _, (hbw.setCell (p := ⟨R, 0, none⟩) hR _).setCell (p := ⟨R, 1, none⟩) hR _⟩

/-- a list of numbers laid by the text: an element of it -/
theorem num_at (wM : World) (g : Nat) (a : Option Addr) (n cap p gl : Nat) (L : List Int) (o : Obj) (hb : wM.heap[gl]? = some o) (ho : o = .cells (L.map (Value.int .i64)).toArray 3) (hne : gl ≠ g) (hp : p ≤ 1000000) (h : RdAt wM g a n cap p) (h1 : 1 ≤ L.length) (h2 : L.length ≤ 1000) :
    Calls Tryd.prog 35 #[.pointer (some ⟨g, 0, none⟩), .slice (some ⟨gl, 0, none⟩) L.length L.length] wM (NumPost wM g a n cap p L) := by
  subst ho
  exact num_any wM g a n cap p gl L hp h hne hb h1 h2
/-- a row of numbers has grown: only the source and what is new is written -/
theorem grow_int {w wN w6 : World} {g : Nat} {a : Option Addr} {n cap p p0 k : Nat} {v : Value} {xs : List Value} {o : Obj} (ht : Turns (fun k => k = g) w wN) (hr : RdAt wN g a n cap p) (ho : wN.ownsRow w.heap.size 3 1 v k xs) (h0 : RdAt w g a n cap p0) (hg : (wN.alloc o).grownBy w6 v.ownBlock) :
    Turns (fun k => k = g) w w6 ∧ RdAt w6 g a n cap p := by
  have hgl := h0.lt
  have hs := ht.size
  have hgr : v.ownBlock ≠ some g := fun e => by
    have h1 := (ho.lt g e).1
    omega
  have htA : Turns (fun k => k = g) w (wN.alloc o) := ht.trans (Turns.alloc _ _)
  have ht5 : Turns (fun k => k = g) w w6 := htA.then_ (Turns.of_grown hg) (fun _ _ h => h) (fun b hb e => by
    have h1 := (ho.lt b e.symm).1
    omega)
  have hgl4 := hr.lt
  have hh5 : w6.heap[g]? = some (.cells #[.slice a n cap, .int .i64 (p : Int)] 103 (0, 0)) :=
    ((hg.block g (by simp; omega) (fun e => hgr e.symm)).trans (Below.heap_alloc _ _ _ hgl4)).trans hr.here
  exact ⟨ht5, h0.turns ht5 hh5⟩
theorem make_in : ∀ x ∈ [(40 : Int), 41], 0 ≤ x ∧ x ≤ 41 := by decide
theorem make_run (N : Nat) (hN : N ≤ 41) {i : TypeInfo} (hi : Tryd.prog.info? 3 = some i) (hz : i.zero = some (.int .i64 0)) (hs : i.size = 1) (hb : i.bytes = 8) (W : World) :
    (Instr.makeSlice 36 (.int .i64 (N : Int)) (.int .i64 (N : Int))).run Tryd.prog W = .ok (.slice (some ⟨W.heap.size, 0, none⟩) N N) (W.alloc (.cells (madeCells (Value.int .i64 0).cells (N * 1)) 3)) := by
  have h := run_makeSlice W 36 3 i (.int .i64 0) Tryd.underlying36 hi hz .i64 .i64 (N : Int) (N : Int) (by omega) (Int.le_refl _) (by rw [hs]; simp; omega) (by rw [hb]; omega) (by omega)
  rw [hs] at h
  exact h
/-- made numbers -/
theorem made_row (w : World) (N : Nat) : (w.alloc (.cells (madeCells #[.int .i64 0] N) 3)).heap[w.heap.size]? = some (.cells ((List.replicate N (0 : Int)).map (Value.int .i64)).toArray 3 (0, 0)) := by
  rw [heap_alloc_new]
  have h : (madeCells #[.int .i64 0] N).toList = (List.replicate N (0 : Int)).map (Value.int .i64) := by
    have := made_ints N
    rw [Nat.mul_one] at this
    exact this
  rw [show madeCells #[.int .i64 0] N = ((List.replicate N (0 : Int)).map (Value.int .i64)).toArray from Array.toList_inj.1 (by rw [h])]

set_option maxRecDepth 100000 in
set_option maxHeartbeats 6400000 in
theorem DrawWalkRun_any (w : World) (a : Option Addr) (n cap : Nat) (h : BytesRaw w a n cap) :
    Calls Tryd.prog 15 #[.slice a n cap] w (DrawWk w) := by
  have hA : Below w.heap.size w (w.alloc (.cells #[.slice none 0 0, .slice none 0 0] 32)) := (Below.refl _ _).alloc (Nat.le_refl _) _
  have hR : Two (w.alloc (.cells #[.slice none 0 0, .slice none 0 0] 32)) w.heap.size (.slice none 0 0) (.slice none 0 0) := heap_alloc_new _ _
  have hbA := h.below hA
  have H0 := Lib.hid (And.intro hA hR)
  clear h hA hR
  obtain ⟨i0, hi, hz0, hz1, hz2⟩ := info_parts Tryd.infoInt
  go_enter Tryd.func15, Tryd.ntmps15
  go_wp2_with fail
  refine (l15Open_any _ a n cap hbA).mono ?_
  rintro e w1 ⟨m, rfl, hrd, hb1⟩
  have hz : (w.alloc (.cells #[.slice none 0 0, .slice none 0 0] 32)).heap.size = w.heap.size + 1 := by simp
  rw [hz] at hrd ⊢
  have hR1 : Two w1 w.heap.size _ _ := H0.out.2.of_cells (hb1.block _ (by omega))
  have hall : Below w.heap.size w w1 := H0.out.1.trans (hb1.mono (by omega))
  have hg1 := hrd.lt
  have H1 := Lib.hid (And.intro hR1 (And.intro hall hrd))
  clear hR1 hall hb1 hbA hz
  go_wp2_with fail
  refine (l1Some_any w1 (w.heap.size + 1) a m cap 0 (by omega) hrd).mono ?_
  rintro e w2 ⟨bs, es, ab, ae, cb, ce, rfl, hSb, hSe, hPb, hPe, p1, hp1, hrd2, htu⟩
  have hs2 := htu.size
  have hW : Below w2.heap.size w2 (w2.alloc (.cells #[.slice ab bs.length cb, .slice ae es.length ce] 32)) := (Below.refl _ _).alloc (Nat.le_refl _) _
  have hDS : DS w1 (w2.alloc (.cells #[.slice ab bs.length cb, .slice ae es.length ce] 32)) (w.heap.size + 1) a m cap p1 w.heap.size w2.heap.size ab ae cb ce bs es :=
    ⟨⟨0, H1.out.2.2⟩, hrd2.below hW, (hW.block _ (by omega)).trans (htu.two H1.out.1 (by omega)), PAt.new ab ae cb ce hPb hPe, htu.trans (.of_below hW)⟩
  have H2 := Lib.hid hDS
  have HS := Lib.hid (And.intro hSb hSe)
  have hqR : w2.heap.size ≠ w.heap.size := by omega
  clear hDS hPb hPe hrd htu hW hSb hSe hrd2
  go_upto_region 3 with fail
  generalize w2.alloc (.cells #[.slice ab bs.length cb, .slice ae es.length ce] 32) = wP at *
  generalize w2.heap.size = q at *
  have H2P := H2.out.rd
  have hgq := H2P.lt
  go_wp2_with fail
  refine (l2Picks_any wP (w.heap.size + 1) a m cap p1 (by omega) H2P).mono ?_
  rintro e w3 ⟨ns, v, rfl, hnl, ho, p2, hp2, hrd3, htu3⟩
  obtain ⟨an, cn, rfl⟩ := own_form ho
  have H3 := Lib.hid (And.intro hrd3 (And.intro htu3 ho))
  clear hrd3 htu3 ho H2P
  go_wp2_with fail
  refine (pick_any w3 (w.heap.size + 1) a m cap p2 24 (by decide) (by decide) (by omega) H3.out.1).mono ?_
  rintro e w4 ⟨r, rfl, _, _, hrd4, htu4⟩
  have H4 := Lib.hid (And.intro hrd4 (And.intro (H3.out.2.1.trans htu4) (htu4.row H3.out.2.2 (fun b hb e => by have h1 := (H3.out.2.2.lt b hb).1; omega))))
  have hs4 : wP.heap.size ≤ w4.heap.size := H4.out.2.1.size
  have D4 := Lib.hid (H2.out.draw H4.out.2.1 H4.out.1)
  obtain ⟨q0, q1⟩ := And.intro D4.out.at_.c0 D4.out.at_.c1
  clear hrd4 htu4 H3
  by_cases e0 : r = 0
  · subst e0
    have hq4 := D4.out.at_.lt
    have hR4 := D4.out.res.cells.2.2.2.2
    have hg4 := D4.out.rd.lt
    have HE := Lib.hid (show ∀ o, ((w4.alloc o).drew).heap[w4.heap.size]? = some o from fun o => heap_alloc_new w4 o)
    have HWR := Lib.hid (show w.heap.size < wP.heap.size from H2.out.res.cells.2.2.2.2)
    go_wp2
    go_region_law (first
      | (go_simp; go_at_call 35; refine (num_at _ (w.heap.size + 1) a m cap (p2 + 1) _ [-1, 9223372036854775807] _ (by with_reducible exact HE.out _) (by rfl) (by omega) (by omega) (DS.rd (D4.out.alloc _).drewD) (by decide) (by decide)).mono ?_; rintro e wN ⟨x, hx, rfl, hrdN, htuN⟩; have HN := Lib.hid (And.intro hrdN (And.intro (H4.out.2.1.trans ((Turns.of_below (((Below.refl _ _).alloc (Nat.le_refl _) _).drew)).trans htuN)) (htuN.row (ownsRow_below (H4.out.2.2.alloc _) (Below.refl _ _).drew) (fun b hb e => by have h1 := (H4.out.2.2.lt b hb).1; omega)))); have DN := Lib.hid (H2.out.draw HN.out.2.1 HN.out.1); obtain ⟨n0, n1⟩ := And.intro DN.out.at_.c0 DN.out.at_.c1; have hql := DN.out.at_.lt; have hsN := HN.out.2.1.size)
      | (refine step_append_lies _ rfl (.tmp 18) (.tmp 22) 36 rfl wP.heap.size 3 i0 (.int .i64 0) 1 8 Tryd.underlying36 hi hz0 hz1 hz2 rfl (by decide) _ ns.length (ns.map (Value.int .i64)) rfl (HN.out.2.2.alloc _) ⟨wN.heap.size, 0, none⟩ 1 1 [.int .i64 x] rfl rfl (cell_one_new _ _ _) (one_one _ rfl) (by decide) (by unfold maxLen; omega) (by omega) (by simp; omega) _ rfl ?_
         intro g' cap' w6 hown6 hgrow6 hlies6 _
         obtain ⟨hT6, hr6⟩ := grow_int HN.out.2.1 HN.out.1 HN.out.2.2 H2.out.rd hgrow6
         have D6 := Lib.hid (H2.out.draw hT6 hr6)
         obtain ⟨s0, s1⟩ := And.intro D6.out.at_.c0 D6.out.at_.c1
         obtain ⟨r0, r1, t0, t1, _⟩ := D6.out.res.cells))
    all_goals
      have hL : ns.length + 1 = (ns ++ [x]).length := by simp
      have hown7 : w6.ownsRow wP.heap.size 3 1 (.slice (some ⟨g', 0, none⟩) (ns.length + 1) cap') (ns.length + 1) ((ns ++ [x]).map (Value.int .i64)) := by simpa using hown6
      have HX := Lib.hid (D6.out.finW H1.out.2.1 (Nat.le_refl _) (by omega) (ints_of_own hL hown7 (by rw [← hL]; omega)) (fun b off hb => by have h1 := (hown7.lt b (by rw [hb]; rfl)).1; have h2 := HWR.out; omega))
      clear hrdN htuN hx hown6 hgrow6 hlies6 hT6 hr6 hown7 n0 n1 q0 q1
      go_wp2
      refine bodyPost_ret (v := .tuple #[.agg #[.slice ab bs.length cb, .slice ae es.length ce], .slice (some ⟨g', 0, none⟩) (ns.length + 1) cap']) (by simp [results, Tryd.results15, go_sem, r0, r1]) rfl ?_
      exact ⟨bs, es, ab, ae, cb, ce, ns ++ [x], some ⟨g', 0, none⟩, cap', by rw [← hL], HS.out.1, HS.out.2, by rw [← hL]; omega, HX.out.1, HX.out.2.1, HX.out.2.2.1, HX.out.2.2.2⟩
  have d0 : (r == 0) = false := by simpa using e0
  clear e0
  by_cases e1 : r = 1
  · subst e1
    have hq4 := D4.out.at_.lt
    have hR4 := D4.out.res.cells.2.2.2.2
    have hg4 := D4.out.rd.lt
    have HE := Lib.hid (show ∀ o, ((w4.alloc o).drew).heap[w4.heap.size]? = some o from fun o => heap_alloc_new w4 o)
    go_wp2
    go_region_law (first
      | (go_simp; go_at_call 35; refine (num_at _ (w.heap.size + 1) a m cap (p2 + 1) _ [40, 41] _ (by with_reducible exact HE.out _) (by rfl) (by omega) (by omega) (DS.rd (D4.out.alloc _).drewD) (by decide) (by decide)).mono ?_; rintro e wN ⟨x, hx, rfl, hrdN, htuN⟩; obtain ⟨hx0, hx41⟩ : 0 ≤ x ∧ x ≤ 41 := make_in x hx; obtain ⟨N, rfl⟩ := Int.eq_ofNat_of_zero_le hx0; have hmk := make_run N (by omega) hi hz0 hz1 hz2; have DN := Lib.hid ((D4.out.alloc _).drewD.draw htuN hrdN); obtain ⟨n0, n1⟩ := And.intro DN.out.at_.c0 DN.out.at_.c1; have hql := DN.out.at_.lt; obtain ⟨r0, r1, t0, t1, hRl⟩ := DN.out.res.cells))
    all_goals
      have HX := Lib.hid (DN.out.finW H1.out.2.1 (Nat.le_refl _) (by omega) (an := none) (ns := []) ⟨Nat.zero_le _, fun i hi => absurd hi (Nat.not_lt_zero _)⟩ (fun b off hb => by cases hb))
      have G := DN.out.res.reads (.slice ab bs.length cb) (.slice ae es.length ce) (.cells (madeCells #[.int .i64 0] N) 3)
      have hIB : IB (((wN.setCell ⟨w.heap.size, 0, none⟩ (.slice ab bs.length cb)).setCell ⟨w.heap.size, 1, none⟩ (.slice ae es.length ce)).alloc (.cells (madeCells #[.int .i64 0] N) 3)) wN.heap.size (List.replicate N (0 : Int)) := by
        have h := made_row ((wN.setCell ⟨w.heap.size, 0, none⟩ (.slice ab bs.length cb)).setCell ⟨w.heap.size, 1, none⟩ (.slice ae es.length ce)) N
        rw [show ((wN.setCell ⟨w.heap.size, 0, none⟩ (.slice ab bs.length cb)).setCell ⟨w.heap.size, 1, none⟩ (.slice ae es.length ce)).heap.size = wN.heap.size by simp [World.setCell]] at h
        exact h
      have hIA := Lib.hid (hIB.ints (by rw [List.length_replicate]; omega))
      clear hrdN htuN hx hIB n0 n1 q0 q1
      go_wp2
      refine bodyPost_ret (v := .tuple #[.agg #[.slice ab bs.length cb, .slice ae es.length ce], .slice (some ⟨wN.heap.size, 0, none⟩) N N]) (by simp [results, Tryd.results15, go_sem, G.1, G.2]) rfl ?_
      exact ⟨bs, es, ab, ae, cb, ce, List.replicate N 0, some ⟨wN.heap.size, 0, none⟩, N, by rw [List.length_replicate], HS.out.1, HS.out.2, by rw [List.length_replicate]; omega, HX.out.1.alloc _, HX.out.2.1.alloc _, hIA.out, HX.out.2.2.2.alloc HX.out.2.2.2.size _⟩
  have d1 : (r == 1) = false := by simpa using e1
  clear e1
  obtain ⟨r0, r1, t0, t1, _⟩ := D4.out.res.cells
  have HX := Lib.hid (D4.out.finW H1.out.2.1 (Nat.le_refl _) (by omega) (ints_of_own (by rfl) H4.out.2.2 (by omega)) (fun b off hb => by have h1 := (H4.out.2.2.lt b (by rw [hb]; rfl)).1; have h2 := H2.out.res.cells.2.2.2.2; omega))
  go_wp2
  refine bodyPost_ret (v := .tuple #[.agg #[.slice ab bs.length cb, .slice ae es.length ce], .slice an ns.length cn]) (by simp [results, Tryd.results15, go_sem, r0, r1]) rfl ?_
  exact ⟨bs, es, ab, ae, cb, ce, ns, an, cn, rfl, HS.out.1, HS.out.2, by omega, HX.out.1, HX.out.2.1, HX.out.2.2.1, HX.out.2.2.2⟩
end Go.Proofs.YtfmhcjhcmoniaaaDoor
end
