import Derived.Test.YthkhccfemdjioaaDoorSomeS
import Derived.Test.YthkhccfemdjioaaDoorOpen
import Derived.Deep.CutRange
import Derived.Test.YthkhccfemdjioaaDoorIrB
section
/-
  The model's draws of a program, a block's name and a term; of a program and a name; of bytes. Conditions: at most 700000 numbers drawn before.
-/
namespace Go.Proofs.YthkhccfemdjioaaDoor
open Go.RowKit Go.Maps

/-- a program in a block of its own -/
structure PAt (w : World) (q : Nat) (ab ae : Option Addr) (cb ce : Nat) (bs es : List Pr) : Prop where
  two : Two w q (.slice ab bs.length cb) (.slice ae es.length ce)
  b : PairsAt w ab bs
  e : PairsAt w ae es
section
variable {w w' : World} {q : Nat} {ab ae : Option Addr} {cb ce : Nat} {bs es : List Pr}
theorem PAt.below (h : PAt w q ab ae cb ce bs es) (hb : Below w.heap.size w w') : PAt w' q ab ae cb ce bs es := ⟨h.two.of_cells (hb.block _ h.two.cells.2.2.2.2), h.b.below hb, h.e.below hb⟩
theorem PAt.new (ab ae : Option Addr) (cb ce : Nat) (hb : PairsAt w ab bs) (he : PairsAt w ae es) : PAt (w.alloc (.cells #[.slice ab bs.length cb, .slice ae es.length ce] 32)) w.heap.size ab ae cb ce bs es := ⟨heap_alloc_new _ _, hb.alloc _, he.alloc _⟩
theorem PAt.lt (h : PAt w q ab ae cb ce bs es) : q < w.heap.size := h.two.cells.2.2.2.2
theorem PAt.c0 (h : PAt w q ab ae cb ce bs es) : w.cell? ⟨q, 0, none⟩ = some (.slice ab bs.length cb) := h.two.cells.1
theorem PAt.c1 (h : PAt w q ab ae cb ce bs es) : w.cell? ⟨q, 1, none⟩ = some (.slice ae es.length ce) := h.two.cells.2.1
end
/-- rows of pairs stand where only a source is written -/
theorem PairsAt.turns {w w' : World} {g : Nat} {a : Option Addr} {l : List Pr} (h : PairsAt w a l) (ht : Turns (fun k => k = g) w w') (hg : ∀ i x, w.cell? ⟨g, i, none⟩ = some x → ∀ s, x ≠ .string s) : PairsAt w' a l :=
  ⟨h.len, h.size, fun i hi => by
    obtain ⟨b, off, e, hb, h1, h2⟩ := h.cell i hi
    have hne : b ≠ g := by
      rintro rfl
      exact hg _ _ h1 _ rfl
    exact ⟨b, off, e, Nat.lt_of_lt_of_le hb ht.size, (ht.cellT hb hne).trans h1, (ht.cellT hb hne).trans h2⟩⟩
theorem RdAt.nostr {w : World} {g : Nat} {a : Option Addr} {n cap p : Nat} (h : RdAt w g a n cap p) : ∀ i x, w.cell? ⟨g, i, none⟩ = some x → ∀ s, x ≠ .string s := by
  intro i x hx s e
  subst e
  rw [cell_of_row w g i _ _ (0, 0) h.here] at hx
  match i with
  | 0 => cases hx
  | 1 => cases hx
  | i + 2 => simp at hx
theorem PairsAt.draw {w w' : World} {g : Nat} {a : Option Addr} {n cap p : Nat} {a' : Option Addr} {l : List Pr} (h : PairsAt w a' l) (hr : RdAt w g a n cap p) (ht : Turns (fun k => k = g) w w') : PairsAt w' a' l := h.turns ht hr.nostr
theorem PAt.draw {w w' : World} {q g : Nat} {ab ae : Option Addr} {cb ce : Nat} {bs es : List Pr} {a : Option Addr} {n cap p : Nat} (h : PAt w q ab ae cb ce bs es) (hr : RdAt w g a n cap p) (ht : Turns (fun k => k = g) w w') : PAt w' q ab ae cb ce bs es := by
  have hne : q ≠ g := by
    rintro rfl
    have h1 := h.two
    have h2 := hr.here
    unfold Two at h1
    rw [h1] at h2
    simp at h2
  exact ⟨ht.two h.two hne, h.b.draw hr ht, h.e.draw hr ht⟩
/-- what a draw of a program and two texts leaves -/
def Draw2 (w : World) (g : Nat) (e : Ending) (w' : World) : Prop := ∃ bs es ab ae cb ce x y, e = .returned (.tuple #[.agg #[.slice ab (List.length bs) cb, .slice ae (List.length es) ce], .string x, .string y]) ∧ Sh bs ∧ Sh es ∧ x.size ≤ 1000 ∧ y.size ≤ 1000 ∧ PairsAt w' ab bs ∧ PairsAt w' ae es ∧ Turns (fun k => k = g) w w'
def wordL : List ByteArray := [⟨#[65]⟩, ⟨#[66]⟩, ⟨#[67]⟩, ⟨#[68]⟩, ⟨#[69]⟩, ⟨#[67]⟩, ⟨#[74]⟩, ⟨#[]⟩, ⟨#[65, 66]⟩]
def termL : List ByteArray := [⟨#[120]⟩, ⟨#[120]⟩, ⟨#[120]⟩, ⟨#[121]⟩, ⟨#[120]⟩, ⟨#[122]⟩, ⟨#[120]⟩, ⟨#[88]⟩, ⟨#[]⟩, ⟨#[120, 121]⟩]
theorem wordL_sh {x : ByteArray} (h : x ∈ wordL) : x.size ≤ 1000 := short_of (by decide) h
theorem termL_sh {x : ByteArray} (h : x ∈ termL) : x.size ≤ 1000 := short_of (by decide) h
/-- a program and the block that takes a draw's result -/
structure DS (w wr : World) (g : Nat) (a : Option Addr) (n cap p R q : Nat) (ab ae : Option Addr) (cb ce : Nat) (bs es : List Pr) : Prop where
  ent : ∃ p0, RdAt w g a n cap p0
  rd : RdAt wr g a n cap p
  res : Two wr R (.slice none 0 0) (.slice none 0 0)
  at_ : PAt wr q ab ae cb ce bs es
  tu : Turns (fun k => k = g) w wr
section
variable {w wr w' : World} {g : Nat} {a : Option Addr} {n cap p p' R q : Nat} {ab ae : Option Addr} {cb ce : Nat} {bs es : List Pr}
theorem DS.rne (h : DS w wr g a n cap p R q ab ae cb ce bs es) : R ≠ g := by
  rintro rfl
  have h1 := h.res
  have h2 := h.rd.here
  unfold Two at h1
  rw [h1] at h2
  simp at h2
theorem DS.draw (h : DS w wr g a n cap p R q ab ae cb ce bs es) (ht : Turns (fun k => k = g) wr w') (hr : RdAt w' g a n cap p') : DS w w' g a n cap p' R q ab ae cb ce bs es :=
  ⟨h.ent, hr, ht.rd h.res h.rne, h.at_.draw h.rd ht, h.tu.trans ht⟩
theorem DS.below (h : DS w wr g a n cap p R q ab ae cb ce bs es) (hb : Below wr.heap.size wr w') : DS w w' g a n cap p R q ab ae cb ce bs es := h.draw (.of_below hb) (h.rd.below hb)
theorem DS.alloc (h : DS w wr g a n cap p R q ab ae cb ce bs es) (o : Obj) : DS w (wr.alloc o) g a n cap p R q ab ae cb ce bs es := h.below ((Below.refl _ _).alloc (Nat.le_refl _) _)
theorem DS.drewD (h : DS w wr g a n cap p R q ab ae cb ce bs es) : DS w wr.drew g a n cap p R q ab ae cb ce bs es := h.below (Below.refl _ _).drew
/-- the result written -/
theorem DS.fin (h : DS w wr g a n cap p R q ab ae cb ce bs es) (hR : w.heap.size ≤ R) :
    PairsAt ((wr.setCell ⟨R, 0, none⟩ (.slice ab bs.length cb)).setCell ⟨R, 1, none⟩ (.slice ae es.length ce)) ab bs ∧ PairsAt ((wr.setCell ⟨R, 0, none⟩ (.slice ab bs.length cb)).setCell ⟨R, 1, none⟩ (.slice ae es.length ce)) ae es ∧ RdAt ((wr.setCell ⟨R, 0, none⟩ (.slice ab bs.length cb)).setCell ⟨R, 1, none⟩ (.slice ae es.length ce)) g a n cap p ∧ Turns (fun k => k = g) w ((wr.setCell ⟨R, 0, none⟩ (.slice ab bs.length cb)).setCell ⟨R, 1, none⟩ (.slice ae es.length ce)) := by
  have hn : ∀ s, Value.slice none 0 0 ≠ .string s := fun s h => by cases h
  obtain ⟨r0, r1, t0, t1, _⟩ := h.res.cells
  have htf := (h.tu.setNew (p := ⟨R, 0, none⟩) hR (.slice ab bs.length cb)).setNew (p := ⟨R, 1, none⟩) hR (.slice ae es.length ce)
  have hhf : ((wr.setCell ⟨R, 0, none⟩ (.slice ab bs.length cb)).setCell ⟨R, 1, none⟩ (.slice ae es.length ce)).heap[g]? = wr.heap[g]? := (Below.heap_setCell _ _ _ _ (Ne.symm h.rne)).trans (Below.heap_setCell _ _ _ _ (Ne.symm h.rne))
  obtain ⟨p0, h0⟩ := h.ent
  exact ⟨(h.at_.b.setZ r0 hn).setZ (p := ⟨R, 1, none⟩) (Two.set0 h.res _).cells.2.1 hn, (h.at_.e.setZ r0 hn).setZ (p := ⟨R, 1, none⟩) (Two.set0 h.res _).cells.2.1 hn, h0.turns htf (hhf.trans h.rd.here), htf⟩
theorem DS.after (h : DS w wr g a n cap p R q ab ae cb ce bs es) (hRq : q ≠ R) : ∀ u v, ((wr.setCell ⟨R, 0, none⟩ u).setCell ⟨R, 1, none⟩ v).cell? ⟨q, 0, none⟩ = some (.slice ab bs.length cb) ∧ ((wr.setCell ⟨R, 0, none⟩ u).setCell ⟨R, 1, none⟩ v).cell? ⟨q, 1, none⟩ = some (.slice ae es.length ce) := fun u v => by
  have := ((h.at_.two.far (p := ⟨R, 0, none⟩) hRq u).far (p := ⟨R, 1, none⟩) hRq v).cells
  exact ⟨this.1, this.2.1⟩
end

/-- what a draw off bytes leaves -/
def DrawB2 (w : World) (e : Ending) (w' : World) : Prop := ∃ bs es ab ae cb ce x y, e = .returned (.tuple #[.agg #[.slice ab (List.length bs) cb, .slice ae (List.length es) ce], .string x, .string y]) ∧ Sh bs ∧ Sh es ∧ x.size ≤ 1000 ∧ y.size ≤ 1000 ∧ PairsAt w' ab bs ∧ PairsAt w' ae es ∧ Below w.heap.size w w'

end Go.Proofs.YthkhccfemdjioaaDoor
end

section
/-
  The model's draws of a program and a name, of a program and two names, off bytes. Conditions: none but what bytes that came in are.
-/
namespace Go.Proofs.YthkhccfemdjioaaDoor
open Go.RowKit Go.Maps

section
variable {w wr w' : World} {g : Nat} {a : Option Addr} {n cap p p' R q : Nat} {ab ae : Option Addr} {cb ce : Nat} {bs es : List Pr}
theorem DS.far2 (h : DS w wr g a n cap p R q ab ae cb ce bs es) {b : Nat} (hb : q ≠ b) : ∀ u v, ((wr.setCell ⟨b, 0, none⟩ u).setCell ⟨b, 1, none⟩ v).cell? ⟨q, 0, none⟩ = some (.slice ab bs.length cb) ∧ ((wr.setCell ⟨b, 0, none⟩ u).setCell ⟨b, 1, none⟩ v).cell? ⟨q, 1, none⟩ = some (.slice ae es.length ce) := fun u v => by
  have := ((h.at_.two.far (p := ⟨b, 0, none⟩) hb u).far (p := ⟨b, 1, none⟩) hb v).cells
  exact ⟨this.1, this.2.1⟩
theorem edge_kept {w3 w4 : World} {g : Nat} (ht : Turns (fun k => k = g) ((w3.alloc (.cells #[.string ⟨#[]⟩, .string ⟨#[]⟩] 93)).drew) w4) (hg : g < w3.heap.size) :
    w4.heap[w3.heap.size]? = some (.cells #[.string ⟨#[]⟩, .string ⟨#[]⟩] 93) ∧ w4.cell? ⟨w3.heap.size, 0, none⟩ = some (.string ⟨#[]⟩) ∧ w4.cell? ⟨w3.heap.size, 1, none⟩ = some (.string ⟨#[]⟩) ∧ w4.frozen? ⟨w3.heap.size, 0, none⟩ = false ∧ w4.frozen? ⟨w3.heap.size, 1, none⟩ = false := by
  have h1 : w4.heap[w3.heap.size]? = (w3.alloc (.cells #[.string ⟨#[]⟩, .string ⟨#[]⟩] 93)).heap[w3.heap.size]? := ht.block w3.heap.size (show w3.heap.size < (w3.alloc _).heap.size by simp) (by omega)
  have h2 := h1.trans (heap_alloc_new _ _)
  exact ⟨h2, by simp [World.cell?, h2], by simp [World.cell?, h2], by simp [World.frozen?, h2], by simp [World.frozen?, h2]⟩
theorem cell_far2 {w : World} {b R i : Nat} (hb : b ≠ R) (u v : Value) : ((w.setCell ⟨R, 0, none⟩ u).setCell ⟨R, 1, none⟩ v).cell? ⟨b, i, none⟩ = w.cell? ⟨b, i, none⟩ :=
  World.cell?_of_block ((Below.heap_setCell _ _ _ _ hb).trans (Below.heap_setCell _ _ _ _ hb))
theorem cell_far2D {w : World} {b R i : Nat} (hb : b ≠ R) (u v : Value) : (((w.setCell ⟨R, 0, none⟩ u).setCell ⟨R, 1, none⟩ v).drew).cell? ⟨b, i, none⟩ = w.drew.cell? ⟨b, i, none⟩ := cell_far2 (w := w) hb u v
theorem DS.afterD {w wr : World} {g : Nat} {a : Option Addr} {n cap p R q : Nat} {ab ae : Option Addr} {cb ce : Nat} {bs es : List Pr} (h : DS w wr g a n cap p R q ab ae cb ce bs es) (hRq : q ≠ R) : ∀ u v, (((wr.setCell ⟨R, 0, none⟩ u).setCell ⟨R, 1, none⟩ v).drew).cell? ⟨q, 0, none⟩ = some (.slice ab bs.length cb) ∧ (((wr.setCell ⟨R, 0, none⟩ u).setCell ⟨R, 1, none⟩ v).drew).cell? ⟨q, 1, none⟩ = some (.slice ae es.length ce) := fun u v => h.after hRq u v
/-- a block that is newer than w3 written -/
theorem DS.setNew2 {w3 : World} (h : DS w w3 g a n cap p' R q ab ae cb ce bs es) (ht : Turns (fun k => k = g) w3 wr) (hr : RdAt wr g a n cap p) {b : Nat} (hb : w3.heap.size ≤ b) (u v : Value) : DS w ((wr.setCell ⟨b, 0, none⟩ u).setCell ⟨b, 1, none⟩ v) g a n cap p R q ab ae cb ce bs es := by
  have h1 := (ht.setNew (p := ⟨b, 0, none⟩) hb u).setNew (p := ⟨b, 1, none⟩) hb v
  have hg : g ≠ b := by have := h.rd.lt; omega
  exact h.draw h1 (h.rd.turns h1 (((Below.heap_setCell _ _ _ _ hg).trans (Below.heap_setCell _ _ _ _ hg)).trans hr.here))
end
/-- what a draw of a program and a text off bytes leaves -/
def DrawB1 (w : World) (e : Ending) (w' : World) : Prop := ∃ bs es ab ae cb ce x, e = .returned (.tuple #[.agg #[.slice ab (List.length bs) cb, .slice ae (List.length es) ce], .string x]) ∧ Sh bs ∧ Sh es ∧ x.size ≤ 1000 ∧ PairsAt w' ab bs ∧ PairsAt w' ae es ∧ Below w.heap.size w w'

set_option maxRecDepth 100000 in
set_option maxHeartbeats 1600000 in
theorem DrawOutOf_any (w : World) (a : Option Addr) (n cap : Nat) (h : BytesRaw w a n cap) :
    Calls Tryd.prog 88 #[.slice a n cap] w (DrawB1 w) := by
  have hA : Below w.heap.size w (w.alloc (.cells #[.slice none 0 0, .slice none 0 0] 32)) := (Below.refl _ _).alloc (Nat.le_refl _) _
  have hR : Two (w.alloc (.cells #[.slice none 0 0, .slice none 0 0] 32)) w.heap.size (.slice none 0 0) (.slice none 0 0) := heap_alloc_new _ _
  have hbA := h.below hA
  have H0 := Lib.hid (And.intro hA hR)
  clear h hA hR
  go_enter Tryd.func88, Tryd.ntmps88
  go_wp2_with fail
  refine (l15Open_any _ a n cap hbA).mono ?_
  rintro e w1 ⟨m, rfl, hrd, hb1⟩
  have hz : (w.alloc (.cells #[.slice none 0 0, .slice none 0 0] 32)).heap.size = w.heap.size + 1 := by simp
  rw [hz] at hrd ⊢
  have hR1 : Two w1 w.heap.size _ _ := H0.out.2.of_cells (hb1.block _ (by omega))
  have hall : Below w.heap.size w w1 := H0.out.1.trans (hb1.mono (by omega))
  have hg1 := hrd.lt
  have H1 := Lib.hid (And.intro hR1 (And.intro hall hrd))
  clear hR1 hall hb1 hbA hz
  go_wp2_with fail
  refine (l1Some_any w1 (w.heap.size + 1) a m cap 0 (by omega) hrd).mono ?_
  rintro e w2 ⟨bs, es, ab, ae, cb, ce, rfl, hSb, hSe, hPb, hPe, p1, hp1, hrd2, htu⟩
  have hs2 := htu.size
  have hW : Below w2.heap.size w2 (w2.alloc (.cells #[.slice ab bs.length cb, .slice ae es.length ce] 32)) := (Below.refl _ _).alloc (Nat.le_refl _) _
  have hDS : DS w1 (w2.alloc (.cells #[.slice ab bs.length cb, .slice ae es.length ce] 32)) (w.heap.size + 1) a m cap p1 w.heap.size w2.heap.size ab ae cb ce bs es :=
    ⟨⟨0, H1.out.2.2⟩, hrd2.below hW, (hW.block _ (by omega)).trans (htu.two H1.out.1 (by omega)), PAt.new ab ae cb ce hPb hPe, htu.trans (.of_below hW)⟩
  have H2 := Lib.hid hDS
  have HS := Lib.hid (And.intro hSb hSe)
  have hqR : w2.heap.size ≠ w.heap.size := by omega
  clear hDS hPb hPe hrd htu hW hSb hSe hrd2
  go_upto_region 3 with fail
  generalize w2.alloc (.cells #[.slice ab bs.length cb, .slice ae es.length ce] 32) = wP at *
  generalize w2.heap.size = q at *
  go_wp2
  go_region_held_law (fun w' => w'.cell? ⟨q, 0, none⟩ = some (.slice ab bs.length cb) ∧ w'.cell? ⟨q, 1, none⟩ = some (.slice ae es.length ce))
    (first
      | with_reducible exact ⟨H2.out.drewD.at_.c0, H2.out.drewD.at_.c1⟩
      | with_reducible exact ⟨m0, m1⟩
      | with_reducible exact H3.out.after hqR _ _)
    (first
      | (go_at_call 142; refine (l1Word_any wP.drew (w.heap.size + 1) a m cap p1 (by omega) H2.out.drewD.rd).mono ?_; rintro e w3 ⟨x, hx, rfl, hrd3, htu3⟩; have hxs := wordL_sh hx; have H3 := Lib.hid (H2.out.drewD.draw htu3 hrd3); obtain ⟨m0, m1⟩ := And.intro H3.out.at_.c0 H3.out.at_.c1; obtain ⟨r0, r1, t0, t1, _⟩ := H3.out.res.cells))
  all_goals
    have hn : ∀ s, Value.slice none 0 0 ≠ .string s := fun s h => by cases h
    have hb := (H3.out.at_.b.setZ r0 hn (u := .slice ab bs.length cb)).setZ (p := ⟨w.heap.size, 1, none⟩) (u := .slice ae es.length ce) (Two.set0 H3.out.res (.slice ab bs.length cb)).cells.2.1 hn
    have he := (H3.out.at_.e.setZ r0 hn (u := .slice ab bs.length cb)).setZ (p := ⟨w.heap.size, 1, none⟩) (u := .slice ae es.length ce) (Two.set0 H3.out.res (.slice ab bs.length cb)).cells.2.1 hn
    have hbw : Below w.heap.size w w3 := H1.out.2.1.trans (H3.out.tu.below H1.out.2.1.size (fun k hk => by omega))
    have hfin := (hbw.setCell (p := ⟨w.heap.size, 0, none⟩) (Nat.le_refl _) (.slice ab bs.length cb)).setCell (p := ⟨w.heap.size, 1, none⟩) (Nat.le_refl _) (.slice ae es.length ce)
    have HX := Lib.hid (And.intro hb (And.intro he hfin))
    clear hb he hbw hfin hn hrd3 htu3 hx m0 m1
    go_wp2
    refine bodyPost_ret (v := .tuple #[.agg #[.slice ab bs.length cb, .slice ae es.length ce], .string x]) (by simp [results, Tryd.results88, go_sem, r0, r1]) rfl ?_
    exact ⟨bs, es, ab, ae, cb, ce, x, rfl, HS.out.1, HS.out.2, hxs, HX.out.1, HX.out.2.1, HX.out.2.2⟩

end Go.Proofs.YthkhccfemdjioaaDoor
end

section
/-
  The model's draws of a program alone, and of a program and a text that is mostly a term, off bytes. Conditions: none but what bytes that came in are.
-/
namespace Go.Proofs.YthkhccfemdjioaaDoor
open Go.RowKit Go.Maps

/-- what a draw of a program alone leaves -/
def DrawB0 (w : World) (e : Ending) (w' : World) : Prop := ∃ bs es ab ae cb ce, e = .returned (.agg #[.slice ab (List.length bs) cb, .slice ae (List.length es) ce]) ∧ Sh bs ∧ Sh es ∧ PairsAt w' ab bs ∧ PairsAt w' ae es ∧ Below w.heap.size w w'
def Draw1 (w : World) (g : Nat) (e : Ending) (w' : World) : Prop := ∃ bs es ab ae cb ce x, e = .returned (.tuple #[.agg #[.slice ab (List.length bs) cb, .slice ae (List.length es) ce], .string x]) ∧ Sh bs ∧ Sh es ∧ x.size ≤ 1000 ∧ PairsAt w' ab bs ∧ PairsAt w' ae es ∧ Turns (fun k => k = g) w w'

set_option maxRecDepth 100000 in
set_option maxHeartbeats 1600000 in
theorem l3Of_any (w : World) (g : Nat) (a : Option Addr) (n cap p : Nat) (hp : p ≤ 700000) (h : RdAt w g a n cap p) :
    Calls Tryd.prog 105 #[.pointer (some ⟨g, 0, none⟩)] w (Draw1 w g) := by
  have hA : Below w.heap.size w (w.alloc (.cells #[.slice none 0 0, .slice none 0 0] 32)) := (Below.refl _ _).alloc (Nat.le_refl _) _
  have hR : Two (w.alloc (.cells #[.slice none 0 0, .slice none 0 0] 32)) w.heap.size (.slice none 0 0) (.slice none 0 0) := heap_alloc_new _ _
  have hgl := h.lt
  have hrA := h.below hA
  have H0 := Lib.hid (And.intro h (And.intro (Turns.of_below (S := fun k => k = g) hA) hR))
  clear h hA hR
  go_enter Tryd.func105, Tryd.ntmps105
  go_wp2_with fail
  refine (l1Some_any _ g a n cap p (by omega) hrA).mono ?_
  rintro e w1 ⟨bs, es, ab, ae, cb, ce, rfl, hSb, hSe, hPb, hPe, p1, hp1, hrd, htu⟩
  have hs1 := htu.size
  simp at hs1
  have hres1 := htu.rd H0.out.2.2 (by omega : w.heap.size ≠ g)
  have hW : Below w1.heap.size w1 (w1.alloc (.cells #[.slice ab bs.length cb, .slice ae es.length ce] 32)) := (Below.refl _ _).alloc (Nat.le_refl _) _
  have hDS : DS w (w1.alloc (.cells #[.slice ab bs.length cb, .slice ae es.length ce] 32)) g a n cap p1 w.heap.size w1.heap.size ab ae cb ce bs es :=
    ⟨⟨p, H0.out.1⟩, hrd.below hW, (hW.block _ (by omega)).trans hres1, PAt.new ab ae cb ce hPb hPe, H0.out.2.1.trans (htu.trans (.of_below hW))⟩
  have hrd1 := hDS.rd
  have H1 := Lib.hid (And.intro hDS (And.intro hSb hSe))
  have hqR : w1.heap.size ≠ w.heap.size := by omega
  clear hDS hPb hPe hrd htu hW hSb hSe hrA hres1 H0
  go_upto_region 3 with fail
  generalize w1.alloc (.cells #[.slice ab bs.length cb, .slice ae es.length ce] 32) = wP at *
  generalize w1.heap.size = q at *
  have H2 := Lib.hid H1.out.1
  have HS := Lib.hid H1.out.2
  clear H1 hrd1
  go_wp2
  go_region_held_law (fun w' => w'.cell? ⟨q, 0, none⟩ = some (.slice ab bs.length cb) ∧ w'.cell? ⟨q, 1, none⟩ = some (.slice ae es.length ce))
    (first
      | with_reducible exact ⟨H2.out.drewD.at_.c0, H2.out.drewD.at_.c1⟩
      | with_reducible exact ⟨m0, m1⟩
      | with_reducible exact H3.out.after hqR _ _)
    (first
      | (go_at_call 150; refine (l2Of_any wP.drew g a n cap p1 (by omega) H2.out.drewD.rd).mono ?_; rintro e w3 ⟨y, hy, rfl, hrd3, htu3⟩; have hys := termL_sh hy; have H3 := Lib.hid (H2.out.drewD.draw htu3 hrd3); obtain ⟨m0, m1⟩ := And.intro H3.out.at_.c0 H3.out.at_.c1; obtain ⟨r0, r1, t0, t1, _⟩ := H3.out.res.cells)
      )
  all_goals
    obtain ⟨hf1, hf2, _, hf4⟩ := H3.out.fin (Nat.le_refl _)
    have HX := Lib.hid (And.intro hf1 (And.intro hf2 hf4))
    clear hf1 hf2 hf4 hrd3 htu3 hy m0 m1
    go_wp2
    refine bodyPost_ret (v := .tuple #[.agg #[.slice ab bs.length cb, .slice ae es.length ce], .string y]) (by simp [results, Tryd.results105, go_sem, r0, r1]) rfl ?_
    exact ⟨bs, es, ab, ae, cb, ce, y, rfl, HS.out.1, HS.out.2, hys, HX.out.1, HX.out.2.1, HX.out.2.2⟩
set_option maxRecDepth 100000 in
set_option maxHeartbeats 1600000 in
theorem DrawIsTidy_any (w : World) (a : Option Addr) (n cap : Nat) (h : BytesRaw w a n cap) :
    Calls Tryd.prog 51 #[.slice a n cap] w (DrawB0 w) := by
  have hA : Below w.heap.size w (w.alloc (.cells #[.slice none 0 0, .slice none 0 0] 32)) := (Below.refl _ _).alloc (Nat.le_refl _) _
  have hR : Two (w.alloc (.cells #[.slice none 0 0, .slice none 0 0] 32)) w.heap.size (.slice none 0 0) (.slice none 0 0) := heap_alloc_new _ _
  have hbA := h.below hA
  have H0 := Lib.hid (And.intro hA hR)
  clear h hA hR
  go_enter Tryd.func51, Tryd.ntmps51
  go_wp2_with fail
  refine (l15Open_any _ a n cap hbA).mono ?_
  rintro e w1 ⟨m, rfl, hrd, hb1⟩
  have hz : (w.alloc (.cells #[.slice none 0 0, .slice none 0 0] 32)).heap.size = w.heap.size + 1 := by simp
  rw [hz] at hrd ⊢
  have hR1 : Two w1 w.heap.size _ _ := H0.out.2.of_cells (hb1.block _ (by omega))
  have hall : Below w.heap.size w w1 := H0.out.1.trans (hb1.mono (by omega))
  have H1 := Lib.hid (And.intro hR1 hall)
  have hg1 := hrd.lt
  clear hR1 hall hb1 hbA
  go_wp2_with fail
  refine (l1Some_any w1 (w.heap.size + 1) a m cap 0 (by omega) hrd).mono ?_
  rintro e w2 ⟨bs, es, ab, ae, cb, ce, rfl, hSb, hSe, hPb, hPe, p1, hp1, hrd2, htu⟩
  have hR2 : Two w2 w.heap.size _ _ := htu.two H1.out.1 (by omega)
  have hn : ∀ s, Value.slice none 0 0 ≠ .string s := fun s h => by cases h
  obtain ⟨r0, r1, t0, t1, _⟩ := hR2.cells
  have hb := (hPb.setZ r0 hn (u := .slice ab bs.length cb)).setZ (p := ⟨w.heap.size, 1, none⟩) (u := .slice ae es.length ce) (Two.set0 hR2 (.slice ab bs.length cb)).cells.2.1 hn
  have he := (hPe.setZ r0 hn (u := .slice ab bs.length cb)).setZ (p := ⟨w.heap.size, 1, none⟩) (u := .slice ae es.length ce) (Two.set0 hR2 (.slice ab bs.length cb)).cells.2.1 hn
  have hbw : Below w.heap.size w w2 := H1.out.2.trans (htu.below H1.out.2.size (fun k hk => by omega))
  have hfin := (hbw.setCell (p := ⟨w.heap.size, 0, none⟩) (Nat.le_refl _) (.slice ab bs.length cb)).setCell (p := ⟨w.heap.size, 1, none⟩) (Nat.le_refl _) (.slice ae es.length ce)
  have HX := Lib.hid (And.intro hSb (And.intro hSe (And.intro hb (And.intro he hfin))))
  clear hPb hPe hb he hbw hfin hSb hSe htu hR2 hn hrd hrd2
  go_wp2
  refine bodyPost_ret (v := .agg #[.slice ab bs.length cb, .slice ae es.length ce]) (by simp [results, Tryd.results51, go_sem, r0, r1]) rfl ?_
  exact ⟨bs, es, ab, ae, cb, ce, rfl, HX.out.1, HX.out.2.1, HX.out.2.2.1, HX.out.2.2.2.1, HX.out.2.2.2.2⟩
set_option maxRecDepth 100000 in
set_option maxHeartbeats 1600000 in
theorem DrawFactsOf_any (w : World) (a : Option Addr) (n cap : Nat) (h : BytesRaw w a n cap) :
    Calls Tryd.prog 48 #[.slice a n cap] w (DrawB1 w) := by
  have hA : Below w.heap.size w (w.alloc (.cells #[.slice none 0 0, .slice none 0 0] 32)) := (Below.refl _ _).alloc (Nat.le_refl _) _
  have hR : Two (w.alloc (.cells #[.slice none 0 0, .slice none 0 0] 32)) w.heap.size (.slice none 0 0) (.slice none 0 0) := heap_alloc_new _ _
  have hbA := h.below hA
  have H0 := Lib.hid (And.intro hA hR)
  clear h hA hR
  go_enter Tryd.func48, Tryd.ntmps48
  go_wp2_with fail
  refine (l15Open_any _ a n cap hbA).mono ?_
  rintro e w1 ⟨m, rfl, hrd, hb1⟩
  have hz : (w.alloc (.cells #[.slice none 0 0, .slice none 0 0] 32)).heap.size = w.heap.size + 1 := by simp
  rw [hz] at hrd ⊢
  have hR1 : Two w1 w.heap.size _ _ := H0.out.2.of_cells (hb1.block _ (by omega))
  have hall : Below w.heap.size w w1 := H0.out.1.trans (hb1.mono (by omega))
  have H1 := Lib.hid (And.intro hR1 hall)
  have hg1 := hrd.lt
  clear hR1 hall hb1 hbA
  go_wp2_with fail
  refine (l3Of_any w1 (w.heap.size + 1) a m cap 0 (by omega) hrd).mono ?_
  rintro e w2 ⟨bs, es, ab, ae, cb, ce, x, rfl, hSb, hSe, hxs, hPb, hPe, htu⟩
  have hR2 : Two w2 w.heap.size _ _ := htu.two H1.out.1 (by omega)
  have hn : ∀ s, Value.slice none 0 0 ≠ .string s := fun s h => by cases h
  obtain ⟨r0, r1, t0, t1, _⟩ := hR2.cells
  have hb := (hPb.setZ r0 hn (u := .slice ab bs.length cb)).setZ (p := ⟨w.heap.size, 1, none⟩) (u := .slice ae es.length ce) (Two.set0 hR2 (.slice ab bs.length cb)).cells.2.1 hn
  have he := (hPe.setZ r0 hn (u := .slice ab bs.length cb)).setZ (p := ⟨w.heap.size, 1, none⟩) (u := .slice ae es.length ce) (Two.set0 hR2 (.slice ab bs.length cb)).cells.2.1 hn
  have hbw : Below w.heap.size w w2 := H1.out.2.trans (htu.below H1.out.2.size (fun k hk => by omega))
  have hfin := (hbw.setCell (p := ⟨w.heap.size, 0, none⟩) (Nat.le_refl _) (.slice ab bs.length cb)).setCell (p := ⟨w.heap.size, 1, none⟩) (Nat.le_refl _) (.slice ae es.length ce)
  have HX := Lib.hid (And.intro hSb (And.intro hSe (And.intro hb (And.intro he hfin))))
  clear hPb hPe hb he hbw hfin hSb hSe htu hR2 hn hrd
  go_wp2
  refine bodyPost_ret (v := .tuple #[.agg #[.slice ab bs.length cb, .slice ae es.length ce], .string x]) (by simp [results, Tryd.results48, go_sem, r0, r1]) rfl ?_
  exact ⟨bs, es, ab, ae, cb, ce, x, rfl, HX.out.1, HX.out.2.1, hxs, HX.out.2.2.1, HX.out.2.2.2.1, HX.out.2.2.2.2⟩
end Go.Proofs.YthkhccfemdjioaaDoor
end

section
/-
  The model's draws of picks, of a program and a run of it, off bytes. Conditions: at most 600000 numbers drawn before.
-/
namespace Go.Proofs.YthkhccfemdjioaaDoor
open Go.RowKit Go.Maps

def pickN : List Int := [5, 8, 3, 0, 12]
theorem pickN_in : ∀ x ∈ pickN, 0 ≤ x ∧ x ≤ 12 := by decide
/-- what a draw of picks leaves -/
def PicksDraw (w : World) (g : Nat) (a : Option Addr) (n cap p : Nat) (e : Ending) (w' : World) : Prop := ∃ ns v, e = .returned v ∧ List.length ns ≤ 12 ∧ w'.ownsRow w.heap.size 3 1 v (List.length ns) (ns.map (Value.int .i64)) ∧ Drawn w w' g a n cap p 13

set_option maxRecDepth 100000 in
set_option maxHeartbeats 1600000 in
theorem l2Picks_any (w : World) (g : Nat) (a : Option Addr) (n cap p : Nat) (hp : p ≤ 900000) (h : RdAt w g a n cap p) :
    Calls Tryd.prog 97 #[.pointer (some ⟨g, 0, none⟩)] w (PicksDraw w g a n cap p) := by
  have hgl := h.lt
  obtain ⟨i0, hi, hz0, hz1, hz2⟩ := info_parts Tryd.infoInt
  have hA : Below w.heap.size w (w.alloc (.cells #[] 3)) := (Below.refl _ _).alloc (Nat.le_refl _) _
  have hrA := h.below hA
  have ho := World.ownsRow_made w (base := w.heap.size) (e := 3) (size := 1) #[] 0 (Nat.le_refl _) (Nat.zero_le _) rfl
  have H0 := Lib.hid (And.intro h (And.intro (Turns.of_below (S := fun k => k = g) hA) ho))
  clear h hA ho
  go_enter Tryd.func97, Tryd.ntmps97
  go_upto_region 2 with fail
  generalize hwA : w.alloc (.cells #[] 3) = wA at *
  have HSA := Lib.hid (show wA.heap.size = w.heap.size + 1 by rw [← hwA]; simp)
  clear hwA
  go_wp2_with fail
  refine (num_new wA g a n cap p [5, 8, 3, 0, 12] (by omega) hrA (by decide) (by decide)).mono ?_
  rintro e w2 ⟨nn, hnn, rfl, hrd2, htu2⟩
  obtain ⟨hn0, hn12⟩ : 0 ≤ nn ∧ nn ≤ 12 := pickN_in nn hnn
  obtain ⟨N, rfl⟩ := Int.eq_ofNat_of_zero_le hn0
  have hs2 : w.heap.size + 1 ≤ w2.heap.size := by have h1 := htu2.size; have h2 := HSA.out; omega
  have ho2 := htu2.row H0.out.2.2 (fun b hb e => by simp [Value.ownBlock] at hb; omega)
  have HX := Lib.hid (And.intro hrd2 (And.intro (H0.out.2.1.trans htu2) ho2))
  clear hrA htu2 hrd2 ho2 hnn
  go_wp2
  go_loopw [8, 3] (fun i v wr => ∃ (k : Nat) (ns : List Int), k ≤ N ∧ i = .int .i64 k ∧ ns.length = k ∧ RdAt wr g a n cap (p + 1 + k) ∧ Turns (fun k => k = g) w wr ∧ wr.ownsRow w.heap.size 3 1 v k (ns.map (Value.int .i64))) (fun i _ _ => N - (intOf i).toNat)
  case atStart => exact ⟨0, [], Nat.zero_le _, rfl, rfl, HX.out.1, HX.out.2.1, HX.out.2.2⟩
  case round =>
    obtain ⟨k, ns, hk, rfl, hl, hr, ht, ho⟩ := hrel
    obtain ⟨wa, wc, rfl⟩ := own_form ho
    have HR := Lib.hid (And.intro hr (And.intro ht (And.intro ho hl)))
    clear hr ht ho hl
    by_cases hlt : k < N
    · go_wp2_with fail
      refine (pick_any wr g a n cap (p + 1 + k) 4 (by decide) (by decide) (by omega) HR.out.1).mono ?_
      rintro e w4 ⟨r, rfl, _, _, hrd4, htu4⟩
      have ho4 := htu4.row HR.out.2.2.1 (fun b hb e => by
        have h1 := (HR.out.2.2.1.lt b hb).1
        omega)
      have H4 := Lib.hid (And.intro hrd4 (And.intro (HR.out.2.1.trans htu4) ho4))
      have hs4 := (HR.out.2.1.trans htu4).size
      clear hrd4 htu4 ho4
      go_wp2_with (at_builtin; refine wpList_append_own _ rfl _ _ 59 rfl w.heap.size 3 i0 (.int .i64 0) 1 8 Tryd.underlying59 hi hz0 hz1 hz2 rfl (by decide) _ _ _ rfl (H4.out.2.2.alloc _) ⟨w4.heap.size, 0, none⟩ 1 1 [.int .i64 r] rfl rfl (cell_one_new _ _ _) (one_one _ rfl) (by unfold maxLen; omega) (by omega) (by simp; omega) ?_; intro v' w5 hown5 hgrow5 _)
      have hgr : (Value.slice wa k wc).ownBlock ≠ some g := fun e => by
        have h1 := (H4.out.2.2.lt g e).1
        omega
      have htA : Turns (fun k => k = g) w (w4.alloc (.cells #[.int .i64 r] 3)) := H4.out.2.1.trans (Turns.alloc _ _)
      have ht5 : Turns (fun k => k = g) w w5 := htA.then_ (Turns.of_grown hgrow5) (fun _ _ h => h) (fun b hb e => by
        have h1 := (H4.out.2.2.lt b e.symm).1
        omega)
      have hgl4 := H4.out.1.lt
      have hh5 : w5.heap[g]? = some (.cells #[.slice a n cap, .int .i64 ((p + 1 + k + 1 : Nat) : Int)] 158 (0, 0)) :=
        ((hgrow5.block g (by simp; omega) (fun e => hgr e.symm)).trans (Below.heap_alloc _ _ _ hgl4)).trans H4.out.1.here
      have HZ := Lib.hid (And.intro (H0.out.1.turns ht5 hh5) (And.intro ht5 hown5))
      have HL := Lib.hid HR.out.2.2.2
      clear hgr htA ht5 hgl4 hh5 hown5 hgrow5 HR
      go_roundw
      case rel => exact ⟨k + 1, ns ++ [r], by omega, by go_num, by simp [HL.out], HZ.out.1, HZ.out.2.1, by simpa using HZ.out.2.2⟩
      case measure => simp [intOf]; omega
    · obtain rfl : k = N := by omega
      go_wp2
      go_ret
      refine ⟨ns, _, rfl, by have := HR.out.2.2.2; omega, ?_, p + 1 + k, by omega, HR.out.1, HR.out.2.1⟩
      rw [HR.out.2.2.2]; exact HR.out.2.2.1
/-- numbers in memory of one's own -/
theorem ints_of_own {w : World} {base n c : Nat} {a : Option Addr} {ns : List Int} (hn : n = ns.length) (h : w.ownsRow base 3 1 (.slice a n c) n (ns.map (Value.int .i64))) (hl : ns.length ≤ 1048576) : IntsAt w a ns := by
  subst hn
  refine ⟨hl, fun i hi => ?_⟩
  obtain ⟨_, ⟨hv, h0⟩ | ⟨g, cap, cur, hv, hg, hh, hm, hc, hs, ht⟩⟩ := h
  · omega
  · simp only [Value.slice.injEq, true_and] at hv
    refine ⟨g, 0, hv.1, (Array.getElem?_eq_some_iff.1 hh).1, ?_⟩
    rw [Nat.zero_add, cell_of_row w g _ _ _ _ hh]
    have h1 : (cur.toList.take (ns.length * 1))[i]? = some (.int .i64 (numAt ns i)) := by
      rw [ht]
      simp [numAt, hi]
    rw [List.getElem?_take, if_pos (by omega)] at h1
    simpa using h1
/-- the model's walk, short -/
theorem WalkRun_specS (w : World) (bs es : List Pr) (ab ae : Option Addr) (cb ce : Nat) (ns : List Int) (an : Option Addr) (cn : Nat) (hpb : PairsAt w ab bs) (hpe : PairsAt w ae es) (hpn : IntsAt w an ns) :
    Calls Tryd.prog 46 #[.agg #[.slice ab bs.length cb, .slice ae es.length ce], .slice an ns.length cn] w fun e w' => ∃ r ok, e = .returned (.tuple #[.string r, .bool ok]) ∧ r.size ≤ 29 ∧ Below w.heap.size w w' :=
  (WalkRun_spec w bs es ab ae cb ce ns an cn hpb hpe hpn).mono fun e w' h => by
    obtain ⟨rfl, hb⟩ := h
    cases hv : validB bs es
    · exact ⟨e0, false, by rw [walkV_no1 hv], by decide, hb⟩
    · cases hp : picksOk ns
      · exact ⟨e0, false, by rw [walkV_no2 hp], by decide, hb⟩
      · have hV : Valid bs es := by simpa [validB] using hv
        have h1 := (full_run hV ns).2
        have h2 := hV.b.hi
        exact ⟨_, true, by rw [walkV_yes hv hp], by omega, hb⟩
end Go.Proofs.YthkhccfemdjioaaDoor
end

section
/-
  The model's draw of a program and a run of it, off bytes. Conditions: at most 600000 numbers drawn before.
-/
namespace Go.Proofs.YthkhccfemdjioaaDoor
open Go.RowKit Go.Maps

def runL : List ByteArray := [⟨#[65]⟩, ⟨#[66]⟩, ⟨#[74]⟩, ⟨#[69]⟩]
theorem runL_one : ∀ y ∈ runL, y.size = 1 := by decide
set_option maxRecDepth 100000 in
set_option maxHeartbeats 1600000 in
theorem l2Draw_any (w : World) (g : Nat) (a : Option Addr) (n cap p : Nat) (hp : p ≤ 600000) (h : RdAt w g a n cap p) :
    Calls Tryd.prog 90 #[.pointer (some ⟨g, 0, none⟩)] w (Draw1 w g) := by
  have hA : Below w.heap.size w (w.alloc (.cells #[.slice none 0 0, .slice none 0 0] 32)) := (Below.refl _ _).alloc (Nat.le_refl _) _
  have hR : Two (w.alloc (.cells #[.slice none 0 0, .slice none 0 0] 32)) w.heap.size (.slice none 0 0) (.slice none 0 0) := heap_alloc_new _ _
  have hgl := h.lt
  have hrA := h.below hA
  have H0 := Lib.hid (And.intro h (And.intro (Turns.of_below (S := fun k => k = g) hA) hR))
  clear h hA hR
  go_enter Tryd.func90, Tryd.ntmps90
  go_wp2_with fail
  refine (l1Some_any _ g a n cap p (by omega) hrA).mono ?_
  rintro e w1 ⟨bs, es, ab, ae, cb, ce, rfl, hSb, hSe, hPb, hPe, p1, hp1, hrd, htu⟩
  have hs1 := htu.size
  simp at hs1
  have hres1 := htu.rd H0.out.2.2 (by omega : w.heap.size ≠ g)
  have hW : Below w1.heap.size w1 (w1.alloc (.cells #[.slice ab bs.length cb, .slice ae es.length ce] 32)) := (Below.refl _ _).alloc (Nat.le_refl _) _
  have hDS : DS w (w1.alloc (.cells #[.slice ab bs.length cb, .slice ae es.length ce] 32)) g a n cap p1 w.heap.size w1.heap.size ab ae cb ce bs es :=
    ⟨⟨p, H0.out.1⟩, hrd.below hW, (hW.block _ (by omega)).trans hres1, PAt.new ab ae cb ce hPb hPe, H0.out.2.1.trans (htu.trans (.of_below hW))⟩
  have hrd1 := hDS.rd
  have H1 := Lib.hid (And.intro hDS (And.intro hSb hSe))
  have hqR : w1.heap.size ≠ w.heap.size := by omega
  clear hDS hPb hPe hrd htu hW hSb hSe hrA hres1 H0
  go_upto_region 3 with fail
  generalize w1.alloc (.cells #[.slice ab bs.length cb, .slice ae es.length ce] 32) = wP at *
  generalize w1.heap.size = q at *
  have H2 := Lib.hid H1.out.1
  have HS := Lib.hid H1.out.2
  clear H1 hrd1
  have hqw := H2.out.at_.lt
  go_wp2
  go_region_held_law (fun w' => w'.cell? ⟨q, 0, none⟩ = some (.slice ab bs.length cb) ∧ w'.cell? ⟨q, 1, none⟩ = some (.slice ae es.length ce))
    (first
      | with_reducible exact ⟨H2.out.drewD.at_.c0, H2.out.drewD.at_.c1⟩
      | with_reducible exact ⟨m0, m1⟩
      | with_reducible exact ⟨k0, k1⟩)
    (first
      | (go_at_call 97; refine (l2Picks_any wP.drew g a n cap p1 (by omega) H2.out.drewD.rd).mono ?_; rintro e w3 ⟨ns, v, rfl, hnl, ho, p2, hp2, hrd3, htu3⟩; have H3 := Lib.hid (H2.out.drewD.draw htu3 hrd3); obtain ⟨an, cn, rfl⟩ := own_form ho; have HI := Lib.hid (ints_of_own rfl ho (by omega)); obtain ⟨m0, m1⟩ := And.intro H3.out.at_.c0 H3.out.at_.c1)
      | (go_at_call 46; refine (WalkRun_specS w3 bs es ab ae cb ce ns an cn H3.out.at_.b H3.out.at_.e HI.out).mono ?_; rintro e w4 ⟨r, ok, rfl, hr29, hb4⟩; have H4 := Lib.hid (H3.out.below hb4); obtain ⟨k0, k1⟩ := And.intro H4.out.at_.c0 H4.out.at_.c1)
      )
  have hrd4 := H4.out.rd
  clear ho hrd3 htu3 hb4 m0 m1 k0 k1 HI H3
  go_wp2_with fail
  refine (pick_any w4 g a n cap p2 14 (by decide) (by decide) (by omega) hrd4).mono ?_
  rintro e w5 ⟨r0, rfl, _, _, hrd5, htu5⟩
  have H5 := Lib.hid (H4.out.draw htu5 hrd5)
  obtain ⟨q0, q1⟩ := And.intro H5.out.at_.c0 H5.out.at_.c1
  have hg5 := hrd5.lt
  clear hrd4 hrd5 htu5 H4 H2
  by_cases e0 : r0 = 0
  · subst e0
    have HE := Lib.hid (show ∀ o, ((w5.alloc o).drew).heap[w5.heap.size]? = some o from fun o => heap_alloc_new w5 o)
    go_wp2
    go_region_held_law (fun w' => w'.cell? ⟨q, 0, none⟩ = some (.slice ab bs.length cb) ∧ w'.cell? ⟨q, 1, none⟩ = some (.slice ae es.length ce))
      (first
        | with_reducible exact ⟨H5.out.drewD.at_.c0, H5.out.drewD.at_.c1⟩
        | with_reducible exact ⟨(H5.out.alloc _).drewD.at_.c0, (H5.out.alloc _).drewD.at_.c1⟩
        | with_reducible exact ⟨m0, m1⟩
        | with_reducible exact H6.out.after hqR _ _)
      (first
        | (go_at_call 73; refine (of_at _ g a n cap (p2 + 1) _ runL _ (by with_reducible exact HE.out _) (by rfl) (by omega) (by omega) (DS.rd (H5.out.alloc _).drewD) (by decide) (by decide)).mono ?_; rintro e w6 ⟨y, hy, rfl, hrd6, htu6⟩; have hys : y.size = 1 := runL_one y hy; have t0 : ¬ (r.size + y.size > 9223372036854775807) := (by omega); have H6 := Lib.hid ((H5.out.alloc _).drewD.draw htu6 hrd6); obtain ⟨m0, m1⟩ := And.intro H6.out.at_.c0 H6.out.at_.c1; obtain ⟨r0, r1, t1, t2, _⟩ := H6.out.res.cells; clear hrd6 htu6 hy))
    all_goals
      have hsz : (r ++ y).size ≤ 1000 := by rw [ByteArray.size_append]; omega
      obtain ⟨hf1, hf2, _, hf4⟩ := H6.out.fin (Nat.le_refl _)
      have HX := Lib.hid (And.intro hf1 (And.intro hf2 hf4))
      clear hf1 hf2 hf4 m0 m1
      go_wp2
      refine bodyPost_ret (v := .tuple #[.agg #[.slice ab bs.length cb, .slice ae es.length ce], .string (r ++ y)]) (by simp [results, Tryd.results90, go_sem, r0, r1]) rfl ?_
      exact ⟨bs, es, ab, ae, cb, ce, r ++ y, rfl, HS.out.1, HS.out.2, hsz, HX.out.1, HX.out.2.1, HX.out.2.2⟩
  · have d0 : (r0 == 0) = false := by simpa using e0
    clear e0
    obtain ⟨s0, s1, t1, t2, _⟩ := H5.out.res.cells
    obtain ⟨hf1, hf2, _, hf4⟩ := H5.out.fin (Nat.le_refl _)
    have HX := Lib.hid (And.intro hf1 (And.intro hf2 hf4))
    clear hf1 hf2 hf4
    go_wp2
    refine bodyPost_ret (v := .tuple #[.agg #[.slice ab bs.length cb, .slice ae es.length ce], .string r]) (by simp [results, Tryd.results90, go_sem, s0, s1]) rfl ?_
    exact ⟨bs, es, ab, ae, cb, ce, r, rfl, HS.out.1, HS.out.2, by omega, HX.out.1, HX.out.2.1, HX.out.2.2⟩
set_option maxRecDepth 100000 in
set_option maxHeartbeats 1600000 in
theorem DrawIsRun_any (w : World) (a : Option Addr) (n cap : Nat) (h : BytesRaw w a n cap) :
    Calls Tryd.prog 38 #[.slice a n cap] w (DrawB1 w) := by
  have hA : Below w.heap.size w (w.alloc (.cells #[.slice none 0 0, .slice none 0 0] 32)) := (Below.refl _ _).alloc (Nat.le_refl _) _
  have hR : Two (w.alloc (.cells #[.slice none 0 0, .slice none 0 0] 32)) w.heap.size (.slice none 0 0) (.slice none 0 0) := heap_alloc_new _ _
  have hbA := h.below hA
  have H0 := Lib.hid (And.intro hA hR)
  clear h hA hR
  go_enter Tryd.func38, Tryd.ntmps38
  go_wp2_with fail
  refine (l15Open_any _ a n cap hbA).mono ?_
  rintro e w1 ⟨m, rfl, hrd, hb1⟩
  have hz : (w.alloc (.cells #[.slice none 0 0, .slice none 0 0] 32)).heap.size = w.heap.size + 1 := by simp
  rw [hz] at hrd ⊢
  have hR1 : Two w1 w.heap.size _ _ := H0.out.2.of_cells (hb1.block _ (by omega))
  have hall : Below w.heap.size w w1 := H0.out.1.trans (hb1.mono (by omega))
  have H1 := Lib.hid (And.intro hR1 hall)
  have hg1 := hrd.lt
  clear hR1 hall hb1 hbA
  go_wp2_with fail
  refine (l2Draw_any w1 (w.heap.size + 1) a m cap 0 (by omega) hrd).mono ?_
  rintro e w2 ⟨bs, es, ab, ae, cb, ce, x, rfl, hSb, hSe, hxs, hPb, hPe, htu⟩
  have hR2 : Two w2 w.heap.size _ _ := htu.two H1.out.1 (by omega)
  have hn : ∀ s, Value.slice none 0 0 ≠ .string s := fun s h => by cases h
  obtain ⟨r0, r1, t0, t1, _⟩ := hR2.cells
  have hb := (hPb.setZ r0 hn (u := .slice ab bs.length cb)).setZ (p := ⟨w.heap.size, 1, none⟩) (u := .slice ae es.length ce) (Two.set0 hR2 (.slice ab bs.length cb)).cells.2.1 hn
  have he := (hPe.setZ r0 hn (u := .slice ab bs.length cb)).setZ (p := ⟨w.heap.size, 1, none⟩) (u := .slice ae es.length ce) (Two.set0 hR2 (.slice ab bs.length cb)).cells.2.1 hn
  have hbw : Below w.heap.size w w2 := H1.out.2.trans (htu.below H1.out.2.size (fun k hk => by omega))
  have hfin := (hbw.setCell (p := ⟨w.heap.size, 0, none⟩) (Nat.le_refl _) (.slice ab bs.length cb)).setCell (p := ⟨w.heap.size, 1, none⟩) (Nat.le_refl _) (.slice ae es.length ce)
  have HX := Lib.hid (And.intro hSb (And.intro hSe (And.intro hb (And.intro he hfin))))
  clear hPb hPe hb he hbw hfin hSb hSe htu hR2 hn hrd
  go_wp2
  refine bodyPost_ret (v := .tuple #[.agg #[.slice ab bs.length cb, .slice ae es.length ce], .string x]) (by simp [results, Tryd.results38, go_sem, r0, r1]) rfl ?_
  exact ⟨bs, es, ab, ae, cb, ce, x, rfl, HX.out.1, HX.out.2.1, hxs, HX.out.2.2.1, HX.out.2.2.2.1, HX.out.2.2.2.2⟩
end Go.Proofs.YthkhccfemdjioaaDoor
end
