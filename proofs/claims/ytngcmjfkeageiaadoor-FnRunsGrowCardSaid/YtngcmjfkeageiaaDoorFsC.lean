import Derived.Test.YtngcmjfkeageiaaDoorFsA
import Derived.Test.YtngcmjfkeageiaaDoorSomeS
import Derived.Deep.CutRange
section
/-
  The model's l15Open: a source of numbers over bytes that came in. Conditions: none but what bytes that came in are.
-/
namespace Go.Proofs.YtngcmjfkeageiaaDoor
open Go.RowKit Go.Maps

/-- bytes that came in -/
structure BytesRaw (w : World) (a : Option Addr) (n cap : Nat) : Prop where
  le : n ≤ cap
  most : cap ≤ maxLen
  byte : ∀ i, i < n → ∃ b off, ∃ v : Int, a = some ⟨b, off, none⟩ ∧ b < w.heap.size ∧ 0 ≤ v ∧ v ≤ 255 ∧ w.cell? ⟨b, off + i, none⟩ = some (.int .u8 v)
theorem BytesRaw.below {w w' : World} {a : Option Addr} {n cap : Nat} (h : BytesRaw w a n cap) (hb : Below w.heap.size w w') : BytesRaw w' a n cap :=
  ⟨h.le, h.most, fun i hi => by
    obtain ⟨b, off, v, e, h2, h3, h4, h5⟩ := h.byte i hi
    exact ⟨b, off, v, e, Nat.lt_of_lt_of_le h2 hb.size, h3, h4, (hb.cell (p := ⟨b, off + i, none⟩) h2).trans h5⟩⟩
theorem BytesRaw.rd {w : World} {a : Option Addr} {n m cap : Nat} (h : BytesRaw w a n cap) (hm : m ≤ n) (h2 : m ≤ 2000) : RdAt (w.alloc (.cells #[.slice a m cap, .int .i64 0] 180)) w.heap.size a m cap 0 :=
  ⟨by simpa using heap_alloc_new w (.cells #[.slice a m cap, .int .i64 0] 180), h2, fun i hi => by
    obtain ⟨b, off, v, e, g2, g3, g4, g5⟩ := h.byte i (by omega)
    have hb : Below w.heap.size w (w.alloc (.cells #[.slice a m cap, .int .i64 0] 180)) := (Below.refl _ _).alloc (Nat.le_refl _) _
    exact ⟨b, off, v, e, by omega, Nat.lt_of_lt_of_le g2 hb.size, g3, g4, (hb.cell (p := ⟨b, off + i, none⟩) g2).trans g5⟩⟩
/-- what l15Open returns -/
def OpenPost (w : World) (a : Option Addr) (cap : Nat) (e : Ending) (w' : World) : Prop := ∃ m, e = .returned (.pointer (some ⟨w.heap.size, 0, none⟩)) ∧ RdAt w' w.heap.size a m cap 0 ∧ Below w.heap.size w w'

set_option maxRecDepth 100000 in
theorem l15Open_any (w : World) (a : Option Addr) (n cap : Nat) (h : BytesRaw w a n cap) :
    Calls Tryd.prog 69 #[.slice a n cap] w (OpenPost w a cap) := by
  have hle := h.le
  have hmo := h.most
  unfold maxLen at hmo
  by_cases hn : 2000 < n
  · obtain ⟨b, off, v, rfl, _⟩ := h.byte 0 (by omega)
    have HB := Lib.hid h; clear h
    have x1 : (2000 : Int) ≤ (n : Int) := by omega
    have x2 : (2000 : Int) ≤ (cap : Int) := by omega
    go_enter Tryd.func69, Tryd.ntmps69
    go_wp2
    go_ret
    exact ⟨2000, rfl, HB.out.rd (by omega) (by omega), (Below.refl _ _).alloc (Nat.le_refl _) _⟩
  · have HB := Lib.hid h; clear h
    go_enter Tryd.func69, Tryd.ntmps69
    go_wp2
    go_ret
    exact ⟨n, rfl, HB.out.rd (Nat.le_refl _) (by omega), (Below.refl _ _).alloc (Nat.le_refl _) _⟩
end Go.Proofs.YtngcmjfkeageiaaDoor
end

section
/-
  The model's draws of a program, a block's name and a term; of a program and a name; of bytes. Conditions: at most 700000 numbers drawn before.
-/
namespace Go.Proofs.YtngcmjfkeageiaaDoor
open Go.RowKit Go.Maps

/-- a program in a block of its own -/
structure PAt (w : World) (q : Nat) (ab ae : Option Addr) (cb ce : Nat) (bs es : List Pr) : Prop where
  two : Two w q (.slice ab bs.length cb) (.slice ae es.length ce)
  b : PairsAt w ab bs
  e : PairsAt w ae es
section
variable {w w' : World} {q : Nat} {ab ae : Option Addr} {cb ce : Nat} {bs es : List Pr}
theorem PAt.below (h : PAt w q ab ae cb ce bs es) (hb : Below w.heap.size w w') : PAt w' q ab ae cb ce bs es := ⟨h.two.of_cells (hb.block _ h.two.cells.2.2.2.2), h.b.below hb, h.e.below hb⟩
theorem PAt.new (ab ae : Option Addr) (cb ce : Nat) (hb : PairsAt w ab bs) (he : PairsAt w ae es) : PAt (w.alloc (.cells #[.slice ab bs.length cb, .slice ae es.length ce] 32)) w.heap.size ab ae cb ce bs es := ⟨heap_alloc_new _ _, hb.alloc _, he.alloc _⟩
theorem PAt.lt (h : PAt w q ab ae cb ce bs es) : q < w.heap.size := h.two.cells.2.2.2.2
theorem PAt.c0 (h : PAt w q ab ae cb ce bs es) : w.cell? ⟨q, 0, none⟩ = some (.slice ab bs.length cb) := h.two.cells.1
theorem PAt.c1 (h : PAt w q ab ae cb ce bs es) : w.cell? ⟨q, 1, none⟩ = some (.slice ae es.length ce) := h.two.cells.2.1
end
/-- rows of pairs stand where only a source is written -/
theorem PairsAt.turns {w w' : World} {g : Nat} {a : Option Addr} {l : List Pr} (h : PairsAt w a l) (ht : Turns (fun k => k = g) w w') (hg : ∀ i x, w.cell? ⟨g, i, none⟩ = some x → ∀ s, x ≠ .string s) : PairsAt w' a l :=
  ⟨h.len, h.size, fun i hi => by
    obtain ⟨b, off, e, hb, h1, h2⟩ := h.cell i hi
    have hne : b ≠ g := by
      rintro rfl
      exact hg _ _ h1 _ rfl
    exact ⟨b, off, e, Nat.lt_of_lt_of_le hb ht.size, (ht.cellT hb hne).trans h1, (ht.cellT hb hne).trans h2⟩⟩
theorem RdAt.nostr {w : World} {g : Nat} {a : Option Addr} {n cap p : Nat} (h : RdAt w g a n cap p) : ∀ i x, w.cell? ⟨g, i, none⟩ = some x → ∀ s, x ≠ .string s := by
  intro i x hx s e
  subst e
  rw [cell_of_row w g i _ _ (0, 0) h.here] at hx
  match i with
  | 0 => cases hx
  | 1 => cases hx
  | i + 2 => simp at hx
theorem PairsAt.draw {w w' : World} {g : Nat} {a : Option Addr} {n cap p : Nat} {a' : Option Addr} {l : List Pr} (h : PairsAt w a' l) (hr : RdAt w g a n cap p) (ht : Turns (fun k => k = g) w w') : PairsAt w' a' l := h.turns ht hr.nostr
theorem PAt.draw {w w' : World} {q g : Nat} {ab ae : Option Addr} {cb ce : Nat} {bs es : List Pr} {a : Option Addr} {n cap p : Nat} (h : PAt w q ab ae cb ce bs es) (hr : RdAt w g a n cap p) (ht : Turns (fun k => k = g) w w') : PAt w' q ab ae cb ce bs es := by
  have hne : q ≠ g := by
    rintro rfl
    have h1 := h.two
    have h2 := hr.here
    unfold Two at h1
    rw [h1] at h2
    simp at h2
  exact ⟨ht.two h.two hne, h.b.draw hr ht, h.e.draw hr ht⟩
/-- what a draw of a program and two texts leaves -/
def Draw2 (w : World) (g : Nat) (e : Ending) (w' : World) : Prop := ∃ bs es ab ae cb ce x y, e = .returned (.tuple #[.agg #[.slice ab (List.length bs) cb, .slice ae (List.length es) ce], .string x, .string y]) ∧ Sh bs ∧ Sh es ∧ x.size ≤ 1000 ∧ y.size ≤ 1000 ∧ PairsAt w' ab bs ∧ PairsAt w' ae es ∧ Turns (fun k => k = g) w w'
def wordL : List ByteArray := [⟨#[65]⟩, ⟨#[66]⟩, ⟨#[67]⟩, ⟨#[68]⟩, ⟨#[69]⟩, ⟨#[67]⟩, ⟨#[74]⟩, ⟨#[]⟩, ⟨#[65, 66]⟩]
def termL : List ByteArray := [⟨#[120]⟩, ⟨#[120]⟩, ⟨#[120]⟩, ⟨#[121]⟩, ⟨#[120]⟩, ⟨#[122]⟩, ⟨#[120]⟩, ⟨#[88]⟩, ⟨#[]⟩, ⟨#[120, 121]⟩]
theorem wordL_sh {x : ByteArray} (h : x ∈ wordL) : x.size ≤ 1000 := short_of (by decide) h
theorem termL_sh {x : ByteArray} (h : x ∈ termL) : x.size ≤ 1000 := short_of (by decide) h
/-- a program and the block that takes a draw's result -/
structure DS (w wr : World) (g : Nat) (a : Option Addr) (n cap p R q : Nat) (ab ae : Option Addr) (cb ce : Nat) (bs es : List Pr) : Prop where
  ent : ∃ p0, RdAt w g a n cap p0
  rd : RdAt wr g a n cap p
  res : Two wr R (.slice none 0 0) (.slice none 0 0)
  at_ : PAt wr q ab ae cb ce bs es
  tu : Turns (fun k => k = g) w wr
section
variable {w wr w' : World} {g : Nat} {a : Option Addr} {n cap p p' R q : Nat} {ab ae : Option Addr} {cb ce : Nat} {bs es : List Pr}
theorem DS.rne (h : DS w wr g a n cap p R q ab ae cb ce bs es) : R ≠ g := by
  rintro rfl
  have h1 := h.res
  have h2 := h.rd.here
  unfold Two at h1
  rw [h1] at h2
  simp at h2
theorem DS.draw (h : DS w wr g a n cap p R q ab ae cb ce bs es) (ht : Turns (fun k => k = g) wr w') (hr : RdAt w' g a n cap p') : DS w w' g a n cap p' R q ab ae cb ce bs es :=
  ⟨h.ent, hr, ht.rd h.res h.rne, h.at_.draw h.rd ht, h.tu.trans ht⟩
theorem DS.below (h : DS w wr g a n cap p R q ab ae cb ce bs es) (hb : Below wr.heap.size wr w') : DS w w' g a n cap p R q ab ae cb ce bs es := h.draw (.of_below hb) (h.rd.below hb)
theorem DS.alloc (h : DS w wr g a n cap p R q ab ae cb ce bs es) (o : Obj) : DS w (wr.alloc o) g a n cap p R q ab ae cb ce bs es := h.below ((Below.refl _ _).alloc (Nat.le_refl _) _)
theorem DS.drewD (h : DS w wr g a n cap p R q ab ae cb ce bs es) : DS w wr.drew g a n cap p R q ab ae cb ce bs es := h.below (Below.refl _ _).drew
/-- the result written -/
theorem DS.fin (h : DS w wr g a n cap p R q ab ae cb ce bs es) (hR : w.heap.size ≤ R) :
    PairsAt ((wr.setCell ⟨R, 0, none⟩ (.slice ab bs.length cb)).setCell ⟨R, 1, none⟩ (.slice ae es.length ce)) ab bs ∧ PairsAt ((wr.setCell ⟨R, 0, none⟩ (.slice ab bs.length cb)).setCell ⟨R, 1, none⟩ (.slice ae es.length ce)) ae es ∧ RdAt ((wr.setCell ⟨R, 0, none⟩ (.slice ab bs.length cb)).setCell ⟨R, 1, none⟩ (.slice ae es.length ce)) g a n cap p ∧ Turns (fun k => k = g) w ((wr.setCell ⟨R, 0, none⟩ (.slice ab bs.length cb)).setCell ⟨R, 1, none⟩ (.slice ae es.length ce)) := by
  have hn : ∀ s, Value.slice none 0 0 ≠ .string s := fun s h => by cases h
  obtain ⟨r0, r1, t0, t1, _⟩ := h.res.cells
  have htf := (h.tu.setNew (p := ⟨R, 0, none⟩) hR (.slice ab bs.length cb)).setNew (p := ⟨R, 1, none⟩) hR (.slice ae es.length ce)
  have hhf : ((wr.setCell ⟨R, 0, none⟩ (.slice ab bs.length cb)).setCell ⟨R, 1, none⟩ (.slice ae es.length ce)).heap[g]? = wr.heap[g]? := (Below.heap_setCell _ _ _ _ (Ne.symm h.rne)).trans (Below.heap_setCell _ _ _ _ (Ne.symm h.rne))
  obtain ⟨p0, h0⟩ := h.ent
  exact ⟨(h.at_.b.setZ r0 hn).setZ (p := ⟨R, 1, none⟩) (Two.set0 h.res _).cells.2.1 hn, (h.at_.e.setZ r0 hn).setZ (p := ⟨R, 1, none⟩) (Two.set0 h.res _).cells.2.1 hn, h0.turns htf (hhf.trans h.rd.here), htf⟩
theorem DS.after (h : DS w wr g a n cap p R q ab ae cb ce bs es) (hRq : q ≠ R) : ∀ u v, ((wr.setCell ⟨R, 0, none⟩ u).setCell ⟨R, 1, none⟩ v).cell? ⟨q, 0, none⟩ = some (.slice ab bs.length cb) ∧ ((wr.setCell ⟨R, 0, none⟩ u).setCell ⟨R, 1, none⟩ v).cell? ⟨q, 1, none⟩ = some (.slice ae es.length ce) := fun u v => by
  have := ((h.at_.two.far (p := ⟨R, 0, none⟩) hRq u).far (p := ⟨R, 1, none⟩) hRq v).cells
  exact ⟨this.1, this.2.1⟩
end

/-- what a draw off bytes leaves -/
def DrawB2 (w : World) (e : Ending) (w' : World) : Prop := ∃ bs es ab ae cb ce x y, e = .returned (.tuple #[.agg #[.slice ab (List.length bs) cb, .slice ae (List.length es) ce], .string x, .string y]) ∧ Sh bs ∧ Sh es ∧ x.size ≤ 1000 ∧ y.size ≤ 1000 ∧ PairsAt w' ab bs ∧ PairsAt w' ae es ∧ Below w.heap.size w w'

end Go.Proofs.YtngcmjfkeageiaaDoor
end

section
/-
  The model's draws of a program and a name, of a program and two names, off bytes. Conditions: none but what bytes that came in are.
-/
namespace Go.Proofs.YtngcmjfkeageiaaDoor
open Go.RowKit Go.Maps

section
variable {w wr w' : World} {g : Nat} {a : Option Addr} {n cap p p' R q : Nat} {ab ae : Option Addr} {cb ce : Nat} {bs es : List Pr}
theorem DS.far2 (h : DS w wr g a n cap p R q ab ae cb ce bs es) {b : Nat} (hb : q ≠ b) : ∀ u v, ((wr.setCell ⟨b, 0, none⟩ u).setCell ⟨b, 1, none⟩ v).cell? ⟨q, 0, none⟩ = some (.slice ab bs.length cb) ∧ ((wr.setCell ⟨b, 0, none⟩ u).setCell ⟨b, 1, none⟩ v).cell? ⟨q, 1, none⟩ = some (.slice ae es.length ce) := fun u v => by
  have := ((h.at_.two.far (p := ⟨b, 0, none⟩) hb u).far (p := ⟨b, 1, none⟩) hb v).cells
  exact ⟨this.1, this.2.1⟩
theorem edge_kept {w3 w4 : World} {g : Nat} (ht : Turns (fun k => k = g) ((w3.alloc (.cells #[.string ⟨#[]⟩, .string ⟨#[]⟩] 111)).drew) w4) (hg : g < w3.heap.size) :
    w4.heap[w3.heap.size]? = some (.cells #[.string ⟨#[]⟩, .string ⟨#[]⟩] 111) ∧ w4.cell? ⟨w3.heap.size, 0, none⟩ = some (.string ⟨#[]⟩) ∧ w4.cell? ⟨w3.heap.size, 1, none⟩ = some (.string ⟨#[]⟩) ∧ w4.frozen? ⟨w3.heap.size, 0, none⟩ = false ∧ w4.frozen? ⟨w3.heap.size, 1, none⟩ = false := by
  have h1 : w4.heap[w3.heap.size]? = (w3.alloc (.cells #[.string ⟨#[]⟩, .string ⟨#[]⟩] 111)).heap[w3.heap.size]? := ht.block w3.heap.size (show w3.heap.size < (w3.alloc _).heap.size by simp) (by omega)
  have h2 := h1.trans (heap_alloc_new _ _)
  exact ⟨h2, by simp [World.cell?, h2], by simp [World.cell?, h2], by simp [World.frozen?, h2], by simp [World.frozen?, h2]⟩
theorem cell_far2 {w : World} {b R i : Nat} (hb : b ≠ R) (u v : Value) : ((w.setCell ⟨R, 0, none⟩ u).setCell ⟨R, 1, none⟩ v).cell? ⟨b, i, none⟩ = w.cell? ⟨b, i, none⟩ :=
  World.cell?_of_block ((Below.heap_setCell _ _ _ _ hb).trans (Below.heap_setCell _ _ _ _ hb))
theorem cell_far2D {w : World} {b R i : Nat} (hb : b ≠ R) (u v : Value) : (((w.setCell ⟨R, 0, none⟩ u).setCell ⟨R, 1, none⟩ v).drew).cell? ⟨b, i, none⟩ = w.drew.cell? ⟨b, i, none⟩ := cell_far2 (w := w) hb u v
theorem DS.afterD {w wr : World} {g : Nat} {a : Option Addr} {n cap p R q : Nat} {ab ae : Option Addr} {cb ce : Nat} {bs es : List Pr} (h : DS w wr g a n cap p R q ab ae cb ce bs es) (hRq : q ≠ R) : ∀ u v, (((wr.setCell ⟨R, 0, none⟩ u).setCell ⟨R, 1, none⟩ v).drew).cell? ⟨q, 0, none⟩ = some (.slice ab bs.length cb) ∧ (((wr.setCell ⟨R, 0, none⟩ u).setCell ⟨R, 1, none⟩ v).drew).cell? ⟨q, 1, none⟩ = some (.slice ae es.length ce) := fun u v => h.after hRq u v
/-- a block that is newer than w3 written -/
theorem DS.setNew2 {w3 : World} (h : DS w w3 g a n cap p' R q ab ae cb ce bs es) (ht : Turns (fun k => k = g) w3 wr) (hr : RdAt wr g a n cap p) {b : Nat} (hb : w3.heap.size ≤ b) (u v : Value) : DS w ((wr.setCell ⟨b, 0, none⟩ u).setCell ⟨b, 1, none⟩ v) g a n cap p R q ab ae cb ce bs es := by
  have h1 := (ht.setNew (p := ⟨b, 0, none⟩) hb u).setNew (p := ⟨b, 1, none⟩) hb v
  have hg : g ≠ b := by have := h.rd.lt; omega
  exact h.draw h1 (h.rd.turns h1 (((Below.heap_setCell _ _ _ _ hg).trans (Below.heap_setCell _ _ _ _ hg)).trans hr.here))
end
/-- what a draw of a program and a text off bytes leaves -/
def DrawB1 (w : World) (e : Ending) (w' : World) : Prop := ∃ bs es ab ae cb ce x, e = .returned (.tuple #[.agg #[.slice ab (List.length bs) cb, .slice ae (List.length es) ce], .string x]) ∧ Sh bs ∧ Sh es ∧ x.size ≤ 1000 ∧ PairsAt w' ab bs ∧ PairsAt w' ae es ∧ Below w.heap.size w w'

set_option maxRecDepth 100000 in
set_option maxHeartbeats 1600000 in
theorem DrawOutOf_any (w : World) (a : Option Addr) (n cap : Nat) (h : BytesRaw w a n cap) :
    Calls Tryd.prog 78 #[.slice a n cap] w (DrawB1 w) := by
  have hA : Below w.heap.size w (w.alloc (.cells #[.slice none 0 0, .slice none 0 0] 32)) := (Below.refl _ _).alloc (Nat.le_refl _) _
  have hR : Two (w.alloc (.cells #[.slice none 0 0, .slice none 0 0] 32)) w.heap.size (.slice none 0 0) (.slice none 0 0) := heap_alloc_new _ _
  have hbA := h.below hA
  have H0 := Lib.hid (And.intro hA hR)
  clear h hA hR
  go_enter Tryd.func78, Tryd.ntmps78
  go_wp2_with fail
  refine (l15Open_any _ a n cap hbA).mono ?_
  rintro e w1 ⟨m, rfl, hrd, hb1⟩
  have hz : (w.alloc (.cells #[.slice none 0 0, .slice none 0 0] 32)).heap.size = w.heap.size + 1 := by simp
  rw [hz] at hrd ⊢
  have hR1 : Two w1 w.heap.size _ _ := H0.out.2.of_cells (hb1.block _ (by omega))
  have hall : Below w.heap.size w w1 := H0.out.1.trans (hb1.mono (by omega))
  have hg1 := hrd.lt
  have H1 := Lib.hid (And.intro hR1 (And.intro hall hrd))
  clear hR1 hall hb1 hbA hz
  go_wp2_with fail
  refine (l1Some_any w1 (w.heap.size + 1) a m cap 0 (by omega) hrd).mono ?_
  rintro e w2 ⟨bs, es, ab, ae, cb, ce, rfl, hSb, hSe, hPb, hPe, p1, hp1, hrd2, htu⟩
  have hs2 := htu.size
  have hW : Below w2.heap.size w2 (w2.alloc (.cells #[.slice ab bs.length cb, .slice ae es.length ce] 32)) := (Below.refl _ _).alloc (Nat.le_refl _) _
  have hDS : DS w1 (w2.alloc (.cells #[.slice ab bs.length cb, .slice ae es.length ce] 32)) (w.heap.size + 1) a m cap p1 w.heap.size w2.heap.size ab ae cb ce bs es :=
    ⟨⟨0, H1.out.2.2⟩, hrd2.below hW, (hW.block _ (by omega)).trans (htu.two H1.out.1 (by omega)), PAt.new ab ae cb ce hPb hPe, htu.trans (.of_below hW)⟩
  have H2 := Lib.hid hDS
  have HS := Lib.hid (And.intro hSb hSe)
  have hqR : w2.heap.size ≠ w.heap.size := by omega
  clear hDS hPb hPe hrd htu hW hSb hSe hrd2
  go_upto_region 3 with fail
  generalize w2.alloc (.cells #[.slice ab bs.length cb, .slice ae es.length ce] 32) = wP at *
  generalize w2.heap.size = q at *
  go_wp2
  go_region_held_law (fun w' => w'.cell? ⟨q, 0, none⟩ = some (.slice ab bs.length cb) ∧ w'.cell? ⟨q, 1, none⟩ = some (.slice ae es.length ce))
    (first
      | with_reducible exact ⟨H2.out.drewD.at_.c0, H2.out.drewD.at_.c1⟩
      | with_reducible exact ⟨m0, m1⟩
      | with_reducible exact H3.out.after hqR _ _)
    (first
      | (go_at_call 134; refine (l1Word_any wP.drew (w.heap.size + 1) a m cap p1 (by omega) H2.out.drewD.rd).mono ?_; rintro e w3 ⟨x, hx, rfl, hrd3, htu3⟩; have hxs := wordL_sh hx; have H3 := Lib.hid (H2.out.drewD.draw htu3 hrd3); obtain ⟨m0, m1⟩ := And.intro H3.out.at_.c0 H3.out.at_.c1; obtain ⟨r0, r1, t0, t1, _⟩ := H3.out.res.cells))
  all_goals
    have hn : ∀ s, Value.slice none 0 0 ≠ .string s := fun s h => by cases h
    have hb := (H3.out.at_.b.setZ r0 hn (u := .slice ab bs.length cb)).setZ (p := ⟨w.heap.size, 1, none⟩) (u := .slice ae es.length ce) (Two.set0 H3.out.res (.slice ab bs.length cb)).cells.2.1 hn
    have he := (H3.out.at_.e.setZ r0 hn (u := .slice ab bs.length cb)).setZ (p := ⟨w.heap.size, 1, none⟩) (u := .slice ae es.length ce) (Two.set0 H3.out.res (.slice ab bs.length cb)).cells.2.1 hn
    have hbw : Below w.heap.size w w3 := H1.out.2.1.trans (H3.out.tu.below H1.out.2.1.size (fun k hk => by omega))
    have hfin := (hbw.setCell (p := ⟨w.heap.size, 0, none⟩) (Nat.le_refl _) (.slice ab bs.length cb)).setCell (p := ⟨w.heap.size, 1, none⟩) (Nat.le_refl _) (.slice ae es.length ce)
    have HX := Lib.hid (And.intro hb (And.intro he hfin))
    clear hb he hbw hfin hn hrd3 htu3 hx m0 m1
    go_wp2
    refine bodyPost_ret (v := .tuple #[.agg #[.slice ab bs.length cb, .slice ae es.length ce], .string x]) (by simp [results, Tryd.results78, go_sem, r0, r1]) rfl ?_
    exact ⟨bs, es, ab, ae, cb, ce, x, rfl, HS.out.1, HS.out.2, hxs, HX.out.1, HX.out.2.1, HX.out.2.2⟩

end Go.Proofs.YtngcmjfkeageiaaDoor
end

section
/-
  The model's draws of a program alone, and of a program and a text that is mostly a term, off bytes. Conditions: none but what bytes that came in are.
-/
namespace Go.Proofs.YtngcmjfkeageiaaDoor
open Go.RowKit Go.Maps

/-- what a draw of a program alone leaves -/
def DrawB0 (w : World) (e : Ending) (w' : World) : Prop := ∃ bs es ab ae cb ce, e = .returned (.agg #[.slice ab (List.length bs) cb, .slice ae (List.length es) ce]) ∧ Sh bs ∧ Sh es ∧ PairsAt w' ab bs ∧ PairsAt w' ae es ∧ Below w.heap.size w w'
def Draw1 (w : World) (g : Nat) (e : Ending) (w' : World) : Prop := ∃ bs es ab ae cb ce x, e = .returned (.tuple #[.agg #[.slice ab (List.length bs) cb, .slice ae (List.length es) ce], .string x]) ∧ Sh bs ∧ Sh es ∧ x.size ≤ 1000 ∧ PairsAt w' ab bs ∧ PairsAt w' ae es ∧ Turns (fun k => k = g) w w'

set_option maxRecDepth 100000 in
set_option maxHeartbeats 1600000 in
theorem l3Of_any (w : World) (g : Nat) (a : Option Addr) (n cap p : Nat) (hp : p ≤ 700000) (h : RdAt w g a n cap p) :
    Calls Tryd.prog 89 #[.pointer (some ⟨g, 0, none⟩)] w (Draw1 w g) := by
  have hA : Below w.heap.size w (w.alloc (.cells #[.slice none 0 0, .slice none 0 0] 32)) := (Below.refl _ _).alloc (Nat.le_refl _) _
  have hR : Two (w.alloc (.cells #[.slice none 0 0, .slice none 0 0] 32)) w.heap.size (.slice none 0 0) (.slice none 0 0) := heap_alloc_new _ _
  have hgl := h.lt
  have hrA := h.below hA
  have H0 := Lib.hid (And.intro h (And.intro (Turns.of_below (S := fun k => k = g) hA) hR))
  clear h hA hR
  go_enter Tryd.func89, Tryd.ntmps89
  go_wp2_with fail
  refine (l1Some_any _ g a n cap p (by omega) hrA).mono ?_
  rintro e w1 ⟨bs, es, ab, ae, cb, ce, rfl, hSb, hSe, hPb, hPe, p1, hp1, hrd, htu⟩
  have hs1 := htu.size
  simp at hs1
  have hres1 := htu.rd H0.out.2.2 (by omega : w.heap.size ≠ g)
  have hW : Below w1.heap.size w1 (w1.alloc (.cells #[.slice ab bs.length cb, .slice ae es.length ce] 32)) := (Below.refl _ _).alloc (Nat.le_refl _) _
  have hDS : DS w (w1.alloc (.cells #[.slice ab bs.length cb, .slice ae es.length ce] 32)) g a n cap p1 w.heap.size w1.heap.size ab ae cb ce bs es :=
    ⟨⟨p, H0.out.1⟩, hrd.below hW, (hW.block _ (by omega)).trans hres1, PAt.new ab ae cb ce hPb hPe, H0.out.2.1.trans (htu.trans (.of_below hW))⟩
  have hrd1 := hDS.rd
  have H1 := Lib.hid (And.intro hDS (And.intro hSb hSe))
  have hqR : w1.heap.size ≠ w.heap.size := by omega
  clear hDS hPb hPe hrd htu hW hSb hSe hrA hres1 H0
  go_upto_region 3 with fail
  generalize w1.alloc (.cells #[.slice ab bs.length cb, .slice ae es.length ce] 32) = wP at *
  generalize w1.heap.size = q at *
  have H2 := Lib.hid H1.out.1
  have HS := Lib.hid H1.out.2
  clear H1 hrd1
  go_wp2
  go_region_held_law (fun w' => w'.cell? ⟨q, 0, none⟩ = some (.slice ab bs.length cb) ∧ w'.cell? ⟨q, 1, none⟩ = some (.slice ae es.length ce))
    (first
      | with_reducible exact ⟨H2.out.drewD.at_.c0, H2.out.drewD.at_.c1⟩
      | with_reducible exact ⟨m0, m1⟩
      | with_reducible exact H3.out.after hqR _ _)
    (first
      | (go_at_call 143; refine (l2Of_any wP.drew g a n cap p1 (by omega) H2.out.drewD.rd).mono ?_; rintro e w3 ⟨y, hy, rfl, hrd3, htu3⟩; have hys := termL_sh hy; have H3 := Lib.hid (H2.out.drewD.draw htu3 hrd3); obtain ⟨m0, m1⟩ := And.intro H3.out.at_.c0 H3.out.at_.c1; obtain ⟨r0, r1, t0, t1, _⟩ := H3.out.res.cells)
      )
  all_goals
    obtain ⟨hf1, hf2, _, hf4⟩ := H3.out.fin (Nat.le_refl _)
    have HX := Lib.hid (And.intro hf1 (And.intro hf2 hf4))
    clear hf1 hf2 hf4 hrd3 htu3 hy m0 m1
    go_wp2
    refine bodyPost_ret (v := .tuple #[.agg #[.slice ab bs.length cb, .slice ae es.length ce], .string y]) (by simp [results, Tryd.results89, go_sem, r0, r1]) rfl ?_
    exact ⟨bs, es, ab, ae, cb, ce, y, rfl, HS.out.1, HS.out.2, hys, HX.out.1, HX.out.2.1, HX.out.2.2⟩
set_option maxRecDepth 100000 in
set_option maxHeartbeats 1600000 in
theorem DrawIsTidy_any (w : World) (a : Option Addr) (n cap : Nat) (h : BytesRaw w a n cap) :
    Calls Tryd.prog 38 #[.slice a n cap] w (DrawB0 w) := by
  have hA : Below w.heap.size w (w.alloc (.cells #[.slice none 0 0, .slice none 0 0] 32)) := (Below.refl _ _).alloc (Nat.le_refl _) _
  have hR : Two (w.alloc (.cells #[.slice none 0 0, .slice none 0 0] 32)) w.heap.size (.slice none 0 0) (.slice none 0 0) := heap_alloc_new _ _
  have hbA := h.below hA
  have H0 := Lib.hid (And.intro hA hR)
  clear h hA hR
  go_enter Tryd.func38, Tryd.ntmps38
  go_wp2_with fail
  refine (l15Open_any _ a n cap hbA).mono ?_
  rintro e w1 ⟨m, rfl, hrd, hb1⟩
  have hz : (w.alloc (.cells #[.slice none 0 0, .slice none 0 0] 32)).heap.size = w.heap.size + 1 := by simp
  rw [hz] at hrd ⊢
  have hR1 : Two w1 w.heap.size _ _ := H0.out.2.of_cells (hb1.block _ (by omega))
  have hall : Below w.heap.size w w1 := H0.out.1.trans (hb1.mono (by omega))
  have H1 := Lib.hid (And.intro hR1 hall)
  have hg1 := hrd.lt
  clear hR1 hall hb1 hbA
  go_wp2_with fail
  refine (l1Some_any w1 (w.heap.size + 1) a m cap 0 (by omega) hrd).mono ?_
  rintro e w2 ⟨bs, es, ab, ae, cb, ce, rfl, hSb, hSe, hPb, hPe, p1, hp1, hrd2, htu⟩
  have hR2 : Two w2 w.heap.size _ _ := htu.two H1.out.1 (by omega)
  have hn : ∀ s, Value.slice none 0 0 ≠ .string s := fun s h => by cases h
  obtain ⟨r0, r1, t0, t1, _⟩ := hR2.cells
  have hb := (hPb.setZ r0 hn (u := .slice ab bs.length cb)).setZ (p := ⟨w.heap.size, 1, none⟩) (u := .slice ae es.length ce) (Two.set0 hR2 (.slice ab bs.length cb)).cells.2.1 hn
  have he := (hPe.setZ r0 hn (u := .slice ab bs.length cb)).setZ (p := ⟨w.heap.size, 1, none⟩) (u := .slice ae es.length ce) (Two.set0 hR2 (.slice ab bs.length cb)).cells.2.1 hn
  have hbw : Below w.heap.size w w2 := H1.out.2.trans (htu.below H1.out.2.size (fun k hk => by omega))
  have hfin := (hbw.setCell (p := ⟨w.heap.size, 0, none⟩) (Nat.le_refl _) (.slice ab bs.length cb)).setCell (p := ⟨w.heap.size, 1, none⟩) (Nat.le_refl _) (.slice ae es.length ce)
  have HX := Lib.hid (And.intro hSb (And.intro hSe (And.intro hb (And.intro he hfin))))
  clear hPb hPe hb he hbw hfin hSb hSe htu hR2 hn hrd hrd2
  go_wp2
  refine bodyPost_ret (v := .agg #[.slice ab bs.length cb, .slice ae es.length ce]) (by simp [results, Tryd.results38, go_sem, r0, r1]) rfl ?_
  exact ⟨bs, es, ab, ae, cb, ce, rfl, HX.out.1, HX.out.2.1, HX.out.2.2.1, HX.out.2.2.2.1, HX.out.2.2.2.2⟩
set_option maxRecDepth 100000 in
set_option maxHeartbeats 1600000 in
theorem DrawFactsOf_any (w : World) (a : Option Addr) (n cap : Nat) (h : BytesRaw w a n cap) :
    Calls Tryd.prog 35 #[.slice a n cap] w (DrawB1 w) := by
  have hA : Below w.heap.size w (w.alloc (.cells #[.slice none 0 0, .slice none 0 0] 32)) := (Below.refl _ _).alloc (Nat.le_refl _) _
  have hR : Two (w.alloc (.cells #[.slice none 0 0, .slice none 0 0] 32)) w.heap.size (.slice none 0 0) (.slice none 0 0) := heap_alloc_new _ _
  have hbA := h.below hA
  have H0 := Lib.hid (And.intro hA hR)
  clear h hA hR
  go_enter Tryd.func35, Tryd.ntmps35
  go_wp2_with fail
  refine (l15Open_any _ a n cap hbA).mono ?_
  rintro e w1 ⟨m, rfl, hrd, hb1⟩
  have hz : (w.alloc (.cells #[.slice none 0 0, .slice none 0 0] 32)).heap.size = w.heap.size + 1 := by simp
  rw [hz] at hrd ⊢
  have hR1 : Two w1 w.heap.size _ _ := H0.out.2.of_cells (hb1.block _ (by omega))
  have hall : Below w.heap.size w w1 := H0.out.1.trans (hb1.mono (by omega))
  have H1 := Lib.hid (And.intro hR1 hall)
  have hg1 := hrd.lt
  clear hR1 hall hb1 hbA
  go_wp2_with fail
  refine (l3Of_any w1 (w.heap.size + 1) a m cap 0 (by omega) hrd).mono ?_
  rintro e w2 ⟨bs, es, ab, ae, cb, ce, x, rfl, hSb, hSe, hxs, hPb, hPe, htu⟩
  have hR2 : Two w2 w.heap.size _ _ := htu.two H1.out.1 (by omega)
  have hn : ∀ s, Value.slice none 0 0 ≠ .string s := fun s h => by cases h
  obtain ⟨r0, r1, t0, t1, _⟩ := hR2.cells
  have hb := (hPb.setZ r0 hn (u := .slice ab bs.length cb)).setZ (p := ⟨w.heap.size, 1, none⟩) (u := .slice ae es.length ce) (Two.set0 hR2 (.slice ab bs.length cb)).cells.2.1 hn
  have he := (hPe.setZ r0 hn (u := .slice ab bs.length cb)).setZ (p := ⟨w.heap.size, 1, none⟩) (u := .slice ae es.length ce) (Two.set0 hR2 (.slice ab bs.length cb)).cells.2.1 hn
  have hbw : Below w.heap.size w w2 := H1.out.2.trans (htu.below H1.out.2.size (fun k hk => by omega))
  have hfin := (hbw.setCell (p := ⟨w.heap.size, 0, none⟩) (Nat.le_refl _) (.slice ab bs.length cb)).setCell (p := ⟨w.heap.size, 1, none⟩) (Nat.le_refl _) (.slice ae es.length ce)
  have HX := Lib.hid (And.intro hSb (And.intro hSe (And.intro hb (And.intro he hfin))))
  clear hPb hPe hb he hbw hfin hSb hSe htu hR2 hn hrd
  go_wp2
  refine bodyPost_ret (v := .tuple #[.agg #[.slice ab bs.length cb, .slice ae es.length ce], .string x]) (by simp [results, Tryd.results35, go_sem, r0, r1]) rfl ?_
  exact ⟨bs, es, ab, ae, cb, ce, x, rfl, HX.out.1, HX.out.2.1, hxs, HX.out.2.2.1, HX.out.2.2.2.1, HX.out.2.2.2.2⟩
end Go.Proofs.YtngcmjfkeageiaaDoor
end
