/-
  What a drawn program's building keeps: the source, the result's block, the program's block, its two rows. Conditions: none.
-/
import Derived.Test.YtfmhcjhcmoniaaaDoorLinkS
namespace Go.Proofs.YtfmhcjhcmoniaaaDoor
open Go.RowKit Go.Maps

/-- blocks whose names have at most one byte, and at most a thousand letters -/
def Bk1 (L : List Pr) : Prop := ∀ i, i < L.length → (nameAt L i).size ≤ 1 ∧ (restAt L i).size ≤ 1000
theorem Bk1.snoc {L : List Pr} {p : Pr} (h : Bk1 L) (h1 : p.1.size ≤ 1) (h2 : p.2.size ≤ 1000) : Bk1 (L ++ [p]) := by
  intro i hi
  simp only [List.length_append, List.length_cons, List.length_nil] at hi
  unfold nameAt restAt
  by_cases e : i < L.length
  · rw [List.getD_eq_getElem?_getD, List.getElem?_append_left e, ← List.getD_eq_getElem?_getD]; exact h i e
  · obtain rfl : i = L.length := by omega
    simp [List.getD_eq_getElem?_getD, h1, h2]
theorem Bk1.small {L : List Pr} (h : Bk1 L) : ∀ i, i < L.length → (nameAt L i).size ≤ 1048576 ∧ (restAt L i).size ≤ 1048576 := fun i hi => by have := h i hi; omega
theorem Turns.rd {g : Nat} {w w' : World} {b : Nat} (h : Turns (fun k => k = g) w w') {c : Array Value} {t : TypeId} {fz : Nat × Nat} (hb : w.heap[b]? = some (.cells c t fz)) (hne : b ≠ g) : w'.heap[b]? = some (.cells c t fz) :=
  (h.block b (Array.getElem?_eq_some_iff.1 hb).1 hne).trans hb
theorem RdAt.turns {w w' : World} {g : Nat} {a : Option Addr} {n cap p p' : Nat} (h : RdAt w g a n cap p) (ht : Turns (fun k => k = g) w w') (hh : w'.heap[g]? = some (.cells #[.slice a n cap, .int .i64 p'] 103 (0, 0))) : RdAt w' g a n cap p' where
  here := hh
  few := h.few
  byte i hi := by
    obtain ⟨b, off, v, e, h1, h2, h3, h4, h5⟩ := h.byte i hi
    exact ⟨b, off, v, e, h1, Nat.lt_of_lt_of_le h2 ht.size, h3, h4, (ht.cellT h2 h1).trans h5⟩
structure GS (w wr : World) (g : Nat) (a : Option Addr) (n cap p R Q : Nat) (vb ve : Value) (L E : List Pr) : Prop where
  ent : ∃ p0, RdAt w g a n cap p0
  rd : RdAt wr g a n cap p
  res : Two wr R (.slice none 0 0) (.slice none 0 0)
  two : Two wr Q vb ve
  ob : wr.ownsRow w.heap.size 51 2 vb L.length (cellsOf L)
  oe : wr.ownsRow w.heap.size 81 2 ve E.length (cellsOf E)
  tu : Turns (fun k => k = g) w wr
section
variable {w wr w' : World} {g : Nat} {a : Option Addr} {n cap p p' R Q : Nat} {vb ve : Value} {L E : List Pr}
theorem GS.rne (h : GS w wr g a n cap p R Q vb ve L E) : R ≠ g := by
  rintro rfl
  have h1 := h.res
  have h2 := h.rd.here
  unfold Two at h1
  rw [h1] at h2
  simp at h2
theorem GS.qne (h : GS w wr g a n cap p R Q vb ve L E) : Q ≠ g := by
  rintro rfl
  have h1 := h.two
  have h2 := h.rd.here
  unfold Two at h1
  rw [h1] at h2
  simp at h2
theorem GS.bne (h : GS w wr g a n cap p R Q vb ve L E) : vb.ownBlock ≠ some g := own_neK h.ob h.rd.here (by decide)
theorem GS.ene (h : GS w wr g a n cap p R Q vb ve L E) : ve.ownBlock ≠ some g := own_neK h.oe h.rd.here (by decide)
/-- a draw -/
theorem GS.draw (h : GS w wr g a n cap p R Q vb ve L E) (ht : Turns (fun k => k = g) wr w') (hr : RdAt w' g a n cap p') : GS w w' g a n cap p' R Q vb ve L E where
  ent := h.ent
  rd := hr
  res := ht.rd h.res h.rne
  two := ht.rd h.two h.qne
  ob := ht.row h.ob (fun b hb e => by subst e; exact h.bne hb)
  oe := ht.row h.oe (fun b hb e => by subst e; exact h.ene hb)
  tu := h.tu.then_ ht (fun _ _ h => h) (fun _ _ h => h)
theorem GS.below (h : GS w wr g a n cap p R Q vb ve L E) (hb : Below wr.heap.size wr w') : GS w w' g a n cap p R Q vb ve L E := h.draw (.of_below hb) (h.rd.below hb)
theorem GS.alloc (h : GS w wr g a n cap p R Q vb ve L E) (o : Obj) : GS w (wr.alloc o) g a n cap p R Q vb ve L E := h.below ((Below.refl _ _).alloc (Nat.le_refl _) _)
/-- the blocks' row has grown, and stands in the program's block -/
theorem GS.growB (h : GS w wr g a n cap p R Q vb ve L E) {wx w4 : World} {v' : Value} {L' : List Pr} (hx : Below wr.heap.size wr wx) (hg : wx.grownBy w4 vb.ownBlock) (hown : w4.ownsRow w.heap.size 51 2 v' L'.length (cellsOf L')) (hR : R ≠ Q) (hQ : w.heap.size ≤ Q) :
    GS w (w4.setCell ⟨Q, 0, none⟩ v') g a n cap p R Q v' ve L' E := by
  have hz := hx.size
  have ht : Turns (fun b => some b = vb.ownBlock) wr w4 := (Turns.of_below hx).then_ (Turns.of_grown hg) (fun _ _ h => h) (fun _ _ h => h)
  have hRl := (Array.getElem?_eq_some_iff.1 h.res).1
  have hQl := (Array.getElem?_eq_some_iff.1 h.two).1
  have hgl := h.rd.lt
  have hR4 : Two w4 R _ _ := h.res.of_cells (ht.block R hRl (fun e => own_neK h.ob h.res (by decide) e.symm))
  have hQ4 : Two w4 Q _ _ := h.two.of_cells (ht.block Q hQl (fun e => own_neK h.ob h.two (by decide) e.symm))
  have hE4 := ht.row h.oe (fun b hb e => by
    obtain ⟨c9, z9, h9⟩ := Lib.ownsRow_kind h.oe b hb
    exact own_neK h.ob h9 (by decide) e.symm)
  have hset : Turns (fun k => k = Q) w4 (w4.setCell ⟨Q, 0, none⟩ v') := ⟨rfl, rfl, rfl, by simp [World.setCell], fun j _ hj => Below.heap_setCell _ _ _ _ hj⟩
  have htu : Turns (fun k => k = g) w (w4.setCell ⟨Q, 0, none⟩ v') := (h.tu.then_ ht (T := fun k => k = g) (fun _ _ h => h) (fun i hi e => by have := (h.ob.lt i e.symm).1; omega)).setNew hQ _
  obtain ⟨p0, h0⟩ := h.ent
  refine ⟨h.ent, h0.turns htu ?_, hR4.far hR _, hQ4.set0 _, own_far hown (own_neK hown hQ4 (by decide)) _, own_far hE4 (own_neK hE4 hQ4 (by decide)) _, htu⟩
  exact (hset.block g (Nat.lt_of_lt_of_le hgl ht.size) h.qne.symm).trans ((ht.block g hgl (fun e => h.bne e.symm)).trans h.rd.here)
/-- an edge linked: the program's block holds what l1Link answers -/
theorem GS.link (h : GS w wr g a n cap p R Q vb ve L E) {w4 : World} {v' : Value} {E' : List Pr} (ht : Turns (fun b => some b = ve.ownBlock) wr w4) (hown : w4.ownsRow w.heap.size 81 2 v' E'.length (cellsOf E')) (hR : R ≠ Q) (hQ : w.heap.size ≤ Q) :
    GS w ((w4.setCell ⟨Q, 0, none⟩ vb).setCell ⟨Q, 1, none⟩ v') g a n cap p R Q vb v' L E' := by
  have hRl := (Array.getElem?_eq_some_iff.1 h.res).1
  have hQl := (Array.getElem?_eq_some_iff.1 h.two).1
  have hgl := h.rd.lt
  have hR4 : Two w4 R _ _ := h.res.of_cells (ht.block R hRl (fun e => own_neK h.oe h.res (by decide) e.symm))
  have hQ4 : Two w4 Q _ _ := h.two.of_cells (ht.block Q hQl (fun e => own_neK h.oe h.two (by decide) e.symm))
  have hB4 := ht.row h.ob (fun b hb e => by
    obtain ⟨c9, z9, h9⟩ := Lib.ownsRow_kind h.ob b hb
    exact own_neK h.oe h9 (by decide) e.symm)
  have hset : Turns (fun k => k = Q) w4 ((w4.setCell ⟨Q, 0, none⟩ vb).setCell ⟨Q, 1, none⟩ v') := ⟨rfl, rfl, rfl, by simp [World.setCell], fun j _ hj => (Below.heap_setCell _ _ _ _ hj).trans (Below.heap_setCell _ _ _ _ hj)⟩
  have htu : Turns (fun k => k = g) w ((w4.setCell ⟨Q, 0, none⟩ vb).setCell ⟨Q, 1, none⟩ v') := ((h.tu.then_ ht (T := fun k => k = g) (fun _ _ h => h) (fun i hi e => by have := (h.oe.lt i e.symm).1; omega)).setNew hQ _).setNew hQ _
  obtain ⟨p0, h0⟩ := h.ent
  refine ⟨h.ent, h0.turns htu ?_, (hR4.far hR _).far hR _, (hQ4.set0 _).set1 _, own_far (own_far hB4 (own_neK hB4 hQ4 (by decide)) _) (own_neK hB4 hQ4 (by decide)) _, own_far (own_far hown (own_neK hown hQ4 (by decide)) _) (own_neK hown hQ4 (by decide)) _, htu⟩
  exact (hset.block g (Nat.lt_of_lt_of_le hgl ht.size) h.qne.symm).trans ((ht.block g hgl (fun e => h.ene e.symm)).trans h.rd.here)
end
end Go.Proofs.YtfmhcjhcmoniaaaDoor
