/-
  A program in memory of its own, its rows in blocks of a range; a loop that fills a program's blocks; a function's answer that is a program. Conditions: none.
-/
import Derived.Test.YtflnkahgmbndiaaDoorTurn2
import Derived.Test.YtflnkahgmbndiaaDoorMark
namespace Go.Proofs.YtflnkahgmbndiaaDoor
open Go.RowKit Go.Maps

theorem own_atT {w : World} {B : Nat} {e : TypeId} {a : Option Addr} {c n : Nat} {l : List Pr} (hn : n = l.length) (h : w.ownsRow B e 2 (.slice a n c) n (cellsOf l)) (hl : l.length ≤ 1048576) (hs : ∀ i, i < l.length → (nameAt l i).size ≤ 1048576 ∧ (restAt l i).size ≤ 1048576) : PairsAt w a l := by
  obtain ⟨a', c', e, hP⟩ := own_pairs hn h hl hs
  simp only [Value.slice.injEq] at e
  rw [e.1]; exact hP
/-- a program in a block of its own, its rows in blocks from lo on, below hi -/
structure Kp (W : World) (q lo hi : Nat) (a : Option Addr) (n c : Nat) (L : List Pr) (a' : Option Addr) (n' c' : Nat) (E : List Pr) : Prop where
  two : Two W q (.slice a n c) (.slice a' n' c')
  rows : Rws W lo hi a n c L a' n' c' E
section
variable {W W' : World} {q lo hi n n' c c' : Nat} {a a' : Option Addr} {L E : List Pr}
theorem Kp.below (h : Kp W q lo hi a n c L a' n' c' E) (hb : Below W.heap.size W W') : Kp W' q lo hi a n c L a' n' c' E := ⟨h.two.of_cells (hb.block _ h.two.cells.2.2.2.2), h.rows.below hb⟩
theorem Kp.turns {S : Nat → Prop} (h : Kp W q lo hi a n c L a' n' c' E) (ht : Turns S W W') (hq : ¬ S q) (hS : ∀ k, lo ≤ k → k < hi → ¬ S k) : Kp W' q lo hi a n c L a' n' c' E := ⟨ht.two h.two hq, h.rows.turns ht hS⟩
theorem Rws.pairs (h : Rws W lo hi a n c L a' n' c' E) (hl : L.length ≤ 1048576) (hs : ∀ i, i < L.length → (nameAt L i).size ≤ 1048576 ∧ (restAt L i).size ≤ 1048576) (hl' : E.length ≤ 1048576) (hs' : ∀ i, i < E.length → (nameAt E i).size ≤ 1048576 ∧ (restAt E i).size ≤ 1048576) : PairsAt W a L ∧ PairsAt W a' E :=
  ⟨own_atT h.lenb h.b hl hs, own_atT h.lene h.e hl' hs'⟩
theorem PB.rws {gb ge : Nat} {bs es : List Pr} (hb : PB W gb 61 bs) (he : PB W ge 91 es) (h1 : lo ≤ gb) (h2 : lo ≤ ge) (h3 : gb < hi) (h4 : ge < hi) (hl : bs.length ≤ 1048576) (hl' : es.length ≤ 1048576) : Rws W lo hi (some ⟨gb, 0, none⟩) bs.length bs.length bs (some ⟨ge, 0, none⟩) es.length es.length es :=
  ⟨⟨cellsOf_length bs, .inr ⟨gb, bs.length, (cellsOf bs).toArray, rfl, h1, hb, Nat.le_refl _, by unfold maxLen; omega, by simp [cellsOf_length], by rw [List.take_of_length_le (by simp [cellsOf_length])]⟩⟩,
   ⟨cellsOf_length es, .inr ⟨ge, es.length, (cellsOf es).toArray, rfl, h2, he, Nat.le_refl _, by unfold maxLen; omega, by simp [cellsOf_length], by rw [List.take_of_length_le (by simp [cellsOf_length])]⟩⟩,
   fun g hg => by simp [Value.ownBlock] at hg; omega, fun g hg => by simp [Value.ownBlock] at hg; omega⟩
end
/-- a function's answer: a program and whether there is one -/
def ProgRes (W : World) (ok : Bool) (L E : List Pr) (e : Ending) (W' : World) : Prop := Below W.heap.size W W' ∧ ∃ a c a' c', e = .returned (.tuple #[.agg #[.slice a L.length c, .slice a' E.length c'], .bool ok]) ∧ Rws W' W.heap.size W'.heap.size a L.length c L a' E.length c' E
theorem own_farT {w : World} {base : Nat} {e : TypeId} {size n : Nat} {v : Value} {xs : List Value} (h : w.ownsRow base e size v n xs) {p : Addr} (hp : v.ownBlock ≠ some p.block) (u : Value) : (w.setCell p u).ownsRow base e size v n xs :=
  h.kept (row := some p.block) ⟨rfl, rfl, rfl, by simp [World.setCell], fun j _ hj => Below.heap_setCell _ _ _ _ (fun e => hj (by simp [e]))⟩ (Or.inr hp)
/-- a loop that fills a program's blocks -/
structure TLoop (w wr : World) (R Q lo : Nat) (v ve : Value) (k m : Nat) (L E : List Pr) : Prop where
  two : Two wr Q v ve
  res : Two wr R (.slice none 0 0) (.slice none 0 0)
  ob : wr.ownsRow lo 61 2 v k (cellsOf L)
  oe : wr.ownsRow lo 91 2 ve m (cellsOf E)
  bw : Below w.heap.size w wr
section
variable {w wr w' : World} {R Q lo k m : Nat} {v ve : Value} {L E : List Pr}
theorem TLoop.below (h : TLoop w wr R Q lo v ve k m L E) (hb : Below wr.heap.size wr w') : TLoop w w' R Q lo v ve k m L E :=
  ⟨h.two.of_cells (hb.block _ h.two.cells.2.2.2.2), h.res.of_cells (hb.block _ h.res.cells.2.2.2.2), ownsRow_below h.ob hb, ownsRow_below h.oe hb, h.bw.trans (hb.mono h.bw.size)⟩
theorem TLoop.step (h : TLoop w wr R Q lo v ve k m L E) {wx w4 : World} {v' : Value} {k' : Nat} {L' : List Pr} (hx : Below wr.heap.size wr wx) (hg : wx.grownBy w4 v.ownBlock) (hown : w4.ownsRow lo 61 2 v' k' (cellsOf L')) (hlo : w.heap.size ≤ lo) (hQ : w.heap.size ≤ Q) (hRQ : R ≠ Q) :
    TLoop w (w4.setCell ⟨Q, 0, none⟩ v') R Q lo v' ve k' m L' E := by
  have ht : Turns (fun b => some b = v.ownBlock) wr w4 := (Turns.of_below hx).then_ (Turns.of_grown hg) (fun _ _ h => h) (fun _ _ h => h)
  have hR4 : Two w4 R _ _ := h.res.of_cells (ht.block R h.res.cells.2.2.2.2 (fun e => own_neK h.ob h.res (by decide) e.symm))
  have hQ4 : Two w4 Q _ _ := h.two.of_cells (ht.block Q h.two.cells.2.2.2.2 (fun e => own_neK h.ob h.two (by decide) e.symm))
  have hE4 := ht.row h.oe (fun b hb e => by
    obtain ⟨c9, z9, h9⟩ := Lib.ownsRow_kind h.oe b hb
    exact own_neK h.ob h9 (by decide) e.symm)
  have hb4 : Below w.heap.size w w4 := h.bw.trans (ht.below h.bw.size (fun b hb => Nat.le_trans hlo (h.ob.lt b hb.symm).1))
  exact ⟨hQ4.set0 _, hR4.far hRQ _, own_farT hown (own_neK hown hQ4 (by decide)) _, own_farT hE4 (own_neK hE4 hQ4 (by decide)) _, hb4.setCell hQ _⟩
end

end Go.Proofs.YtflnkahgmbndiaaDoor
