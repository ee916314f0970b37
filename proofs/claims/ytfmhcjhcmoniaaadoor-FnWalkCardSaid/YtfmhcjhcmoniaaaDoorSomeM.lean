/-
  What a drawn program's spoiling keeps: a text stored into its blocks, an edge appended, its rows read, the result's block written. Conditions: none.
-/
import Derived.Test.YtfmhcjhcmoniaaaDoorGoodM
namespace Go.Proofs.YtfmhcjhcmoniaaaDoor
open Go.RowKit Go.Maps

theorem heap_setAtS {w : World} {g i : Nat} {cur : Array Value} {e : TypeId} {fz : Nat × Nat} (h : w.heap[g]? = some (.cells cur e fz)) (u : Value) : (w.setCell ⟨g, i, none⟩ u).heap[g]? = some (.cells (cur.setIfInBounds i u) e fz) := by
  simp [World.setCell, Array.getElem?_modify, h]
theorem own_setS {w : World} {base : Nat} {e : TypeId} {size n g cap i : Nat} {xs : List Value} {u : Value} (h : w.ownsRow base e size (.slice (some ⟨g, 0, none⟩) n cap) n xs) : (w.setCell ⟨g, i, none⟩ u).ownsRow base e size (.slice (some ⟨g, 0, none⟩) n cap) n (xs.set i u) := by
  obtain ⟨h1, ⟨hv, _⟩ | ⟨g', cap', cur, hv, hg, hh, hn, hc, hs, ht⟩⟩ := h
  · cases hv
  · simp only [Value.slice.injEq, Option.some.injEq, Addr.mk.injEq, and_true, true_and] at hv
    obtain ⟨rfl, rfl⟩ := hv
    refine ⟨by simpa using h1, .inr ⟨g, cap, _, rfl, hg, heap_setAtS hh u, hn, hc, by simpa using hs, ?_⟩⟩
    rw [Array.toList_setIfInBounds, ← ht, List.take_set]
/-- a row that is not empty lies at the head of a block -/
theorem own_head {w : World} {base : Nat} {e : TypeId} {size n : Nat} {v : Value} {xs : List Value} (h : w.ownsRow base e size v n xs) (hn : 0 < n) : ∃ g cap, v = .slice (some ⟨g, 0, none⟩) n cap ∧ base ≤ g ∧ g < w.heap.size ∧ n ≤ cap ∧ (∀ j u, xs[j]? = some u → w.cell? ⟨g, j, none⟩ = some u) ∧ ∀ j, w.frozen? ⟨g, j, none⟩ = false := by
  obtain ⟨h1, ⟨_, h0⟩ | ⟨g, cap, cur, hv, hg, hh, hm, hc, hs, ht⟩⟩ := h
  · omega
  · refine ⟨g, cap, hv, hg, (Array.getElem?_eq_some_iff.1 hh).1, hm, fun j u hu => ?_, fun j => by simp [World.frozen?, hh]⟩
    have hj : j < n * size := by have := (List.getElem?_eq_some_iff.1 hu).1; omega
    rw [← ht, List.getElem?_take, if_pos hj] at hu
    simp [World.cell?, hh]
    simpa using hu
section
variable {w wr w' : World} {g : Nat} {a : Option Addr} {n cap p p' R Q : Nat} {vb ve : Value} {L E : List Pr}
theorem GS.setG (h : GS w wr g a n cap p R Q vb ve L E) {gb cb i : Nat} {u : Value} {L' : List Pr} (hv : vb = .slice (some ⟨gb, 0, none⟩) L.length cb) (hl : L'.length = L.length) (hc : (cellsOf L).set i u = cellsOf L') :
    GS w (wr.setCell ⟨gb, i, none⟩ u) g a n cap p R Q vb ve L' E := by
  subst hv
  have hk := h.ob.lt gb rfl
  have hgn : gb ≠ g := fun e => h.bne (by rw [← e]; rfl)
  have hRn : R ≠ gb := fun e => own_neK h.ob h.res (by decide) (by rw [e]; rfl)
  have hQn : Q ≠ gb := fun e => own_neK h.ob h.two (by decide) (by rw [e]; rfl)
  have hEn : ve.ownBlock ≠ some gb := fun e => by
    obtain ⟨c9, z9, h9⟩ := Lib.ownsRow_kind h.ob gb rfl
    exact own_neK h.oe h9 (by decide) e
  obtain ⟨p0, h0⟩ := h.ent
  have htu := h.tu.setNew (p := ⟨gb, i, none⟩) hk.1 u
  refine ⟨h.ent, h0.turns htu ((Below.heap_setCell _ _ _ _ (Ne.symm hgn)).trans h.rd.here), h.res.far hRn _, h.two.far hQn _, ?_, own_far h.oe hEn _, htu⟩
  have := own_setS (i := i) (u := u) h.ob
  rw [hc] at this
  rw [hl]; exact this
theorem GS.set0 (h : GS w wr g a n cap p R Q vb ve L E) {gb cb j : Nat} (hv : vb = .slice (some ⟨gb, 0, none⟩) L.length cb) (hj : j < L.length) (x : ByteArray) : GS w (wr.setCell ⟨gb, j * 2, none⟩ (.string x)) g a n cap p R Q vb ve (L.set j (x, restAt L j)) E :=
  h.setG hv (by simp) (cellsOf_set_even L j x hj)
theorem GS.set1 (h : GS w wr g a n cap p R Q vb ve L E) {gb cb j : Nat} (hv : vb = .slice (some ⟨gb, 0, none⟩) L.length cb) (hj : j < L.length) (x : ByteArray) : GS w (wr.setCell ⟨gb, j * 2 + 1, none⟩ (.string x)) g a n cap p R Q vb ve (L.set j (nameAt L j, x)) E :=
  h.setG hv (by simp) (cellsOf_set_odd L j x hj)
/-- the edges' row has grown, and stands in the program's block -/
theorem GS.growE (h : GS w wr g a n cap p R Q vb ve L E) {wx w4 : World} {v' : Value} {E' : List Pr} (hx : Below wr.heap.size wr wx) (hg : wx.grownBy w4 ve.ownBlock) (hown : w4.ownsRow w.heap.size 81 2 v' E'.length (cellsOf E')) (hR : R ≠ Q) (hQ : w.heap.size ≤ Q) :
    GS w (w4.setCell ⟨Q, 1, none⟩ v') g a n cap p R Q vb v' L E' := by
  have ht : Turns (fun b => some b = ve.ownBlock) wr w4 := (Turns.of_below hx).then_ (Turns.of_grown hg) (fun _ _ h => h) (fun _ _ h => h)
  have hRl := (Array.getElem?_eq_some_iff.1 h.res).1
  have hQl := (Array.getElem?_eq_some_iff.1 h.two).1
  have hgl := h.rd.lt
  have hR4 : Two w4 R _ _ := h.res.of_cells (ht.block R hRl (fun e => own_neK h.oe h.res (by decide) e.symm))
  have hQ4 : Two w4 Q _ _ := h.two.of_cells (ht.block Q hQl (fun e => own_neK h.oe h.two (by decide) e.symm))
  have hB4 := ht.row h.ob (fun b hb e => by
    obtain ⟨c9, z9, h9⟩ := Lib.ownsRow_kind h.ob b hb
    exact own_neK h.oe h9 (by decide) e.symm)
  have hset : Turns (fun k => k = Q) w4 (w4.setCell ⟨Q, 1, none⟩ v') := ⟨rfl, rfl, rfl, by simp [World.setCell], fun j _ hj => Below.heap_setCell _ _ _ _ hj⟩
  have htu : Turns (fun k => k = g) w (w4.setCell ⟨Q, 1, none⟩ v') := (h.tu.then_ ht (T := fun k => k = g) (fun _ _ h => h) (fun i hi e => by have := (h.oe.lt i e.symm).1; omega)).setNew hQ _
  obtain ⟨p0, h0⟩ := h.ent
  refine ⟨h.ent, h0.turns htu ?_, hR4.far hR _, hQ4.set1 _, own_far hB4 (own_neK hB4 hQ4 (by decide)) _, own_far hown (own_neK hown hQ4 (by decide)) _, htu⟩
  exact (hset.block g (Nat.lt_of_lt_of_le hgl ht.size) h.qne.symm).trans ((ht.block g hgl (fun e => h.ene e.symm)).trans h.rd.here)
end
/-- a list of texts laid ahead of another draw: an element of it -/
theorem of_kept (w5 wM : World) (g : Nat) (a : Option Addr) (n cap p : Nat) (L : List ByteArray) (o : Obj) (ho : o = .cells (L.map Value.string).toArray 9) (ht : Turns (fun k => k = g) ((w5.alloc o).drew) wM) (hg : g < w5.heap.size) (hp : p ≤ 1000000) (h : RdAt wM g a n cap p) (h1 : 1 ≤ L.length) (h2 : L.length ≤ 1000) :
    Calls Tryd.prog 56 #[.pointer (some ⟨g, 0, none⟩), .slice (some ⟨w5.heap.size, 0, none⟩) L.length L.length] wM (OfPost wM g a n cap p L) := by
  subst ho
  have hb : wM.heap[w5.heap.size]? = (w5.alloc (.cells (L.map Value.string).toArray 9)).heap[w5.heap.size]? := ht.block w5.heap.size (show w5.heap.size < (w5.alloc _).heap.size by simp) (by omega)
  exact of_any wM g a n cap p w5.heap.size L hp h (by omega) (hb.trans (heap_alloc_new _ _)) h1 h2
theorem of_at (wM : World) (g : Nat) (a : Option Addr) (n cap p gl : Nat) (L : List ByteArray) (o : Obj) (hb : wM.heap[gl]? = some o) (ho : o = .cells (L.map Value.string).toArray 9) (hne : gl ≠ g) (hp : p ≤ 1000000) (h : RdAt wM g a n cap p) (h1 : 1 ≤ L.length) (h2 : L.length ≤ 1000) :
    Calls Tryd.prog 56 #[.pointer (some ⟨g, 0, none⟩), .slice (some ⟨gl, 0, none⟩) L.length L.length] wM (OfPost wM g a n cap p L) := by
  subst ho
  exact of_any wM g a n cap p gl L hp h hne hb h1 h2
/-- texts that are short -/
def Sh (l : List Pr) : Prop := l.length ≤ 1000 ∧ ∀ i, i < l.length → (nameAt l i).size ≤ 1000 ∧ (restAt l i).size ≤ 1000
theorem Sh.pr {l : List Pr} : Sh l ↔ l.length ≤ 1000 ∧ ∀ p ∈ l, p.1.size ≤ 1000 ∧ p.2.size ≤ 1000 := by
  constructor
  · rintro ⟨h1, h2⟩
    refine ⟨h1, fun p hp => ?_⟩
    obtain ⟨i, hi, e1, e2⟩ := mem_at hp
    have := h2 i hi
    rw [e1, e2] at this; exact this
  · rintro ⟨h1, h2⟩
    exact ⟨h1, fun i hi => h2 _ (pair_mem hi)⟩
theorem Sh.small {l : List Pr} (h : Sh l) : ∀ i, i < l.length → (nameAt l i).size ≤ 1048576 ∧ (restAt l i).size ≤ 1048576 := fun i hi => by have := h.2 i hi; omega
theorem Sh.set {l : List Pr} (h : Sh l) {j : Nat} {p : Pr} (h1 : p.1.size ≤ 1000) (h2 : p.2.size ≤ 1000) : Sh (l.set j p) := by
  rw [Sh.pr] at h ⊢
  refine ⟨by simpa using h.1, fun q hq => ?_⟩
  rcases List.mem_or_eq_of_mem_set hq with hq | rfl
  · exact h.2 q hq
  · exact ⟨h1, h2⟩
theorem Sh.snoc {l : List Pr} (h : Sh l) {p : Pr} (hl : l.length ≤ 999) (h1 : p.1.size ≤ 1000) (h2 : p.2.size ≤ 1000) : Sh (l ++ [p]) := by
  rw [Sh.pr] at h ⊢
  refine ⟨by simp; omega, fun q hq => ?_⟩
  rcases List.mem_append.1 hq with hq | hq
  · exact h.2 q hq
  · rw [List.mem_singleton] at hq; subst hq; exact ⟨h1, h2⟩
theorem Valid.shb {bs es : List Pr} (h : Valid bs es) : Sh bs := by
  rw [Sh.pr]
  refine ⟨by have := h.b.hi; omega, fun p hp => ?_⟩
  have h1 := h.b.nm p hp
  have h2 := (h.b.op p hp).1
  unfold isNm at h1
  simp only [Bool.and_eq_true, beq_iff_eq] at h1
  omega
theorem Valid.she {bs es : List Pr} (h : Valid bs es) : Sh es := by
  rw [Sh.pr]
  refine ⟨by have := h.e.hi; omega, fun p hp => ?_⟩
  have key : ∀ x ∈ names bs, x.size ≤ 1000 := by
    intro x hx
    obtain ⟨i, hi, rfl⟩ := mem_names hx
    have h1 := h.b.nm _ (pair_mem hi)
    unfold isNm at h1
    simp only [Bool.and_eq_true, beq_iff_eq] at h1
    omega
  exact ⟨key _ (h.e.fr p hp), key _ (h.e.to p hp)⟩
/-- the first pairs of a row that reads as a list -/
theorem PairsAt.take {w : World} {a : Option Addr} {l : List Pr} (h : PairsAt w a l) (k : Nat) (hk : k ≤ l.length) : PairsAt w a (l.take k) := by
  have hl : (l.take k).length = k := by simp; omega
  have e : ∀ i, i < k → nameAt (l.take k) i = nameAt l i ∧ restAt (l.take k) i = restAt l i := by
    intro i hi
    unfold nameAt restAt
    simp [List.getD_eq_getElem?_getD, hi]
  refine ⟨by have := h.len; omega, fun i hi => ?_, fun i hi => ?_⟩
  · rw [hl] at hi; rw [(e i hi).1, (e i hi).2]; exact h.size i (by omega)
  · rw [hl] at hi; rw [(e i hi).1, (e i hi).2]; exact h.cell i (by omega)
theorem PairsAt.setZ {w : World} {a : Option Addr} {l : List Pr} (h : PairsAt w a l) {p : Addr} {v u : Value} (hc : w.cell? p = some v) (hv : ∀ s, v ≠ .string s) : PairsAt (w.setCell p u) a l :=
  ⟨h.len, h.size, fun i hi => by
    obtain ⟨b, off, e, hb, h1, h2⟩ := h.cell i hi
    refine ⟨b, off, e, by simpa [World.setCell] using hb, ?_, ?_⟩
    · rw [World.cell?_setCell_other]
      · exact h1
      · rintro rfl; rw [hc] at h1; exact hv _ (Option.some.inj h1)
    · rw [World.cell?_setCell_other]
      · exact h2
      · rintro rfl; rw [hc] at h2; exact hv _ (Option.some.inj h2)⟩
/-- the result's block written last -/
theorem some_fin {w wr : World} {g : Nat} {a xa ya : Option Addr} {n cap p pp R xn xc yn yc m : Nat} {L E : List Pr} (h0 : RdAt w g a n cap p) (hrd : RdAt wr g a n cap pp) (hres : Two wr R (.slice none 0 0) (.slice none 0 0)) (htu : Turns (fun k => k = g) w wr) (hR : w.heap.size ≤ R) (hpp : pp ≤ p + m)
    (hPb : PairsAt wr xa L) (hPe : PairsAt wr ya E) :
    PairsAt ((wr.setCell ⟨R, 0, none⟩ (.slice xa xn xc)).setCell ⟨R, 1, none⟩ (.slice ya yn yc)) xa L ∧ PairsAt ((wr.setCell ⟨R, 0, none⟩ (.slice xa xn xc)).setCell ⟨R, 1, none⟩ (.slice ya yn yc)) ya E ∧ Drawn w ((wr.setCell ⟨R, 0, none⟩ (.slice xa xn xc)).setCell ⟨R, 1, none⟩ (.slice ya yn yc)) g a n cap p m := by
  have hn : ∀ s, Value.slice none 0 0 ≠ .string s := fun s h => by cases h
  have hRg : R ≠ g := by have := h0.lt; omega
  obtain ⟨r0, r1, t0, t1, _⟩ := hres.cells
  have htf := (htu.setNew (p := ⟨R, 0, none⟩) hR (.slice xa xn xc)).setNew (p := ⟨R, 1, none⟩) hR (.slice ya yn yc)
  have hhf : ((wr.setCell ⟨R, 0, none⟩ (.slice xa xn xc)).setCell ⟨R, 1, none⟩ (.slice ya yn yc)).heap[g]? = wr.heap[g]? := (Below.heap_setCell _ _ _ _ (Ne.symm hRg)).trans (Below.heap_setCell _ _ _ _ (Ne.symm hRg))
  exact ⟨(hPb.setZ r0 hn).setZ (p := ⟨R, 1, none⟩) (Two.set0 hres _).cells.2.1 hn, (hPe.setZ r0 hn).setZ (p := ⟨R, 1, none⟩) (Two.set0 hres _).cells.2.1 hn, pp, hpp, h0.turns htf (hhf.trans hrd.here), htf⟩
section
variable {w wr w' : World} {g : Nat} {a : Option Addr} {n cap p p' R Q : Nat} {vb ve : Value} {L E : List Pr}
theorem GS.drewG (h : GS w wr g a n cap p R Q vb ve L E) : GS w wr.drew g a n cap p R Q vb ve L E := h.below (Below.refl _ _).drew
theorem GS.cellB (h : GS w wr g a n cap p R Q vb ve L E) {gb cb j : Nat} (hv : vb = .slice (some ⟨gb, 0, none⟩) L.length cb) (hj : j < L.length) :
    wr.cell? ⟨gb, j * 2, none⟩ = some (.string (nameAt L j)) ∧ wr.cell? ⟨gb, j * 2 + 1, none⟩ = some (.string (restAt L j)) ∧ wr.frozen? ⟨gb, j * 2, none⟩ = false ∧ wr.frozen? ⟨gb, j * 2 + 1, none⟩ = false := by
  obtain ⟨g', c', e, _, _, _, h1, h2⟩ := own_head h.ob (by omega)
  rw [hv] at e
  simp only [Value.slice.injEq, Option.some.injEq, Addr.mk.injEq, and_true, true_and] at e
  obtain ⟨rfl, rfl⟩ := e
  exact ⟨h1 _ _ (cellsOf_even L j hj), h1 _ _ (cellsOf_odd L j hj), h2 _, h2 _⟩
end
/-- a program in memory, its texts short; only the source is written -/
def SomeDraw (w : World) (g : Nat) (a : Option Addr) (n cap p : Nat) (e : Ending) (w' : World) : Prop := ∃ bs es ab ae cb ce, e = .returned (.agg #[.slice ab (List.length bs) cb, .slice ae (List.length es) ce]) ∧ Sh bs ∧ Sh es ∧ PairsAt w' ab bs ∧ PairsAt w' ae es ∧ Drawn w w' g a n cap p 100
theorem GS.some {w wr : World} {g : Nat} {a xa ya : Option Addr} {n cap p pp R Q nb ne xc yc : Nat} {L E : List Pr} (h : GS w wr g a n cap pp R Q (.slice xa nb xc) (.slice ya ne yc) L E) (h0 : RdAt w g a n cap p) (hR : w.heap.size ≤ R) (hpp : pp ≤ p + 100) (hnb : nb = L.length) (hne : ne = E.length) (hL : Sh L) (hE : Sh E) :
    SomeDraw w g a n cap p (.returned (.agg #[.slice xa nb xc, .slice ya ne yc])) ((wr.setCell ⟨R, 0, none⟩ (.slice xa nb xc)).setCell ⟨R, 1, none⟩ (.slice ya ne yc)) := by
  subst hnb hne
  obtain ⟨h1, h2, h3⟩ := some_fin (xn := L.length) (xc := xc) (yn := E.length) (yc := yc) h0 h.rd h.res h.tu hR hpp (own_at rfl h.ob (by have := hL.1; omega) hL.small) (own_at rfl h.oe (by have := hE.1; omega) hE.small)
  exact ⟨L, E, xa, ya, xc, yc, rfl, hL, hE, h1, h2, h3⟩
theorem GS.someE {w wr : World} {g : Nat} {a xa ya : Option Addr} {n cap p pp R Q nb ne xc yc k : Nat} {L E : List Pr} (h : GS w wr g a n cap pp R Q (.slice xa nb xc) (.slice ya ne yc) L E) (h0 : RdAt w g a n cap p) (hR : w.heap.size ≤ R) (hpp : pp ≤ p + 100) (hnb : nb = L.length) (hne : ne = E.length) (hk : k ≤ E.length) (hL : Sh L) (hE : Sh E) :
    SomeDraw w g a n cap p (.returned (.agg #[.slice xa nb xc, .slice ya k yc])) ((wr.setCell ⟨R, 0, none⟩ (.slice xa nb xc)).setCell ⟨R, 1, none⟩ (.slice ya k yc)) := by
  subst hnb hne
  have hl : (E.take k).length = k := by simp; omega
  obtain ⟨h1, h2, h3⟩ := some_fin (xn := L.length) (xc := xc) (yn := k) (yc := yc) h0 h.rd h.res h.tu hR hpp (own_at rfl h.ob (by have := hL.1; omega) hL.small) ((own_at rfl h.oe (by have := hE.1; omega) hE.small).take k hk)
  refine ⟨L, E.take k, xa, ya, xc, yc, by rw [hl], hL, ?_, h1, h2, h3⟩
  rw [Sh.pr] at hE ⊢
  exact ⟨by rw [hl]; omega, fun q hq => hE.2 q (List.mem_of_mem_take hq)⟩
theorem GS.someT {w wr : World} {g : Nat} {a xa ya : Option Addr} {n cap p pp R Q nb ne xc yc k : Nat} {v : Value} {L E : List Pr} (h : GS w wr g a n cap pp R Q (.slice xa nb xc) (.slice ya ne yc) L E) (h0 : RdAt w g a n cap p) (hR : w.heap.size ≤ R) (hQ : w.heap.size ≤ Q) (hRQ : R ≠ Q) (hpp : pp ≤ p + 100) (hnb : nb = L.length) (hne : ne = E.length) (hk : k ≤ E.length) (hL : Sh L) (hE : Sh E) :
    SomeDraw w g a n cap p (.returned (.agg #[.slice xa nb xc, .slice ya k yc])) (((wr.setCell ⟨Q, 1, none⟩ v).setCell ⟨R, 0, none⟩ (.slice xa nb xc)).setCell ⟨R, 1, none⟩ (.slice ya k yc)) := by
  subst hnb hne
  have hl : (E.take k).length = k := by simp; omega
  have hn : ∀ s, Value.slice ya E.length yc ≠ .string s := fun s h => by cases h
  have htu := h.tu.setNew (p := ⟨Q, 1, none⟩) hQ v
  have hrd : RdAt (wr.setCell ⟨Q, 1, none⟩ v) g a n cap pp := h0.turns htu ((Below.heap_setCell _ _ _ _ (Ne.symm h.qne)).trans h.rd.here)
  obtain ⟨h1, h2, h3⟩ := some_fin (xn := L.length) (xc := xc) (yn := k) (yc := yc) h0 hrd (h.res.far hRQ v) htu hR hpp ((own_at rfl h.ob (by have := hL.1; omega) hL.small).setZ h.two.cells.2.1 hn) (((own_at rfl h.oe (by have := hE.1; omega) hE.small).setZ h.two.cells.2.1 hn).take k hk)
  refine ⟨L, E.take k, xa, ya, xc, yc, by rw [hl], hL, ?_, h1, h2, h3⟩
  rw [Sh.pr] at hE ⊢
  exact ⟨by rw [hl]; omega, fun q hq => hE.2 q (List.mem_of_mem_take hq)⟩
def opsS : List ByteArray := [⟨#[120]⟩, ⟨#[97]⟩, ⟨#[120, 120, 120, 120, 120, 120, 120]⟩, ⟨#[88]⟩]
def fromS : List ByteArray := [⟨#[65]⟩, ⟨#[66]⟩, ⟨#[74]⟩, ⟨#[]⟩]
def toS : List ByteArray := [⟨#[65]⟩, ⟨#[66]⟩, ⟨#[67]⟩, ⟨#[120]⟩]
def nameS : List ByteArray := [⟨#[65]⟩, ⟨#[]⟩, ⟨#[74]⟩, ⟨#[65, 66]⟩]
theorem short_of {l : List ByteArray} (hl : (l.all fun s => decide (s.size ≤ 1000)) = true) {x : ByteArray} (h : x ∈ l) : x.size ≤ 1000 := by simpa using List.all_eq_true.1 hl x h
theorem opsS_sh {x : ByteArray} (h : x ∈ opsS) : x.size ≤ 1000 := short_of (by decide) h
theorem fromS_sh {x : ByteArray} (h : x ∈ fromS) : x.size ≤ 1000 := short_of (by decide) h
theorem toS_sh {x : ByteArray} (h : x ∈ toS) : x.size ≤ 1000 := short_of (by decide) h
theorem nameS_sh {x : ByteArray} (h : x ∈ nameS) : x.size ≤ 1000 := short_of (by decide) h
end Go.Proofs.YtfmhcjhcmoniaaaDoor
