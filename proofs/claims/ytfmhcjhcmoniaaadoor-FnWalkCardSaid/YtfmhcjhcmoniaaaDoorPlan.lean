/-
  The program's chapter 1: planOf: the plan of a valid program, or an error. Conditions: at most 1048576 blocks and edges, each text at most as many bytes; the errors' variables hold errors.
-/
import Derived.Test.YtfmhcjhcmoniaaaDoorEnds
import Derived.Test.YtfmhcjhcmoniaaaDoorSpecD
namespace Go.Proofs.YtfmhcjhcmoniaaaDoor
open Go.RowKit Go.Maps

/-- the errors' variables hold errors -/
structure Errs (w : World) : Prop where
  count : ErrAt w 0
  name : ErrAt w 2
  ops : ErrAt w 6
  edge : ErrAt w 1
  entry : ErrAt w 3
  exit : ErrAt w 4
  lost : ErrAt w 5
theorem Errs.keep {w w' : World} (h : Errs w) (hb : Below w.heap.size w w') : Errs w' := ⟨h.count.keep hb, h.name.keep hb, h.ops.keep hb, h.edge.keep hb, h.entry.keep hb, h.exit.keep hb, h.lost.keep hb⟩
theorem Turns.cell {S : Nat → Prop} {w w' : World} (h : Turns S w w') {b : Nat} (hb : b < w.heap.size) (hS : ¬ S b) (i : Nat) : w'.cell? ⟨b, i, none⟩ = w.cell? ⟨b, i, none⟩ := World.cell?_of_block (w := w) (h.block b hb hS)
theorem Turns.frozen {S : Nat → Prop} {w w' : World} (h : Turns S w w') {b : Nat} (hb : b < w.heap.size) (hS : ¬ S b) (i : Nat) : w'.frozen? ⟨b, i, none⟩ = w.frozen? ⟨b, i, none⟩ := World.frozen?_of_block (w := w) (h.block b hb hS)

/-- the plan of a program, in memory -/
structure PlanAt (w : World) (o lo li : Nat) (bs es : List Pr) : Prop where
  ops : ∃ F, OpsMap w o bs F
  out : ∃ fp F, Links w lo fp es F ∧ ∀ k ∈ fp, k < w.heap.size
  in_ : ∃ fp F, Links w li fp (flip es) F ∧ ∀ k ∈ fp, k < w.heap.size
def PlanPost (w : World) (bs es : List Pr) (e : Ending) (w' : World) : Prop :=
  Below w.heap.size w w' ∧ ((Valid bs es ∧ ∃ o lo li, e = .returned (.tuple #[.agg #[.map (some o), .map (some lo), .map (some li)], .nilIface]) ∧ PlanAt w' o lo li bs es) ∨
    (¬ Valid bs es ∧ ∃ t x, e = .returned (.tuple #[.agg #[.map none, .map none, .map none], .iface t x])))

theorem valid_of_parts {bs es : List Pr} (h2 : 2 ≤ bs.length) (h9 : bs.length ≤ 9) (h14 : es.length ≤ 14) (hl : LettersOk bs) (hj : ∀ k, k < es.length → nameAt es k ∈ names bs ∧ restAt es k ∈ names bs ∧ (nameAt es k, restAt es k) ∉ es.take k) (he : EndsOk bs es (nameAt bs 0) (nameAt bs (bs.length - 1))) : Valid bs es where
  b := ⟨h2, h9, hl.nm, hl.op, hl.nd, (e0_iff _).2 (he.en _ (pair_mem (by omega)) rfl)⟩
  e := {
    hi := h14
    fr := fun e h => by obtain ⟨i, hi, e1, _⟩ := mem_at h; rw [← e1]; exact (hj i hi).1
    to := fun e h => by obtain ⟨i, hi, _, e2⟩ := mem_at h; rw [← e2]; exact (hj i hi).2.1
    nd := nodupE_iff.2 fun i hi j hji e => (hj i hi).2.2 (by rw [← e, ← pair_at (by omega)]; exact List.mem_take_iff_getElem.2 ⟨j, by omega, rfl⟩)
    ne := he.ne
    nx := he.nx }
  ra := he.ra
  rz := he.rz
theorem Valid.letters {bs es : List Pr} (h : Valid bs es) : LettersOk bs := ⟨h.b.nm, h.b.op, h.b.nd⟩
theorem Valid.join {bs es : List Pr} (h : Valid bs es) {k : Nat} (hk : k < es.length) : joinB bs (es.take k) (nameAt es k) (restAt es k) = true := by
  refine joinB_yes (h.e.fr _ (pair_mem hk)) (h.e.to _ (pair_mem hk)) fun hm => ?_
  obtain ⟨j, hj, e⟩ := List.mem_take_iff_getElem.1 hm
  have hj' : j < k := by omega
  rw [pair_at (by omega)] at e
  exact nodupE_iff.1 h.e.nd k hk j hj' e
theorem joinB_true {bs E : List Pr} {x y : ByteArray} (h : joinB bs E x y = true) : x ∈ names bs ∧ y ∈ names bs ∧ (x, y) ∉ E := by
  simpa [joinB] using h
theorem Valid.ends {bs es : List Pr} (h : Valid bs es) : EndsOk bs es (nameAt bs 0) (nameAt bs (bs.length - 1)) where
  en p hp e := by
    obtain ⟨i, hi, e1, e2⟩ := mem_at hp
    have := names_inj h.b.nd hi (by have := h.b.lo; omega) (e1.trans e)
    subst this
    rw [← e2, h.b.en]; rfl
  ne := h.e.ne
  nx := h.e.nx
  ra := h.ra
  rz := h.rz

/-- the loop's state: H: the heap's size when the two maps of maps were made -/
structure LoopAt (W0 wr : World) (H o : Nat) (es : List Pr) (k : Nat) (fo fi : List Nat) (FL FI : ByteArray → Option Value) : Prop where
  below : Below H W0 wr
  size : H + 3 ≤ wr.heap.size
  out : Links wr H fo (es.take k) FL
  in_ : Links wr (H + 1) fi (flip (es.take k)) FI
  hfo : ∀ x ∈ fo, H + 3 ≤ x ∧ x < wr.heap.size
  hfi : ∀ x ∈ fi, H + 3 ≤ x ∧ x < wr.heap.size
  apart : ∀ x ∈ fo, x ∉ fi
  c0 : wr.cell? ⟨H + 1 + 1, 0, none⟩ = some (.map (some o))
  c1 : wr.cell? ⟨H + 1 + 1, 1, none⟩ = some (.map (some H))
  c2 : wr.cell? ⟨H + 1 + 1, 2, none⟩ = some (.map (some (H + 1)))

theorem LoopAt.keep {W0 wr w' : World} {H o k : Nat} {es : List Pr} {fo fi : List Nat} {FL FI : ByteArray → Option Value} (h : LoopAt W0 wr H o es k fo fi FL FI) (hb : Below wr.heap.size wr w') : LoopAt W0 w' H o es k fo fi FL FI where
  below := h.below.trans (hb.mono (by have := h.size; omega))
  size := Nat.le_trans h.size hb.size
  out := h.out.below_ hb (fun k hk => (h.hfo k hk).2)
  in_ := h.in_.below_ hb (fun k hk => (h.hfi k hk).2)
  hfo x hx := ⟨(h.hfo x hx).1, Nat.lt_of_lt_of_le (h.hfo x hx).2 hb.size⟩
  hfi x hx := ⟨(h.hfi x hx).1, Nat.lt_of_lt_of_le (h.hfi x hx).2 hb.size⟩
  apart := h.apart
  c0 := (hb.cell (p := ⟨H + 1 + 1, 0, none⟩) (by have := h.size; simp; omega)).trans h.c0
  c1 := (hb.cell (p := ⟨H + 1 + 1, 1, none⟩) (by have := h.size; simp; omega)).trans h.c1
  c2 := (hb.cell (p := ⟨H + 1 + 1, 2, none⟩) (by have := h.size; simp; omega)).trans h.c2
theorem flip_snoc (l : List Pr) (p : Pr) : flip (l ++ [p]) = flip l ++ [(p.2, p.1)] := by simp [flip]
theorem LoopAt.in_after {W0 W2 W3 : World} {H o k : Nat} {es : List Pr} {fo fi : List Nat} {FL FI : ByteArray → Option Value} (h : LoopAt W0 W2 H o es k fo fi FL FI) (t1 : Turns (fun x => x = H ∨ x ∈ fo) W2 W3) : Links W3 (H + 1) fi (flip (es.take k)) FI :=
  h.in_.turns t1 h.in_.map.lt (fun x hx => (h.hfi x hx).2) (fun x hx hs => by
    rcases hx with rfl | hx
    · rcases hs with hs | hs
      · omega
      · have := (h.hfo _ hs).1; omega
    · rcases hs with hs | hs
      · have := (h.hfi _ hx).1; omega
      · exact h.apart x hs hx)
theorem LoopAt.step {W0 W2 W3 W4 : World} {H o k : Nat} {es : List Pr} {fo fi fo' fi' : List Nat} {FL FI FL' FI' : ByteArray → Option Value} (h : LoopAt W0 W2 H o es k fo fi FL FI) (hk : k < es.length)
    (h1 : Links W3 H fo' (es.take k ++ [(nameAt es k, restAt es k)]) FL') (hf1 : ∀ x ∈ fo', x < W3.heap.size) (hn1 : ∀ x ∈ fo', x ∈ fo ∨ W2.heap.size ≤ x) (t1 : Turns (fun x => x = H ∨ x ∈ fo) W2 W3)
    (h2 : Links W4 (H + 1) fi' (flip (es.take k) ++ [(restAt es k, nameAt es k)]) FI') (hf2 : ∀ x ∈ fi', x < W4.heap.size) (hn2 : ∀ x ∈ fi', x ∈ fi ∨ W3.heap.size ≤ x) (t2 : Turns (fun x => x = H + 1 ∨ x ∈ fi) W3 W4) : LoopAt W0 W4 H o es (k + 1) fo' fi' FL' FI' := by
  have hs := h.size
  have hfo3 : ∀ x ∈ fo', H + 3 ≤ x := fun x hx => by
    rcases hn1 x hx with h' | h'
    · exact (h.hfo x h').1
    · omega
  have hap : ∀ x ∈ fo', x ∉ fi := fun x hx hx' => by
    rcases hn1 x hx with h' | h'
    · exact h.apart x h' hx'
    · have := (h.hfi x hx').2; omega
  have hcell : ∀ i, W4.cell? ⟨H + 1 + 1, i, none⟩ = W2.cell? ⟨H + 1 + 1, i, none⟩ := fun i => by
    rw [t2.cell (by have := t1.size; omega) (fun hs' => by rcases hs' with h' | h'; omega; (have := (h.hfi _ h').1; omega)), t1.cell (by omega) (fun hs' => by rcases hs' with h' | h'; omega; (have := (h.hfo _ h').1; omega))]
  refine ⟨?_, ?_, ?_, ?_, fun x hx => ⟨hfo3 x hx, Nat.lt_of_lt_of_le (hf1 x hx) t2.size⟩, fun x hx => ⟨?_, hf2 x hx⟩, fun x hx hx' => ?_, (hcell 0).trans h.c0, (hcell 1).trans h.c1, (hcell 2).trans h.c2⟩
  · refine (h.below.trans (t1.below (B := H) (by omega) ?_)).trans (t2.below (B := H) (by have := t1.size; omega) ?_)
    · intro x hx; rcases hx with rfl | hx; omega; (have := (h.hfo _ hx).1; omega)
    · intro x hx; rcases hx with rfl | hx; omega; (have := (h.hfi _ hx).1; omega)
  · have := t1.size; have := t2.size; omega
  · rw [take_succ_pr hk]
    refine h1.turns t2 h1.map.lt hf1 (fun x hx hs' => ?_)
    rcases hx with rfl | hx
    · rcases hs' with h' | h'
      · omega
      · have := (h.hfi _ h').1; omega
    · rcases hs' with h' | h'
      · have := hfo3 x hx; omega
      · exact hap x hx h'
  · rw [take_succ_pr hk, flip_snoc]
    exact h2
  · rcases hn2 x hx with h' | h'
    · exact (h.hfi x h').1
    · have := t1.size; omega
  · rcases hn2 x hx' with h' | h'
    · exact hap x hx h'
    · have := hf1 x hx; omega
theorem below_res {w w1 : World} (h : Below w.heap.size w w1) (a b c : Value) : Below w.heap.size w (((w1.setCell ⟨w.heap.size + 1, 0, none⟩ a).setCell ⟨w.heap.size + 1, 1, none⟩ b).setCell ⟨w.heap.size + 1, 2, none⟩ c) :=
  ((h.setCell (p := ⟨w.heap.size + 1, 0, none⟩) (by simp) _).setCell (p := ⟨w.heap.size + 1, 1, none⟩) (by simp) _).setCell (p := ⟨w.heap.size + 1, 2, none⟩) (by simp) _
theorem cell3 (w : World) (g : Nat) (a b c : Value) (q : Addr) (h : q.block ≠ g) : (((w.setCell ⟨g, 0, none⟩ a).setCell ⟨g, 1, none⟩ b).setCell ⟨g, 2, none⟩ c).drew.cell? q = w.cell? q := by
  show (((w.setCell ⟨g, 0, none⟩ a).setCell ⟨g, 1, none⟩ b).setCell ⟨g, 2, none⟩ c).cell? q = w.cell? q
  rw [World.cell?_setCell_other, World.cell?_setCell_other, World.cell?_setCell_other]
  all_goals (intro e; subst e; exact h rfl)
theorem ends_form {w w' : World} {bs es : List Pr} {a z : ByteArray} {e : Ending} (h : EndsPost w bs es a z e w') : ∃ v, e = .returned v ∧ Below w.heap.size w w' ∧ ((EndsOk bs es a z ∧ v = .nilIface) ∨ (¬ EndsOk bs es a z ∧ ∃ t x, v = .iface t x)) := by
  obtain ⟨hb, ⟨h1, rfl⟩ | ⟨h1, t, x, rfl⟩⟩ := h
  · exact ⟨_, rfl, hb, .inl ⟨h1, rfl⟩⟩
  · exact ⟨_, rfl, hb, .inr ⟨h1, t, x, rfl⟩⟩
theorem plan_res {w1 wN : World} {H o R : Nat} {bs es : List Pr} {fo fi : List Nat} {FO FL FI : ByteArray → Option Value} {cs : Array Value} {fr : Nat × Nat} {a b c : Value} (hO : OpsMap wN o bs FO) (hL : LoopAt w1 wN H o es es.length fo fi FL FI) (hR : wN.heap[R]? = some (.cells cs 58 fr)) (hRH : R < H) :
    PlanAt (((wN.setCell ⟨R, 0, none⟩ a).setCell ⟨R, 1, none⟩ b).setCell ⟨R, 2, none⟩ c) o H (H + 1) bs es := by
  have hk : ∀ k, k ≠ R → (((wN.setCell ⟨R, 0, none⟩ a).setCell ⟨R, 1, none⟩ b).setCell ⟨R, 2, none⟩ c).heap[k]? = wN.heap[k]? := fun k hk => by
    rw [Below.heap_setCell _ _ _ _ hk, Below.heap_setCell _ _ _ _ hk, Below.heap_setCell _ _ _ _ hk]
  have hmap : ∀ k n f, MapV wN k n f → k ≠ R := fun k n f hm e => by
    obtain ⟨es, c, h⟩ := hm.block
    rw [e, hR] at h; cases h
  have hsz : (((wN.setCell ⟨R, 0, none⟩ a).setCell ⟨R, 1, none⟩ b).setCell ⟨R, 2, none⟩ c).heap.size = wN.heap.size := by simp [World.setCell]
  refine ⟨⟨FO, hO.map.same (hk _ (hmap _ _ _ hO.map)), hO.none_, fun p hp => ?_⟩, ⟨fo, FL, ?_, fun x hx => by rw [hsz]; exact (hL.hfo x hx).2⟩, ⟨fi, FI, ?_, fun x hx => by rw [hsz]; exact (hL.hfi x hx).2⟩⟩
  · obtain ⟨v, hv, h1, h2⟩ := hO.row p hp
    refine ⟨v, hv, h1, ?_⟩
    rcases h2 with h2 | ⟨g, cap, cur, e1, e2, e3, e4⟩
    · exact .inl h2
    · refine .inr ⟨g, cap, cur, e1, e2, (hk g (fun e => ?_)).trans e3, e4⟩
      rw [e, hR] at e3
      simp at e3
  · have := hL.out.same (w' := (((wN.setCell ⟨R, 0, none⟩ a).setCell ⟨R, 1, none⟩ b).setCell ⟨R, 2, none⟩ c)) (fun k hk' => hk k (by rcases hk' with rfl | h; omega; (have := (hL.hfo k h).1; omega)))
    rwa [List.take_length] at this
  · have := hL.in_.same (w' := (((wN.setCell ⟨R, 0, none⟩ a).setCell ⟨R, 1, none⟩ b).setCell ⟨R, 2, none⟩ c)) (fun k hk' => hk k (by rcases hk' with rfl | h; omega; (have := (hL.hfi k h).1; omega)))
    rwa [List.take_length] at this
theorem loop_start (w1 : World) (o : Nat) (es : List Pr) (t : TypeId) :
    LoopAt w1 (((w1.alloc (.map #[] 0)).alloc (.map #[] 0)).alloc (.cells #[.map (some o), .map (some w1.heap.size), .map (some (w1.heap.size + 1))] t)) w1.heap.size o es 0 [] [] (fun _ => none) (fun _ => none) where
  below := (((Below.refl _ _).alloc (Nat.le_refl _) _).alloc (by simp) _).alloc (by simp; omega) _
  size := by simp
  out := by
    rw [List.take_zero]
    exact ((Links.made w1).below_ ((Below.refl _ _).alloc (Nat.le_refl _) _) (by simp)).below_ ((Below.refl _ _).alloc (Nat.le_refl _) _) (by simp)
  in_ := by
    rw [List.take_zero]
    have h := Links.made (w1.alloc (.map #[] 0))
    rw [show (w1.alloc (.map #[] 0)).heap.size = w1.heap.size + 1 from by simp] at h
    exact h.below_ ((Below.refl _ _).alloc (Nat.le_refl _) _) (by simp)
  hfo := by simp
  hfi := by simp
  apart := by simp
  c0 := by go_simp
  c1 := by go_simp
  c2 := by go_simp

set_option maxRecDepth 100000 in
set_option maxHeartbeats 6400000 in
theorem planOf_any (w : World) (bs es : List Pr) (ab ae : Option Addr) (cb ce : Nat) (hpb : PairsAt w ab bs) (hpe : PairsAt w ae es) (hg : Errs w) :
    Calls Tryd.prog 46 #[.agg #[.slice ab bs.length cb, .slice ae es.length ce]] w (PlanPost w bs es) := by
  have hlb := hpb.len
  have hle := hpe.len
  have hmm := @run_makeMap Tryd.prog
  by_cases hcnt : (2 : Int) ≤ bs.length ∧ (bs.length : Int) ≤ 9 ∧ (es.length : Int) ≤ 14
  · obtain ⟨h2, h9, h14⟩ := hcnt
    have hw : Below w.heap.size w ((w.alloc (.cells #[.slice ab bs.length cb, .slice ae es.length ce] 32)).alloc (.cells #[.map none, .map none, .map none] 58)) := ((Below.refl _ _).alloc (Nat.le_refl _) _).alloc (by simp) _
    have hpb1 := hpb.below hw
    have hg1 := hg.keep hw
    have HW := Lib.hid hw
    clear hw
    have d1 : decide ((bs.length : Int) < 2) = false := by simp; omega
    have d2 : decide ((9 : Int) < bs.length) = false := by simp; omega
    have d3 : decide ((14 : Int) < es.length) = false := by simp; omega
    go_enter Tryd.func46, Tryd.ntmps46
    go_wp2_with fail
    refine (opsByName_any _ bs _ _ hpb1 hg1.name hg1.ops).mono ?_
    rintro e w1 ⟨hb1, hcase⟩
    obtain ⟨q1, q2⟩ := bcell hb1
    have hs1 : w.heap.size + 1 < w1.heap.size := by have := hb1.size; simp at this; omega
    have x0 := (q1 w.heap.size 0 (by simp; omega)).trans (show _ = some (.slice ab bs.length cb) by go_simp)
    have x1 := (q1 w.heap.size 1 (by simp; omega)).trans (show _ = some (.slice ae es.length ce) by go_simp)
    have r0 := (q1 (w.heap.size + 1) 0 (by simp)).trans (show _ = some (.map none) by go_simp)
    have r1 := (q1 (w.heap.size + 1) 1 (by simp)).trans (show _ = some (.map none) by go_simp)
    have r2 := (q1 (w.heap.size + 1) 2 (by simp)).trans (show _ = some (.map none) by go_simp)
    have z0 := (q2 (w.heap.size + 1) 0 (by simp)).trans (show _ = false by go_simp)
    have z1 := (q2 (w.heap.size + 1) 1 (by simp)).trans (show _ = false by go_simp)
    have z2 := (q2 (w.heap.size + 1) 2 (by simp)).trans (show _ = false by go_simp)
    clear q1 q2
    have HR := Lib.hid ((hb1.block (w.heap.size + 1) (by simp)).trans (show _ = some (Obj.cells #[.map none, .map none, .map none] 58 (0, 0)) by rw [show w.heap.size + 1 = (w.alloc (.cells #[.slice ab bs.length cb, .slice ae es.length ce] 32)).heap.size from by simp]; exact heap_alloc_new _ _))
    rcases hcase with ⟨hl, o, FO, rfl, ho, hO⟩ | ⟨hl, t, x, rfl⟩
    · have hbA : Below w1.heap.size w1 (((w1.alloc (.map #[] 0)).alloc (.map #[] 0)).alloc (.cells #[.map (some o), .map (some w1.heap.size), .map (some (w1.heap.size + 1))] 58)) := (((Below.refl _ _).alloc (Nat.le_refl _) _).alloc (by simp) _).alloc (by simp; omega) _
      obtain ⟨qa, qb⟩ := bcell hbA
      have y0 := (qa w.heap.size 0 (by omega)).trans x0
      have y1 := (qa w.heap.size 1 (by omega)).trans x1
      have hLA : LoopAt w1 (((w1.alloc (.map #[] 0)).alloc (.map #[] 0)).alloc (.cells #[.map (some o), .map (some w1.heap.size), .map (some (w1.heap.size + 1))] 58)) w1.heap.size o es 0 [] [] (fun _ => none) (fun _ => none) := loop_start w1 o es 58
      clear qa qb
      have HL := Lib.hid hl; clear hl
      have HLA := Lib.hid hLA; clear hLA
      have hall : Below w.heap.size w w1 := HW.out.trans (hb1.mono (by simp; omega))
      have hg2 := hg.keep hall
      have HO := Lib.hid hO; clear hO
      go_wp2
      clear hbA
      go_loopw [45] (fun i wr => ∃ (k : Nat) (fo fi : List Nat) (FL FI : ByteArray → Option Value), k ≤ es.length ∧ i = .int .i64 k ∧ LoopAt w1 wr w1.heap.size o es k fo fi FL FI ∧ ∀ j, j < k → joinB bs (es.take j) (nameAt es j) (restAt es j) = true) (fun i _ => es.length - (intOf i).toNat)
      case atStart => exact ⟨0, [], [], _, _, Nat.zero_le _, rfl, HLA.out, all_zero⟩
      case round =>
        obtain ⟨k, fo, fi, FL, FI, hk, rfl, hLp, hno⟩ := hrel
        have Hno := Lib.hid hno; clear hno
        have hbr := hLp.below
        have hsr := hLp.size
        have HLp := Lib.hid hLp; clear hLp
        have v0 := (hbr.cell (p := ⟨w.heap.size, 0, none⟩) (by simp; omega)).trans x0
        have v1 := (hbr.cell (p := ⟨w.heap.size, 1, none⟩) (by simp; omega)).trans x1
        have u0 := (hbr.cell (p := ⟨w.heap.size + 1, 0, none⟩) (by simp; omega)).trans r0
        have u1 := (hbr.cell (p := ⟨w.heap.size + 1, 1, none⟩) (by simp; omega)).trans r1
        have u2 := (hbr.cell (p := ⟨w.heap.size + 1, 2, none⟩) (by simp; omega)).trans r2
        have fz0 := (hbr.frozen (p := ⟨w.heap.size + 1, 0, none⟩) (by simp; omega)).trans z0
        have fz1 := (hbr.frozen (p := ⟨w.heap.size + 1, 1, none⟩) (by simp; omega)).trans z1
        have fz2 := (hbr.frozen (p := ⟨w.heap.size + 1, 2, none⟩) (by simp; omega)).trans z2
        have hallr : Below w.heap.size w wr := hall.trans (hbr.mono (by omega))
        by_cases hlt : k < es.length
        · have hsz := hpe.size k hlt
          obtain ⟨b, off, rfl, hb, h1, h2⟩ := hpe.cell k hlt
          have c1 := (hallr.cell (p := ⟨b, off + k * 2, none⟩) hb).trans h1
          have c2 := (hallr.cell (p := ⟨b, off + k * 2 + 1, none⟩) hb).trans h2
          clear h1 h2
          have hbe : Below wr.heap.size wr (wr.alloc (.cells #[.string (nameAt es k), .string (restAt es k)] 81)) := (Below.refl _ _).alloc (Nat.le_refl _) _
          have hLe := HLp.out.keep hbe
          have k0 := hLe.c0
          have k1 := hLe.c1
          have k2 := hLe.c2
          have hOe := (HO.out.below hbr).below hbe
          have HLe := Lib.hid hLe; clear hLe
          have HOe := Lib.hid hOe; clear hOe
          go_wp2_with fail
          refine (canJoin_any _ o w1.heap.size _ bs (es.take k) fo FO FL _ _ HOe.out HLe.out.out (fun x hx => (HLe.out.hfo x hx).2) hsz.1 hsz.2).mono ?_
          rintro e w2 ⟨rfl, hb2⟩
          have hL2 := HLe.out.keep hb2
          have hsw : wr.heap.size < w2.heap.size := by have := hb2.size; simp at this; omega
          have e0 := (hb2.cell (p := ⟨wr.heap.size, 0, none⟩) (by simp)).trans (show _ = some (.string (nameAt es k)) by go_simp)
          have e1 := (hb2.cell (p := ⟨wr.heap.size, 1, none⟩) (by simp)).trans (show _ = some (.string (restAt es k)) by go_simp)
          have hbw2 : Below wr.heap.size wr w2 := hbe.trans (hb2.mono (by simp))
          have j0 := hL2.c0
          have j1 := hL2.c1
          have j2 := hL2.c2
          have HL2 := Lib.hid hL2; clear hL2
          clear k0 k1 k2 hbe hb2
          by_cases hj : joinB bs (es.take k) (nameAt es k) (restAt es k) = true
          · have HJ := Lib.hid hj
            have hp := joinB_true hj
            have hlen : (es.take k).length = k := by simp; omega
            have HP := Lib.hid hp; clear hp
            go_wp2_with fail
            refine (put_any w2 w1.heap.size fo (es.take k) FL _ _ _ (by rw [hlen]) HL2.out.out (fun x hx => (HL2.out.hfo x hx).2) HP.out.2.2 hsz.1 hsz.2 (by omega)).mono ?_
            rintro e w3 ⟨rfl, fo', FL', L3, F3, N3, T3⟩
            have n2 : ¬ (w1.heap.size + 1 + 1 = w1.heap.size ∨ w1.heap.size + 1 + 1 ∈ fo) := fun h => by rcases h with h | h; omega; (have := (HL2.out.hfo _ h).1; omega)
            have n3 : ¬ (wr.heap.size = w1.heap.size ∨ wr.heap.size ∈ fo) := fun h => by rcases h with h | h; omega; (have := (HLp.out.hfo _ h).2; omega)
            have i1 := (T3.cell (b := w1.heap.size + 1 + 1) (by omega) n2 2).trans j2
            have i2 := (T3.cell (b := wr.heap.size) (by omega) n3 0).trans e0
            have i3 := (T3.cell (b := wr.heap.size) (by omega) n3 1).trans e1
            have HI3 := Lib.hid (HL2.out.in_after T3)
            clear n2 n3 j0 j1 j2
            go_wp2_with fail
            refine (put_any w3 (w1.heap.size + 1) fi (flip (es.take k)) FI _ _ _ (by rw [flip_length, hlen]) HI3.out (fun x hx => by have := (HL2.out.hfi x hx).2; have := T3.size; omega) (fun h => HP.out.2.2 (mem_flip.1 h)) hsz.2 hsz.1 (by rw [flip_length]; omega)).mono ?_
            rintro e w4 ⟨rfl, fi', FI', L4, F4, N4, T4⟩
            have hst := HL2.out.step hlt L3 F3 N3 T3 L4 F4 N4 T4
            clear i1 i2 i3 hlen
            go_wp2
            go_roundw
            case rel => exact ⟨k + 1, fo', fi', FL', FI', by omega, by go_num, hst, all_step Hno.out HJ.out⟩
            case measure => simp [intOf]; omega
          · have hj' : joinB bs (es.take k) (nameAt es k) (restAt es k) = false := by simpa using hj
            have H' := Lib.hid (show ¬ Valid bs es from fun h => hj (h.join hlt))
            clear hj
            have hall2 : Below w.heap.size w w2 := hallr.trans (hbw2.mono (by omega))
            obtain ⟨gl2, et2, ev2, ec2⟩ := hg.edge.keep hall2
            have gw := hg.edge.1
            have q0 : wr.heap.size ≠ w.heap.size + 1 := by omega
            have q1 : 1 ≠ w.heap.size + 1 := by omega
            have Q := Lib.hid (And.intro q0 q1); clear q0 q1
            obtain ⟨p1, p2⟩ := bcell hbw2
            have m0 := (p1 (w.heap.size + 1) 0 (by omega)).trans u0
            have m1 := (p1 (w.heap.size + 1) 1 (by omega)).trans u1
            have m2 := (p1 (w.heap.size + 1) 2 (by omega)).trans u2
            have o0 := (p2 (w.heap.size + 1) 0 (by omega)).trans fz0
            have o1 := (p2 (w.heap.size + 1) 1 (by omega)).trans fz1
            have o2 := (p2 (w.heap.size + 1) 2 (by omega)).trans fz2
            clear p1 p2
            go_wp2
            go_region
            all_goals
              go_wp2
              refine bodyPost_ret (v := .tuple #[.agg #[.map none, .map none, .map none], .iface 111 (.agg #[.string (nameAt es k ++ restAt es k), .iface et2 ev2])]) (by simp [results, Tryd.results46, go_sem, m0, m1, m2]) rfl ?_
              exact ⟨(below_res hall2 _ _ _).drew, .inr ⟨H'.out, _, _, rfl⟩⟩
        · have hke : k = es.length := by omega
          have hlen0 : 0 < bs.length := by omega
          obtain ⟨b, off, rfl, hb, h1, h2'⟩ := hpb.cell 0 hlen0
          obtain ⟨b', off', e', hb', h3, h4⟩ := hpb.cell (bs.length - 1) (by omega)
          have hsa := hpb.size 0 hlen0
          have hsz := hpb.size (bs.length - 1) (by omega)
          have eb : b' = b ∧ off' = off := by simp at e'; exact ⟨e'.1.symm, e'.2.symm⟩
          obtain ⟨rfl, rfl⟩ := eb
          have a0 := (hallr.cell (p := ⟨b', off' + 0 * 2, none⟩) hb).trans h1
          simp only [Nat.zero_mul, Nat.add_zero] at a0
          have a1 := (hallr.cell (p := ⟨b', off' + (bs.length - 1) * 2, none⟩) hb).trans h3
          have HLe : Hid (LoopAt w1 wr w1.heap.size o es es.length fo fi FL FI) := by rw [← hke]; exact HLp
          have HNo : Hid (∀ j, j < es.length → joinB bs (es.take j) (nameAt es j) (restAt es j) = true) := by rw [← hke]; exact Hno
          have p0 := HLe.out.c0
          have p1 := HLe.out.c1
          have p2 := HLe.out.c2
          have hgr := hg.keep hallr
          have hOr := HO.out.below hbr
          have HOr := Lib.hid hOr; clear hOr
          clear h1 h2' h3 h4 e'
          have l1 : (0 : Int) ≤ (bs.length : Int) - 1 := by omega
          have l2 : (bs.length : Int) - 1 < (bs.length : Int) := by omega
          have l3 : (0 : Int) < (bs.length : Int) := by omega
          have n1 : w.heap.size < wr.heap.size := by omega
          have n2 : w1.heap.size + 1 + 1 < wr.heap.size := by omega
          have n3 : b' < wr.heap.size := by omega
          have n4 : es.length ≤ 1000 := by omega
          go_wp2
          have l4 : (1 : Int) ≤ (bs.length : Int) := by omega
          have l5 : 1 ≤ bs.length := by omega
          have e1 : IntKind.i64.wrap ((bs.length : Int) - 1) = (bs.length : Int) - 1 := IntWalk.i64_in _ (by omega)
          have e2 : ((bs.length : Int) - 1).toNat = bs.length - 1 := by omega
          go_region_held3 (fun w' => w'.cell? ⟨w.heap.size, 0, none⟩ = some (.slice (some ⟨b', off', none⟩) bs.length cb) ∧ w'.cell? ⟨w1.heap.size + 1 + 1, 0, none⟩ = some (.map (some o)) ∧ w'.cell? ⟨w1.heap.size + 1 + 1, 1, none⟩ = some (.map (some w1.heap.size)) ∧ w'.cell? ⟨w1.heap.size + 1 + 1, 2, none⟩ = some (.map (some (w1.heap.size + 1))) ∧ w'.cell? ⟨b', off', none⟩ = some (.string (nameAt bs 0)) ∧ w'.cell? ⟨b', off' + (bs.length - 1) * 2, none⟩ = some (.string (nameAt bs (bs.length - 1))) ∧ Below wr.heap.size wr w')
            (first
              | exact ⟨v0, p0, p1, p2, a0, a1, (Below.refl _ _).drew⟩
              | (have hq := below_new (‹_ ∧ _ ∧ _ ∧ _ ∧ _ ∧ _ ∧ Below wr.heap.size wr _›).2.2.2.2.2.2 hbN; exact ⟨(hq.cell (p := ⟨w.heap.size, 0, none⟩) n1).trans v0, (hq.cell (p := ⟨w1.heap.size + 1 + 1, 0, none⟩) n2).trans p0, (hq.cell (p := ⟨w1.heap.size + 1 + 1, 1, none⟩) n2).trans p1, (hq.cell (p := ⟨w1.heap.size + 1 + 1, 2, none⟩) n2).trans p2, (hq.cell (p := ⟨b', off', none⟩) n3).trans a0, (hq.cell (p := ⟨b', off' + (bs.length - 1) * 2, none⟩) n3).trans a1, hq⟩))
            (first
              | (go_at_call 63; refine (checkEnds_any _ o w1.heap.size (w1.heap.size + 1) bs es fo fi FO FL FI (nameAt bs 0) (nameAt bs (bs.length - 1)) ?_ ?_ ?_ ?_ ?_ hsa.1 hsz.1 n4 ⟨_, pair_mem hlen0, rfl⟩ HL.out.nd ?_ ?_ ?_).mono ?_; (exact HOr.out.below (Below.refl _ _).drew); (have := HLe.out.out.below_ (Below.refl _ _).drew (fun x hx => (HLe.out.hfo x hx).2); rw [List.take_length] at this; exact this); (have := HLe.out.in_.below_ (Below.refl _ _).drew (fun x hx => (HLe.out.hfi x hx).2); rw [List.take_length] at this; exact this); (exact fun x hx => (HLe.out.hfo x hx).2); (exact fun x hx => (HLe.out.hfi x hx).2); (exact hgr.entry.keep (Below.refl _ _).drew); (exact hgr.exit.keep (Below.refl _ _).drew); (exact hgr.lost.keep (Below.refl _ _).drew); rintro e wN hN; obtain ⟨ve, rfl, hbN, hcN⟩ := ends_form hN))
          clear e1 e2 l4 l5
          obtain ⟨g0, g1, g2, g3, g4, g5, hWb⟩ := ‹_ ∧ _ ∧ _ ∧ _ ∧ _ ∧ _ ∧ Below wr.heap.size wr wN›
          obtain ⟨q1, q2⟩ := bcell hWb
          have hallN : Below w.heap.size w wN := hallr.trans (hWb.mono (by omega))
          have m0 := (q1 (w.heap.size + 1) 0 (by omega)).trans u0
          have m1 := (q1 (w.heap.size + 1) 1 (by omega)).trans u1
          have m2 := (q1 (w.heap.size + 1) 2 (by omega)).trans u2
          have o0 := (q2 (w.heap.size + 1) 0 (by omega)).trans fz0
          have o1 := (q2 (w.heap.size + 1) 1 (by omega)).trans fz1
          have o2 := (q2 (w.heap.size + 1) 2 (by omega)).trans fz2
          have HOn := Lib.hid ((HOr.out.below hWb))
          have HLn := Lib.hid (HLe.out.keep hWb)
          clear q1 q2 hbN
          rcases hcN with ⟨hok, rfl⟩ | ⟨hok, t, x, rfl⟩
          · have H' := Lib.hid (valid_of_parts (by omega) (by omega) (by omega) HL.out (fun j hj => joinB_true (HNo.out j hj)) hok)
            clear hok
            go_wp2
            refine bodyPost_ret (v := .tuple #[.agg #[.map (some o), .map (some w1.heap.size), .map (some (w1.heap.size + 1))], .nilIface]) (by simp [results, Tryd.results46, go_sem, m0, m1, m2]) rfl ?_
            refine ⟨below_res hallN _ _ _, .inl ⟨H'.out, o, w1.heap.size, w1.heap.size + 1, rfl, ?_⟩⟩
            exact plan_res HOn.out HLn.out (((hWb.block _ (by omega)).trans (hbr.block _ (by omega))).trans HR.out) hs1
          · have H' := Lib.hid (show ¬ Valid bs es from fun h => hok h.ends)
            clear hok
            go_wp2
            refine bodyPost_ret (v := .tuple #[.agg #[.map none, .map none, .map none], .iface t x]) (by simp [results, Tryd.results46, go_sem, m0, m1, m2]) rfl ?_
            exact ⟨below_res hallN _ _ _, .inr ⟨H'.out, _, _, rfl⟩⟩
    · have H' := Lib.hid (show ¬ Valid bs es from fun h => hl h.letters)
      go_wp2
      refine bodyPost_ret (v := .tuple #[.agg #[.map none, .map none, .map none], .iface t x]) (by simp [results, Tryd.results46, go_sem, r0, r1, r2]) rfl ?_
      exact ⟨below_res (HW.out.trans (hb1.mono (by simp; omega))) _ _ _, .inr ⟨H'.out, _, _, rfl⟩⟩
  · have hw : Below w.heap.size w ((w.alloc (.cells #[.slice ab bs.length cb, .slice ae es.length ce] 32)).alloc (.cells #[.map none, .map none, .map none] 58)) := ((Below.refl _ _).alloc (Nat.le_refl _) _).alloc (by simp) _
    have HW := Lib.hid hw
    obtain ⟨gl3, et3, ev3, ec3⟩ := hg.count.keep hw
    have gw := hg.count.1
    have HN := Lib.hid (show (0 : Nat) ≠ w.heap.size + 1 by omega)
    have HV := Lib.hid (show ¬ Valid bs es from fun h => hcnt ⟨by have := h.b.lo; omega, by have := h.b.hi; omega, by have := h.e.hi; omega⟩)
    clear hw
    by_cases c1 : (bs.length : Int) < 2
    · have d1 : decide ((bs.length : Int) < 2) = true := by simpa using c1
      clear hcnt c1
      go_enter Tryd.func46, Tryd.ntmps46
      go_wp2
      go_region_held3 (fun w' => w'.cell? ⟨0, 0, none⟩ = some (.iface et3 ev3)) (first | exact ec3 | exact (cell3 _ _ _ _ _ ⟨0, 0, none⟩ HN.out).trans ec3) (fail)
      all_goals
        go_wp2
        refine bodyPost_ret (v := .tuple #[.agg #[.map none, .map none, .map none], .iface et3 ev3]) (by simp [results, Tryd.results46, go_sem]) rfl ?_
        exact ⟨HW.out.drew, .inr ⟨HV.out, _, _, rfl⟩⟩
    · by_cases c2 : (9 : Int) < bs.length
      · have d1 : decide ((bs.length : Int) < 2) = false := by simpa using c1
        have d2 : decide ((9 : Int) < bs.length) = true := by simpa using c2
        clear hcnt c1 c2
        go_enter Tryd.func46, Tryd.ntmps46
        go_wp2
        go_region_held3 (fun w' => w'.cell? ⟨0, 0, none⟩ = some (.iface et3 ev3)) (first | exact ec3 | exact (cell3 _ _ _ _ _ ⟨0, 0, none⟩ HN.out).trans ec3) (fail)
        all_goals
          go_wp2
          refine bodyPost_ret (v := .tuple #[.agg #[.map none, .map none, .map none], .iface et3 ev3]) (by simp [results, Tryd.results46, go_sem]) rfl ?_
          exact ⟨HW.out.drew, .inr ⟨HV.out, _, _, rfl⟩⟩
      · have c3 : (14 : Int) < es.length := by omega
        have d1 : decide ((bs.length : Int) < 2) = false := by simpa using c1
        have d2 : decide ((9 : Int) < bs.length) = false := by simpa using c2
        have d3 : decide ((14 : Int) < es.length) = true := by simpa using c3
        clear hcnt c1 c2 c3
        go_enter Tryd.func46, Tryd.ntmps46
        go_wp2
        go_region_held3 (fun w' => w'.cell? ⟨0, 0, none⟩ = some (.iface et3 ev3)) (first | exact ec3 | exact (cell3 _ _ _ _ _ ⟨0, 0, none⟩ HN.out).trans ec3) (fail)
        all_goals
          go_wp2
          refine bodyPost_ret (v := .tuple #[.agg #[.map none, .map none, .map none], .iface et3 ev3]) (by simp [results, Tryd.results46, go_sem]) rfl ?_
          exact ⟨HW.out.drew, .inr ⟨HV.out, _, _, rfl⟩⟩
end Go.Proofs.YtfmhcjhcmoniaaaDoor
