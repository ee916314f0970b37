/-
  The program's tidier: one letter more. Conditions: at most 1000 letters, each a term or what spoils one; the tidier lies in a block of its own, its terms in another.
-/
import Derived.Test.YtngcmjfkeageiaaDoorTidyV
import Derived.Test.YtngcmjfkeageiaaDoorCourse
namespace Go.Proofs.YtngcmjfkeageiaaDoor
open Go.RowKit Go.Maps

/-- one of the tidier's three terms, as its row holds it -/
def Four (w : World) (b i : Nat) (s : FS) (t : Nat) : Prop := w.cell? ⟨b, i, none⟩ = some (.int .u8 (fv s)) ∧ w.cell? ⟨b, i + 1, none⟩ = some (.string ⟨#[]⟩) ∧ w.cell? ⟨b, i + 2, none⟩ = some (.int .u8 (t : Int)) ∧ w.cell? ⟨b, i + 3, none⟩ = some (.int .i64 (s.n : Int))
/-- the tidier's terms -/
structure TB3 (w : World) (Tb : Nat) (T : Nat → Nat) (f : Nat → FS) : Prop where
  blk : ∃ cur, w.heap[Tb]? = some (.cells cur 129 (0, 0))
  f0 : Four w Tb 0 (f 0) (T 0)
  f1 : Four w Tb 4 (f 1) (T 1)
  f2 : Four w Tb 8 (f 2) (T 2)
theorem Four.same {w w' : World} {b i t : Nat} {s : FS} (h : Four w b i s t) (he : w'.heap[b]? = w.heap[b]?) : Four w' b i s t :=
  ⟨(World.cell?_of_block he).trans h.1, (World.cell?_of_block he).trans h.2.1, (World.cell?_of_block he).trans h.2.2.1, (World.cell?_of_block he).trans h.2.2.2⟩
theorem TB3.same {w w' : World} {Tb : Nat} {T : Nat → Nat} {f : Nat → FS} (h : TB3 w Tb T f) (he : w'.heap[Tb]? = w.heap[Tb]?) : TB3 w' Tb T f := by
  obtain ⟨⟨cur, hc⟩, h0, h1, h2⟩ := h
  exact ⟨⟨cur, he.trans hc⟩, h0.same he, h1.same he, h2.same he⟩
theorem TB3.lt {w : World} {Tb : Nat} {T : Nat → Nat} {f : Nat → FS} (h : TB3 w Tb T f) : Tb < w.heap.size := by
  obtain ⟨⟨cur, hc⟩, _⟩ := h
  exact (Array.getElem?_eq_some_iff.1 hc).1
theorem frz_of {w : World} {b : Nat} {cur : Array Value} {t : TypeId} (h : w.heap[b]? = some (.cells cur t (0, 0))) (i : Nat) : w.frozen? ⟨b, i, none⟩ = false := by simp [World.frozen?, h]
/-- four stores side by side -/
abbrev put4 (w : World) (b i : Nat) (x0 x1 x2 x3 : Value) : World := (((w.setCell ⟨b, i, none⟩ x0).setCell ⟨b, i + 1, none⟩ x1).setCell ⟨b, i + 2, none⟩ x2).setCell ⟨b, i + 3, none⟩ x3
theorem put4_ne {w : World} {b k : Nat} (hk : k ≠ b) (i : Nat) (x0 x1 x2 x3 : Value) : (put4 w b i x0 x1 x2 x3).heap[k]? = w.heap[k]? := by
  rw [Below.heap_setCell _ _ _ _ hk, Below.heap_setCell _ _ _ _ hk, Below.heap_setCell _ _ _ _ hk, Below.heap_setCell _ _ _ _ hk]
theorem put4_at {w : World} {b : Nat} {cs : Array Value} {t : TypeId} (h : w.heap[b]? = some (.cells cs t (0, 0))) (i : Nat) (x0 x1 x2 x3 : Value) : (put4 w b i x0 x1 x2 x3).heap[b]? = some (.cells ((((cs.setIfInBounds i x0).setIfInBounds (i + 1) x1).setIfInBounds (i + 2) x2).setIfInBounds (i + 3) x3) t (0, 0)) :=
  heap_setCell_at4 (heap_setCell_at4 (heap_setCell_at4 (heap_setCell_at4 h i x0) (i + 1) x1) (i + 2) x2) (i + 3) x3
theorem cells_lt {w : World} {b i : Nat} {cs : Array Value} {t : TypeId} {fr : Nat × Nat} {v : Value} (h : w.heap[b]? = some (.cells cs t fr)) (hc : w.cell? ⟨b, i, none⟩ = some v) : i < cs.size := by
  rw [cell_of_row w b i _ _ fr h] at hc
  exact (Array.getElem?_eq_some_iff.1 hc).1
theorem put4_hit {w : World} {b i t : Nat} {s g : FS} {cs : Array Value} {ty : TypeId} (h : w.heap[b]? = some (.cells cs ty (0, 0))) (hf : Four w b i s t) : Four (put4 w b i (.int .u8 (fv g)) (.string ⟨#[]⟩) (.int .u8 (t : Int)) (.int .i64 (g.n : Int))) b i g t := by
  have l0 := cells_lt h hf.1
  have l3 := cells_lt h hf.2.2.2
  have hp := put4_at h i (.int .u8 (fv g)) (.string ⟨#[]⟩) (.int .u8 (t : Int)) (.int .i64 (g.n : Int))
  refine ⟨?_, ?_, ?_, ?_⟩
  all_goals
    rw [cell_of_row _ b _ _ _ (0, 0) hp]
    simp only [Array.getElem?_setIfInBounds, Array.size_setIfInBounds]
    repeat first | rw [if_pos trivial] | rw [if_pos (by omega)] | rw [if_neg (by omega)]
theorem put4_far {w : World} {b i j t : Nat} {s : FS} {cs : Array Value} {ty : TypeId} (h : w.heap[b]? = some (.cells cs ty (0, 0))) (hf : Four w b j s t) (hij : j + 4 ≤ i ∨ i + 4 ≤ j) (x0 x1 x2 x3 : Value) : Four (put4 w b i x0 x1 x2 x3) b j s t := by
  have hp := put4_at h i x0 x1 x2 x3
  obtain ⟨h0, h1, h2, h3⟩ := hf
  rw [cell_of_row w b _ _ _ (0, 0) h] at h0 h1 h2 h3
  refine ⟨?_, ?_, ?_, ?_⟩
  all_goals
    rw [cell_of_row _ b _ _ _ (0, 0) hp]
    simp only [Array.getElem?_setIfInBounds, Array.size_setIfInBounds]
    repeat rw [if_neg (by omega)]
    assumption

/-- a letter repeats what is computed for one of the first terms -/
def spT (u : Nat) (f : Nat → FS) (T : Nat → Nat) : Nat → Bool
  | 0 => false
  | i + 1 => spT u f T i || (decide (u = T i) && (f i).dn)
theorem repeats_any (s : FS) (x : ByteArray) (n : Int) (t u : Nat) (ht : 120 ≤ t) (hu : opB u = true) (w : World) :
    Calls Tryd.prog 177 #[.agg #[.int .u8 (fv s), .string x, .int .u8 (t : Int), .int .i64 n], opVal u] w fun e w' => e = .returned (.bool (decide (u = t) && s.dn)) ∧ Below w.heap.size w w' := by
  unfold opVal
  by_cases hl : lowB u = true
  · rw [if_pos hl]
    exact repeatsC_any s x n t u w
  · rw [if_neg hl]
    have hu2 : 88 ≤ u ∧ u ≤ 90 := by
      unfold opB at hu
      have hl' : lowB u = false := by simpa using hl
      rw [hl'] at hu
      unfold upB at hu
      simpa using hu
    refine (repeatsS_any s x n t _ w).mono fun e w' h => ⟨?_, h.2⟩
    rw [h.1, decide_eq_false (by omega), Bool.false_and]

theorem turn_put4 {w : World} {b : Nat} (i : Nat) (x0 x1 x2 x3 : Value) : Turns (fun k => k = b) w (put4 w b i x0 x1 x2 x3) :=
  ⟨rfl, rfl, rfl, by simp [put4, World.setCell], fun k hk hn => put4_ne hn _ _ _ _ _⟩

/-- what the region that stores a term relies on -/
abbrev SDc (R Tb ct H i : Nat) (a b c d : Value) (w : World) : Prop :=
  w.cell? ⟨R, 2, none⟩ = some (.slice (some ⟨Tb, 0, none⟩) 3 ct) ∧ w.cell? ⟨H, 0, none⟩ = some a ∧ w.cell? ⟨H, 1, none⟩ = some b ∧ w.cell? ⟨H, 2, none⟩ = some c ∧ w.cell? ⟨H, 3, none⟩ = some d ∧
    w.cell? ⟨Tb, i, none⟩ = some (cellOr w Tb i) ∧ w.cell? ⟨Tb, i + 1, none⟩ = some (cellOr w Tb (i + 1)) ∧ w.cell? ⟨Tb, i + 2, none⟩ = some (cellOr w Tb (i + 2)) ∧ w.cell? ⟨Tb, i + 3, none⟩ = some (cellOr w Tb (i + 3)) ∧
    w.frozen? ⟨Tb, i, none⟩ = false ∧ w.frozen? ⟨Tb, i + 1, none⟩ = false ∧ w.frozen? ⟨Tb, i + 2, none⟩ = false ∧ w.frozen? ⟨Tb, i + 3, none⟩ = false
theorem SDc.call {W wN : World} {R Tb ct H i : Nat} {a b c d : Value} (h : SDc R Tb ct H i a b c d W) (hb : Below W.heap.size W wN) (h1 : R < W.heap.size) (h2 : H < W.heap.size) (h3 : Tb < W.heap.size) : SDc R Tb ct H i a b c d wN := by
  obtain ⟨r, a0, a1, a2, a3, t0, t1, t2, t3, f0, f1, f2, f3⟩ := h
  exact ⟨(hb.cell (p := ⟨R, 2, none⟩) h1).trans r, (hb.cell (p := ⟨H, 0, none⟩) h2).trans a0, (hb.cell (p := ⟨H, 1, none⟩) h2).trans a1, (hb.cell (p := ⟨H, 2, none⟩) h2).trans a2, (hb.cell (p := ⟨H, 3, none⟩) h2).trans a3,
    cellOr_eq ((hb.cell (p := ⟨Tb, i, none⟩) h3).trans t0), cellOr_eq ((hb.cell (p := ⟨Tb, i + 1, none⟩) h3).trans t1), cellOr_eq ((hb.cell (p := ⟨Tb, i + 2, none⟩) h3).trans t2), cellOr_eq ((hb.cell (p := ⟨Tb, i + 3, none⟩) h3).trans t3),
    (hb.frozen (p := ⟨Tb, i, none⟩) h3).trans f0, (hb.frozen (p := ⟨Tb, i + 1, none⟩) h3).trans f1, (hb.frozen (p := ⟨Tb, i + 2, none⟩) h3).trans f2, (hb.frozen (p := ⟨Tb, i + 3, none⟩) h3).trans f3⟩
theorem SDc.store {w : World} {R Tb ct H i t : Nat} {a b c d : Value} {s g : FS} {cs : Array Value} (h : SDc R Tb ct H i a b c d w) (hR : R ≠ Tb) (hH : H ≠ Tb) (hb : w.heap[Tb]? = some (.cells cs 129 (0, 0))) (hf : Four w Tb i s t) : SDc R Tb ct H i a b c d (put4 w Tb i (.int .u8 (fv g)) (.string ⟨#[]⟩) (.int .u8 (t : Int)) (.int .i64 (g.n : Int))) := by
  have hq := put4_at hb i (.int .u8 (fv g)) (.string ⟨#[]⟩) (.int .u8 (t : Int)) (.int .i64 (g.n : Int))
  have hk := put4_hit (g := g) hb hf
  have he := fun k (hk : k ≠ Tb) => put4_ne (w := w) hk i (.int .u8 (fv g)) (.string ⟨#[]⟩) (.int .u8 (t : Int)) (.int .i64 (g.n : Int))
  generalize put4 w Tb i (.int .u8 (fv g)) (.string ⟨#[]⟩) (.int .u8 (t : Int)) (.int .i64 (g.n : Int)) = W at hq hk he ⊢
  obtain ⟨r, a0, a1, a2, a3, _, _, _, _, _, _, _, _⟩ := h
  obtain ⟨k0, k1, k2, k3⟩ := hk
  exact ⟨(World.cell?_of_block (he _ hR)).trans r, (World.cell?_of_block (he _ hH)).trans a0, (World.cell?_of_block (he _ hH)).trans a1, (World.cell?_of_block (he _ hH)).trans a2, (World.cell?_of_block (he _ hH)).trans a3, cellOr_eq k0, cellOr_eq k1, cellOr_eq k2, cellOr_eq k3, frz_of hq _, frz_of hq _, frz_of hq _, frz_of hq _⟩

theorem Tryd.letterTC (b : Int) (w : World) : (method 420 93 (.agg #[.int .u8 b]) "loop.example/onceways/impl.letter").run Tryd.prog w = .ok (264, .agg #[.int .u8 b]) w := by kernel_rfl
theorem Tryd.letterTS (b : Int) (w : World) : (method 420 94 (.agg #[.int .u8 b]) "loop.example/onceways/impl.letter").run Tryd.prog w = .ok (265, .agg #[.int .u8 b]) w := by kernel_rfl
theorem letterTC_any (b : Int) (w : World) : Calls Tryd.prog 264 #[.agg #[.int .u8 b]] w fun e w' => e = .returned (.int .u8 b) ∧ Below w.heap.size w w' := by
  go_enter Tryd.func264, Tryd.ntmps264
  go_wp2
  go_ret
  exact ⟨rfl, (Below.refl _ _).alloc (Nat.le_refl _) _⟩
theorem letterTS_any (c : Int) (h1 : 88 ≤ c) (h2 : c ≤ 90) (w : World) : Calls Tryd.prog 265 #[.agg #[.int .u8 (c - 88 + 120)]] w fun e w' => e = .returned (.int .u8 c) ∧ Below w.heap.size w w' := by
  obtain rfl | rfl | rfl : c = 88 ∨ c = 89 ∨ c = 90 := by omega
  all_goals
    go_enter Tryd.func265, Tryd.ntmps265
    go_wp2
    go_ret
    exact ⟨rfl, (Below.refl _ _).alloc (Nat.le_refl _) _⟩
theorem opVal_low {u : Nat} (h : lowB u = true) : opVal u = .iface 93 (.agg #[.int .u8 (u : Int)]) := by unfold opVal; rw [if_pos h]
theorem opVal_up {u : Nat} (h : lowB u = false) : opVal u = .iface 94 (.agg #[.int .u8 ((u : Int) - 88 + 120)]) := by unfold opVal; rw [h]; rfl
theorem TidB.turns {base R Tb : Nat} {o : ByteArray} {p vb vt : Value} {w w' : World} {cs : Array Value} (h : TidB base R o p vb vt w) (hR : R ≠ Tb) (hb : w.heap[Tb]? = some (.cells cs 129 (0, 0))) (hT : Turns (fun k => k = Tb) w w') : TidB base R o p vb vt w' := by
  obtain ⟨lo, ptr, blk, row, nl⟩ := h
  refine ⟨lo, ptr, (hT.block R (Array.getElem?_eq_some_iff.1 blk).1 hR).trans blk, ⟨row.1, ?_⟩, nl⟩
  rcases row.2 with h2 | ⟨g, cap, cur, e1, e2, e3, e4⟩
  · exact .inl h2
  · refine .inr ⟨g, cap, cur, e1, e2, (hT.block g (Array.getElem?_eq_some_iff.1 e3).1 (fun e => ?_)).trans e3, e4⟩
    rw [e, hb] at e3
    have := (Obj.cells.inj (Option.some.inj e3)).2.1
    exact absurd this (by decide)

/-- the tidier's terms, when so many have taken the letter -/
def midF (f : Nat → FS) (T : Nat → Nat) (u i : Nat) : Nat → FS := fun j => if j < i then (f j).step (T j) u else f j
set_option maxRecDepth 100000 in
set_option maxHeartbeats 6400000 in
theorem takeT_any (base R Tb ct : Nat) (o : ByteArray) (p vb : Value) (T : Nat → Nat) (hT : ∀ j, j < 3 → 120 ≤ T j ∧ T j ≤ 122) (f : Nat → FS) (hn : ∀ j, (f j).n ≤ 1000) (u : Nat) (hu : opB u = true) (uc : UInt8) (huc : uc.toNat = u) (w : World)
    (h : TidB base R o p vb (.slice (some ⟨Tb, 0, none⟩) 3 ct) w) (hTb : TB3 w Tb T f) (hlo : base ≤ Tb) (hlen : o.size ≤ 1000) (hB : base ≤ w.heap.size) :
    Calls Tryd.prog 150 #[.pointer (some ⟨R, 0, none⟩), opVal u] w fun e w' => e = .returned (.pointer (some ⟨R, 0, none⟩)) ∧
      (∃ p' vb', TidB base R (if spT u f T 3 then o else o ++ ⟨#[uc]⟩) p' vb' (.slice (some ⟨Tb, 0, none⟩) 3 ct) w') ∧ TB3 w' Tb T (fun j => (f j).step (T j) u) ∧ Below base w w' := by
  obtain ⟨c0, c1, c2, z0, z1, z2, hsh, hRl⟩ := h.blk.cells
  have hRT : R ≠ Tb := by
    rintro rfl
    obtain ⟨cur, hc⟩ := hTb.blk
    have := h.blk.symm.trans hc
    simp only [Option.some.injEq, Obj.cells.injEq] at this
    exact absurd this.2.1 (by decide)
  have hTl := hTb.lt
  obtain ⟨V, hV⟩ : ∃ V, opVal u = V := ⟨_, rfl⟩
  have HV := Lib.hid hV
  have H0 := Lib.hid (And.intro h (And.intro hTb (And.intro hT (And.intro hn (And.intro hu (And.intro huc (And.intro hlo hlen)))))))
  rw [hV]
  obtain ⟨O, hO⟩ : ∃ O, (if spT u f T 3 then o else o ++ ⟨#[uc]⟩) = O := ⟨_, rfl⟩
  rw [hO]
  have HOO := Lib.hid hO
  clear hO
  clear h hTb hT hn hu huc hlo hlen hV z0 z1 z2 hsh c0 c1
  go_enter Tryd.func150, Tryd.ntmps150
  go_wp2
  go_loopw [13, 5] (fun i v wr => ∃ k : Nat, k ≤ 3 ∧ i = .int .i64 k ∧ v = .bool (spT u f T k) ∧ TB3 wr Tb T (midF f T u k) ∧ Turns (fun k => k = Tb) w wr) (fun i _ _ => 3 - (intOf i).toNat)
  case atStart => exact ⟨0, Nat.zero_le _, rfl, rfl, H0.out.2.1, Turns.refl _ _⟩
  case round =>
    obtain ⟨k, hk, rfl, rfl, htb, htn⟩ := hrel
    have hsz := htn.size
    have hRr : R < wr.heap.size := by omega
    have hTr : Tb < wr.heap.size := by omega
    have d2 := (htn.cell hRl hRT 2).trans c2
    by_cases hlt : k < 3
    · obtain rfl | rfl | rfl : k = 0 ∨ k = 1 ∨ k = 2 := by omega
      · have hI : midF f T u 0 0 = f 0 := by unfold midF; rw [if_neg (by omega)]
        have hF := htb.f0
        rw [hI] at hF
        have hF2 := hF
        obtain ⟨x0, x1, x2, x3⟩ : wr.cell? ⟨Tb, 0, none⟩ = some (.int .u8 (fv (f 0))) ∧ wr.cell? ⟨Tb, 1, none⟩ = some (.string ⟨#[]⟩) ∧ wr.cell? ⟨Tb, 2, none⟩ = some (.int .u8 (T 0 : Int)) ∧ wr.cell? ⟨Tb, 3, none⟩ = some (.int .i64 ((f 0).n : Int)) := hF2
        obtain ⟨B, hBB⟩ : ∃ B, spT u f T 0 = B := ⟨_, rfl⟩
        rw [hBB]
        have HF := Lib.hid (And.intro hF (And.intro htb htn))
        obtain ⟨D, hD⟩ : ∃ D, (decide (u = T 0) && (f 0).dn) = D := ⟨_, rfl⟩
        have hrep := fun w => repeats_any (f 0) ⟨#[]⟩ ((f 0).n : Int) (T 0) u (H0.out.2.2.1 0 (by omega)).1 H0.out.2.2.2.2.1 w
        simp only [HV.out, hD] at hrep
        have htk := fun w => take_any (f 0) ⟨#[]⟩ (T 0) u (H0.out.2.2.1 0 (by omega)) H0.out.2.2.2.2.1 (by have := H0.out.2.2.2.1 0; omega) w
        simp only [HV.out] at htk
        have hC0 : Below wr.heap.size wr (wr.alloc (.cells #[.int .u8 (fv (f 0)), .string ⟨#[]⟩, .int .u8 (T 0 : Int), .int .i64 ((f 0).n : Int)] 129)) := (Below.refl _ _).alloc (Nat.le_refl _) _
        have hH0 : wr.heap.size < (wr.alloc (.cells #[.int .u8 (fv (f 0)), .string ⟨#[]⟩, .int .u8 (T 0 : Int), .int .i64 ((f 0).n : Int)] 129)).heap.size := by simp
        obtain ⟨⟨y0, y1, y2, y3⟩, _⟩ := block4 (heap_alloc_new wr (.cells #[.int .u8 (fv (f 0)), .string ⟨#[]⟩, .int .u8 (T 0 : Int), .int .i64 ((f 0).n : Int)] 129))
        have HC0 := Lib.hid (And.intro hC0 hH0)
        cases B
        · have HSP := Lib.hid (show spT u f T 1 = D by show (spT u f T 0 || (decide (u = T 0) && (f 0).dn)) = D; rw [hBB, hD, Bool.false_or])
          clear hBB hF htb hI hD hC0 hH0
          go_wp2_with fail
          refine (hrep _).mono ?_
          rintro e wC ⟨rfl, hbc⟩
          have hC : Below wr.heap.size wr wC := HC0.out.1.trans (hbc.mono (Nat.le_of_lt HC0.out.2))
          have hH : wr.heap.size < wC.heap.size := Nat.lt_of_lt_of_le HC0.out.2 hbc.size
          have y0 := (hbc.cell (p := ⟨wr.heap.size, 0, none⟩) HC0.out.2).trans y0
          have y1 := (hbc.cell (p := ⟨wr.heap.size, 1, none⟩) HC0.out.2).trans y1
          have y2 := (hbc.cell (p := ⟨wr.heap.size, 2, none⟩) HC0.out.2).trans y2
          have y3 := (hbc.cell (p := ⟨wr.heap.size, 3, none⟩) HC0.out.2).trans y3
          clear hbc
          go_wp2
          have hCs := hC.size
          have hRC : R < wC.heap.size := by omega
          have hTC : Tb < wC.heap.size := by omega
          have e2 : wC.cell? ⟨R, 2, none⟩ = some (.slice (some ⟨Tb, 0, none⟩) 3 ct) := (hC.cell (p := ⟨R, 2, none⟩) hRr).trans d2
          have hfr : ∀ i, wC.frozen? ⟨Tb, i, none⟩ = false := by
            obtain ⟨cur, hc⟩ := HF.out.2.1.blk
            exact fun i => frz_of ((hC.block Tb hTr).trans hc) i
          have hS0 : SDc R Tb ct wr.heap.size 0 (.int .u8 (fv (f 0))) (.string ⟨#[]⟩) (.int .u8 (T 0 : Int)) (.int .i64 ((f 0).n : Int)) wC.drew :=
            ⟨e2, y0, y1, y2, y3, cellOr_eq (w := wC.drew) ((hC.cell (p := ⟨Tb, 0, none⟩) hTr).trans x0), cellOr_eq (w := wC.drew) ((hC.cell (p := ⟨Tb, 1, none⟩) hTr).trans x1), cellOr_eq (w := wC.drew) ((hC.cell (p := ⟨Tb, 2, none⟩) hTr).trans x2), cellOr_eq (w := wC.drew) ((hC.cell (p := ⟨Tb, 3, none⟩) hTr).trans x3), hfr _, hfr _, hfr _, hfr _⟩
          have HS0 := Lib.hid hS0
          have HC := Lib.hid hC
          have n1 : R ≠ Tb := hRT
          have n2 : wr.heap.size ≠ Tb := by omega
          have HX := Lib.hid (And.intro hRC (And.intro hH hTC))
          clear hS0 hfr x0 x1 x2 x3
          go_region_held3 (fun w' => w'.cell? ⟨R, 2, none⟩ = some (.slice (some ⟨Tb, 0, none⟩) 3 ct) ∧ w'.cell? ⟨wr.heap.size, 0, none⟩ = some (.int .u8 (fv (f 0))) ∧ w'.cell? ⟨wr.heap.size, 1, none⟩ = some (.string ⟨#[]⟩) ∧ w'.cell? ⟨wr.heap.size, 2, none⟩ = some (.int .u8 (T 0 : Int)) ∧ w'.cell? ⟨wr.heap.size, 3, none⟩ = some (.int .i64 ((f 0).n : Int)) ∧ w'.cell? ⟨Tb, 0, none⟩ = some (cellOr w' Tb 0) ∧ w'.cell? ⟨Tb, 1, none⟩ = some (cellOr w' Tb 1) ∧ w'.cell? ⟨Tb, 2, none⟩ = some (cellOr w' Tb 2) ∧ w'.cell? ⟨Tb, 3, none⟩ = some (cellOr w' Tb 3) ∧ w'.frozen? ⟨Tb, 0, none⟩ = false ∧ w'.frozen? ⟨Tb, 1, none⟩ = false ∧ w'.frozen? ⟨Tb, 2, none⟩ = false ∧ w'.frozen? ⟨Tb, 3, none⟩ = false)
            (first
              | exact HS0.out
              | exact SDc.call (by assumption) hbN HX.out.1 HX.out.2.1 HX.out.2.2
              | (have hbC : Below wr.heap.size wr wN := HC.out.drew.trans (hbN.mono HC.out.size)
                 obtain ⟨cur, hc⟩ := HF.out.2.1.blk
                 exact SDc.store (by assumption) n1 n2 ((hbC.block Tb hTr).trans hc) (HF.out.1.same (hbC.block Tb hTr))))
            (first
              | (go_at_call 174; refine (htk _).mono ?_; rintro e wN ⟨rfl, hbN⟩))
          all_goals
            have hbC : Below wr.heap.size wr wN := HC.out.drew.trans (hbN.mono HC.out.size)
            have hB3 : TB3 wN Tb T (midF f T u 0) := HF.out.2.1.same (hbC.block Tb hTr)
            have htN : Turns (fun k => k = Tb) w wN := HF.out.2.2.trans (Turns.of_below hbC)
            obtain ⟨⟨cur, hcur⟩, q0, q1, q2⟩ := hB3
            have hNx : TB3 (put4 wN Tb 0 (.int .u8 (fv ((f 0).step (T 0) u))) (.string ⟨#[]⟩) (.int .u8 (T 0 : Int)) (.int .i64 (((f 0).step (T 0) u).n : Int))) Tb T (midF f T u 1) := ⟨⟨_, put4_at hcur _ _ _ _ _⟩, put4_hit hcur q0, put4_far hcur q1 (by omega) _ _ _ _, put4_far hcur q2 (by omega) _ _ _ _⟩
            have HNx := Lib.hid (And.intro hNx (htN.trans (turn_put4 0 (.int .u8 (fv ((f 0).step (T 0) u))) (.string ⟨#[]⟩) (.int .u8 (T 0 : Int)) (.int .i64 (((f 0).step (T 0) u).n : Int)))))
            clear hNx htN hcur q0 q1 q2 hbC hbN
            go_wp2
            go_roundw
            case rel => exact ⟨1, by omega, by go_num, by rw [HSP.out], HNx.out.1, HNx.out.2⟩
            case measure => simp [intOf]
        · have HSP := Lib.hid (show spT u f T 1 = true by show (spT u f T 0 || (decide (u = T 0) && (f 0).dn)) = true; rw [hBB, Bool.true_or])
          clear hBB hF htb hI hD
          go_wp2
          generalize wr.alloc (.cells #[.int .u8 (fv (f 0)), .string ⟨#[]⟩, .int .u8 (T 0 : Int), .int .i64 ((f 0).n : Int)] 129) = wC at *
          have hC := hC0
          have hH := hH0
          have hCs := hC.size
          have hRC : R < wC.heap.size := by omega
          have hTC : Tb < wC.heap.size := by omega
          have e2 : wC.cell? ⟨R, 2, none⟩ = some (.slice (some ⟨Tb, 0, none⟩) 3 ct) := (hC.cell (p := ⟨R, 2, none⟩) hRr).trans d2
          have hfr : ∀ i, wC.frozen? ⟨Tb, i, none⟩ = false := by
            obtain ⟨cur, hc⟩ := HF.out.2.1.blk
            exact fun i => frz_of ((hC.block Tb hTr).trans hc) i
          have hS0 : SDc R Tb ct wr.heap.size 0 (.int .u8 (fv (f 0))) (.string ⟨#[]⟩) (.int .u8 (T 0 : Int)) (.int .i64 ((f 0).n : Int)) wC.drew :=
            ⟨e2, y0, y1, y2, y3, cellOr_eq (w := wC.drew) ((hC.cell (p := ⟨Tb, 0, none⟩) hTr).trans x0), cellOr_eq (w := wC.drew) ((hC.cell (p := ⟨Tb, 1, none⟩) hTr).trans x1), cellOr_eq (w := wC.drew) ((hC.cell (p := ⟨Tb, 2, none⟩) hTr).trans x2), cellOr_eq (w := wC.drew) ((hC.cell (p := ⟨Tb, 3, none⟩) hTr).trans x3), hfr _, hfr _, hfr _, hfr _⟩
          have HS0 := Lib.hid hS0
          have HC := Lib.hid hC
          have n1 : R ≠ Tb := hRT
          have n2 : wr.heap.size ≠ Tb := by omega
          have HX := Lib.hid (And.intro hRC (And.intro hH hTC))
          clear hS0 hfr x0 x1 x2 x3
          go_region_held3 (fun w' => w'.cell? ⟨R, 2, none⟩ = some (.slice (some ⟨Tb, 0, none⟩) 3 ct) ∧ w'.cell? ⟨wr.heap.size, 0, none⟩ = some (.int .u8 (fv (f 0))) ∧ w'.cell? ⟨wr.heap.size, 1, none⟩ = some (.string ⟨#[]⟩) ∧ w'.cell? ⟨wr.heap.size, 2, none⟩ = some (.int .u8 (T 0 : Int)) ∧ w'.cell? ⟨wr.heap.size, 3, none⟩ = some (.int .i64 ((f 0).n : Int)) ∧ w'.cell? ⟨Tb, 0, none⟩ = some (cellOr w' Tb 0) ∧ w'.cell? ⟨Tb, 1, none⟩ = some (cellOr w' Tb 1) ∧ w'.cell? ⟨Tb, 2, none⟩ = some (cellOr w' Tb 2) ∧ w'.cell? ⟨Tb, 3, none⟩ = some (cellOr w' Tb 3) ∧ w'.frozen? ⟨Tb, 0, none⟩ = false ∧ w'.frozen? ⟨Tb, 1, none⟩ = false ∧ w'.frozen? ⟨Tb, 2, none⟩ = false ∧ w'.frozen? ⟨Tb, 3, none⟩ = false)
            (first
              | exact HS0.out
              | exact SDc.call (by assumption) hbN HX.out.1 HX.out.2.1 HX.out.2.2
              | (have hbC : Below wr.heap.size wr wN := HC.out.drew.trans (hbN.mono HC.out.size)
                 obtain ⟨cur, hc⟩ := HF.out.2.1.blk
                 exact SDc.store (by assumption) n1 n2 ((hbC.block Tb hTr).trans hc) (HF.out.1.same (hbC.block Tb hTr))))
            (first
              | (go_at_call 174; refine (htk _).mono ?_; rintro e wN ⟨rfl, hbN⟩))
          all_goals
            have hbC : Below wr.heap.size wr wN := HC.out.drew.trans (hbN.mono HC.out.size)
            have hB3 : TB3 wN Tb T (midF f T u 0) := HF.out.2.1.same (hbC.block Tb hTr)
            have htN : Turns (fun k => k = Tb) w wN := HF.out.2.2.trans (Turns.of_below hbC)
            obtain ⟨⟨cur, hcur⟩, q0, q1, q2⟩ := hB3
            have hNx : TB3 (put4 wN Tb 0 (.int .u8 (fv ((f 0).step (T 0) u))) (.string ⟨#[]⟩) (.int .u8 (T 0 : Int)) (.int .i64 (((f 0).step (T 0) u).n : Int))) Tb T (midF f T u 1) := ⟨⟨_, put4_at hcur _ _ _ _ _⟩, put4_hit hcur q0, put4_far hcur q1 (by omega) _ _ _ _, put4_far hcur q2 (by omega) _ _ _ _⟩
            have HNx := Lib.hid (And.intro hNx (htN.trans (turn_put4 0 (.int .u8 (fv ((f 0).step (T 0) u))) (.string ⟨#[]⟩) (.int .u8 (T 0 : Int)) (.int .i64 (((f 0).step (T 0) u).n : Int)))))
            clear hNx htN hcur q0 q1 q2 hbC hbN
            go_wp2
            go_roundw
            case rel => exact ⟨1, by omega, by go_num, by rw [HSP.out], HNx.out.1, HNx.out.2⟩
            case measure => simp [intOf]
      · have hI : midF f T u 1 1 = f 1 := by unfold midF; rw [if_neg (by omega)]
        have hF := htb.f1
        rw [hI] at hF
        have hF2 := hF
        obtain ⟨x0, x1, x2, x3⟩ : wr.cell? ⟨Tb, 4, none⟩ = some (.int .u8 (fv (f 1))) ∧ wr.cell? ⟨Tb, 5, none⟩ = some (.string ⟨#[]⟩) ∧ wr.cell? ⟨Tb, 6, none⟩ = some (.int .u8 (T 1 : Int)) ∧ wr.cell? ⟨Tb, 7, none⟩ = some (.int .i64 ((f 1).n : Int)) := hF2
        obtain ⟨B, hBB⟩ : ∃ B, spT u f T 1 = B := ⟨_, rfl⟩
        rw [hBB]
        have HF := Lib.hid (And.intro hF (And.intro htb htn))
        obtain ⟨D, hD⟩ : ∃ D, (decide (u = T 1) && (f 1).dn) = D := ⟨_, rfl⟩
        have hrep := fun w => repeats_any (f 1) ⟨#[]⟩ ((f 1).n : Int) (T 1) u (H0.out.2.2.1 1 (by omega)).1 H0.out.2.2.2.2.1 w
        simp only [HV.out, hD] at hrep
        have htk := fun w => take_any (f 1) ⟨#[]⟩ (T 1) u (H0.out.2.2.1 1 (by omega)) H0.out.2.2.2.2.1 (by have := H0.out.2.2.2.1 1; omega) w
        simp only [HV.out] at htk
        have hC0 : Below wr.heap.size wr (wr.alloc (.cells #[.int .u8 (fv (f 1)), .string ⟨#[]⟩, .int .u8 (T 1 : Int), .int .i64 ((f 1).n : Int)] 129)) := (Below.refl _ _).alloc (Nat.le_refl _) _
        have hH0 : wr.heap.size < (wr.alloc (.cells #[.int .u8 (fv (f 1)), .string ⟨#[]⟩, .int .u8 (T 1 : Int), .int .i64 ((f 1).n : Int)] 129)).heap.size := by simp
        obtain ⟨⟨y0, y1, y2, y3⟩, _⟩ := block4 (heap_alloc_new wr (.cells #[.int .u8 (fv (f 1)), .string ⟨#[]⟩, .int .u8 (T 1 : Int), .int .i64 ((f 1).n : Int)] 129))
        have HC0 := Lib.hid (And.intro hC0 hH0)
        cases B
        · have HSP := Lib.hid (show spT u f T 2 = D by show (spT u f T 1 || (decide (u = T 1) && (f 1).dn)) = D; rw [hBB, hD, Bool.false_or])
          clear hBB hF htb hI hD hC0 hH0
          go_wp2_with fail
          refine (hrep _).mono ?_
          rintro e wC ⟨rfl, hbc⟩
          have hC : Below wr.heap.size wr wC := HC0.out.1.trans (hbc.mono (Nat.le_of_lt HC0.out.2))
          have hH : wr.heap.size < wC.heap.size := Nat.lt_of_lt_of_le HC0.out.2 hbc.size
          have y0 := (hbc.cell (p := ⟨wr.heap.size, 0, none⟩) HC0.out.2).trans y0
          have y1 := (hbc.cell (p := ⟨wr.heap.size, 1, none⟩) HC0.out.2).trans y1
          have y2 := (hbc.cell (p := ⟨wr.heap.size, 2, none⟩) HC0.out.2).trans y2
          have y3 := (hbc.cell (p := ⟨wr.heap.size, 3, none⟩) HC0.out.2).trans y3
          clear hbc
          go_wp2
          have hCs := hC.size
          have hRC : R < wC.heap.size := by omega
          have hTC : Tb < wC.heap.size := by omega
          have e2 : wC.cell? ⟨R, 2, none⟩ = some (.slice (some ⟨Tb, 0, none⟩) 3 ct) := (hC.cell (p := ⟨R, 2, none⟩) hRr).trans d2
          have hfr : ∀ i, wC.frozen? ⟨Tb, i, none⟩ = false := by
            obtain ⟨cur, hc⟩ := HF.out.2.1.blk
            exact fun i => frz_of ((hC.block Tb hTr).trans hc) i
          have hS0 : SDc R Tb ct wr.heap.size 4 (.int .u8 (fv (f 1))) (.string ⟨#[]⟩) (.int .u8 (T 1 : Int)) (.int .i64 ((f 1).n : Int)) wC.drew :=
            ⟨e2, y0, y1, y2, y3, cellOr_eq (w := wC.drew) ((hC.cell (p := ⟨Tb, 4, none⟩) hTr).trans x0), cellOr_eq (w := wC.drew) ((hC.cell (p := ⟨Tb, 5, none⟩) hTr).trans x1), cellOr_eq (w := wC.drew) ((hC.cell (p := ⟨Tb, 6, none⟩) hTr).trans x2), cellOr_eq (w := wC.drew) ((hC.cell (p := ⟨Tb, 7, none⟩) hTr).trans x3), hfr _, hfr _, hfr _, hfr _⟩
          have HS0 := Lib.hid hS0
          have HC := Lib.hid hC
          have n1 : R ≠ Tb := hRT
          have n2 : wr.heap.size ≠ Tb := by omega
          have HX := Lib.hid (And.intro hRC (And.intro hH hTC))
          clear hS0 hfr x0 x1 x2 x3
          go_region_held3 (fun w' => w'.cell? ⟨R, 2, none⟩ = some (.slice (some ⟨Tb, 0, none⟩) 3 ct) ∧ w'.cell? ⟨wr.heap.size, 0, none⟩ = some (.int .u8 (fv (f 1))) ∧ w'.cell? ⟨wr.heap.size, 1, none⟩ = some (.string ⟨#[]⟩) ∧ w'.cell? ⟨wr.heap.size, 2, none⟩ = some (.int .u8 (T 1 : Int)) ∧ w'.cell? ⟨wr.heap.size, 3, none⟩ = some (.int .i64 ((f 1).n : Int)) ∧ w'.cell? ⟨Tb, 4, none⟩ = some (cellOr w' Tb 4) ∧ w'.cell? ⟨Tb, 5, none⟩ = some (cellOr w' Tb 5) ∧ w'.cell? ⟨Tb, 6, none⟩ = some (cellOr w' Tb 6) ∧ w'.cell? ⟨Tb, 7, none⟩ = some (cellOr w' Tb 7) ∧ w'.frozen? ⟨Tb, 4, none⟩ = false ∧ w'.frozen? ⟨Tb, 5, none⟩ = false ∧ w'.frozen? ⟨Tb, 6, none⟩ = false ∧ w'.frozen? ⟨Tb, 7, none⟩ = false)
            (first
              | exact HS0.out
              | exact SDc.call (by assumption) hbN HX.out.1 HX.out.2.1 HX.out.2.2
              | (have hbC : Below wr.heap.size wr wN := HC.out.drew.trans (hbN.mono HC.out.size)
                 obtain ⟨cur, hc⟩ := HF.out.2.1.blk
                 exact SDc.store (by assumption) n1 n2 ((hbC.block Tb hTr).trans hc) (HF.out.1.same (hbC.block Tb hTr))))
            (first
              | (go_at_call 174; refine (htk _).mono ?_; rintro e wN ⟨rfl, hbN⟩))
          all_goals
            have hbC : Below wr.heap.size wr wN := HC.out.drew.trans (hbN.mono HC.out.size)
            have hB3 : TB3 wN Tb T (midF f T u 1) := HF.out.2.1.same (hbC.block Tb hTr)
            have htN : Turns (fun k => k = Tb) w wN := HF.out.2.2.trans (Turns.of_below hbC)
            obtain ⟨⟨cur, hcur⟩, q0, q1, q2⟩ := hB3
            have hNx : TB3 (put4 wN Tb 4 (.int .u8 (fv ((f 1).step (T 1) u))) (.string ⟨#[]⟩) (.int .u8 (T 1 : Int)) (.int .i64 (((f 1).step (T 1) u).n : Int))) Tb T (midF f T u 2) := ⟨⟨_, put4_at hcur _ _ _ _ _⟩, put4_far hcur q0 (by omega) _ _ _ _, put4_hit hcur q1, put4_far hcur q2 (by omega) _ _ _ _⟩
            have HNx := Lib.hid (And.intro hNx (htN.trans (turn_put4 4 (.int .u8 (fv ((f 1).step (T 1) u))) (.string ⟨#[]⟩) (.int .u8 (T 1 : Int)) (.int .i64 (((f 1).step (T 1) u).n : Int)))))
            clear hNx htN hcur q0 q1 q2 hbC hbN
            go_wp2
            go_roundw
            case rel => exact ⟨2, by omega, by go_num, by rw [HSP.out], HNx.out.1, HNx.out.2⟩
            case measure => simp [intOf]
        · have HSP := Lib.hid (show spT u f T 2 = true by show (spT u f T 1 || (decide (u = T 1) && (f 1).dn)) = true; rw [hBB, Bool.true_or])
          clear hBB hF htb hI hD
          go_wp2
          generalize wr.alloc (.cells #[.int .u8 (fv (f 1)), .string ⟨#[]⟩, .int .u8 (T 1 : Int), .int .i64 ((f 1).n : Int)] 129) = wC at *
          have hC := hC0
          have hH := hH0
          have hCs := hC.size
          have hRC : R < wC.heap.size := by omega
          have hTC : Tb < wC.heap.size := by omega
          have e2 : wC.cell? ⟨R, 2, none⟩ = some (.slice (some ⟨Tb, 0, none⟩) 3 ct) := (hC.cell (p := ⟨R, 2, none⟩) hRr).trans d2
          have hfr : ∀ i, wC.frozen? ⟨Tb, i, none⟩ = false := by
            obtain ⟨cur, hc⟩ := HF.out.2.1.blk
            exact fun i => frz_of ((hC.block Tb hTr).trans hc) i
          have hS0 : SDc R Tb ct wr.heap.size 4 (.int .u8 (fv (f 1))) (.string ⟨#[]⟩) (.int .u8 (T 1 : Int)) (.int .i64 ((f 1).n : Int)) wC.drew :=
            ⟨e2, y0, y1, y2, y3, cellOr_eq (w := wC.drew) ((hC.cell (p := ⟨Tb, 4, none⟩) hTr).trans x0), cellOr_eq (w := wC.drew) ((hC.cell (p := ⟨Tb, 5, none⟩) hTr).trans x1), cellOr_eq (w := wC.drew) ((hC.cell (p := ⟨Tb, 6, none⟩) hTr).trans x2), cellOr_eq (w := wC.drew) ((hC.cell (p := ⟨Tb, 7, none⟩) hTr).trans x3), hfr _, hfr _, hfr _, hfr _⟩
          have HS0 := Lib.hid hS0
          have HC := Lib.hid hC
          have n1 : R ≠ Tb := hRT
          have n2 : wr.heap.size ≠ Tb := by omega
          have HX := Lib.hid (And.intro hRC (And.intro hH hTC))
          clear hS0 hfr x0 x1 x2 x3
          go_region_held3 (fun w' => w'.cell? ⟨R, 2, none⟩ = some (.slice (some ⟨Tb, 0, none⟩) 3 ct) ∧ w'.cell? ⟨wr.heap.size, 0, none⟩ = some (.int .u8 (fv (f 1))) ∧ w'.cell? ⟨wr.heap.size, 1, none⟩ = some (.string ⟨#[]⟩) ∧ w'.cell? ⟨wr.heap.size, 2, none⟩ = some (.int .u8 (T 1 : Int)) ∧ w'.cell? ⟨wr.heap.size, 3, none⟩ = some (.int .i64 ((f 1).n : Int)) ∧ w'.cell? ⟨Tb, 4, none⟩ = some (cellOr w' Tb 4) ∧ w'.cell? ⟨Tb, 5, none⟩ = some (cellOr w' Tb 5) ∧ w'.cell? ⟨Tb, 6, none⟩ = some (cellOr w' Tb 6) ∧ w'.cell? ⟨Tb, 7, none⟩ = some (cellOr w' Tb 7) ∧ w'.frozen? ⟨Tb, 4, none⟩ = false ∧ w'.frozen? ⟨Tb, 5, none⟩ = false ∧ w'.frozen? ⟨Tb, 6, none⟩ = false ∧ w'.frozen? ⟨Tb, 7, none⟩ = false)
            (first
              | exact HS0.out
              | exact SDc.call (by assumption) hbN HX.out.1 HX.out.2.1 HX.out.2.2
              | (have hbC : Below wr.heap.size wr wN := HC.out.drew.trans (hbN.mono HC.out.size)
                 obtain ⟨cur, hc⟩ := HF.out.2.1.blk
                 exact SDc.store (by assumption) n1 n2 ((hbC.block Tb hTr).trans hc) (HF.out.1.same (hbC.block Tb hTr))))
            (first
              | (go_at_call 174; refine (htk _).mono ?_; rintro e wN ⟨rfl, hbN⟩))
          all_goals
            have hbC : Below wr.heap.size wr wN := HC.out.drew.trans (hbN.mono HC.out.size)
            have hB3 : TB3 wN Tb T (midF f T u 1) := HF.out.2.1.same (hbC.block Tb hTr)
            have htN : Turns (fun k => k = Tb) w wN := HF.out.2.2.trans (Turns.of_below hbC)
            obtain ⟨⟨cur, hcur⟩, q0, q1, q2⟩ := hB3
            have hNx : TB3 (put4 wN Tb 4 (.int .u8 (fv ((f 1).step (T 1) u))) (.string ⟨#[]⟩) (.int .u8 (T 1 : Int)) (.int .i64 (((f 1).step (T 1) u).n : Int))) Tb T (midF f T u 2) := ⟨⟨_, put4_at hcur _ _ _ _ _⟩, put4_far hcur q0 (by omega) _ _ _ _, put4_hit hcur q1, put4_far hcur q2 (by omega) _ _ _ _⟩
            have HNx := Lib.hid (And.intro hNx (htN.trans (turn_put4 4 (.int .u8 (fv ((f 1).step (T 1) u))) (.string ⟨#[]⟩) (.int .u8 (T 1 : Int)) (.int .i64 (((f 1).step (T 1) u).n : Int)))))
            clear hNx htN hcur q0 q1 q2 hbC hbN
            go_wp2
            go_roundw
            case rel => exact ⟨2, by omega, by go_num, by rw [HSP.out], HNx.out.1, HNx.out.2⟩
            case measure => simp [intOf]
      · have hI : midF f T u 2 2 = f 2 := by unfold midF; rw [if_neg (by omega)]
        have hF := htb.f2
        rw [hI] at hF
        have hF2 := hF
        obtain ⟨x0, x1, x2, x3⟩ : wr.cell? ⟨Tb, 8, none⟩ = some (.int .u8 (fv (f 2))) ∧ wr.cell? ⟨Tb, 9, none⟩ = some (.string ⟨#[]⟩) ∧ wr.cell? ⟨Tb, 10, none⟩ = some (.int .u8 (T 2 : Int)) ∧ wr.cell? ⟨Tb, 11, none⟩ = some (.int .i64 ((f 2).n : Int)) := hF2
        obtain ⟨B, hBB⟩ : ∃ B, spT u f T 2 = B := ⟨_, rfl⟩
        rw [hBB]
        have HF := Lib.hid (And.intro hF (And.intro htb htn))
        obtain ⟨D, hD⟩ : ∃ D, (decide (u = T 2) && (f 2).dn) = D := ⟨_, rfl⟩
        have hrep := fun w => repeats_any (f 2) ⟨#[]⟩ ((f 2).n : Int) (T 2) u (H0.out.2.2.1 2 (by omega)).1 H0.out.2.2.2.2.1 w
        simp only [HV.out, hD] at hrep
        have htk := fun w => take_any (f 2) ⟨#[]⟩ (T 2) u (H0.out.2.2.1 2 (by omega)) H0.out.2.2.2.2.1 (by have := H0.out.2.2.2.1 2; omega) w
        simp only [HV.out] at htk
        have hC0 : Below wr.heap.size wr (wr.alloc (.cells #[.int .u8 (fv (f 2)), .string ⟨#[]⟩, .int .u8 (T 2 : Int), .int .i64 ((f 2).n : Int)] 129)) := (Below.refl _ _).alloc (Nat.le_refl _) _
        have hH0 : wr.heap.size < (wr.alloc (.cells #[.int .u8 (fv (f 2)), .string ⟨#[]⟩, .int .u8 (T 2 : Int), .int .i64 ((f 2).n : Int)] 129)).heap.size := by simp
        obtain ⟨⟨y0, y1, y2, y3⟩, _⟩ := block4 (heap_alloc_new wr (.cells #[.int .u8 (fv (f 2)), .string ⟨#[]⟩, .int .u8 (T 2 : Int), .int .i64 ((f 2).n : Int)] 129))
        have HC0 := Lib.hid (And.intro hC0 hH0)
        cases B
        · have HSP := Lib.hid (show spT u f T 3 = D by show (spT u f T 2 || (decide (u = T 2) && (f 2).dn)) = D; rw [hBB, hD, Bool.false_or])
          clear hBB hF htb hI hD hC0 hH0
          go_wp2_with fail
          refine (hrep _).mono ?_
          rintro e wC ⟨rfl, hbc⟩
          have hC : Below wr.heap.size wr wC := HC0.out.1.trans (hbc.mono (Nat.le_of_lt HC0.out.2))
          have hH : wr.heap.size < wC.heap.size := Nat.lt_of_lt_of_le HC0.out.2 hbc.size
          have y0 := (hbc.cell (p := ⟨wr.heap.size, 0, none⟩) HC0.out.2).trans y0
          have y1 := (hbc.cell (p := ⟨wr.heap.size, 1, none⟩) HC0.out.2).trans y1
          have y2 := (hbc.cell (p := ⟨wr.heap.size, 2, none⟩) HC0.out.2).trans y2
          have y3 := (hbc.cell (p := ⟨wr.heap.size, 3, none⟩) HC0.out.2).trans y3
          clear hbc
          go_wp2
          have hCs := hC.size
          have hRC : R < wC.heap.size := by omega
          have hTC : Tb < wC.heap.size := by omega
          have e2 : wC.cell? ⟨R, 2, none⟩ = some (.slice (some ⟨Tb, 0, none⟩) 3 ct) := (hC.cell (p := ⟨R, 2, none⟩) hRr).trans d2
          have hfr : ∀ i, wC.frozen? ⟨Tb, i, none⟩ = false := by
            obtain ⟨cur, hc⟩ := HF.out.2.1.blk
            exact fun i => frz_of ((hC.block Tb hTr).trans hc) i
          have hS0 : SDc R Tb ct wr.heap.size 8 (.int .u8 (fv (f 2))) (.string ⟨#[]⟩) (.int .u8 (T 2 : Int)) (.int .i64 ((f 2).n : Int)) wC.drew :=
            ⟨e2, y0, y1, y2, y3, cellOr_eq (w := wC.drew) ((hC.cell (p := ⟨Tb, 8, none⟩) hTr).trans x0), cellOr_eq (w := wC.drew) ((hC.cell (p := ⟨Tb, 9, none⟩) hTr).trans x1), cellOr_eq (w := wC.drew) ((hC.cell (p := ⟨Tb, 10, none⟩) hTr).trans x2), cellOr_eq (w := wC.drew) ((hC.cell (p := ⟨Tb, 11, none⟩) hTr).trans x3), hfr _, hfr _, hfr _, hfr _⟩
          have HS0 := Lib.hid hS0
          have HC := Lib.hid hC
          have n1 : R ≠ Tb := hRT
          have n2 : wr.heap.size ≠ Tb := by omega
          have HX := Lib.hid (And.intro hRC (And.intro hH hTC))
          clear hS0 hfr x0 x1 x2 x3
          go_region_held3 (fun w' => w'.cell? ⟨R, 2, none⟩ = some (.slice (some ⟨Tb, 0, none⟩) 3 ct) ∧ w'.cell? ⟨wr.heap.size, 0, none⟩ = some (.int .u8 (fv (f 2))) ∧ w'.cell? ⟨wr.heap.size, 1, none⟩ = some (.string ⟨#[]⟩) ∧ w'.cell? ⟨wr.heap.size, 2, none⟩ = some (.int .u8 (T 2 : Int)) ∧ w'.cell? ⟨wr.heap.size, 3, none⟩ = some (.int .i64 ((f 2).n : Int)) ∧ w'.cell? ⟨Tb, 8, none⟩ = some (cellOr w' Tb 8) ∧ w'.cell? ⟨Tb, 9, none⟩ = some (cellOr w' Tb 9) ∧ w'.cell? ⟨Tb, 10, none⟩ = some (cellOr w' Tb 10) ∧ w'.cell? ⟨Tb, 11, none⟩ = some (cellOr w' Tb 11) ∧ w'.frozen? ⟨Tb, 8, none⟩ = false ∧ w'.frozen? ⟨Tb, 9, none⟩ = false ∧ w'.frozen? ⟨Tb, 10, none⟩ = false ∧ w'.frozen? ⟨Tb, 11, none⟩ = false)
            (first
              | exact HS0.out
              | exact SDc.call (by assumption) hbN HX.out.1 HX.out.2.1 HX.out.2.2
              | (have hbC : Below wr.heap.size wr wN := HC.out.drew.trans (hbN.mono HC.out.size)
                 obtain ⟨cur, hc⟩ := HF.out.2.1.blk
                 exact SDc.store (by assumption) n1 n2 ((hbC.block Tb hTr).trans hc) (HF.out.1.same (hbC.block Tb hTr))))
            (first
              | (go_at_call 174; refine (htk _).mono ?_; rintro e wN ⟨rfl, hbN⟩))
          all_goals
            have hbC : Below wr.heap.size wr wN := HC.out.drew.trans (hbN.mono HC.out.size)
            have hB3 : TB3 wN Tb T (midF f T u 2) := HF.out.2.1.same (hbC.block Tb hTr)
            have htN : Turns (fun k => k = Tb) w wN := HF.out.2.2.trans (Turns.of_below hbC)
            obtain ⟨⟨cur, hcur⟩, q0, q1, q2⟩ := hB3
            have hNx : TB3 (put4 wN Tb 8 (.int .u8 (fv ((f 2).step (T 2) u))) (.string ⟨#[]⟩) (.int .u8 (T 2 : Int)) (.int .i64 (((f 2).step (T 2) u).n : Int))) Tb T (midF f T u 3) := ⟨⟨_, put4_at hcur _ _ _ _ _⟩, put4_far hcur q0 (by omega) _ _ _ _, put4_far hcur q1 (by omega) _ _ _ _, put4_hit hcur q2⟩
            have HNx := Lib.hid (And.intro hNx (htN.trans (turn_put4 8 (.int .u8 (fv ((f 2).step (T 2) u))) (.string ⟨#[]⟩) (.int .u8 (T 2 : Int)) (.int .i64 (((f 2).step (T 2) u).n : Int)))))
            clear hNx htN hcur q0 q1 q2 hbC hbN
            go_wp2
            go_roundw
            case rel => exact ⟨3, by omega, by go_num, by rw [HSP.out], HNx.out.1, HNx.out.2⟩
            case measure => simp [intOf]
        · have HSP := Lib.hid (show spT u f T 3 = true by show (spT u f T 2 || (decide (u = T 2) && (f 2).dn)) = true; rw [hBB, Bool.true_or])
          clear hBB hF htb hI hD
          go_wp2
          generalize wr.alloc (.cells #[.int .u8 (fv (f 2)), .string ⟨#[]⟩, .int .u8 (T 2 : Int), .int .i64 ((f 2).n : Int)] 129) = wC at *
          have hC := hC0
          have hH := hH0
          have hCs := hC.size
          have hRC : R < wC.heap.size := by omega
          have hTC : Tb < wC.heap.size := by omega
          have e2 : wC.cell? ⟨R, 2, none⟩ = some (.slice (some ⟨Tb, 0, none⟩) 3 ct) := (hC.cell (p := ⟨R, 2, none⟩) hRr).trans d2
          have hfr : ∀ i, wC.frozen? ⟨Tb, i, none⟩ = false := by
            obtain ⟨cur, hc⟩ := HF.out.2.1.blk
            exact fun i => frz_of ((hC.block Tb hTr).trans hc) i
          have hS0 : SDc R Tb ct wr.heap.size 8 (.int .u8 (fv (f 2))) (.string ⟨#[]⟩) (.int .u8 (T 2 : Int)) (.int .i64 ((f 2).n : Int)) wC.drew :=
            ⟨e2, y0, y1, y2, y3, cellOr_eq (w := wC.drew) ((hC.cell (p := ⟨Tb, 8, none⟩) hTr).trans x0), cellOr_eq (w := wC.drew) ((hC.cell (p := ⟨Tb, 9, none⟩) hTr).trans x1), cellOr_eq (w := wC.drew) ((hC.cell (p := ⟨Tb, 10, none⟩) hTr).trans x2), cellOr_eq (w := wC.drew) ((hC.cell (p := ⟨Tb, 11, none⟩) hTr).trans x3), hfr _, hfr _, hfr _, hfr _⟩
          have HS0 := Lib.hid hS0
          have HC := Lib.hid hC
          have n1 : R ≠ Tb := hRT
          have n2 : wr.heap.size ≠ Tb := by omega
          have HX := Lib.hid (And.intro hRC (And.intro hH hTC))
          clear hS0 hfr x0 x1 x2 x3
          go_region_held3 (fun w' => w'.cell? ⟨R, 2, none⟩ = some (.slice (some ⟨Tb, 0, none⟩) 3 ct) ∧ w'.cell? ⟨wr.heap.size, 0, none⟩ = some (.int .u8 (fv (f 2))) ∧ w'.cell? ⟨wr.heap.size, 1, none⟩ = some (.string ⟨#[]⟩) ∧ w'.cell? ⟨wr.heap.size, 2, none⟩ = some (.int .u8 (T 2 : Int)) ∧ w'.cell? ⟨wr.heap.size, 3, none⟩ = some (.int .i64 ((f 2).n : Int)) ∧ w'.cell? ⟨Tb, 8, none⟩ = some (cellOr w' Tb 8) ∧ w'.cell? ⟨Tb, 9, none⟩ = some (cellOr w' Tb 9) ∧ w'.cell? ⟨Tb, 10, none⟩ = some (cellOr w' Tb 10) ∧ w'.cell? ⟨Tb, 11, none⟩ = some (cellOr w' Tb 11) ∧ w'.frozen? ⟨Tb, 8, none⟩ = false ∧ w'.frozen? ⟨Tb, 9, none⟩ = false ∧ w'.frozen? ⟨Tb, 10, none⟩ = false ∧ w'.frozen? ⟨Tb, 11, none⟩ = false)
            (first
              | exact HS0.out
              | exact SDc.call (by assumption) hbN HX.out.1 HX.out.2.1 HX.out.2.2
              | (have hbC : Below wr.heap.size wr wN := HC.out.drew.trans (hbN.mono HC.out.size)
                 obtain ⟨cur, hc⟩ := HF.out.2.1.blk
                 exact SDc.store (by assumption) n1 n2 ((hbC.block Tb hTr).trans hc) (HF.out.1.same (hbC.block Tb hTr))))
            (first
              | (go_at_call 174; refine (htk _).mono ?_; rintro e wN ⟨rfl, hbN⟩))
          all_goals
            have hbC : Below wr.heap.size wr wN := HC.out.drew.trans (hbN.mono HC.out.size)
            have hB3 : TB3 wN Tb T (midF f T u 2) := HF.out.2.1.same (hbC.block Tb hTr)
            have htN : Turns (fun k => k = Tb) w wN := HF.out.2.2.trans (Turns.of_below hbC)
            obtain ⟨⟨cur, hcur⟩, q0, q1, q2⟩ := hB3
            have hNx : TB3 (put4 wN Tb 8 (.int .u8 (fv ((f 2).step (T 2) u))) (.string ⟨#[]⟩) (.int .u8 (T 2 : Int)) (.int .i64 (((f 2).step (T 2) u).n : Int))) Tb T (midF f T u 3) := ⟨⟨_, put4_at hcur _ _ _ _ _⟩, put4_far hcur q0 (by omega) _ _ _ _, put4_far hcur q1 (by omega) _ _ _ _, put4_hit hcur q2⟩
            have HNx := Lib.hid (And.intro hNx (htN.trans (turn_put4 8 (.int .u8 (fv ((f 2).step (T 2) u))) (.string ⟨#[]⟩) (.int .u8 (T 2 : Int)) (.int .i64 (((f 2).step (T 2) u).n : Int)))))
            clear hNx htN hcur q0 q1 q2 hbC hbN
            go_wp2
            go_roundw
            case rel => exact ⟨3, by omega, by go_num, by rw [HSP.out], HNx.out.1, HNx.out.2⟩
            case measure => simp [intOf]
    · obtain rfl : k = 3 := by omega
      obtain ⟨cur0, hc0⟩ := H0.out.2.1.blk
      have hTid := H0.out.1.turns hRT hc0 htn
      have hB3 : TB3 wr Tb T (fun j => (f j).step (T j) u) := ⟨htb.blk, htb.f0, htb.f1, htb.f2⟩
      have hbw : Below base w wr := htn.below hB (fun k e => by rw [e]; exact H0.out.2.2.2.2.2.2.1)
      have HE := Lib.hid (And.intro hTid (And.intro hB3 hbw))
      clear htb hTid hB3 hbw
      have hc1s := HE.out.2.1.blk
      obtain ⟨cur1, hc1⟩ := hc1s
      have hBr : base ≤ wr.heap.size := Nat.le_trans hB hsz
      cases hS : spT u f T 3
      · have hOe : O = o ++ ⟨#[uc]⟩ := by rw [← HOO.out, hS]; rfl
        clear HOO
        subst hOe
        have hlo1 := H0.out.2.2.2.2.1
        cases hl : lowB u
        · have HUP := Lib.hid (show (88 : Int) ≤ (u : Int) ∧ (u : Int) ≤ 90 by
            unfold opB at hlo1; rw [hl] at hlo1; unfold upB at hlo1; simp at hlo1; omega)
          have e := HV.out
          rw [opVal_up hl] at e
          subst e
          have m1 := fun w => Tryd.letterTS ((u : Int) - 88 + 120) w
          go_wp2
          go_region_held3 (fun w' => wr.heap.size ≤ w'.heap.size)
            (first
              | exact Nat.le_refl _
              | exact hbN.size
              | exact Nat.le_trans hbN.size hbM.size)
            (first
              | (go_at_call 265; refine (letterTS_any u (HUP.out.1) (HUP.out.2) _).mono ?_; rintro e wN ⟨rfl, hbN⟩)
              | (go_at_call 131; refine (WriteByteT_any base R o uc _ (by rw [H0.out.2.2.2.2.2.1]) p vb _ _ (HE.out.1.turns hRT hc1 (Turns.of_below ((Below.refl _ _).drew.trans hbN))) H0.out.2.2.2.2.2.2.2 (Nat.le_trans hBr hbN.size)).mono ?_; rintro e wM ⟨rfl, ⟨p', vb', hTM⟩, hbM, hoM⟩))
          all_goals
            have hbrN : Below wr.heap.size wr wN := (Below.refl _ _).drew.trans hbN
            have hcN := (hbrN.block Tb hTr).trans hc1
            have hcM := hoM Tb _ hcN (fun e => hRT (Option.some.inj e).symm) (fun c fz e => absurd (Obj.cells.inj e).2.1 (by decide))
            have hB3M : TB3 wM Tb T (fun j => (f j).step (T j) u) := HE.out.2.1.same (hcM.trans hc1.symm)
            have HM := Lib.hid (And.intro hTM (And.intro hB3M (HE.out.2.2.trans ((hbrN.mono hBr).trans hbM))))
            clear hTM hB3M hcM hcN hoM hbM hbN hbrN
            go_wp2
            go_ret
            exact ⟨rfl, ⟨p', vb', HM.out.1⟩, HM.out.2.1, HM.out.2.2⟩
        · have e := HV.out
          rw [opVal_low hl] at e
          subst e
          have m1 := fun w => Tryd.letterTC (u : Int) w
          go_wp2
          go_region_held3 (fun w' => wr.heap.size ≤ w'.heap.size)
            (first
              | exact Nat.le_refl _
              | exact hbN.size
              | exact Nat.le_trans hbN.size hbM.size)
            (first
              | (go_at_call 264; refine (letterTC_any u _).mono ?_; rintro e wN ⟨rfl, hbN⟩)
              | (go_at_call 131; refine (WriteByteT_any base R o uc _ (by rw [H0.out.2.2.2.2.2.1]) p vb _ _ (HE.out.1.turns hRT hc1 (Turns.of_below ((Below.refl _ _).drew.trans hbN))) H0.out.2.2.2.2.2.2.2 (Nat.le_trans hBr hbN.size)).mono ?_; rintro e wM ⟨rfl, ⟨p', vb', hTM⟩, hbM, hoM⟩))
          all_goals
            have hbrN : Below wr.heap.size wr wN := (Below.refl _ _).drew.trans hbN
            have hcN := (hbrN.block Tb hTr).trans hc1
            have hcM := hoM Tb _ hcN (fun e => hRT (Option.some.inj e).symm) (fun c fz e => absurd (Obj.cells.inj e).2.1 (by decide))
            have hB3M : TB3 wM Tb T (fun j => (f j).step (T j) u) := HE.out.2.1.same (hcM.trans hc1.symm)
            have HM := Lib.hid (And.intro hTM (And.intro hB3M (HE.out.2.2.trans ((hbrN.mono hBr).trans hbM))))
            clear hTM hB3M hcM hcN hoM hbM hbN hbrN
            go_wp2
            go_ret
            exact ⟨rfl, ⟨p', vb', HM.out.1⟩, HM.out.2.1, HM.out.2.2⟩
      · have hOe : O = o := by rw [← HOO.out, hS]; rfl
        subst hOe
        go_wp2
        go_ret
        exact ⟨rfl, ⟨p, vb, HE.out.1⟩, HE.out.2.1, HE.out.2.2⟩
end Go.Proofs.YtngcmjfkeageiaaDoor
