/-
  slices.Sorted over at most three different terms as bytes. Conditions: none but what the statements say.
-/
import Derived.Test.YtngcmjfkeageiaaDoorKeysB
import Derived.LoopN
namespace Go.Proofs.YtngcmjfkeageiaaDoor
open Go.RowKit Go.Maps

/-- the cells of a row of bytes -/
def CellsB (w : World) (g : Nat) (l : List Int) : Prop := ∀ j, j < l.length → w.cell? ⟨g, j, none⟩ = some (encB (l.getD j 0)) ∧ w.frozen? ⟨g, j, none⟩ = false
theorem CellsB.of_own {w : World} {base g n cap : Nat} {l : List Int} (h : w.ownsRow base 5 1 (.slice (some ⟨g, 0, none⟩) n cap) l.length (l.map encB)) (hn : n = l.length) : CellsB w g l := by
  subst hn
  obtain ⟨_, h⟩ := h
  intro j hj
  rcases h with ⟨h, h0⟩ | ⟨g', cap', cur, e, _, hg, _, _, hsz, ht⟩
  · omega
  · obtain ⟨rfl, _⟩ : g = g' ∧ cap = cap' := by simpa using e
    have hlt : j < cur.size := by
      have : (cur.toList.take (l.length * 1)).length = (l.map encB).length := by rw [ht]
      simp at this; omega
    have hv : cur[j]? = some (encB (l.getD j 0)) := by
      have : (cur.toList.take (l.length * 1))[j]? = (l.map encB)[j]? := by rw [ht]
      rw [List.getElem?_take, if_pos (by omega), List.getElem?_map, List.getElem?_eq_getElem hj, Array.getElem?_toList] at this
      rw [this, List.getD_eq_getElem?_getD, List.getElem?_eq_getElem hj]; rfl
    constructor
    · simp [World.cell?, hg, hv]
    · simp [World.frozen?, hg]

set_option maxRecDepth 100000 in
theorem isNaN_u8 (x : Int) (w : World) : Calls Tryd.prog 210 #[.int .u8 x] w fun e w' => e = .returned (.bool false) ∧ w = w' := by
  go_enter Tryd.func210, Tryd.ntmps210
  go_wp2
  go_ret
  exact ⟨ret_bool (by simp), rfl⟩
set_option maxRecDepth 100000 in
theorem less_u8 (x y : Int) (b : Bool) (hb : decide (x < y) = b) (w : World) : Calls Tryd.prog 188 #[.int .u8 x, .int .u8 y] w fun e w' => e = .returned (.bool b) ∧ w = w' := by
  go_enter Tryd.func188, Tryd.ntmps188
  go_wp2_with (go_at_call 210; refine (isNaN_u8 _ _).mono ?_; rintro e w' ⟨rfl, rfl⟩)
  go_ret
  exact ⟨ret_bool (by simp), rfl⟩

/-- a row in which the place j sinks as far as it is less -/
def bub (L : List Int) : Nat → List Int
  | 0 => L
  | j + 1 => if L.getD (j + 1) 0 < L.getD j 0 then bub ((L.set (j + 1) (L.getD j 0)).set j (L.getD (j + 1) 0)) j else L
theorem bub_less {L : List Int} {j : Nat} (h : L.getD (j + 1) 0 < L.getD j 0) : bub L (j + 1) = bub ((L.set (j + 1) (L.getD j 0)).set j (L.getD (j + 1) 0)) j := by rw [bub, if_pos h]
theorem bub_not {L : List Int} {j : Nat} (h : ¬ L.getD (j + 1) 0 < L.getD j 0) : bub L (j + 1) = L := by rw [bub, if_neg h]
theorem bub_length : ∀ (j : Nat) (L : List Int), (bub L j).length = L.length
  | 0, _ => rfl
  | j + 1, L => by
    by_cases h : L.getD (j + 1) 0 < L.getD j 0
    · rw [bub_less h, bub_length j]; simp
    · rw [bub_not h]
/-- the first places in order -/
def insS (L : List Int) : Nat → List Int
  | 0 => L
  | 1 => L
  | i + 2 => bub (insS L (i + 1)) (i + 1)
theorem insS_length (L : List Int) : ∀ i, (insS L i).length = L.length
  | 0 => rfl
  | 1 => rfl
  | i + 2 => by show (bub (insS L (i + 1)) (i + 1)).length = _; rw [bub_length, insS_length L (i + 1)]
theorem insS_all16 : ∀ l ∈ all16, insS l l.length = srt l := by decide

theorem CellsB.swap {w : World} {g j : Nat} {L : List Int} (h : CellsB w g L) (hj : j + 1 < L.length) :
    CellsB ((w.setCell ⟨g, j + 1, none⟩ (encB (L.getD j 0))).setCell ⟨g, j, none⟩ (encB (L.getD (j + 1) 0))) g ((L.set (j + 1) (L.getD j 0)).set j (L.getD (j + 1) 0)) := by
  intro i hi
  have hi' : i < L.length := by simpa using hi
  constructor
  · by_cases e : i = j
    · subst e
      rw [World.cell?_setCell_same' _ _ _ (by rw [World.cell?_setCell_other _ _ _ _ (fun e => by cases e), (h i hi').1]; rfl)]
      simp [List.getD_eq_getElem?_getD, hi']
    · rw [World.cell?_setCell_other _ _ _ _ (fun e' => by cases e'; exact e rfl)]
      by_cases e2 : i = j + 1
      · subst e2
        rw [World.cell?_setCell_same' _ _ _ (by rw [(h (j + 1) hi').1]; rfl)]
        simp [List.getD_eq_getElem?_getD, hi']
      · rw [World.cell?_setCell_other _ _ _ _ (fun e' => by cases e'; exact e2 rfl), (h i hi').1]
        have e3 : ¬ j = i := fun e' => e e'.symm
        have e4 : ¬ j + 1 = i := fun e' => e2 e'.symm
        simp [List.getD_eq_getElem?_getD, e3, e4]
  · rw [World.frozen?_setCell, World.frozen?_setCell]; exact (h i hi').2
theorem CellsB.swap2 {w : World} {g j : Nat} {L : List Int} (h : CellsB w g L) (hj : j + 1 < L.length) :
    CellsB ((w.setCell ⟨g, j, none⟩ (encB (L.getD (j + 1) 0))).setCell ⟨g, j + 1, none⟩ (encB (L.getD j 0))) g ((L.set (j + 1) (L.getD j 0)).set j (L.getD (j + 1) 0)) := by
  intro i hi
  have hi' : i < L.length := by simpa using hi
  constructor
  · by_cases e2 : i = j + 1
    · subst e2
      rw [World.cell?_setCell_same' _ _ _ (by rw [World.cell?_setCell_other _ _ _ _ (fun e => by cases e), (h (j + 1) hi').1]; rfl)]
      simp [List.getD_eq_getElem?_getD, hi']
    · rw [World.cell?_setCell_other _ _ _ _ (fun e' => by cases e'; exact e2 rfl)]
      by_cases e : i = j
      · subst e
        rw [World.cell?_setCell_same' _ _ _ (by rw [(h i hi').1]; rfl)]
        simp [List.getD_eq_getElem?_getD, hi']
      · rw [World.cell?_setCell_other _ _ _ _ (fun e' => by cases e'; exact e rfl), (h i hi').1]
        have e3 : ¬ j = i := fun e' => e e'.symm
        have e4 : ¬ j + 1 = i := fun e' => e2 e'.symm
        simp [List.getD_eq_getElem?_getD, e3, e4]
  · rw [World.frozen?_setCell, World.frozen?_setCell]; exact (h i hi').2

set_option maxRecDepth 100000 in
set_option maxHeartbeats 3200000 in
theorem insSort_any (w : World) (g cap B : Nat) (l : List Int) (hl : l.length ≤ 1000) (hc : CellsB w g l) (hB : B ≤ g) (h0 : Below B w w) :
    Calls Tryd.prog 182 #[.slice (some ⟨g, 0, none⟩) l.length cap, .int .i64 0, .int .i64 (l.length : Int)] w fun e w' => e = .returned (.tuple #[]) ∧ CellsB w' g (insS l l.length) ∧ Below B w w' := by
  obtain ⟨n, hn⟩ : ∃ n, l.length = n := ⟨_, rfl⟩
  have HN := Lib.hid hn
  rw [hn] at hl ⊢
  clear hn
  go_enter Tryd.func182, Tryd.ntmps182
  go_wp2
  go_loopw [6] (fun i wr => ∃ k : Nat, i = .int .i64 ((k : Int) + 1) ∧ (k + 1 ≤ n ∨ k = 0) ∧ CellsB wr g (insS l (k + 1)) ∧ Below B w wr) (fun i _ => n + 1 - (intOf i).toNat)
  case atStart => exact ⟨0, rfl, .inr rfl, hc, h0⟩
  case round =>
    obtain ⟨k, rfl, hk, hC, hb⟩ := hrel
    by_cases hlt : k + 1 < n
    · have HK := Lib.hid (And.intro hC hb)
      have d1 : ((k : Int) + 1 < (n : Int)) := by omega
      clear hC hb
      go_wp2
      go_loopw [7] (fun j wr2 => ∃ (m : Nat) (L : List Int), j = .int .i64 (m : Int) ∧ m ≤ k + 1 ∧ L.length = n ∧ CellsB wr2 g L ∧ bub L m = insS l (k + 2) ∧ Below B w wr2) (fun j _ => (intOf j).toNat)
      case atStart => exact ⟨k + 1, insS l (k + 1), by simp, Nat.le_refl _, by rw [insS_length, HN.out], HK.out.1, rfl, HK.out.2⟩
      case round =>
        obtain ⟨m, L, rfl, hm, hL, hC, hbu, hb⟩ := hrel
        have HI := Lib.hid (And.intro hL (And.intro hbu hb))
        cases m with
        | zero =>
          have HC := Lib.hid hC
          clear hC hL hbu hb
          have d0 : decide ((0 : Int) < (0 : Int)) = false := by decide
          have e3 : IntKind.i64.wrap ((k : Int) + 1 + 1) = (k : Int) + 1 + 1 := IntWalk.i64_in _ (by omega)
          go_wp2
          go_quiet (fail)
          go_wp2
          go_roundw
          case rel => exact ⟨k + 1, by simp, .inl (by omega), by have := HC.out; rw [show L = insS l (k + 2) from HI.out.2.1] at this; exact this, below_drewN HI.out.2.2 _⟩
          case measure => simp [intOf]; omega
        | succ m =>
          obtain ⟨c1, f1⟩ := hC (m + 1) (by omega)
          obtain ⟨c0, f0⟩ := hC m (by omega)
          have HC := Lib.hid hC
          obtain ⟨x, hx⟩ : ∃ x, L.getD m 0 = x := ⟨_, rfl⟩
          obtain ⟨y, hy⟩ : ∃ y, L.getD (m + 1) 0 = y := ⟨_, rfl⟩
          rw [hx] at c0
          rw [hy] at c1
          have HX := Lib.hid (And.intro hx hy)
          have d0 : decide ((0 : Int) < (m : Int) + 1) = true := decide_eq_true (by omega)
          have e1 : IntKind.i64.wrap ((m : Int) + 1 - 1) = (m : Int) := by rw [show (m : Int) + 1 - 1 = m by omega]; exact IntWalk.i64_in _ (by omega)
          have e2 : IntKind.i64.wrap (m : Int) = (m : Int) := IntWalk.i64_in _ (by omega)
          have x1 : (0 : Int) ≤ (m : Int) + 1 := by omega
          have x2 : (m : Int) + 1 < (n : Int) := by omega
          have x3 : (m : Int) < (n : Int) := by omega
          clear hC hL hbu hb hx hy
          unfold encB at c0 c1
          by_cases hxy : y < x
          · have dl : decide (y < x) = true := decide_eq_true hxy
            go_wp2
            go_quiet (exact Calls.quiet_of_same ((less_u8 y x true dl _).mono fun _ _ h => ⟨h.1, h.2.symm⟩))
            have HL := Lib.hid (bub_less (L := L) (j := m) (by rw [HX.out.1, HX.out.2]; exact hxy))
            clear hxy
            go_wp2
            go_region
            all_goals
              go_wp2
              go_roundw
              case rel =>
                have h := CellsB.swap (w := wr.drewN (nq + 1)) (L := L) (j := m) HC.out (by rw [HI.out.1]; omega)
                have hq := HL.out
                rw [HX.out.1, HX.out.2] at h hq
                exact ⟨m, _, rfl, by omega, by simp [HI.out.1], h, by rw [← hq]; exact HI.out.2.1, ((below_drewN HI.out.2.2 _).setCell (p := ⟨g, m + 1, none⟩) hB _).setCell (p := ⟨g, m, none⟩) hB _⟩
              case measure => simp [intOf]
          · have dl : decide (y < x) = false := decide_eq_false hxy
            have HL := Lib.hid (bub_not (L := L) (j := m) (by rw [HX.out.1, HX.out.2]; exact hxy))
            clear hxy
            go_wp2
            go_quiet (exact Calls.quiet_of_same ((less_u8 y x false dl _).mono fun _ _ h => ⟨h.1, h.2.symm⟩))
            have e3 : IntKind.i64.wrap ((k : Int) + 1 + 1) = (k : Int) + 1 + 1 := IntWalk.i64_in _ (by omega)
            go_wp2
            go_roundw
            case rel => exact ⟨k + 1, by simp, .inl (by omega), by have := HC.out; rw [show L = insS l (k + 2) from by rw [← HL.out]; exact HI.out.2.1] at this; exact this, below_drewN HI.out.2.2 _⟩
            case measure => simp [intOf]; omega
    · have HZ := Lib.hid (And.intro hC hb)
      clear hC hb
      go_wp2
      go_end0
      refine ⟨rfl, ?_, HZ.out.2⟩
      rcases hk with h | h
      · obtain rfl : n = k + 1 := by omega
        exact HZ.out.1
      · subst h
        have h1 : CellsB wr g l := HZ.out.1
        obtain rfl | rfl : n = 0 ∨ n = 1 := by omega
        · exact h1
        · exact h1
end Go.Proofs.YtngcmjfkeageiaaDoor
