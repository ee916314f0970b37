/-
  The model's source of drawn numbers: pick returns a number below its bound and moves on by one. Conditions: at most 1000000 numbers drawn before, at most 2000 bytes.
-/
import Derived.Test.YtfmhcjhcmoniaaaDoorLinks
namespace Go.Proofs.YtfmhcjhcmoniaaaDoor
open Go.RowKit Go.Maps

/-- block g is a source over n bytes, p numbers of which are drawn -/
structure RdAt (w : World) (g : Nat) (a : Option Addr) (n cap p : Nat) : Prop where
  here : w.heap[g]? = some (.cells #[.slice a n cap, .int .i64 p] 103 (0, 0))
  few : n ≤ 2000
  byte : ∀ i, i < n → ∃ b off, ∃ v : Int, a = some ⟨b, off, none⟩ ∧ b ≠ g ∧ b < w.heap.size ∧ 0 ≤ v ∧ v ≤ 255 ∧ w.cell? ⟨b, off + i, none⟩ = some (.int .u8 v)

theorem RdAt.step {w : World} {g : Nat} {a : Option Addr} {n cap p : Nat} (h : RdAt w g a n cap p) : RdAt (w.setCell ⟨g, 1, none⟩ (.int .i64 ((p : Int) + 1))) g a n cap (p + 1) where
  here := by
    have hg := (Array.getElem?_eq_some_iff.1 h.here).1
    have := h.here
    simp [World.setCell, Array.getElem?_modify, this]
  few := h.few
  byte i hi := by
    obtain ⟨b, off, v, e, h1, h2, h3, h4, h5⟩ := h.byte i hi
    refine ⟨b, off, v, e, h1, by simpa [World.setCell] using h2, h3, h4, ?_⟩
    rw [World.cell?_of_block (Below.heap_setCell w ⟨g, 1, none⟩ _ b h1)]
    exact h5
theorem turns_set (w : World) (g : Nat) (v : Value) : Turns (fun k => k = g) w (w.setCell ⟨g, 1, none⟩ v) :=
  ⟨rfl, rfl, rfl, by simp [World.setCell], fun k _ hk => Below.heap_setCell _ _ _ _ hk⟩

theorem xor_nn (a b : Nat) (ha : a < 2 ^ 62) (hb : b < 2 ^ 62) : 0 ≤ bits .xor .i64 (a : Int) (b : Int) := by
  have hx : a ^^^ b < 2 ^ 62 := Nat.xor_lt_two_pow ha hb
  show 0 ≤ IntKind.i64.wrap ((BitVec.ofInt 64 (a : Int) ^^^ BitVec.ofInt 64 (b : Int)).toNat : Int)
  rw [BitVec.toNat_xor, BitVec.toNat_ofInt, BitVec.toNat_ofInt]
  have e1 : ((a : Int) % ((2 ^ 64 : Nat) : Int)).toNat = a := by omega
  have e2 : ((b : Int) % ((2 ^ 64 : Nat) : Int)).toNat = b := by omega
  rw [e1, e2, IntWalk.i64_in _ (by omega)]
  omega
theorem xor_int {x y : Int} (hx0 : 0 ≤ x) (hx : x < 4611686018427387904) (hy0 : 0 ≤ y) (hy : y < 4611686018427387904) : 0 ≤ bits .xor .i64 x y := by
  obtain ⟨a, rfl⟩ := Int.eq_ofNat_of_zero_le hx0
  obtain ⟨b, rfl⟩ := Int.eq_ofNat_of_zero_le hy0
  exact xor_nn a b (by omega) (by omega)

set_option maxRecDepth 100000 in
set_option maxHeartbeats 1600000 in
theorem pick_any (w : World) (g : Nat) (a : Option Addr) (n cap p : Nat) (m : Int) (hm : m ≤ 1000) (hm0 : -1000 ≤ m) (hp : p ≤ 1000000) (h : RdAt w g a n cap p) :
    Calls Tryd.prog 34 #[.pointer (some ⟨g, 0, none⟩), .int .i64 m] w fun e w' => ∃ r : Int, e = .returned (.int .i64 r) ∧ 0 ≤ r ∧ (1 ≤ m → r < m) ∧ RdAt w' g a n cap (p + 1) ∧ Turns (fun k => k = g) w w' := by
  have c0 : w.cell? ⟨g, 0, none⟩ = some (.slice a n cap) := by simp [World.cell?, h.here]
  have c1 : w.cell? ⟨g, 1, none⟩ = some (.int .i64 p) := by simp [World.cell?, h.here]
  have z1 : w.frozen? ⟨g, 1, none⟩ = false := by simp [World.frozen?, h.here]
  have hb := Lib.hid h
  have hfew := h.few
  clear h
  have w1 : IntKind.i64.wrap ((p : Int) + 1) = (p : Int) + 1 := IntWalk.i64_in _ (by omega)
  go_enter Tryd.func34, Tryd.ntmps34
  by_cases h1 : m < 1
  · go_wp2
    go_ret
    exact ⟨0, rfl, by omega, by omega, hb.out.step, turns_set _ _ _⟩
  · have h1' : 1 ≤ m := by omega
    rcases Nat.eq_zero_or_pos n with rfl | hn
    · go_wp2
      go_ret
      exact ⟨0, rfl, by omega, by omega, hb.out.step, turns_set _ _ _⟩
    · have hn' : (0 : Int) < n := by omega
      have hn0 : ¬ n = 0 := by omega
      by_cases hk : p < n
      · obtain ⟨b, off, v, rfl, hbg, hbs, hv0, hv1, hc⟩ := hb.out.byte p hk
        have d1 : (w.setCell ⟨g, 1, none⟩ (.int .i64 ((p : Int) + 1))).cell? ⟨b, off + p, none⟩ = some (.int .u8 v) := by
          rw [World.cell?_of_block (Below.heap_setCell w ⟨g, 1, none⟩ _ b hbg)]; exact hc
        have l1 : (p : Int) < n := by omega
        go_wp2
        go_ret
        exact ⟨v % m, rfl, Int.emod_nonneg _ (by omega), Int.emod_lt_of_pos _ (by omega), hb.out.step, turns_set _ _ _⟩
      · have hi1 : p % n < n := Nat.mod_lt _ hn
        have hi2 : (p * 7 + 3) % n < n := Nat.mod_lt _ hn
        obtain ⟨b, off, v, rfl, hbg, hbs, hv0, hv1, hc⟩ := hb.out.byte _ hi1
        obtain ⟨b', off', u, e, _, _, hu0, hu1, hc'⟩ := hb.out.byte _ hi2
        simp only [Option.some.injEq, Addr.mk.injEq, and_true] at e
        obtain ⟨rfl, rfl⟩ := e
        have d1 : (w.setCell ⟨g, 1, none⟩ (.int .i64 ((p : Int) + 1))).cell? ⟨b, off + p % n, none⟩ = some (.int .u8 v) := by
          rw [World.cell?_of_block (Below.heap_setCell w ⟨g, 1, none⟩ _ b hbg)]; exact hc
        have d2 : (w.setCell ⟨g, 1, none⟩ (.int .i64 ((p : Int) + 1))).cell? ⟨b, off + (p * 7 + 3) % n, none⟩ = some (.int .u8 u) := by
          rw [World.cell?_of_block (Below.heap_setCell w ⟨g, 1, none⟩ _ b hbg)]; exact hc'
        have l1 : ¬ (p : Int) < n := by omega
        clear hc hc'
        have i1 : ((p : Int) % n).toNat = p % n := rfl
        have i2 : (((p : Int) * 7 + 3) % n).toNat = (p * 7 + 3) % n := rfl
        have b1 : 0 ≤ (p : Int) % n := Int.emod_nonneg _ (by omega)
        have b2 : (p : Int) % n < n := Int.emod_lt_of_pos _ (by omega)
        have b3 : 0 ≤ ((p : Int) * 7 + 3) % n := Int.emod_nonneg _ (by omega)
        have b4 : ((p : Int) * 7 + 3) % n < n := Int.emod_lt_of_pos _ (by omega)
        have t0 : 0 ≤ (p : Int) / n := Int.ediv_nonneg (by omega) (by omega)
        have t1 : (p : Int) / n ≤ p := Int.ediv_le_self _ (by omega)
        have t2 : (p : Int) / n ≤ 1000000 := by omega
        have q1 : IntKind.i64.wrap ((p : Int) * 7) = (p : Int) * 7 := IntWalk.i64_in _ (by omega)
        have q2 : IntKind.i64.wrap ((p : Int) * 7 + 3) = (p : Int) * 7 + 3 := IntWalk.i64_in _ (by omega)
        go_wp2
        go_region
        go_wp2
        have hX := xor_int (x := v * 131 + u * 1117 + p * 29 + (p : Int) / n * 53) (y := (v * 131 + u * 1117 + p * 29 + (p : Int) / n * 53) / 64) (by omega) (by omega) (by omega) (by omega)
        go_ret
        exact ⟨_, rfl, Int.tmod_nonneg _ hX, fun _ => Int.tmod_lt_of_pos _ (by omega), ⟨hb.out.step.here, hb.out.step.few, hb.out.step.byte⟩, (turns_set _ _ _).trans (.of_below (Below.refl _ _).drew)⟩
end Go.Proofs.YtfmhcjhcmoniaaaDoor
