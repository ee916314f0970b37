import Derived.Test.YtngcmjfkeageiaaDoorLinks
import Derived.Test.YtngcmjfkeageiaaDoorWords
import Derived.Test.YtngcmjfkeageiaaDoorRows4
import Derived.Test.YtngcmjfkeageiaaDoorTwo
section
/-
  The model's source of drawn numbers: pick returns a number below its bound and moves on by one. Conditions: at most 1000000 numbers drawn before, at most 2000 bytes.
-/
namespace Go.Proofs.YtngcmjfkeageiaaDoor
open Go.RowKit Go.Maps

/-- block g is a source over n bytes, p numbers of which are drawn -/
structure RdAt (w : World) (g : Nat) (a : Option Addr) (n cap p : Nat) : Prop where
  here : w.heap[g]? = some (.cells #[.slice a n cap, .int .i64 p] 180 (0, 0))
  few : n ≤ 2000
  byte : ∀ i, i < n → ∃ b off, ∃ v : Int, a = some ⟨b, off, none⟩ ∧ b ≠ g ∧ b < w.heap.size ∧ 0 ≤ v ∧ v ≤ 255 ∧ w.cell? ⟨b, off + i, none⟩ = some (.int .u8 v)

theorem RdAt.step {w : World} {g : Nat} {a : Option Addr} {n cap p : Nat} (h : RdAt w g a n cap p) : RdAt (w.setCell ⟨g, 1, none⟩ (.int .i64 ((p : Int) + 1))) g a n cap (p + 1) where
  here := by
    have hg := (Array.getElem?_eq_some_iff.1 h.here).1
    have := h.here
    simp [World.setCell, Array.getElem?_modify, this]
  few := h.few
  byte i hi := by
    obtain ⟨b, off, v, e, h1, h2, h3, h4, h5⟩ := h.byte i hi
    refine ⟨b, off, v, e, h1, by simpa [World.setCell] using h2, h3, h4, ?_⟩
    rw [World.cell?_of_block (Below.heap_setCell w ⟨g, 1, none⟩ _ b h1)]
    exact h5
theorem turns_set (w : World) (g : Nat) (v : Value) : Turns (fun k => k = g) w (w.setCell ⟨g, 1, none⟩ v) :=
  ⟨rfl, rfl, rfl, by simp [World.setCell], fun k _ hk => Below.heap_setCell _ _ _ _ hk⟩

theorem xor_nn (a b : Nat) (ha : a < 2 ^ 62) (hb : b < 2 ^ 62) : 0 ≤ bits .xor .i64 (a : Int) (b : Int) := by
  have hx : a ^^^ b < 2 ^ 62 := Nat.xor_lt_two_pow ha hb
  show 0 ≤ IntKind.i64.wrap ((BitVec.ofInt 64 (a : Int) ^^^ BitVec.ofInt 64 (b : Int)).toNat : Int)
  rw [BitVec.toNat_xor, BitVec.toNat_ofInt, BitVec.toNat_ofInt]
  have e1 : ((a : Int) % ((2 ^ 64 : Nat) : Int)).toNat = a := by omega
  have e2 : ((b : Int) % ((2 ^ 64 : Nat) : Int)).toNat = b := by omega
  rw [e1, e2, IntWalk.i64_in _ (by omega)]
  omega
theorem xor_int {x y : Int} (hx0 : 0 ≤ x) (hx : x < 4611686018427387904) (hy0 : 0 ≤ y) (hy : y < 4611686018427387904) : 0 ≤ bits .xor .i64 x y := by
  obtain ⟨a, rfl⟩ := Int.eq_ofNat_of_zero_le hx0
  obtain ⟨b, rfl⟩ := Int.eq_ofNat_of_zero_le hy0
  exact xor_nn a b (by omega) (by omega)

set_option maxRecDepth 100000 in
set_option maxHeartbeats 1600000 in
theorem pick_any (w : World) (g : Nat) (a : Option Addr) (n cap p : Nat) (m : Int) (hm : m ≤ 1000) (hm0 : -1000 ≤ m) (hp : p ≤ 1000000) (h : RdAt w g a n cap p) :
    Calls Tryd.prog 87 #[.pointer (some ⟨g, 0, none⟩), .int .i64 m] w fun e w' => ∃ r : Int, e = .returned (.int .i64 r) ∧ 0 ≤ r ∧ (1 ≤ m → r < m) ∧ RdAt w' g a n cap (p + 1) ∧ Turns (fun k => k = g) w w' := by
  have c0 : w.cell? ⟨g, 0, none⟩ = some (.slice a n cap) := by simp [World.cell?, h.here]
  have c1 : w.cell? ⟨g, 1, none⟩ = some (.int .i64 p) := by simp [World.cell?, h.here]
  have z1 : w.frozen? ⟨g, 1, none⟩ = false := by simp [World.frozen?, h.here]
  have hb := Lib.hid h
  have hfew := h.few
  clear h
  have w1 : IntKind.i64.wrap ((p : Int) + 1) = (p : Int) + 1 := IntWalk.i64_in _ (by omega)
  go_enter Tryd.func87, Tryd.ntmps87
  by_cases h1 : m < 1
  · go_wp2
    go_ret
    exact ⟨0, rfl, by omega, by omega, hb.out.step, turns_set _ _ _⟩
  · have h1' : 1 ≤ m := by omega
    rcases Nat.eq_zero_or_pos n with rfl | hn
    · go_wp2
      go_ret
      exact ⟨0, rfl, by omega, by omega, hb.out.step, turns_set _ _ _⟩
    · have hn' : (0 : Int) < n := by omega
      have hn0 : ¬ n = 0 := by omega
      by_cases hk : p < n
      · obtain ⟨b, off, v, rfl, hbg, hbs, hv0, hv1, hc⟩ := hb.out.byte p hk
        have d1 : (w.setCell ⟨g, 1, none⟩ (.int .i64 ((p : Int) + 1))).cell? ⟨b, off + p, none⟩ = some (.int .u8 v) := by
          rw [World.cell?_of_block (Below.heap_setCell w ⟨g, 1, none⟩ _ b hbg)]; exact hc
        have l1 : (p : Int) < n := by omega
        go_wp2
        go_ret
        exact ⟨v % m, rfl, Int.emod_nonneg _ (by omega), Int.emod_lt_of_pos _ (by omega), hb.out.step, turns_set _ _ _⟩
      · have hi1 : p % n < n := Nat.mod_lt _ hn
        have hi2 : (p * 7 + 3) % n < n := Nat.mod_lt _ hn
        obtain ⟨b, off, v, rfl, hbg, hbs, hv0, hv1, hc⟩ := hb.out.byte _ hi1
        obtain ⟨b', off', u, e, _, _, hu0, hu1, hc'⟩ := hb.out.byte _ hi2
        simp only [Option.some.injEq, Addr.mk.injEq, and_true] at e
        obtain ⟨rfl, rfl⟩ := e
        have d1 : (w.setCell ⟨g, 1, none⟩ (.int .i64 ((p : Int) + 1))).cell? ⟨b, off + p % n, none⟩ = some (.int .u8 v) := by
          rw [World.cell?_of_block (Below.heap_setCell w ⟨g, 1, none⟩ _ b hbg)]; exact hc
        have d2 : (w.setCell ⟨g, 1, none⟩ (.int .i64 ((p : Int) + 1))).cell? ⟨b, off + (p * 7 + 3) % n, none⟩ = some (.int .u8 u) := by
          rw [World.cell?_of_block (Below.heap_setCell w ⟨g, 1, none⟩ _ b hbg)]; exact hc'
        have l1 : ¬ (p : Int) < n := by omega
        clear hc hc'
        have i1 : ((p : Int) % n).toNat = p % n := rfl
        have i2 : (((p : Int) * 7 + 3) % n).toNat = (p * 7 + 3) % n := rfl
        have b1 : 0 ≤ (p : Int) % n := Int.emod_nonneg _ (by omega)
        have b2 : (p : Int) % n < n := Int.emod_lt_of_pos _ (by omega)
        have b3 : 0 ≤ ((p : Int) * 7 + 3) % n := Int.emod_nonneg _ (by omega)
        have b4 : ((p : Int) * 7 + 3) % n < n := Int.emod_lt_of_pos _ (by omega)
        have t0 : 0 ≤ (p : Int) / n := Int.ediv_nonneg (by omega) (by omega)
        have t1 : (p : Int) / n ≤ p := Int.ediv_le_self _ (by omega)
        have t2 : (p : Int) / n ≤ 1000000 := by omega
        have q1 : IntKind.i64.wrap ((p : Int) * 7) = (p : Int) * 7 := IntWalk.i64_in _ (by omega)
        have q2 : IntKind.i64.wrap ((p : Int) * 7 + 3) = (p : Int) * 7 + 3 := IntWalk.i64_in _ (by omega)
        go_wp2
        go_region
        go_wp2
        have hX := xor_int (x := v * 131 + u * 1117 + p * 29 + (p : Int) / n * 53) (y := (v * 131 + u * 1117 + p * 29 + (p : Int) / n * 53) / 64) (by omega) (by omega) (by omega) (by omega)
        go_ret
        exact ⟨_, rfl, Int.tmod_nonneg _ hX, fun _ => Int.tmod_lt_of_pos _ (by omega), ⟨hb.out.step.here, hb.out.step.few, hb.out.step.byte⟩, (turns_set _ _ _).trans (.of_below (Below.refl _ _).drew)⟩
end Go.Proofs.YtngcmjfkeageiaaDoor
end

section
/-
  Plain mathematics of the model's parser: a text cut at a byte, blocks and edges from their parts; the model's known programs, which are valid. It names no Go and no program. Conditions: none.
-/
namespace Go.Proofs.YtngcmjfkeageiaaDoor

/-- what lies cut, and where the next part begins, behind the first i places -/
def cutSt (s : ByteArray) (c : Nat) : Nat → List ByteArray × Nat
  | 0 => ([], 0)
  | i + 1 =>
    match cutSt s c i with
    | (o, f) => if i = s.size ∨ byteAt s i = c then (o ++ [s.extract f i], i + 1) else (o, f)
def cutL (s : ByteArray) (c : Nat) : List ByteArray := (cutSt s c (s.size + 1)).1
theorem cutSt_hit {s : ByteArray} {c i : Nat} (h : i = s.size ∨ byteAt s i = c) : cutSt s c (i + 1) = ((cutSt s c i).1 ++ [s.extract (cutSt s c i).2 i], i + 1) := by
  show (match cutSt s c i with | (o, f) => if i = s.size ∨ byteAt s i = c then (o ++ [s.extract f i], i + 1) else (o, f)) = _
  generalize cutSt s c i = q
  obtain ⟨o, f⟩ := q
  exact if_pos h
theorem cutSt_miss {s : ByteArray} {c i : Nat} (h : ¬ (i = s.size ∨ byteAt s i = c)) : cutSt s c (i + 1) = cutSt s c i := by
  show (match cutSt s c i with | (o, f) => if i = s.size ∨ byteAt s i = c then (o ++ [s.extract f i], i + 1) else (o, f)) = _
  generalize cutSt s c i = q
  obtain ⟨o, f⟩ := q
  exact if_neg h
theorem cutSt_le (s : ByteArray) (c : Nat) : ∀ i, (cutSt s c i).2 ≤ i
  | 0 => Nat.le_refl _
  | i + 1 => by
    by_cases h : i = s.size ∨ byteAt s i = c
    · rw [cutSt_hit h]; exact Nat.le_refl _
    · rw [cutSt_miss h]; exact Nat.le_succ_of_le (cutSt_le s c i)
theorem cutSt_len (s : ByteArray) (c : Nat) : ∀ i, (cutSt s c i).1.length ≤ i
  | 0 => Nat.le_refl _
  | i + 1 => by
    by_cases h : i = s.size ∨ byteAt s i = c
    · rw [cutSt_hit h]; have := cutSt_len s c i; simp; omega
    · rw [cutSt_miss h]; exact Nat.le_succ_of_le (cutSt_len s c i)
theorem extract_size_le (s : ByteArray) (f i : Nat) : (s.extract f i).size ≤ s.size := by rw [ByteArray.size_extract]; omega
theorem cutSt_size (s : ByteArray) (c : Nat) : ∀ i, ∀ t ∈ (cutSt s c i).1, t.size ≤ s.size
  | 0 => fun t ht => by cases ht
  | i + 1 => by
    intro t ht
    by_cases h : i = s.size ∨ byteAt s i = c
    · rw [cutSt_hit h] at ht
      rcases List.mem_append.1 ht with h1 | h1
      · exact cutSt_size s c i t h1
      · rw [List.mem_singleton.1 h1]; exact extract_size_le _ _ _
    · rw [cutSt_miss h] at ht; exact cutSt_size s c i t ht
theorem cutL_size {s : ByteArray} {c : Nat} {t : ByteArray} (h : t ∈ cutL s c) : t.size ≤ s.size := cutSt_size s c _ t h
theorem cutL_len (s : ByteArray) (c : Nat) : (cutL s c).length ≤ s.size + 1 := cutSt_len s c _

/-- the parts and what parts them are the text -/
theorem cutSt_sum (s : ByteArray) (c : Nat) : ∀ i, i ≤ s.size + 1 → ((cutSt s c i).1.map ByteArray.size).sum + (cutSt s c i).1.length = (cutSt s c i).2
  | 0, _ => rfl
  | i + 1, hi => by
    have ih := cutSt_sum s c i (by omega)
    by_cases h : i = s.size ∨ byteAt s i = c
    · rw [cutSt_hit h]
      have hf := cutSt_le s c i
      have he : (s.extract (cutSt s c i).2 i).size = i - (cutSt s c i).2 := by rw [ByteArray.size_extract]; omega
      simp only [List.map_append, List.map_cons, List.map_nil, List.sum_append, List.sum_cons, List.sum_nil, List.length_append, List.length_cons, List.length_nil, he]
      omega
    · rw [cutSt_miss h]; exact ih
theorem cutL_two {s : ByteArray} {c : Nat} (h : (cutL s c).length = 2) : (∀ t ∈ cutL s c, t.size + 1 ≤ s.size) := by
  have hs := cutSt_sum s c (s.size + 1) (Nat.le_refl _)
  have he : (cutSt s c (s.size + 1)).2 = s.size + 1 := by rw [cutSt_hit (.inl rfl)]
  intro t ht
  unfold cutL at h ht
  rw [he, h] at hs
  obtain ⟨a, b, e⟩ : ∃ a b, (cutSt s c (s.size + 1)).1 = [a, b] := by
    match h' : (cutSt s c (s.size + 1)).1, h with
    | [a, b], _ => exact ⟨a, b, rfl⟩
  rw [e] at hs ht
  simp at hs ht
  rcases ht with rfl | rfl <;> omega

/-- a part's first letter and the others -/
def blkOf (s : ByteArray) : Pr := (s.extract 0 1, s.extract 1 s.size)
def partAt (text : ByteArray) (i : Nat) : List ByteArray := cutL ((cutL text 58).getD i e0) 44
def bsOf (text : ByteArray) : List Pr := (partAt text 0).map blkOf
def esOf (text : ByteArray) : List Pr := (partAt text 1).map blkOf
/-- whether a text has the parts of a program, valid or not -/
def partsB (text : ByteArray) : Bool := decide ((cutL text 58).length = 2) && ((partAt text 0).all fun s => decide (s ≠ e0)) && ((partAt text 1).all fun s => decide (s.size = 2))

def memB (l : List ByteArray) (x : ByteArray) : Bool := l.any fun y => decide (y = x)
theorem memB_iff {l : List ByteArray} {x : ByteArray} : memB l x = true ↔ x ∈ l := by
  unfold memB
  rw [List.any_eq_true]
  constructor
  · rintro ⟨y, hy, e⟩; rw [← of_decide_eq_true e]; exact hy
  · intro h; exact ⟨x, h, decide_eq_true rfl⟩
/-- what is reached in some rounds -/
def reachF (es : List Pr) : Nat → List ByteArray → List ByteArray
  | 0, S => S
  | n + 1, S => reachF es n (S ++ (es.filter fun e => memB S e.1).map (·.2))
theorem reachF_sound {es : List Pr} {a : ByteArray} : ∀ (n : Nat) (S : List ByteArray), (∀ x ∈ S, Reach es a x) → ∀ x ∈ reachF es n S, Reach es a x
  | 0, S, h => h
  | n + 1, S, h => by
    apply reachF_sound n
    intro x hx
    rcases List.mem_append.1 hx with h1 | h1
    · exact h x h1
    · obtain ⟨e, he, rfl⟩ := List.mem_map.1 h1
      obtain ⟨h2, h3⟩ := List.mem_filter.1 he
      exact .step (h e.1 (memB_iff.1 h3)) h2
def opsC (s : ByteArray) : Bool := decide (s.size ≤ 6) && (List.range s.size).all fun i => opB (byteAt s i)
def chkB (bs : List Pr) : Bool := decide (2 ≤ bs.length) && (decide (bs.length ≤ 9) && (bs.all (fun p => isNm p.1) && (bs.all (fun p => opsC p.2) && (decide (names bs).Nodup && decide (restAt bs 0 = e0)))))
def chkE (bs es : List Pr) : Bool := decide (es.length ≤ 14) && (es.all (fun e => memB (names bs) e.1 && (memB (names bs) e.2 && (decide (e.2 ≠ nameAt bs 0) && decide (e.1 ≠ nameAt bs (bs.length - 1))))) && decide es.Nodup)
def chkR (bs es : List Pr) (a : ByteArray) : Bool := bs.all fun p => memB (reachF es 9 [a]) p.1
theorem chkB_ok {bs : List Pr} (h : chkB bs = true) : BlocksOk bs := by
  unfold chkB at h
  simp only [Bool.and_eq_true, decide_eq_true_eq, List.all_eq_true] at h
  obtain ⟨h1, h2, h3, h4, h5, h6⟩ := h
  refine ⟨h1, h2, h3, fun p hp => ?_, h5, h6⟩
  have := h4 p hp
  unfold opsC at this
  simp only [Bool.and_eq_true, decide_eq_true_eq, List.all_eq_true, List.mem_range] at this
  exact this
theorem chkE_ok {bs es : List Pr} (h : chkE bs es = true) : EdgesOk bs es := by
  unfold chkE at h
  simp only [Bool.and_eq_true, decide_eq_true_eq, List.all_eq_true] at h
  obtain ⟨h1, h2, h3⟩ := h
  exact ⟨h1, fun e he => memB_iff.1 (h2 e he).1, fun e he => memB_iff.1 (h2 e he).2.1, h3, fun e he => (h2 e he).2.2.1, fun e he => (h2 e he).2.2.2⟩
theorem chkR_ok {bs es : List Pr} {a : ByteArray} (h : chkR bs es a = true) : ∀ p ∈ bs, Reach es a p.1 := by
  intro p hp
  unfold chkR at h
  rw [List.all_eq_true] at h
  exact reachF_sound 9 [a] (fun x hx => by rw [List.mem_singleton.1 hx]; exact .refl) _ (memB_iff.1 (h p hp))
def chkV (bs es : List Pr) : Bool := chkB bs && (chkE bs es && (chkR bs es (nameAt bs 0) && chkR bs (flip es) (nameAt bs (bs.length - 1))))
theorem chkV_ok {bs es : List Pr} (h : chkV bs es = true) : Valid bs es := by
  unfold chkV at h
  simp only [Bool.and_eq_true] at h
  exact ⟨chkB_ok h.1, chkE_ok h.2.1, chkR_ok h.2.2.1, chkR_ok h.2.2.2⟩

/-- the model's known programs -/
def sampleT : Nat → ByteArray
  | 0 => ⟨#[65, 44, 66, 120, 44, 67, 44, 68, 120, 44, 69, 58, 65, 66, 44, 65, 67, 44, 66, 68, 44, 67, 68, 44, 68, 69]⟩
  | 1 => ⟨#[65, 44, 66, 44, 67, 120, 44, 68, 58, 65, 66, 44, 66, 67, 44, 67, 67, 44, 67, 68]⟩
  | 2 => ⟨#[65, 44, 66, 44, 67, 120, 44, 68, 44, 69, 120, 44, 70, 58, 65, 66, 44, 66, 67, 44, 66, 68, 44, 67, 69, 44, 68, 69, 44, 69, 70]⟩
  | 3 => ⟨#[65, 44, 66, 120, 44, 67, 88, 44, 68, 120, 44, 69, 58, 65, 66, 44, 66, 67, 44, 66, 68, 44, 67, 68, 44, 68, 69]⟩
  | 4 => ⟨#[65, 44, 66, 120, 44, 67, 120, 44, 68, 58, 65, 66, 44, 65, 67, 44, 66, 68, 44, 67, 68]⟩
  | 5 => ⟨#[65, 44, 66, 44, 67, 44, 68, 120, 44, 69, 58, 65, 66, 44, 66, 67, 44, 67, 66, 44, 67, 68, 44, 68, 69, 44, 66, 69]⟩
  | 6 => ⟨#[65, 44, 66, 120, 88, 120, 44, 67, 120, 44, 68, 58, 65, 66, 44, 66, 67, 44, 67, 66, 44, 67, 68]⟩
  | 7 => ⟨#[65, 44, 66, 120, 44, 67, 121, 44, 68, 120, 121, 44, 69, 58, 65, 66, 44, 65, 67, 44, 66, 68, 44, 67, 68, 44, 68, 69]⟩
  | 8 => ⟨#[65, 44, 66, 44, 67, 44, 68, 44, 69, 120, 44, 70, 58, 65, 66, 44, 65, 67, 44, 66, 68, 44, 66, 69, 44, 67, 69, 44, 68, 70, 44, 69, 70]⟩
  | 9 => ⟨#[65, 44, 66, 44, 67, 120, 44, 68, 88, 44, 69, 120, 44, 70, 58, 65, 66, 44, 66, 67, 44, 67, 68, 44, 67, 69, 44, 68, 69, 44, 69, 66, 44, 69, 70]⟩
  | 10 => ⟨#[65, 44, 66, 58, 65, 66]⟩
  | 11 => ⟨#[65, 44, 66, 120, 44, 67, 44, 68, 44, 69, 120, 44, 70, 120, 44, 71, 58, 65, 66, 44, 65, 67, 44, 66, 68, 44, 67, 68, 44, 68, 69, 44, 68, 70, 44, 69, 71, 44, 70, 71]⟩
  | _ => e0
set_option maxRecDepth 100000
theorem sample_0 : (partsB (sampleT 0) && chkV (bsOf (sampleT 0)) (esOf (sampleT 0))) = true := by kernel_rfl
theorem sample_1 : (partsB (sampleT 1) && chkV (bsOf (sampleT 1)) (esOf (sampleT 1))) = true := by kernel_rfl
theorem sample_2 : (partsB (sampleT 2) && chkV (bsOf (sampleT 2)) (esOf (sampleT 2))) = true := by kernel_rfl
theorem sample_3 : (partsB (sampleT 3) && chkV (bsOf (sampleT 3)) (esOf (sampleT 3))) = true := by kernel_rfl
theorem sample_4 : (partsB (sampleT 4) && chkV (bsOf (sampleT 4)) (esOf (sampleT 4))) = true := by kernel_rfl
theorem sample_5 : (partsB (sampleT 5) && chkV (bsOf (sampleT 5)) (esOf (sampleT 5))) = true := by kernel_rfl
theorem sample_6 : (partsB (sampleT 6) && chkV (bsOf (sampleT 6)) (esOf (sampleT 6))) = true := by kernel_rfl
theorem sample_7 : (partsB (sampleT 7) && chkV (bsOf (sampleT 7)) (esOf (sampleT 7))) = true := by kernel_rfl
theorem sample_8 : (partsB (sampleT 8) && chkV (bsOf (sampleT 8)) (esOf (sampleT 8))) = true := by kernel_rfl
theorem sample_9 : (partsB (sampleT 9) && chkV (bsOf (sampleT 9)) (esOf (sampleT 9))) = true := by kernel_rfl
theorem sample_10 : (partsB (sampleT 10) && chkV (bsOf (sampleT 10)) (esOf (sampleT 10))) = true := by kernel_rfl
theorem sample_11 : (partsB (sampleT 11) && chkV (bsOf (sampleT 11)) (esOf (sampleT 11))) = true := by kernel_rfl
theorem and_parts {a b : Bool} (h : (a && b) = true) : a = true ∧ b = true := by simpa using h
theorem sample_ok : ∀ k, k < 12 → partsB (sampleT k) = true ∧ Valid (bsOf (sampleT k)) (esOf (sampleT k)) := by
  intro k hk
  match k, hk with
  | 0, _ => exact ⟨(and_parts sample_0).1, chkV_ok (and_parts sample_0).2⟩
  | 1, _ => exact ⟨(and_parts sample_1).1, chkV_ok (and_parts sample_1).2⟩
  | 2, _ => exact ⟨(and_parts sample_2).1, chkV_ok (and_parts sample_2).2⟩
  | 3, _ => exact ⟨(and_parts sample_3).1, chkV_ok (and_parts sample_3).2⟩
  | 4, _ => exact ⟨(and_parts sample_4).1, chkV_ok (and_parts sample_4).2⟩
  | 5, _ => exact ⟨(and_parts sample_5).1, chkV_ok (and_parts sample_5).2⟩
  | 6, _ => exact ⟨(and_parts sample_6).1, chkV_ok (and_parts sample_6).2⟩
  | 7, _ => exact ⟨(and_parts sample_7).1, chkV_ok (and_parts sample_7).2⟩
  | 8, _ => exact ⟨(and_parts sample_8).1, chkV_ok (and_parts sample_8).2⟩
  | 9, _ => exact ⟨(and_parts sample_9).1, chkV_ok (and_parts sample_9).2⟩
  | 10, _ => exact ⟨(and_parts sample_10).1, chkV_ok (and_parts sample_10).2⟩
  | 11, _ => exact ⟨(and_parts sample_11).1, chkV_ok (and_parts sample_11).2⟩
theorem sample_size : ∀ k, k < 12 → (sampleT k).size ≤ 100 := by
  intro k hk
  match k, hk with
  | 0, _ => exact of_decide_eq_true rfl
  | 1, _ => exact of_decide_eq_true rfl
  | 2, _ => exact of_decide_eq_true rfl
  | 3, _ => exact of_decide_eq_true rfl
  | 4, _ => exact of_decide_eq_true rfl
  | 5, _ => exact of_decide_eq_true rfl
  | 6, _ => exact of_decide_eq_true rfl
  | 7, _ => exact of_decide_eq_true rfl
  | 8, _ => exact of_decide_eq_true rfl
  | 9, _ => exact of_decide_eq_true rfl
  | 10, _ => exact of_decide_eq_true rfl
  | 11, _ => exact of_decide_eq_true rfl
end Go.Proofs.YtngcmjfkeageiaaDoor
end

section
/-
  The model's l15Cut: a text cut at each byte c. Conditions: at most 1048576 bytes.
-/
namespace Go.Proofs.YtngcmjfkeageiaaDoor
open Go.RowKit Go.Maps

def CutPost (w : World) (s : ByteArray) (c : Nat) (e : Ending) (w' : World) : Prop := ∃ v, e = .returned v ∧ w'.ownsRow w.heap.size 9 1 v (cutL s c).length ((cutL s c).map Value.string) ∧ Below w.heap.size w w'

set_option maxRecDepth 100000 in
set_option maxHeartbeats 1600000 in
theorem l15Cut_any (s : ByteArray) (c : Nat) (w : World) (hs : s.size ≤ 1048576) (hc : c < 256) :
    Calls Tryd.prog 88 #[.string s, .int .u8 (c : Int)] w (CutPost w s c) := by
  obtain ⟨i0, hi, hz0, hz1, hz2⟩ := info_parts Tryd.infoStr
  have hC : (c : Int) ≤ 255 := by omega
  go_enter Tryd.func88, Tryd.ntmps88
  go_wp2
  go_loopw [5, 6, 7] (fun o f i wr => ∃ k : Nat, k ≤ s.size + 1 ∧ i = .int .i64 k ∧ f = .int .i64 ((cutSt s c k).2 : Int) ∧ wr.ownsRow w.heap.size 9 1 o (cutSt s c k).1.length ((cutSt s c k).1.map Value.string) ∧ Below w.heap.size w wr) (fun _ _ i _ => s.size + 1 - (intOf i).toNat)
  case atStart => exact ⟨0, Nat.zero_le _, rfl, rfl, World.ownsRow_made w #[] 0 (Nat.le_refl _) (Nat.zero_le _) rfl, (Below.refl _ _).alloc (Nat.le_refl _) _⟩
  case round =>
    obtain ⟨k, hk, rfl, rfl, hown, hbl⟩ := hrel
    have hsz := hbl.size
    have hfl := cutSt_le s c k
    have hln := cutSt_len s c k
    obtain ⟨wa, wc, rfl⟩ := own_form hown
    by_cases hle : k ≤ s.size
    · have s3 := run_slice_str s ((cutSt s c k).2 : Int) (k : Int) (cutSt s c k).2 k rfl (by omega) (by omega) (by omega)
      have q1 : (0 : Int) ≤ ((cutSt s c k).2 : Int) := by omega
      have w1 : IntKind.i64.wrap ((k : Int) + 1) = (k : Int) + 1 := IntWalk.i64_in _ (by omega)
      have HX := Lib.hid (Nat.le_trans (extract_size_le s (cutSt s c k).2 k) hs)
      have HO := Lib.hid (And.intro hown hbl)
      by_cases hh : k = s.size ∨ byteAt s k = c
      · have HH := Lib.hid (cutSt_hit hh)
        clear hown hbl
        generalize s.extract (cutSt s c k).2 k = X at *
        by_cases he : k = s.size
        · subst he
          clear hh
          go_wp2_with (at_builtin; refine wpList_append_own _ rfl _ _ 38 rfl w.heap.size 9 i0 (.string ⟨#[]⟩) 1 16 Tryd.underlying38 hi hz0 hz1 hz2 rfl (by decide) _ _ _ rfl (HO.out.1.alloc _) ⟨wr.heap.size, 0, none⟩ 1 1 [.string X] rfl rfl (cell_one_new _ _ _) (one_one _ rfl) (by unfold maxLen; omega) (by omega) (by simp; omega) ?_; intro v' w4 hown4 hgrow4 _)
          have hb4 : Below w.heap.size w w4 := (HO.out.2.alloc hsz _).grown hgrow4 (by simp; omega) (fun j hj => (HO.out.1.lt j hj).1)
          go_roundw
          case rel => exact ⟨s.size + 1, by omega, by go_num, by rw [HH.out]; try go_num, by rw [HH.out]; simpa using hown4, hb4⟩
          case measure => simp [intOf]
        · have hlt : k < s.size := by omega
          have hB : byteAt s k = c := by rcases hh with h | h; exact absurd h he; exact h
          have d2 : ((s[k].toNat : Int) == (c : Int)) = true := by rw [byteAt_get hlt, hB]; try simp
          have d1 : ((k : Int) == (s.size : Int)) = false := by simp; omega
          clear hh hB he
          go_wp2_with (at_builtin; refine wpList_append_own _ rfl _ _ 38 rfl w.heap.size 9 i0 (.string ⟨#[]⟩) 1 16 Tryd.underlying38 hi hz0 hz1 hz2 rfl (by decide) _ _ _ rfl (HO.out.1.alloc _) ⟨wr.heap.size, 0, none⟩ 1 1 [.string X] rfl rfl (cell_one_new _ _ _) (one_one _ rfl) (by unfold maxLen; omega) (by omega) (by simp; omega) ?_; intro v' w4 hown4 hgrow4 _)
          have hb4 : Below w.heap.size w w4 := (HO.out.2.alloc hsz _).grown hgrow4 (by simp; omega) (fun j hj => (HO.out.1.lt j hj).1)
          go_roundw
          case rel => exact ⟨k + 1, by omega, by go_num, by rw [HH.out]; try go_num, by rw [HH.out]; simpa using hown4, hb4⟩
          case measure => simp [intOf]; omega
      · have HH := Lib.hid (cutSt_miss hh)
        have hlt : k < s.size := by omega
        have hB : byteAt s k ≠ c := fun h => hh (.inr h)
        have d2 : ((s[k].toNat : Int) == (c : Int)) = false := by rw [byteAt_get hlt]; simp; omega
        have d1 : ((k : Int) == (s.size : Int)) = false := by simp; omega
        clear hh hB hown hbl
        go_wp2
        go_roundw
        case rel => exact ⟨k + 1, by omega, by go_num, by rw [HH.out], by rw [HH.out]; exact HO.out.1, HO.out.2⟩
        case measure => simp [intOf]; omega
    · obtain rfl : k = s.size + 1 := by omega
      go_wp2
      go_ret
      exact ⟨_, rfl, hown, hbl⟩
end Go.Proofs.YtngcmjfkeageiaaDoor
end

section
/-
  What stands behind writes to some blocks alone: cells, a program's block, a row. Conditions: none.
-/
namespace Go.Proofs.YtngcmjfkeageiaaDoor
open Go.RowKit Go.Maps

theorem Turns.cellT {S : Nat → Prop} {a b : World} (h : Turns S a b) {g i : Nat} (hg : g < a.heap.size) (hS : ¬ S g) : b.cell? ⟨g, i, none⟩ = a.cell? ⟨g, i, none⟩ := World.cell?_of_block (h.block g hg hS)
theorem Turns.two {S : Nat → Prop} {a b : World} (h : Turns S a b) {R : Nat} {x y : Value} (hR : Two a R x y) (hS : ¬ S R) : Two b R x y := (h.block R (Array.getElem?_eq_some_iff.1 hR).1 hS).trans hR
theorem Turns.row {S : Nat → Prop} {a b : World} (h : Turns S a b) {base : Nat} {e : TypeId} {size n : Nat} {v : Value} {xs : List Value} (ho : a.ownsRow base e size v n xs) (hS : ∀ g, v.ownBlock = some g → ¬ S g) : b.ownsRow base e size v n xs := by
  obtain ⟨h1, h2⟩ := ho
  refine ⟨h1, ?_⟩
  rcases h2 with h2 | ⟨g, cap, cur, rfl, e2, e3, e4⟩
  · exact .inl h2
  · exact .inr ⟨g, cap, cur, rfl, e2, (h.block g (Array.getElem?_eq_some_iff.1 e3).1 (hS g rfl)).trans e3, e4⟩
end Go.Proofs.YtngcmjfkeageiaaDoor
end

section
/-
  The model's ParseProg. Conditions: at most 1048576 bytes.
-/
namespace Go.Proofs.YtngcmjfkeageiaaDoor
open Go.RowKit Go.Maps

/-- what ParseProg leaves -/
def ParsePost (w : World) (text : ByteArray) (e : Ending) (w' : World) : Prop :=
  Below w.heap.size w w' ∧ ((partsB text = true ∧ Valid (bsOf text) (esOf text) ∧ ∃ v ve, e = .returned (.tuple #[.agg #[v, ve], .bool true]) ∧ w'.ownsRow w.heap.size 40 2 v (bsOf text).length (cellsOf (bsOf text)) ∧ w'.ownsRow w.heap.size 111 2 ve (esOf text).length (cellsOf (esOf text))) ∨
    (¬ (partsB text = true ∧ Valid (bsOf text) (esOf text)) ∧ e = .returned (.tuple #[.agg #[.slice none 0 0, .slice none 0 0], .bool false])))
theorem partsB_len {text : ByteArray} (h : partsB text = true) : (cutL text 58).length = 2 := by
  unfold partsB at h; simp only [Bool.and_eq_true, decide_eq_true_eq] at h; exact h.1.1
theorem partsB_b {text : ByteArray} (h : partsB text = true) : ∀ s ∈ partAt text 0, s ≠ e0 := by
  unfold partsB at h; simp only [Bool.and_eq_true, decide_eq_true_eq, List.all_eq_true] at h; exact h.1.2
theorem partsB_e {text : ByteArray} (h : partsB text = true) : ∀ s ∈ partAt text 1, s.size = 2 := by
  unfold partsB at h; simp only [Bool.and_eq_true, decide_eq_true_eq, List.all_eq_true] at h; exact h.2
theorem partsB_mk {text : ByteArray} (h : (cutL text 58).length = 2) (hb : ∀ s ∈ partAt text 0, s ≠ e0) (he : ∀ s ∈ partAt text 1, s.size = 2) : partsB text = true := by
  unfold partsB; simp only [Bool.and_eq_true, decide_eq_true_eq, List.all_eq_true]; exact ⟨⟨h, hb⟩, he⟩
/-- a part by its place -/
def pieceAt (L : List ByteArray) (i : Nat) : ByteArray := L.getD i e0
theorem pieceAt_mem {L : List ByteArray} {i : Nat} (h : i < L.length) : pieceAt L i ∈ L := by
  unfold pieceAt; rw [List.getD_eq_getElem?_getD, List.getElem?_eq_getElem h]; exact List.getElem_mem h
theorem pieceAt_cell {L : List ByteArray} {i : Nat} (h : i < L.length) : (L.map Value.string)[i]? = some (.string (pieceAt L i)) := by
  unfold pieceAt; simp [List.getD_eq_getElem?_getD, h]
theorem take_piece {L : List ByteArray} {i : Nat} (h : i < L.length) : (L.take (i + 1)).map blkOf = (L.take i).map blkOf ++ [blkOf (pieceAt L i)] := by
  unfold pieceAt; rw [List.take_succ_eq_append_getElem h, List.map_append]; simp [List.getD_eq_getElem?_getD, h]
theorem piece_all {L : List ByteArray} {p : ByteArray → Prop} (h : ∀ i, i < L.length → p (pieceAt L i)) : ∀ s ∈ L, p s := by
  intro s hs
  obtain ⟨i, hi, e⟩ := List.getElem_of_mem hs
  have := h i hi
  unfold pieceAt at this
  rw [List.getD_eq_getElem?_getD, List.getElem?_eq_getElem hi] at this
  rw [← e]; exact this
theorem partAt_len (text : ByteArray) (i : Nat) : (partAt text i).length ≤ text.size + 1 := by
  unfold partAt
  refine Nat.le_trans (cutL_len _ _) ?_
  have : (pieceAt (cutL text 58) i).size ≤ text.size := by
    unfold pieceAt
    rw [List.getD_eq_getElem?_getD]
    cases h : (cutL text 58)[i]? with
    | none => show e0.size ≤ _; exact Nat.zero_le _
    | some t => exact cutL_size (List.mem_of_getElem? h)
  exact Nat.succ_le_succ this
theorem partAt_size {text : ByteArray} {i : Nat} {s : ByteArray} (h : s ∈ partAt text i) : s.size ≤ text.size := by
  refine Nat.le_trans (cutL_size h) ?_
  rw [List.getD_eq_getElem?_getD]
  cases h : (cutL text 58)[i]? with
  | none => exact Nat.zero_le _
  | some t => exact cutL_size (List.mem_of_getElem? h)
theorem blks_sizes {L : List ByteArray} {n : Nat} (hn : n ≤ 1048576) (h : ∀ s ∈ L, s.size ≤ n) : ∀ i, i < (L.map blkOf).length → (nameAt (L.map blkOf) i).size ≤ 1048576 ∧ (restAt (L.map blkOf) i).size ≤ 1048576 := by
  intro i hi
  have hl : i < L.length := by simpa using hi
  have h1 : (nameAt (L.map blkOf) i, restAt (L.map blkOf) i) = blkOf (L[i]) := by rw [← pair_at hi]; simp
  have h2 := h _ (List.getElem_mem hl)
  have e1 := congrArg (·.1) h1
  have e2 := congrArg (·.2) h1
  simp only at e1 e2
  rw [e1, e2]
  exact ⟨Nat.le_trans (extract_size_le _ _ _) (by omega), Nat.le_trans (extract_size_le _ _ _) (by omega)⟩

/-- a row of texts, read -/
theorem own_strs {w : World} {B : Nat} {a : Option Addr} {c : Nat} {L : List ByteArray} (h : w.ownsRow B 9 1 (.slice a L.length c) L.length (L.map Value.string)) : ∀ i, i < L.length → ∃ g, a = some ⟨g, 0, none⟩ ∧ B ≤ g ∧ g < w.heap.size ∧ w.cell? ⟨g, i, none⟩ = some (.string (pieceAt L i)) := by
  intro i hi
  obtain ⟨h1, ⟨_, h0⟩ | ⟨g, cap, cur, hv, hg, hh, hc, hm, hcs, ht⟩⟩ := h
  · omega
  · simp only [Value.slice.injEq] at hv
    refine ⟨g, hv.1, hg, (Array.getElem?_eq_some_iff.1 hh).1, ?_⟩
    have := pieceAt_cell hi
    rw [← ht, List.getElem?_take, if_pos (by omega)] at this
    rw [cell_of_row w g _ _ _ (0, 0) hh]
    simpa using this

/-- behind the first rounds of a loop over parts: the program's block, the row of one kind, all else as it was -/
structure PLoop (w wr : World) (R : Nat) (t : TypeId) (v : Value) (L : List ByteArray) (b0 k : Nat) : Prop where
  own : wr.ownsRow b0 t 2 v k (cellsOf ((L.take k).map blkOf))
  turns : Turns (fun b => b = R ∨ b = b0) w wr
  old : ∀ b, v.ownBlock = some b → b = b0 ∨ w.heap.size ≤ b
theorem PLoop.step {w wr wx w4 : World} {R : Nat} {t : TypeId} {v v' : Value} {L : List ByteArray} {b0 k f : Nat} {u : Value} (h : PLoop w wr R t v L b0 k) (hk : k < L.length) (hx : Below wr.heap.size wr wx)
    (hown : w4.ownsRow b0 t 2 v' (k + 1) (cellsOf ((L.take k).map blkOf) ++ [.string ((pieceAt L k).extract 0 1), .string ((pieceAt L k).extract 1 (pieceAt L k).size)])) (hg : wx.grownBy w4 v.ownBlock) (hl : ∀ b, v'.ownBlock = some b → v.ownBlock = some b ∨ wr.heap.size ≤ b)
    {x y : Value} (hR : Two w4 R x y) (ht : 32 ≠ t) : PLoop w (w4.setCell ⟨R, f, none⟩ u) R t v' L b0 (k + 1) where
  own := by
    rw [take_piece hk, cellsOf_snoc]
    exact hown.kept (row := some R) ⟨rfl, rfl, rfl, by simp [World.setCell], fun j _ hj => Below.heap_setCell _ _ _ _ (fun e => hj (by simp [e]))⟩ (Or.inr (own_neK hown hR ht))
  turns := by
    have h1 : Turns (fun b => some b = v.ownBlock) wr w4 := ⟨hg.os.trans hx.os, hg.tape.trans hx.tape, hg.output.trans hx.output, Nat.le_trans hx.size hg.size, fun i hi hn => (hg.block i (Nat.lt_of_lt_of_le hi hx.size) hn).trans (hx.block i hi)⟩
    have h2 : Turns (fun b => b = R) w4 (w4.setCell ⟨R, f, none⟩ u) := ⟨rfl, rfl, rfl, by simp [World.setCell], fun j _ hj => Below.heap_setCell _ _ _ _ hj⟩
    have h3 := h.turns.then_ h1 (T := fun b => b = R ∨ b = b0) (fun _ _ h => h) (fun i hi hs => by rcases h.old i hs.symm with h4 | h4; exact .inr h4; omega)
    exact h3.then_ h2 (fun _ _ h => h) (fun _ _ h => .inl h)
  old := fun b hb => by
    rcases hl b hb with h1 | h1
    · exact h.old b h1
    · exact .inr (Nat.le_trans h.turns.size h1)

set_option maxRecDepth 100000 in
set_option maxHeartbeats 6400000 in
theorem ParseProg_spec (w : World) (text : ByteArray) (hs : text.size ≤ 1048576) :
    Calls Tryd.prog 34 #[.string text] w (ParsePost w text) := by
  obtain ⟨i0, hi, hz0, hz1, hz2⟩ := info_parts Tryd.infoBlock
  obtain ⟨j0, hj, yz0, yz1, yz2⟩ := info_parts Tryd.infoEdge
  have hH : Below w.heap.size w (w.alloc (.cells #[.slice none 0 0, .slice none 0 0] 32)) := (Below.refl _ _).alloc (Nat.le_refl _) _
  have H1 := Lib.hid hH; clear hH
  go_enter Tryd.func34, Tryd.ntmps34
  go_wp2_with fail
  refine (l15Cut_any text 58 _ hs (by decide)).mono ?_
  rintro e w1 ⟨v1, rfl, hown1, hb1⟩
  have hall : Below w.heap.size w w1 := H1.out.trans (hb1.mono (by simp))
  have hz := hall.size
  have hz1' : w.heap.size < w1.heap.size := by have := hb1.size; simp at this; omega
  have R0 : Two w1 w.heap.size (.slice none 0 0) (.slice none 0 0) := (hb1.block w.heap.size (by simp)).trans (heap_alloc_new _ _)
  obtain ⟨va, vc, rfl⟩ := own_form hown1
  have hl1 := cutL_len text 58
  by_cases h2 : (cutL text 58).length = 2
  · have hown2 := hown1
    rw [h2] at hown2
    obtain ⟨g, cap, hv, _, hgw, _, _, hcells⟩ := own_lastS (m := 1) hown2
    have a0 := hcells 0 _ (pieceAt_cell (by omega))
    have a1 := hcells 1 _ (pieceAt_cell (by omega))
    simp only [Value.slice.injEq] at hv
    obtain ⟨rfl, _, rfl⟩ := hv
    have hs0 : (pieceAt (cutL text 58) 0).size ≤ 1048576 := Nat.le_trans (cutL_size (pieceAt_mem (by omega))) hs
    have hs1 : (pieceAt (cutL text 58) 1).size ≤ 1048576 := Nat.le_trans (cutL_size (pieceAt_mem (by omega))) hs
    have d1 : (((cutL text 58).length : Int) != 2) = false := by simp [h2]
    have i0' : (0 : Int) < ((cutL text 58).length : Int) := by omega
    have i1' : (1 : Int) < ((cutL text 58).length : Int) := by omega
    -- the world behind the empty program
    have hB3 : Below w1.heap.size w1 (((w1.alloc (.cells #[] 40)).alloc (.cells #[] 111)).alloc (.cells #[.slice (some ⟨w1.heap.size, 0, none⟩) 0 0, .slice (some ⟨w1.heap.size + 1, 0, none⟩) 0 0] 32)) := (((Below.refl _ _).alloc (Nat.le_refl _) _).alloc (by simp) _).alloc (by simp; omega) _
    have hR3 : Two (((w1.alloc (.cells #[] 40)).alloc (.cells #[] 111)).alloc (.cells #[.slice (some ⟨w1.heap.size, 0, none⟩) 0 0, .slice (some ⟨w1.heap.size + 1, 0, none⟩) 0 0] 32)) (w1.heap.size + 1 + 1) (.slice (some ⟨w1.heap.size, 0, none⟩) 0 0) (.slice (some ⟨w1.heap.size + 1, 0, none⟩) 0 0) := by
      rw [show w1.heap.size + 1 + 1 = ((w1.alloc (.cells #[] 40)).alloc (.cells #[] 111)).heap.size by simp]; exact heap_alloc_new _ _
    have hOb : (((w1.alloc (.cells #[] 40)).alloc (.cells #[] 111)).alloc (.cells #[.slice (some ⟨w1.heap.size, 0, none⟩) 0 0, .slice (some ⟨w1.heap.size + 1, 0, none⟩) 0 0] 32)).ownsRow w1.heap.size 40 2 (.slice (some ⟨w1.heap.size, 0, none⟩) 0 0) 0 [] :=
      ((World.ownsRow_made w1 #[] 0 (Nat.le_refl _) (Nat.zero_le _) rfl).alloc _).alloc _
    have hOe : (((w1.alloc (.cells #[] 40)).alloc (.cells #[] 111)).alloc (.cells #[.slice (some ⟨w1.heap.size, 0, none⟩) 0 0, .slice (some ⟨w1.heap.size + 1, 0, none⟩) 0 0] 32)).ownsRow (w1.heap.size + 1) 111 2 (.slice (some ⟨w1.heap.size + 1, 0, none⟩) 0 0) 0 [] := by
      have := ((World.ownsRow_made (w1.alloc (.cells #[] 40)) (base := w1.heap.size + 1) (e := 111) (size := 2) #[] 0 (by simp) (Nat.zero_le _) rfl).alloc (.cells #[.slice (some ⟨w1.heap.size, 0, none⟩) 0 0, .slice (some ⟨w1.heap.size + 1, 0, none⟩) 0 0] 32))
      simpa using this
    have hsz3 : (((w1.alloc (.cells #[] 40)).alloc (.cells #[] 111)).alloc (.cells #[.slice (some ⟨w1.heap.size, 0, none⟩) 0 0, .slice (some ⟨w1.heap.size + 1, 0, none⟩) 0 0] 32)).heap.size = w1.heap.size + 3 := by simp
    have g0 := (hB3.cell (p := ⟨g, 0, none⟩) hgw).trans a0
    have HA := Lib.hid (And.intro hall (And.intro hB3 (And.intro hR3 (And.intro hOb (And.intro hOe (And.intro hsz3 (And.intro R0 (And.intro h2 (And.intro a1 hgw)))))))))
    clear hown1 hown2 hcells h2 hall hB3 hR3 hOb hOe hsz3 R0 a0 a1 hb1
    go_wp2_with fail
    refine (l15Cut_any (pieceAt (cutL text 58) 0) 44 _ hs0 (by decide)).mono ?_
    rintro e w2 ⟨v2, rfl, hown2, hb2⟩
    generalize (((w1.alloc (.cells #[] 40)).alloc (.cells #[] 111)).alloc (.cells #[.slice (some ⟨w1.heap.size, 0, none⟩) 0 0, .slice (some ⟨w1.heap.size + 1, 0, none⟩) 0 0] 32)) = w3 at *
    obtain ⟨hall, hB3, hR3, hOb, hOe, hsz3, R0, h2, a1, hgw'⟩ := HA.out
    obtain ⟨L0, hL0⟩ : ∃ L0, cutL (pieceAt (cutL text 58) 0) 44 = L0 := ⟨_, rfl⟩
    have hl0 : L0.length ≤ 1048577 := by rw [← hL0]; exact Nat.le_trans (cutL_len _ _) (by omega)
    rw [hL0] at hown2
    obtain ⟨pa, pc, rfl⟩ := own_form hown2
    have hR2 : Two w2 (w1.heap.size + 1 + 1) _ _ := hR3.of_cells (hb2.block _ (by omega))
    have hOb2 := ownsRow_below hOb hb2
    have hOe2 := ownsRow_below hOe hb2
    have hR02 : Two w2 w.heap.size _ _ := R0.of_cells ((hb2.block _ (by omega)).trans (hB3.block _ hz1'))
    have ha12 := ((hb2.cell (p := ⟨g, 1, none⟩) (show g < w3.heap.size by omega)).trans (hB3.cell (p := ⟨g, 1, none⟩) hgw)).trans a1
    have hs32 := hb2.size
    have hbw2 : Below w.heap.size w w2 := hall.trans ((hB3.mono hz).trans (hb2.mono (by omega)))
    have hp0 := own_strs hown2
    have HB := Lib.hid (And.intro hbw2 (And.intro hp0 (And.intro hR02 (And.intro hOe2 (And.intro ha12 (And.intro hL0 h2))))))
    clear hall hB3 hR3 hOb hOe R0 h2 a1 hgw' hb2 HA g0 hbw2 hp0 hR02 hOe2 ha12 hL0 hown2
    have HC := Lib.hid (And.intro hR2 hOb2)
    clear hR2 hOb2
    go_wp2
    go_loopw [24] (fun i wr => ∃ (k : Nat) (v : Value), k ≤ L0.length ∧ i = .int .i64 k ∧ Two wr (w1.heap.size + 1 + 1) v (.slice (some ⟨w1.heap.size + 1, 0, none⟩) 0 0) ∧ PLoop w2 wr (w1.heap.size + 1 + 1) 40 v L0 w1.heap.size k ∧ ∀ j, j < k → pieceAt L0 j ≠ e0) (fun i _ => L0.length - (intOf i).toNat)
    case atStart => exact ⟨0, _, Nat.zero_le _, rfl, HC.out.1, ⟨HC.out.2, Turns.refl _ _, fun b hb => by simp [Value.ownBlock] at hb; exact .inl hb.symm⟩, fun j hj => absurd hj (Nat.not_lt_zero _)⟩
    case round =>
      obtain ⟨k, v, hk, rfl, hR, hP, hne⟩ := hrel
      have hszr := hP.turns.size
      obtain ⟨wa, wc, rfl⟩ := own_form hP.own
      obtain ⟨c0, c1, f0, f1, hRl⟩ := hR.cells
      by_cases hlt : k < L0.length
      · obtain ⟨g2, rfl, hg1, hg2, hcell⟩ := HB.out.2.1 k hlt
        have d2 := (hP.turns.cellT (i := k) hg2 (by omega)).trans hcell
        have x1 : (0 : Int) ≤ (k : Int) := by omega
        have x2 : (k : Int) < (L0.length : Int) := by omega
        by_cases he : pieceAt L0 k = e0
        · have q2 : (pieceAt L0 k).toList.isEmpty = true := by rw [isEmpty_eq]; exact decide_eq_true he
          have q1 : (pieceAt L0 k).toList = [] := List.isEmpty_iff.1 q2
          have HN := Lib.hid (show ¬ (partsB text = true ∧ Valid (bsOf text) (esOf text)) from fun h => partsB_b h.1 _ (by rw [show partAt text 0 = L0 from HB.out.2.2.2.2.2.1]; exact pieceAt_mem hlt) he)
          have hR0r := hP.turns.two HB.out.2.2.1 (by omega)
          obtain ⟨r0, r1, t0, t1, _⟩ := hR0r.cells
          have hfin := HB.out.1.trans (hP.turns.below (B := w.heap.size) HB.out.1.size (by intro k h; omega))
          have HF := Lib.hid hfin
          clear he hne hP hR hR0r hfin hcell
          go_wp2
          refine bodyPost_ret (v := .tuple #[.agg #[.slice none 0 0, .slice none 0 0], .bool false]) (by simp [results, Tryd.results34, go_sem, r0, r1]) rfl ?_
          exact ⟨by repeat (first | exact HF.out | refine Below.setCell ?_ (by simp) _ | refine Below.alloc ?_ (by first | omega | (simp; omega)) _), .inr ⟨HN.out, rfl⟩⟩
        · have q2 : (pieceAt L0 k).toList.isEmpty = false := by rw [isEmpty_eq]; exact decide_eq_false he
          have q1 : ¬ (pieceAt L0 k).toList = [] := fun h => by rw [h] at q2; cases q2
          have hp0 : 0 < (pieceAt L0 k).size := by
            rcases Nat.eq_zero_or_pos (pieceAt L0 k).size with h | h
            · exact absurd ((e0_iff _).2 h) he
            · exact h
          have s1 := run_head _ hp0
          have s2 := run_tail _ hp0
          have HNe := Lib.hid (all_step hne he)
          have HK := Lib.hid (And.intro hR hP)
          have hb1 : some (w1.heap.size + 1 + 1) ≠ (Value.slice wa k wc).ownBlock := fun e => own_neK hP.own hR (by decide) e.symm
          have e0' : wr.drew.cell? ⟨w1.heap.size + 1 + 1, 0, none⟩ = some (.slice wa k wc) := c0
          clear he hne hP hR hcell hp0 c1 f1
          go_wp2
          go_region_law (first
            | (refine step_append_lies _ rfl (.tmp 32) (.tmp 38) 29 rfl w1.heap.size 40 i0 (.agg #[.string ⟨#[]⟩, .string ⟨#[]⟩]) 2 32 Tryd.underlying29 hi hz0 hz1 hz2 rfl (by decide) _ k (cellsOf ((L0.take k).map blkOf)) rfl ((ownsRow_below HK.out.2.own (Below.refl _ _).drew).alloc _) ⟨wr.heap.size, 0, none⟩ 1 1 [.string ((pieceAt L0 k).extract 0 1), .string ((pieceAt L0 k).extract 1 (pieceAt L0 k).size)] rfl rfl (cell_two_new _ _ _ _) (two_one _ _ rfl rfl) (by decide) (by unfold maxLen; omega) (by omega) (by simp; omega) _ rfl ?_
               intro g' cap' w4 hown4 hgrow4 hlies4 _
               have hT4 : Two w4 (w1.heap.size + 1 + 1) (.slice wa k wc) (.slice (some ⟨w1.heap.size + 1, 0, none⟩) 0 0) := HK.out.1.of_cells ((hgrow4.block _ (by simp; omega) hb1).trans (Lib.alloc_old wr.drew _ _ hRl))
               have e4 := hT4.cells.1
               have f4 := hT4.cells.2.2.1))
          all_goals
            have HS := Lib.hid (And.intro (hT4.set0 (.slice (some ⟨g', 0, none⟩) (k + 1) cap')) (HK.out.2.step hlt (((Below.refl _ _).drew).alloc (Nat.le_refl _) _) hown4 hgrow4 (fun b hb => by simp only [Value.ownBlock, Option.some.injEq] at hb; subst hb; rcases hlies4 with h9 | h9; exact .inl h9; exact .inr (by simp at h9; omega)) hT4 (by decide) (f := 0) (u := .slice (some ⟨g', 0, none⟩) (k + 1) cap')))
            clear hown4 hgrow4 hlies4 hT4 e4 f4
            go_wp2
            go_roundw
            case rel => exact ⟨k + 1, _, by omega, by go_num, HS.out.1, HS.out.2, HNe.out⟩
            case measure => simp [intOf]; omega
      · obtain rfl : k = L0.length := by omega
        have HP := Lib.hid (And.intro hR (And.intro hP hne))
        have d12 := (hP.turns.cellT (i := 1) (show g < w2.heap.size by omega) (by omega)).trans HB.out.2.2.2.2.1
        clear hR hP hne c0 c1 f0 f1
        go_wp2_with fail
        refine (l15Cut_any (pieceAt (cutL text 58) 1) 44 _ hs1 (by decide)).mono ?_
        rintro e w5 ⟨v5, rfl, hown5, hb5⟩
        obtain ⟨L1, hL1⟩ : ∃ L1, cutL (pieceAt (cutL text 58) 1) 44 = L1 := ⟨_, rfl⟩
        have hl1' : L1.length ≤ 1048577 := by rw [← hL1]; exact Nat.le_trans (cutL_len _ _) (by omega)
        rw [hL1] at hown5
        obtain ⟨pb, pd, rfl⟩ := own_form hown5
        obtain ⟨hR, hP, hne⟩ := HP.out
        have hs5 := hb5.size
        have hR5 : Two w5 (w1.heap.size + 1 + 1) _ _ := hR.of_cells (hb5.block _ hRl)
        have hOe5 := ownsRow_below (hP.turns.row HB.out.2.2.2.1 (fun g h => by simp only [Value.ownBlock, Option.some.injEq] at h; subst h; omega)) hb5
        have hOb5 := ownsRow_below hP.own hb5
        have hR05 : Two w5 w.heap.size _ _ := (hP.turns.two HB.out.2.2.1 (by omega)).of_cells (hb5.block _ (by omega))
        have hbw5 : Below w.heap.size w w5 := (HB.out.1.trans (hP.turns.below (B := w.heap.size) HB.out.1.size (by intro k h; omega))).trans (hb5.mono (by omega))
        have hp1 := own_strs hown5
        obtain ⟨wo, rfl⟩ : ∃ wo, wo = wr := ⟨_, rfl⟩
        have HD := Lib.hid (And.intro hbw5 (And.intro hp1 (And.intro hR05 (And.intro hOb5 (And.intro hL1 hne)))))
        have HE := Lib.hid (And.intro hR5 hOe5)
        clear hR hP hne hb5 hR5 hOe5 hOb5 hR05 hbw5 hp1 hL1 hown5 HP d12
        go_wp2
        go_loopw [47] (fun i wq => ∃ (k : Nat) (v : Value), k ≤ L1.length ∧ i = .int .i64 k ∧ Two wq (w1.heap.size + 1 + 1) (.slice wa L0.length wc) v ∧ PLoop w5 wq (w1.heap.size + 1 + 1) 111 v L1 (w1.heap.size + 1) k ∧ ∀ j, j < k → (pieceAt L1 j).size = 2) (fun i _ => L1.length - (intOf i).toNat)
        case atStart => exact ⟨0, _, Nat.zero_le _, rfl, HE.out.1, ⟨HE.out.2, Turns.refl _ _, fun b hb => by simp [Value.ownBlock] at hb; exact .inl hb.symm⟩, fun j hj => absurd hj (Nat.not_lt_zero _)⟩
        case round =>
          obtain ⟨k, v, hk, rfl, hR, hP, hne⟩ := hrel
          have hbs3 : w1.heap.size + 3 ≤ wo.heap.size := by omega
          clear hszr hRl
          have hszr := hP.turns.size
          obtain ⟨ya, yc, rfl⟩ := own_form hP.own
          obtain ⟨c0, c1, f0, f1, hRl⟩ := hR.cells
          by_cases hlt : k < L1.length
          · obtain ⟨g2, rfl, hg1, hg2, hcell⟩ := HD.out.2.1 k hlt
            have d2 := (hP.turns.cellT (i := k) hg2 (by omega)).trans hcell
            have x1 : (0 : Int) ≤ (k : Int) := by omega
            have x2 : (k : Int) < (L1.length : Int) := by omega
            by_cases he : (pieceAt L1 k).size = 2
            · have q1 : (((pieceAt L1 k).size : Int) != 2) = false := by simp [he]
              have hp0 : 0 < (pieceAt L1 k).size := by omega
              have s1 := run_head _ hp0
              have s2 := run_tail _ hp0
              have HNe := Lib.hid (all_step hne he)
              have HK := Lib.hid (And.intro hR hP)
              have hb1 : some (w1.heap.size + 1 + 1) ≠ (Value.slice ya k yc).ownBlock := fun e => own_neK hP.own hR (by decide) e.symm
              have e1' : wr.drew.cell? ⟨w1.heap.size + 1 + 1, 1, none⟩ = some (.slice ya k yc) := c1
              clear he hne hP hR hcell hp0 c0 f0
              go_wp2
              go_region_law (first
                | (refine step_append_lies _ rfl (.tmp 56) (.tmp 62) 30 rfl (w1.heap.size + 1) 111 j0 (.agg #[.string ⟨#[]⟩, .string ⟨#[]⟩]) 2 32 Tryd.underlying30 hj yz0 yz1 yz2 rfl (by decide) _ k (cellsOf ((L1.take k).map blkOf)) rfl ((ownsRow_below HK.out.2.own (Below.refl _ _).drew).alloc _) ⟨wr.heap.size, 0, none⟩ 1 1 [.string ((pieceAt L1 k).extract 0 1), .string ((pieceAt L1 k).extract 1 (pieceAt L1 k).size)] rfl rfl (cell_two_new _ _ _ _) (two_one _ _ rfl rfl) (by decide) (by unfold maxLen; omega) (by omega) (by simp; omega) _ rfl ?_
                   intro g' cap' w4 hown4 hgrow4 hlies4 _
                   have hT4 : Two w4 (w1.heap.size + 1 + 1) (.slice wa L0.length wc) (.slice ya k yc) := HK.out.1.of_cells ((hgrow4.block _ (by simp; omega) hb1).trans (Lib.alloc_old wr.drew _ _ hRl))
                   have e4 := hT4.cells.2.1
                   have f4 := hT4.cells.2.2.2.1))
              all_goals
                have HS := Lib.hid (And.intro (hT4.set1 (.slice (some ⟨g', 0, none⟩) (k + 1) cap')) (HK.out.2.step hlt (((Below.refl _ _).drew).alloc (Nat.le_refl _) _) hown4 hgrow4 (fun b hb => by simp only [Value.ownBlock, Option.some.injEq] at hb; subst hb; rcases hlies4 with h9 | h9; exact .inl h9; exact .inr (by simp at h9; omega)) hT4 (by decide) (f := 1) (u := .slice (some ⟨g', 0, none⟩) (k + 1) cap')))
                clear hown4 hgrow4 hlies4 hT4 e4 f4
                go_wp2
                go_roundw
                case rel => exact ⟨k + 1, _, by omega, by go_num, HS.out.1, HS.out.2, HNe.out⟩
                case measure => simp [intOf]; omega
            · have q1 : (((pieceAt L1 k).size : Int) != 2) = true := by simp; omega
              have HN := Lib.hid (show ¬ (partsB text = true ∧ Valid (bsOf text) (esOf text)) from fun h => he (partsB_e h.1 _ (by rw [show partAt text 1 = L1 from HD.out.2.2.2.2.1]; exact pieceAt_mem hlt)))
              have hR0r := hP.turns.two HD.out.2.2.1 (by omega)
              obtain ⟨r0, r1, t0, t1, _⟩ := hR0r.cells
              have hfin := HD.out.1.trans (hP.turns.below (B := w.heap.size) HD.out.1.size (by intro k h; omega))
              have HF := Lib.hid hfin
              clear he hne hP hR hR0r hfin hcell
              go_wp2
              refine bodyPost_ret (v := .tuple #[.agg #[.slice none 0 0, .slice none 0 0], .bool false]) (by simp [results, Tryd.results34, go_sem, r0, r1]) rfl ?_
              exact ⟨by repeat (first | exact HF.out | refine Below.setCell ?_ (by simp) _ | refine Below.alloc ?_ (by first | omega | (simp; omega)) _), .inr ⟨HN.out, rfl⟩⟩
          · obtain rfl : k = L1.length := by omega
            have hRok := HD.out.2.2.2.2
            have hgb : w1.heap.size + 3 ≤ w5.heap.size := by omega
            have e0' : (L0.take L0.length).map blkOf = bsOf text := by rw [List.take_length, ← show partAt text 0 = L0 from HB.out.2.2.2.2.2.1]; rfl
            have e1' : (L1.take L1.length).map blkOf = esOf text := by rw [List.take_length, ← show partAt text 1 = L1 from hRok.1]; rfl
            have lb : L0.length = (bsOf text).length := by rw [← e0']; simp
            have le : L1.length = (esOf text).length := by rw [← e1']; simp
            have hOb := hP.turns.row HD.out.2.2.2.1 (fun g hg h => by
              rcases h with h | h
              · subst h; exact own_neK HD.out.2.2.2.1 HE.out.1 (by decide) hg
              · subst h
                obtain ⟨c9, z9, h9⟩ := Lib.ownsRow_kind HE.out.2 (w1.heap.size + 1) rfl
                exact own_neK HD.out.2.2.2.1 h9 (by decide) hg)
            have hOe := hP.own
            rw [e0'] at hOb
            rw [e1'] at hOe
            have hbz := blks_sizes hs (L := partAt text 0) (fun s h => partAt_size h)
            have hez := blks_sizes hs (L := partAt text 1) (fun s h => partAt_size h)
            have h22 := HB.out.2.2.2.2.2.2
            have hLb : (bsOf text).length ≤ 1048576 := by
              have h3 := cutL_two h22 _ (pieceAt_mem (i := 0) (by omega))
              have h4 := cutL_len (pieceAt (cutL text 58) 0) 44
              have h5 : (bsOf text).length = (cutL (pieceAt (cutL text 58) 0) 44).length := by unfold bsOf partAt; rw [List.length_map]; rfl
              omega
            have hLe : (esOf text).length ≤ 1048576 := by
              have h3 := cutL_two h22 _ (pieceAt_mem (i := 1) (by omega))
              have h4 := cutL_len (pieceAt (cutL text 58) 1) 44
              have h5 : (esOf text).length = (cutL (pieceAt (cutL text 58) 1) 44).length := by unfold esOf partAt; rw [List.length_map]; rfl
              omega
            obtain ⟨xa, xc, hxv, hPb⟩ := own_pairs lb hOb hLb hbz
            obtain ⟨za, zc, hzv, hPe⟩ := own_pairs le hOe hLe hez
            simp only [Value.slice.injEq] at hxv hzv
            obtain ⟨rfl, _, rfl⟩ := hxv
            obtain ⟨rfl, _, rfl⟩ := hzv
            have hR0r := hP.turns.two HD.out.2.2.1 (by omega)
            have hfin := HD.out.1.trans (hP.turns.below (B := w.heap.size) HD.out.1.size (by intro k h; omega))
            have hpp := partsB_mk h22 (by rw [show partAt text 0 = L0 from HB.out.2.2.2.2.2.1]; exact piece_all hRok.2) (by rw [show partAt text 1 = L1 from hRok.1]; exact piece_all hne)
            have HF := Lib.hid (And.intro hOb (And.intro hOe (And.intro hR0r (And.intro hfin (And.intro hpp (And.intro hPb hPe))))))
            rw [lb] at c0
            rw [le] at c1
            clear hOb hOe hR0r hfin hpp hPb hPe hR hP hne e0' e1' hRok h22 hbz hez
            go_wp2_with fail
            refine (ProgValid_spec _ (bsOf text) (esOf text) _ _ _ _ HF.out.2.2.2.2.2.1 HF.out.2.2.2.2.2.2).mono ?_
            rintro e w6 ⟨rfl, hb6⟩
            have hR6 : Two w6 w.heap.size _ _ := HF.out.2.2.1.of_cells (hb6.block _ (by omega))
            have hbf := HF.out.2.2.2.1.trans (hb6.mono (by omega))
            obtain ⟨r0, r1, t0, t1, _⟩ := hR6.cells
            have u0 := (hb6.cell (p := ⟨w1.heap.size + 1 + 1, 0, none⟩) hRl).trans c0
            have u1 := (hb6.cell (p := ⟨w1.heap.size + 1 + 1, 1, none⟩) hRl).trans c1
            have hzb : w.heap.size < w1.heap.size := hz1'
            cases hv : validB (bsOf text) (esOf text)
            · have HN := Lib.hid (show ¬ (partsB text = true ∧ Valid (bsOf text) (esOf text)) from fun h => by simp only [validB, decide_eq_false_iff_not] at hv; exact hv h.2)
              have HX := Lib.hid hbf
              clear hv hb6 hR6 hbf
              go_wp2
              refine bodyPost_ret (v := .tuple #[.agg #[.slice none 0 0, .slice none 0 0], .bool false]) (by simp [results, Tryd.results34, go_sem, r0, r1]) rfl ?_
              exact ⟨by repeat (first | exact HX.out | refine Below.setCell ?_ (by simp) _ | refine Below.alloc ?_ (by first | omega | (simp; omega)) _), .inr ⟨HN.out, rfl⟩⟩
            · have HV := Lib.hid (show Valid (bsOf text) (esOf text) by simpa [validB] using hv)
              have hq1 := ownsRow_below HF.out.1 hb6
              have hq2 := ownsRow_below HF.out.2.1 hb6
              have HX := Lib.hid (And.intro hbf (And.intro hq1 hq2))
              clear hv hb6 hR6 hbf hq1 hq2
              go_wp2
              refine bodyPost_ret (v := .tuple #[.agg #[.slice wa (bsOf text).length wc, .slice ya (esOf text).length yc], .bool true]) (by simp [results, Tryd.results34, go_sem, r0, r1]) rfl ?_
              refine ⟨by repeat (first | exact HX.out.1 | refine Below.setCell ?_ (by simp) _ | refine Below.alloc ?_ (by first | omega | (simp; omega)) _), .inl ⟨HF.out.2.2.2.2.1, HV.out, _, _, rfl, ?_, ?_⟩⟩
              · have h := own_setCell (a := ⟨w.heap.size, 1, none⟩) (u := .slice ya (esOf text).length yc) (own_setCell (a := ⟨w.heap.size, 0, none⟩) (u := .slice wa (bsOf text).length wc) HX.out.2.1 (by simpa using hzb)) (by simpa using hzb)
                rw [lb] at h
                exact own_base h (by omega)
              · have h := own_setCell (a := ⟨w.heap.size, 1, none⟩) (u := .slice ya (esOf text).length yc) (own_setCell (a := ⟨w.heap.size, 0, none⟩) (u := .slice wa (bsOf text).length wc) HX.out.2.2 (by simp; omega)) (by simp; omega)
                rw [le] at h
                exact own_base h (by omega)
  · have d1 : (((cutL text 58).length : Int) != 2) = true := by simp; omega
    have HN := Lib.hid (show ¬ (partsB text = true ∧ Valid (bsOf text) (esOf text)) from fun h => h2 (partsB_len h.1))
    obtain ⟨r0, r1, f0, f1, _⟩ := R0.cells
    have k0 := fun o1 o2 o3 => (alloc3_old w1 w.heap.size 0 o1 o2 o3 hz1').1.trans r0
    have k1 := fun o1 o2 o3 => (alloc3_old w1 w.heap.size 1 o1 o2 o3 hz1').1.trans r1
    have k2 := fun o1 o2 o3 => (alloc3_old w1 w.heap.size 0 o1 o2 o3 hz1').2.trans f0
    have k3 := fun o1 o2 o3 => (alloc3_old w1 w.heap.size 1 o1 o2 o3 hz1').2.trans f1
    have HA := Lib.hid (And.intro hown1 (And.intro hall hb1))
    clear h2 hown1 hall hb1 R0
    go_wp2
    refine bodyPost_ret (v := .tuple #[.agg #[.slice none 0 0, .slice none 0 0], .bool false]) (by simp [results, Tryd.results34, go_sem, k0, k1]) rfl ?_
    exact ⟨by repeat (first | exact HA.out.2.1 | refine Below.setCell ?_ (by simp) _ | refine Below.alloc ?_ (by first | omega | (simp; omega)) _), .inr ⟨HN.out, rfl⟩⟩
end Go.Proofs.YtngcmjfkeageiaaDoor
end

section
/-
  The model's source: an element of a list of texts, of numbers; a source opened over bytes. Conditions: at most 1000000 numbers drawn before.
-/
namespace Go.Proofs.YtngcmjfkeageiaaDoor
open Go.RowKit Go.Maps

theorem RdAt.below {w w' : World} {g : Nat} {a : Option Addr} {n cap p : Nat} (h : RdAt w g a n cap p) (hb : Below w.heap.size w w') : RdAt w' g a n cap p where
  here := (hb.block g (Array.getElem?_eq_some_iff.1 h.here).1).trans h.here
  few := h.few
  byte i hi := by
    obtain ⟨b, off, v, e, h1, h2, h3, h4, h5⟩ := h.byte i hi
    exact ⟨b, off, v, e, h1, Nat.lt_of_lt_of_le h2 hb.size, h3, h4, (hb.cell (p := ⟨b, off + i, none⟩) h2).trans h5⟩
theorem RdAt.lt {w : World} {g : Nat} {a : Option Addr} {n cap p : Nat} (h : RdAt w g a n cap p) : g < w.heap.size := (Array.getElem?_eq_some_iff.1 h.here).1
/-- what a draw leaves: at most m numbers more are drawn, and only the source is written -/
def Drawn (w w' : World) (g : Nat) (a : Option Addr) (n cap p m : Nat) : Prop := ∃ p', p' ≤ p + m ∧ RdAt w' g a n cap p' ∧ Turns (fun k => k = g) w w'
def OfPost (w : World) (g : Nat) (a : Option Addr) (n cap p : Nat) (L : List ByteArray) (e : Ending) (w' : World) : Prop := ∃ x, x ∈ L ∧ e = .returned (.string x) ∧ RdAt w' g a n cap (p + 1) ∧ Turns (fun k => k = g) w w'
def NumPost (w : World) (g : Nat) (a : Option Addr) (n cap p : Nat) (L : List Int) (e : Ending) (w' : World) : Prop := ∃ x, x ∈ L ∧ e = .returned (.int .i64 x) ∧ RdAt w' g a n cap (p + 1) ∧ Turns (fun k => k = g) w w'

set_option maxRecDepth 100000 in
set_option maxHeartbeats 1600000 in
theorem of_any (w : World) (g : Nat) (a : Option Addr) (n cap p : Nat) (gl : Nat) (L : List ByteArray) (hp : p ≤ 1000000) (h : RdAt w g a n cap p) (hgl : gl ≠ g) (hL : w.heap[gl]? = some (.cells (L.map Value.string).toArray 9 (0, 0))) (h1 : 1 ≤ L.length) (h2 : L.length ≤ 1000) :
    Calls Tryd.prog 72 #[.pointer (some ⟨g, 0, none⟩), .slice (some ⟨gl, 0, none⟩) L.length L.length] w (OfPost w g a n cap p L) := by
  have HL := Lib.hid hL; clear hL
  go_enter Tryd.func72, Tryd.ntmps72
  go_wp2_with fail
  refine (pick_any _ g a n cap p _ (by omega) (by omega) hp h).mono ?_
  rintro e w1 ⟨r, rfl, hr0, hr1, hrd, htu⟩
  have hr2 := hr1 (by omega)
  obtain ⟨k, rfl⟩ := Int.eq_ofNat_of_zero_le hr0
  have hk : k < L.length := by omega
  have hc : w1.cell? ⟨gl, k, none⟩ = some (.string L[k]) := by
    have h3 : w1.heap[gl]? = some (.cells (L.map Value.string).toArray 9 (0, 0)) := (htu.block gl (Array.getElem?_eq_some_iff.1 HL.out).1 hgl).trans HL.out
    rw [cell_of_row w1 gl k _ _ (0, 0) h3]
    simp [hk]
  have HX := Lib.hid (And.intro hrd htu)
  clear hrd htu hr1
  go_wp2
  go_ret
  exact ⟨L[k], List.getElem_mem hk, rfl, HX.out.1, HX.out.2⟩

set_option maxRecDepth 100000 in
set_option maxHeartbeats 1600000 in
theorem num_any (w : World) (g : Nat) (a : Option Addr) (n cap p : Nat) (gl : Nat) (L : List Int) (hp : p ≤ 1000000) (h : RdAt w g a n cap p) (hgl : gl ≠ g) (hL : w.heap[gl]? = some (.cells (L.map (Value.int .i64)).toArray 3 (0, 0))) (h1 : 1 ≤ L.length) (h2 : L.length ≤ 1000) :
    Calls Tryd.prog 117 #[.pointer (some ⟨g, 0, none⟩), .slice (some ⟨gl, 0, none⟩) L.length L.length] w (NumPost w g a n cap p L) := by
  have HL := Lib.hid hL; clear hL
  go_enter Tryd.func117, Tryd.ntmps117
  go_wp2_with fail
  refine (pick_any _ g a n cap p _ (by omega) (by omega) hp h).mono ?_
  rintro e w1 ⟨r, rfl, hr0, hr1, hrd, htu⟩
  have hr2 := hr1 (by omega)
  obtain ⟨k, rfl⟩ := Int.eq_ofNat_of_zero_le hr0
  have hk : k < L.length := by omega
  have hc : w1.cell? ⟨gl, k, none⟩ = some (.int .i64 L[k]) := by
    have h3 : w1.heap[gl]? = some (.cells (L.map (Value.int .i64)).toArray 3 (0, 0)) := (htu.block gl (Array.getElem?_eq_some_iff.1 HL.out).1 hgl).trans HL.out
    rw [cell_of_row w1 gl k _ _ (0, 0) h3]
    simp [hk]
  have HX := Lib.hid (And.intro hrd htu)
  clear hrd htu hr1
  go_wp2
  go_ret
  exact ⟨L[k], List.getElem_mem hk, rfl, HX.out.1, HX.out.2⟩
/-- a list of texts laid by the text: an element of it -/
theorem of_new (w : World) (g : Nat) (a : Option Addr) (n cap p : Nat) (L : List ByteArray) (hp : p ≤ 1000000) (h : RdAt w g a n cap p) (h1 : 1 ≤ L.length) (h2 : L.length ≤ 1000) :
    Calls Tryd.prog 72 #[.pointer (some ⟨g, 0, none⟩), .slice (some ⟨w.heap.size, 0, none⟩) L.length L.length] (w.alloc (.cells (L.map Value.string).toArray 9)) (OfPost w g a n cap p L) :=
  (of_any _ g a n cap p w.heap.size L hp (h.below ((Below.refl _ _).alloc (Nat.le_refl _) _)) (fun e => by have := h.lt; omega) (heap_alloc_new _ _) h1 h2).mono fun e w' ⟨x, hx, he, hr, ht⟩ => ⟨x, hx, he, hr, (Turns.alloc _ _).trans ht⟩
theorem num_new (w : World) (g : Nat) (a : Option Addr) (n cap p : Nat) (L : List Int) (hp : p ≤ 1000000) (h : RdAt w g a n cap p) (h1 : 1 ≤ L.length) (h2 : L.length ≤ 1000) :
    Calls Tryd.prog 117 #[.pointer (some ⟨g, 0, none⟩), .slice (some ⟨w.heap.size, 0, none⟩) L.length L.length] (w.alloc (.cells (L.map (Value.int .i64)).toArray 3)) (NumPost w g a n cap p L) :=
  (num_any _ g a n cap p w.heap.size L hp (h.below ((Below.refl _ _).alloc (Nat.le_refl _) _)) (fun e => by have := h.lt; omega) (heap_alloc_new _ _) h1 h2).mono fun e w' ⟨x, hx, he, hr, ht⟩ => ⟨x, hx, he, hr, (Turns.alloc _ _).trans ht⟩
end Go.Proofs.YtngcmjfkeageiaaDoor
end

section
/-
  The model's known programs, drawn words. Conditions: at most 1000000 numbers drawn before.
-/
namespace Go.Proofs.YtngcmjfkeageiaaDoor
open Go.RowKit Go.Maps

theorem own_at {w : World} {B : Nat} {e : TypeId} {a : Option Addr} {c n : Nat} {l : List Pr} (hn : n = l.length) (h : w.ownsRow B e 2 (.slice a n c) n (cellsOf l)) (hl : l.length ≤ 1048576) (hs : ∀ i, i < l.length → (nameAt l i).size ≤ 1048576 ∧ (restAt l i).size ≤ 1048576) : PairsAt w a l := by
  obtain ⟨a', c', e, hP⟩ := own_pairs hn h hl hs
  simp only [Value.slice.injEq] at e
  rw [e.1]; exact hP
/-- a valid program in memory, what was there as it was -/
def GoodPost (w : World) (e : Ending) (w' : World) : Prop := ∃ bs es ab ae cb ce, e = .returned (.agg #[.slice ab bs.length cb, .slice ae es.length ce]) ∧ Valid bs es ∧ PairsAt w' ab bs ∧ PairsAt w' ae es ∧ Below w.heap.size w w'
def sampL : List ByteArray := [⟨#[65, 44, 66, 120, 44, 67, 44, 68, 120, 44, 69, 58, 65, 66, 44, 65, 67, 44, 66, 68, 44, 67, 68, 44, 68, 69]⟩, ⟨#[65, 44, 66, 44, 67, 120, 44, 68, 58, 65, 66, 44, 66, 67, 44, 67, 67, 44, 67, 68]⟩, ⟨#[65, 44, 66, 44, 67, 120, 44, 68, 44, 69, 120, 44, 70, 58, 65, 66, 44, 66, 67, 44, 66, 68, 44, 67, 69, 44, 68, 69, 44, 69, 70]⟩, ⟨#[65, 44, 66, 120, 44, 67, 88, 44, 68, 120, 44, 69, 58, 65, 66, 44, 66, 67, 44, 66, 68, 44, 67, 68, 44, 68, 69]⟩, ⟨#[65, 44, 66, 120, 44, 67, 120, 44, 68, 58, 65, 66, 44, 65, 67, 44, 66, 68, 44, 67, 68]⟩, ⟨#[65, 44, 66, 44, 67, 44, 68, 120, 44, 69, 58, 65, 66, 44, 66, 67, 44, 67, 66, 44, 67, 68, 44, 68, 69, 44, 66, 69]⟩, ⟨#[65, 44, 66, 120, 88, 120, 44, 67, 120, 44, 68, 58, 65, 66, 44, 66, 67, 44, 67, 66, 44, 67, 68]⟩, ⟨#[65, 44, 66, 120, 44, 67, 121, 44, 68, 120, 121, 44, 69, 58, 65, 66, 44, 65, 67, 44, 66, 68, 44, 67, 68, 44, 68, 69]⟩, ⟨#[65, 44, 66, 44, 67, 44, 68, 44, 69, 120, 44, 70, 58, 65, 66, 44, 65, 67, 44, 66, 68, 44, 66, 69, 44, 67, 69, 44, 68, 70, 44, 69, 70]⟩, ⟨#[65, 44, 66, 44, 67, 120, 44, 68, 88, 44, 69, 120, 44, 70, 58, 65, 66, 44, 66, 67, 44, 67, 68, 44, 67, 69, 44, 68, 69, 44, 69, 66, 44, 69, 70]⟩, ⟨#[65, 44, 66, 58, 65, 66]⟩, ⟨#[65, 44, 66, 120, 44, 67, 44, 68, 44, 69, 120, 44, 70, 120, 44, 71, 58, 65, 66, 44, 65, 67, 44, 66, 68, 44, 67, 68, 44, 68, 69, 44, 68, 70, 44, 69, 71, 44, 70, 71]⟩]
theorem sampL_at : ∀ k, k < 12 → (sampL.map Value.string).toArray[k]? = some (.string (sampleT k)) := by
  intro k hk
  match k, hk with
  | 0, _ | 1, _ | 2, _ | 3, _ | 4, _ | 5, _ | 6, _ | 7, _ | 8, _ | 9, _ | 10, _ | 11, _ => rfl

set_option maxRecDepth 100000 in
set_option maxHeartbeats 1600000 in
theorem l1Sample_any (w : World) (k : Nat) (hk : k < 12) :
    Calls Tryd.prog 141 #[.int .i64 (k : Int)] w (GoodPost w) := by
  have h1 : Below w.heap.size w (w.alloc (.cells #[.slice none 0 0, .slice none 0 0] 32)) := (Below.refl _ _).alloc (Nat.le_refl _) _
  have hR : Two (w.alloc (.cells #[.slice none 0 0, .slice none 0 0] 32)) w.heap.size (.slice none 0 0) (.slice none 0 0) := heap_alloc_new _ _
  have hc : ((w.alloc (.cells #[.slice none 0 0, .slice none 0 0] 32)).alloc (.cells (sampL.map Value.string).toArray 9)).cell? ⟨w.heap.size + 1, k, none⟩ = some (.string (sampleT k)) := by
    have h2 := heap_alloc_new (w.alloc (.cells #[.slice none 0 0, .slice none 0 0] 32)) (.cells (sampL.map Value.string).toArray 9)
    rw [show (w.alloc (.cells #[.slice none 0 0, .slice none 0 0] 32)).heap.size = w.heap.size + 1 by simp] at h2
    rw [cell_of_row _ _ k _ _ (0, 0) h2]
    exact sampL_at k hk
  have hB : Below (w.heap.size + 1) (w.alloc (.cells #[.slice none 0 0, .slice none 0 0] 32)) ((w.alloc (.cells #[.slice none 0 0, .slice none 0 0] 32)).alloc (.cells (sampL.map Value.string).toArray 9)) := (Below.refl _ _).alloc (by simp) _
  have hz : ((w.alloc (.cells #[.slice none 0 0, .slice none 0 0] 32)).alloc (.cells (sampL.map Value.string).toArray 9)).heap.size = w.heap.size + 2 := by simp
  obtain ⟨wL, hwL⟩ : ∃ wL, wL = ((w.alloc (.cells #[.slice none 0 0, .slice none 0 0] 32)).alloc (.cells (sampL.map Value.string).toArray 9)) := ⟨_, rfl⟩
  rw [← hwL] at hB hz
  have H1 := Lib.hid (And.intro h1 (And.intro hR (And.intro hB (And.intro hz hwL))))
  clear h1 hR hB hz hwL
  have m1 : (k : Int) % 12 = k := by omega
  have m2 : (0 : Int) ≤ (k : Int) := by omega
  have m3 : (k : Int) < 12 := by omega
  go_enter Tryd.func141, Tryd.ntmps141
  simp only [sampL, List.map_cons, List.map_nil] at hc
  go_wp2_with fail
  refine (ParseProg_spec _ (sampleT k) (Nat.le_trans (sample_size k hk) (by decide))).mono ?_
  rintro e w1 ⟨hb1, hcase⟩
  have hb1' : Below wL.heap.size wL w1 := by rw [H1.out.2.2.2.2]; exact hb1
  clear hb1
  have hb1 := hb1'
  clear hb1'
  obtain ⟨hpp, hVV⟩ := sample_ok k hk
  rcases hcase with ⟨_, hV, v, ve, rfl, ho, hoe⟩ | ⟨hno, rfl⟩
  · have hsz := H1.out.2.2.2.1
    have hR1 : Two w1 w.heap.size _ _ := H1.out.2.1.of_cells ((hb1.block _ (by rw [hsz]; omega)).trans (H1.out.2.2.1.block _ (by omega)))
    have hall : Below w.heap.size w w1 := (H1.out.1.trans (H1.out.2.2.1.mono (by omega))).trans (hb1.mono (by rw [hsz]; omega))
    have hz9 := hb1.size
    have hts : (sampleT k).size ≤ 1048576 := Nat.le_trans (sample_size k hk) (by decide)
    have hlb : (bsOf (sampleT k)).length ≤ 9 := hV.b.hi
    have hle : (esOf (sampleT k)).length ≤ 14 := hV.e.hi
    obtain ⟨xa, xc, rfl, hPb⟩ := own_pairs rfl ho (by omega) (blks_sizes hts (L := partAt (sampleT k) 0) (fun s h => partAt_size h))
    obtain ⟨ya, yc, rfl, hPe⟩ := own_pairs rfl hoe (by omega) (blks_sizes hts (L := partAt (sampleT k) 1) (fun s h => partAt_size h))
    rw [hsz] at hz9
    have hzw : w.heap.size < w1.heap.size := by omega
    obtain ⟨r0, r1, t0, t1, _⟩ := hR1.cells
    have k0 := fun q => (World.cell?_alloc_lt w1 q ⟨w.heap.size, 0, none⟩ hzw).trans r0
    have k1 := fun q => (World.cell?_alloc_lt w1 q ⟨w.heap.size, 1, none⟩ hzw).trans r1
    have k2 := fun q => (show (w1.alloc q).frozen? ⟨w.heap.size, 0, none⟩ = w1.frozen? ⟨w.heap.size, 0, none⟩ from ((Below.refl w1.heap.size w1).alloc (Nat.le_refl _) q).frozen (p := ⟨w.heap.size, 0, none⟩) hzw).trans t0
    have k3 := fun q => (show (w1.alloc q).frozen? ⟨w.heap.size, 1, none⟩ = w1.frozen? ⟨w.heap.size, 1, none⟩ from ((Below.refl w1.heap.size w1).alloc (Nat.le_refl _) q).frozen (p := ⟨w.heap.size, 1, none⟩) hzw).trans t1
    have G := fun a b q => hR1.reads a b q
    have HG := Lib.hid G; clear G
    have HX := Lib.hid (And.intro hV (And.intro hPb (And.intro hPe (And.intro hall (And.intro ho hoe)))))
    clear hV hPb hPe hall ho hoe hb1 hR1 hpp hVV
    go_wp2
    refine bodyPost_ret (v := .agg #[.slice xa (bsOf (sampleT k)).length xc, .slice ya (esOf (sampleT k)).length yc]) (by simp [results, Tryd.results141, go_sem, (HG.out _ _ _).1, (HG.out _ _ _).2]) rfl ?_
    refine ⟨_, _, _, _, _, _, rfl, HX.out.1, ?_, ?_, by repeat (first | exact HX.out.2.2.2.1 | refine Below.setCell ?_ (by simp) _ | refine Below.alloc ?_ (by first | omega | (simp; omega)) _)⟩
    · refine own_at rfl (B := w.heap.size + 1) (e := 40) (c := xc) ?_ (by omega) (blks_sizes hts (L := partAt (sampleT k) 0) (fun s h => partAt_size h))
      repeat (first | exact own_base HX.out.2.2.2.2.1 (by simp) | refine own_setCell ?_ (by simp) | refine World.ownsRow.alloc ?_ _)
    · refine own_at rfl (B := w.heap.size + 1) (e := 111) (c := yc) ?_ (by omega) (blks_sizes hts (L := partAt (sampleT k) 1) (fun s h => partAt_size h))
      repeat (first | exact own_base HX.out.2.2.2.2.2 (by simp) | refine own_setCell ?_ (by simp) | refine World.ownsRow.alloc ?_ _)
  · exact absurd ⟨hpp, hVV⟩ hno

theorem l1Word_any (w : World) (g : Nat) (a : Option Addr) (n cap p : Nat) (hp : p ≤ 1000000) (h : RdAt w g a n cap p) :
    Calls Tryd.prog 134 #[.pointer (some ⟨g, 0, none⟩)] w (OfPost w g a n cap p [⟨#[65]⟩, ⟨#[66]⟩, ⟨#[67]⟩, ⟨#[68]⟩, ⟨#[69]⟩, ⟨#[67]⟩, ⟨#[74]⟩, ⟨#[]⟩, ⟨#[65, 66]⟩]) := by
  go_enter Tryd.func134, Tryd.ntmps134
  go_wp2_with fail
  refine (of_new _ g a n cap p [⟨#[65]⟩, ⟨#[66]⟩, ⟨#[67]⟩, ⟨#[68]⟩, ⟨#[69]⟩, ⟨#[67]⟩, ⟨#[74]⟩, ⟨#[]⟩, ⟨#[65, 66]⟩] hp h (by decide) (by decide)).mono ?_
  rintro e w1 ⟨x, hx, rfl, hr, ht⟩
  have HX := Lib.hid (And.intro hx (And.intro hr ht))
  clear hx hr ht
  go_wp2
  go_ret
  exact ⟨x, HX.out.1, rfl, HX.out.2.1, HX.out.2.2⟩
theorem l2Of_any (w : World) (g : Nat) (a : Option Addr) (n cap p : Nat) (hp : p ≤ 1000000) (h : RdAt w g a n cap p) :
    Calls Tryd.prog 143 #[.pointer (some ⟨g, 0, none⟩)] w (OfPost w g a n cap p [⟨#[120]⟩, ⟨#[120]⟩, ⟨#[120]⟩, ⟨#[121]⟩, ⟨#[120]⟩, ⟨#[122]⟩, ⟨#[120]⟩, ⟨#[88]⟩, ⟨#[]⟩, ⟨#[120, 121]⟩]) := by
  go_enter Tryd.func143, Tryd.ntmps143
  go_wp2_with fail
  refine (of_new _ g a n cap p [⟨#[120]⟩, ⟨#[120]⟩, ⟨#[120]⟩, ⟨#[121]⟩, ⟨#[120]⟩, ⟨#[122]⟩, ⟨#[120]⟩, ⟨#[88]⟩, ⟨#[]⟩, ⟨#[120, 121]⟩] hp h (by decide) (by decide)).mono ?_
  rintro e w1 ⟨x, hx, rfl, hr, ht⟩
  have HX := Lib.hid (And.intro hx (And.intro hr ht))
  clear hx hr ht
  go_wp2
  go_ret
  exact ⟨x, HX.out.1, rfl, HX.out.2.1, HX.out.2.2⟩
end Go.Proofs.YtngcmjfkeageiaaDoor
end

section
/-
  The model's l1Link. Conditions: at most 1000 blocks and edges, names of at most one byte.
-/
namespace Go.Proofs.YtngcmjfkeageiaaDoor
open Go.RowKit Go.Maps

/-- edges whose ends have at most one byte -/
def Ed1 (es : List Pr) : Prop := ∀ i, i < es.length → (nameAt es i).size ≤ 1 ∧ (restAt es i).size ≤ 1
theorem Ed1.snoc {es : List Pr} {p : Pr} (h : Ed1 es) (h1 : p.1.size ≤ 1) (h2 : p.2.size ≤ 1) : Ed1 (es ++ [p]) := by
  intro i hi
  simp only [List.length_append, List.length_cons, List.length_nil] at hi
  unfold nameAt restAt
  by_cases e : i < es.length
  · rw [List.getD_eq_getElem?_getD, List.getElem?_append_left e, ← List.getD_eq_getElem?_getD]; exact h i e
  · obtain rfl : i = es.length := by omega
    simp [List.getD_eq_getElem?_getD, h1, h2]
theorem Ed1.small {es : List Pr} (h : Ed1 es) : ∀ i, i < es.length → (nameAt es i).size ≤ 1048576 ∧ (restAt es i).size ≤ 1048576 := fun i hi => by have := h i hi; omega
theorem Turns.setNew {S : Nat → Prop} {a b : World} (h : Turns S a b) {p : Addr} (hp : a.heap.size ≤ p.block) (u : Value) : Turns S a (b.setCell p u) :=
  h.then_ (S' := fun k => k = p.block) ⟨rfl, rfl, rfl, by simp [World.setCell], fun j _ hj => Below.heap_setCell _ _ _ _ hj⟩ (fun _ _ h => h) (fun i hi e => by omega)
theorem own_far {w : World} {base : Nat} {e : TypeId} {size n : Nat} {v : Value} {xs : List Value} (h : w.ownsRow base e size v n xs) {p : Addr} (hp : v.ownBlock ≠ some p.block) (u : Value) : (w.setCell p u).ownsRow base e size v n xs :=
  h.kept (row := some p.block) ⟨rfl, rfl, rfl, by simp [World.setCell], fun j _ hj => Below.heap_setCell _ _ _ _ (fun e => hj (by simp [e]))⟩ (Or.inr hp)
/-- what l1Link leaves -/
def LinkPost (w : World) (vb : Value) (ae : Option Addr) (ce : Nat) (es : List Pr) (base : Nat) (e : Ending) (w' : World) : Prop :=
  ∃ ae' ce' es', e = .returned (.agg #[vb, .slice ae' (List.length es') ce']) ∧ w'.ownsRow base 111 2 (.slice ae' es'.length ce') es'.length (cellsOf es') ∧ Turns (fun b => some b = (Value.slice ae es.length ce).ownBlock) w w' ∧
    (∀ b, (Value.slice ae' es'.length ce').ownBlock = some b → (Value.slice ae es.length ce).ownBlock = some b ∨ w.heap.size ≤ b) ∧ es'.length ≤ es.length + 1 ∧ Ed1 es'

set_option maxRecDepth 100000 in
set_option maxHeartbeats 6400000 in
theorem l1Link_any (w : World) (bs es : List Pr) (ab ae : Option Addr) (cb ce : Nat) (base i j : Nat) (hi : i < bs.length) (hj : j < bs.length) (hpb : PairsAt w ab bs) (hn : ∀ k, k < bs.length → (nameAt bs k).size ≤ 1) (hbase : base ≤ w.heap.size)
    (ho : w.ownsRow base 111 2 (.slice ae es.length ce) es.length (cellsOf es)) (hl : es.length ≤ 1000) (h1 : Ed1 es) :
    Calls Tryd.prog 142 #[.agg #[.slice ab bs.length cb, .slice ae es.length ce], .int .i64 (i : Int), .int .i64 (j : Int)] w (LinkPost w (.slice ab bs.length cb) ae ce es base) := by
  obtain ⟨i0, hi0, hz0, hz1, hz2⟩ := info_parts Tryd.infoEdge
  have hbl := hpb.len
  have hA : Below w.heap.size w ((w.alloc (.cells #[.slice ab bs.length cb, .slice ae es.length ce] 32)).alloc (.cells #[.slice none 0 0, .slice none 0 0] 32)) := ((Below.refl _ _).alloc (Nat.le_refl _) _).alloc (by simp) _
  have hP : Two ((w.alloc (.cells #[.slice ab bs.length cb, .slice ae es.length ce] 32)).alloc (.cells #[.slice none 0 0, .slice none 0 0] 32)) w.heap.size (.slice ab bs.length cb) (.slice ae es.length ce) := (Below.heap_alloc _ _ _ (by simp)).trans (heap_alloc_new _ _)
  have hR : Two ((w.alloc (.cells #[.slice ab bs.length cb, .slice ae es.length ce] 32)).alloc (.cells #[.slice none 0 0, .slice none 0 0] 32)) (w.heap.size + 1) (.slice none 0 0) (.slice none 0 0) := by
    rw [show w.heap.size + 1 = (w.alloc (.cells #[.slice ab bs.length cb, .slice ae es.length ce] 32)).heap.size by simp]; exact heap_alloc_new _ _
  have hsA : ((w.alloc (.cells #[.slice ab bs.length cb, .slice ae es.length ce] 32)).alloc (.cells #[.slice none 0 0, .slice none 0 0] 32)).heap.size = w.heap.size + 2 := by simp
  have hoA := ownsRow_below ho hA
  have hpA := hpb.below hA
  obtain ⟨b, off, rfl, hb, g1, _⟩ := hpA.cell i hi
  obtain ⟨b', off', e', hb', g2, _⟩ := hpA.cell j hj
  cases e'
  have c0 := hP.cells.1
  have hlA := hP.cells.2.2.2.2
  have x1 : (0 : Int) ≤ (i : Int) := by omega
  have x2 : (i : Int) < (bs.length : Int) := by omega
  have x3 : (0 : Int) ≤ (j : Int) := by omega
  have x4 : (j : Int) < (bs.length : Int) := by omega
  have HA := Lib.hid (And.intro hA (And.intro hP (And.intro hR (And.intro hsA (And.intro hoA (And.intro hpA h1))))))
  have HN := Lib.hid (And.intro (hn i hi) (hn j hj))
  clear hA hP hR hsA hoA hpA h1 hn ho hpb
  go_enter Tryd.func142, Tryd.ntmps142
  go_wp2
  generalize (w.alloc (.cells #[.slice (some ⟨b, off, none⟩) bs.length cb, .slice ae es.length ce] 32)).alloc (.cells #[.slice none 0 0, .slice none 0 0] 32) = wA at *
  go_region_held3 (fun w' => w'.cell? ⟨w.heap.size, 0, none⟩ = some (.slice (some ⟨b, off, none⟩) bs.length cb) ∧ w'.cell? ⟨b, off + i * 2, none⟩ = some (.string (nameAt bs i)) ∧ w'.cell? ⟨b, off + j * 2, none⟩ = some (.string (nameAt bs j)))
    (first
      | exact ⟨c0, g1, g2⟩
      | exact ⟨(World.cell?_alloc_lt wA _ ⟨w.heap.size, 0, none⟩ hlA).trans c0, (World.cell?_alloc_lt wA _ ⟨b, off + i * 2, none⟩ hb).trans g1, (World.cell?_alloc_lt wA _ ⟨b, off + j * 2, none⟩ hb).trans g2⟩)
    (fail)
  have hbw : Below wA.heap.size wA (wA.alloc (.cells #[.string (nameAt bs i), .string (nameAt bs j)] 111)).drew := ((Below.refl _ _).alloc (Nat.le_refl _) _).drew
  have hP2 : Two (wA.alloc (.cells #[.string (nameAt bs i), .string (nameAt bs j)] 111)).drew w.heap.size _ _ := HA.out.2.1.of_cells (hbw.block _ hlA)
  have hE2 : (wA.alloc (.cells #[.string (nameAt bs i), .string (nameAt bs j)] 111)).drew.heap[wA.heap.size]? = some (.cells #[.string (nameAt bs i), .string (nameAt bs j)] 111 (0, 0)) := heap_alloc_new _ _
  have hz2' : (wA.alloc (.cells #[.string (nameAt bs i), .string (nameAt bs j)] 111)).drew.heap.size = wA.heap.size + 1 := by simp [World.drew]
  have HB := Lib.hid (And.intro hbw (And.intro hP2 (And.intro hE2 hz2')))
  clear hbw
  generalize (wA.alloc (.cells #[.string (nameAt bs i), .string (nameAt bs j)] 111)).drew = wB at *
  obtain ⟨d0, d1, _, _, _⟩ := hP2.cells
  have d2 : wB.cell? ⟨wA.heap.size, 0, none⟩ = some (.string (nameAt bs i)) := by rw [cell_of_row wB _ 0 _ _ (0, 0) hE2]; rfl
  have d3 : wB.cell? ⟨wA.heap.size, 1, none⟩ = some (.string (nameAt bs j)) := by rw [cell_of_row wB _ 1 _ _ (0, 0) hE2]; rfl
  clear hP2 hE2 hz2' c0 g1 g2
  go_wp2_with fail
  refine (l1Edge_any (nameAt bs i) (nameAt bs j) _ es _ _ _ (own_at rfl (ownsRow_below HA.out.2.2.2.2.1 HB.out.1) (by omega) HA.out.2.2.2.2.2.2.small)).mono ?_
  rintro e w1 ⟨rfl, hb1⟩
  have hsB : wB.heap.size = wA.heap.size + 1 := HB.out.2.2.2
  have hsA : wA.heap.size = w.heap.size + 2 := HA.out.2.2.2.1
  have hz9 := hb1.size
  have hP1 : Two w1 w.heap.size _ _ := HB.out.2.1.of_cells (hb1.block _ (by omega))
  have hR1 : Two w1 (w.heap.size + 1) _ _ := HA.out.2.2.1.of_cells ((hb1.block _ (by omega)).trans (HB.out.1.block _ (by omega)))
  have hE1 := (hb1.block wA.heap.size (by omega)).trans HB.out.2.2.1
  have hO1 := ownsRow_below (ownsRow_below HA.out.2.2.2.2.1 HB.out.1) hb1
  have hbw1 : Below w.heap.size w w1 := HA.out.1.trans ((HB.out.1.mono (by omega)).trans (hb1.mono (by omega)))
  have hdb := fndE_bd es (nameAt bs i, nameAt bs j)
  obtain ⟨c0, c1, f0, f1, hl0⟩ := hP1.cells
  obtain ⟨r0, r1, t0, t1, hl1⟩ := hR1.cells
  have d2 : w1.cell? ⟨wA.heap.size, 0, none⟩ = some (.string (nameAt bs i)) := by rw [cell_of_row w1 _ 0 _ _ (0, 0) hE1]; rfl
  have d3 : w1.cell? ⟨wA.heap.size, 1, none⟩ = some (.string (nameAt bs j)) := by rw [cell_of_row w1 _ 1 _ _ (0, 0) hE1]; rfl
  have HC := Lib.hid (And.intro hP1 (And.intro hR1 (And.intro hO1 hbw1)))
  have HZ := Lib.hid (And.intro hsA hsB)
  clear hP1 hR1 hE1 hO1 hbw1 hb1 hsA hsB d0 d1
  by_cases hneg : fndE es (nameAt bs i, nameAt bs j) < 0
  · go_wp2_with (at_builtin; refine wpList_append_lies _ rfl _ _ 30 rfl base 111 i0 (.agg #[.string ⟨#[]⟩, .string ⟨#[]⟩]) 2 32 Tryd.underlying30 hi0 hz0 hz1 hz2 rfl (by decide) _ es.length (cellsOf es) rfl (HC.out.2.2.1.alloc _) ⟨w1.heap.size, 0, none⟩ 1 1 [.string (nameAt bs i), .string (nameAt bs j)] rfl rfl (cell_two_new _ _ _ _) (two_one _ _ rfl rfl) (by decide) (by unfold maxLen; omega) (by omega) (by simp; omega) _ rfl ?_; intro g' cap' w4 hown4 hgrow4 hlies4 _; have hP4 : Two w4 w.heap.size _ _ := HC.out.1.of_cells ((hgrow4.block _ (by simp; omega) (fun e => own_neK HC.out.2.2.1 HC.out.1 (by decide) e.symm)).trans (Lib.alloc_old w1 _ _ hl0)); have hR4 : Two w4 (w.heap.size + 1) _ _ := HC.out.2.1.of_cells ((hgrow4.block _ (by simp; omega) (fun e => own_neK HC.out.2.2.1 HC.out.2.1 (by decide) e.symm)).trans (Lib.alloc_old w1 _ _ hl1)); obtain ⟨p0, p1, u0, u1, _⟩ := hP4.cells; obtain ⟨q0, q1, v0, v1, _⟩ := hR4.cells)
    have hT4 : Turns (fun b => some b = (Value.slice ae es.length ce).ownBlock) w w4 := ((Turns.of_below HC.out.2.2.2).trans (Turns.alloc w1 _)).trans (Turns.of_grown hgrow4)
    have hn1 := own_neK hown4 hP4 (by decide)
    have hn2 := own_neK hown4 hR4 (by decide)
    have HX := Lib.hid (And.intro hT4 (And.intro hown4 (And.intro hlies4 (And.intro hn1 hn2))))
    clear hT4 hown4 hlies4 hgrow4 hP4 hR4 hn1 hn2
    go_wp2
    refine bodyPost_ret (v := .agg #[.slice (some ⟨b, off, none⟩) bs.length cb, .slice (some ⟨g', 0, none⟩) (es.length + 1) cap']) (by simp [results, Tryd.results142, go_sem, q0, q1]) rfl ?_
    refine ⟨some ⟨g', 0, none⟩, cap', es ++ [(nameAt bs i, nameAt bs j)], by simp, ?_, ?_, ?_, by simp, HA.out.2.2.2.2.2.2.snoc HN.out.1 HN.out.2⟩
    · rw [cellsOf_snoc, List.length_append]
      exact own_far (own_far (own_far HX.out.2.1 HX.out.2.2.2.1 _) HX.out.2.2.2.2 _) HX.out.2.2.2.2 _
    · exact ((HX.out.1.setNew (Nat.le_refl _) _).setNew (by simp) _).setNew (by simp) _
    · intro b2 hb2
      simp only [Value.ownBlock, Option.some.injEq] at hb2
      subst hb2
      rcases HX.out.2.2.1 with h9 | h9
      · exact .inl h9
      · exact .inr (by simp at h9; omega)
  · have HT := Lib.hid (show Turns (fun b => some b = (Value.slice ae es.length ce).ownBlock) w w1 from .of_below HC.out.2.2.2)
    have hn2 := own_neK HC.out.2.2.1 HC.out.2.1 (by decide)
    have HX := Lib.hid hn2
    clear hn2
    go_wp2
    refine bodyPost_ret (v := .agg #[.slice (some ⟨b, off, none⟩) bs.length cb, .slice ae es.length ce]) (by simp [results, Tryd.results142, go_sem, r0, r1]) rfl ?_
    exact ⟨ae, ce, es, rfl, own_far (own_far HC.out.2.2.1 HX.out _) HX.out _, (HT.out.setNew (by simp) _).setNew (by simp) _, fun b h => .inl h, by omega, HA.out.2.2.2.2.2.2⟩
end Go.Proofs.YtngcmjfkeageiaaDoor
end

section
/-
  What a drawn program's building keeps: the source, the result's block, the program's block, its two rows. Conditions: none.
-/
namespace Go.Proofs.YtngcmjfkeageiaaDoor
open Go.RowKit Go.Maps

/-- blocks whose names have at most one byte, and at most a thousand letters -/
def Bk1 (L : List Pr) : Prop := ∀ i, i < L.length → (nameAt L i).size ≤ 1 ∧ (restAt L i).size ≤ 1000
theorem Bk1.snoc {L : List Pr} {p : Pr} (h : Bk1 L) (h1 : p.1.size ≤ 1) (h2 : p.2.size ≤ 1000) : Bk1 (L ++ [p]) := by
  intro i hi
  simp only [List.length_append, List.length_cons, List.length_nil] at hi
  unfold nameAt restAt
  by_cases e : i < L.length
  · rw [List.getD_eq_getElem?_getD, List.getElem?_append_left e, ← List.getD_eq_getElem?_getD]; exact h i e
  · obtain rfl : i = L.length := by omega
    simp [List.getD_eq_getElem?_getD, h1, h2]
theorem Bk1.small {L : List Pr} (h : Bk1 L) : ∀ i, i < L.length → (nameAt L i).size ≤ 1048576 ∧ (restAt L i).size ≤ 1048576 := fun i hi => by have := h i hi; omega
theorem Turns.rd {g : Nat} {w w' : World} {b : Nat} (h : Turns (fun k => k = g) w w') {c : Array Value} {t : TypeId} {fz : Nat × Nat} (hb : w.heap[b]? = some (.cells c t fz)) (hne : b ≠ g) : w'.heap[b]? = some (.cells c t fz) :=
  (h.block b (Array.getElem?_eq_some_iff.1 hb).1 hne).trans hb
theorem RdAt.turns {w w' : World} {g : Nat} {a : Option Addr} {n cap p p' : Nat} (h : RdAt w g a n cap p) (ht : Turns (fun k => k = g) w w') (hh : w'.heap[g]? = some (.cells #[.slice a n cap, .int .i64 p'] 180 (0, 0))) : RdAt w' g a n cap p' where
  here := hh
  few := h.few
  byte i hi := by
    obtain ⟨b, off, v, e, h1, h2, h3, h4, h5⟩ := h.byte i hi
    exact ⟨b, off, v, e, h1, Nat.lt_of_lt_of_le h2 ht.size, h3, h4, (ht.cellT h2 h1).trans h5⟩
structure GS (w wr : World) (g : Nat) (a : Option Addr) (n cap p R Q : Nat) (vb ve : Value) (L E : List Pr) : Prop where
  ent : ∃ p0, RdAt w g a n cap p0
  rd : RdAt wr g a n cap p
  res : Two wr R (.slice none 0 0) (.slice none 0 0)
  two : Two wr Q vb ve
  ob : wr.ownsRow w.heap.size 40 2 vb L.length (cellsOf L)
  oe : wr.ownsRow w.heap.size 111 2 ve E.length (cellsOf E)
  tu : Turns (fun k => k = g) w wr
section
variable {w wr w' : World} {g : Nat} {a : Option Addr} {n cap p p' R Q : Nat} {vb ve : Value} {L E : List Pr}
theorem GS.rne (h : GS w wr g a n cap p R Q vb ve L E) : R ≠ g := by
  rintro rfl
  have h1 := h.res
  have h2 := h.rd.here
  unfold Two at h1
  rw [h1] at h2
  simp at h2
theorem GS.qne (h : GS w wr g a n cap p R Q vb ve L E) : Q ≠ g := by
  rintro rfl
  have h1 := h.two
  have h2 := h.rd.here
  unfold Two at h1
  rw [h1] at h2
  simp at h2
theorem GS.bne (h : GS w wr g a n cap p R Q vb ve L E) : vb.ownBlock ≠ some g := own_neK h.ob h.rd.here (by decide)
theorem GS.ene (h : GS w wr g a n cap p R Q vb ve L E) : ve.ownBlock ≠ some g := own_neK h.oe h.rd.here (by decide)
/-- a draw -/
theorem GS.draw (h : GS w wr g a n cap p R Q vb ve L E) (ht : Turns (fun k => k = g) wr w') (hr : RdAt w' g a n cap p') : GS w w' g a n cap p' R Q vb ve L E where
  ent := h.ent
  rd := hr
  res := ht.rd h.res h.rne
  two := ht.rd h.two h.qne
  ob := ht.row h.ob (fun b hb e => by subst e; exact h.bne hb)
  oe := ht.row h.oe (fun b hb e => by subst e; exact h.ene hb)
  tu := h.tu.then_ ht (fun _ _ h => h) (fun _ _ h => h)
theorem GS.below (h : GS w wr g a n cap p R Q vb ve L E) (hb : Below wr.heap.size wr w') : GS w w' g a n cap p R Q vb ve L E := h.draw (.of_below hb) (h.rd.below hb)
theorem GS.alloc (h : GS w wr g a n cap p R Q vb ve L E) (o : Obj) : GS w (wr.alloc o) g a n cap p R Q vb ve L E := h.below ((Below.refl _ _).alloc (Nat.le_refl _) _)
/-- the blocks' row has grown, and stands in the program's block -/
theorem GS.growB (h : GS w wr g a n cap p R Q vb ve L E) {wx w4 : World} {v' : Value} {L' : List Pr} (hx : Below wr.heap.size wr wx) (hg : wx.grownBy w4 vb.ownBlock) (hown : w4.ownsRow w.heap.size 40 2 v' L'.length (cellsOf L')) (hR : R ≠ Q) (hQ : w.heap.size ≤ Q) :
    GS w (w4.setCell ⟨Q, 0, none⟩ v') g a n cap p R Q v' ve L' E := by
  have hz := hx.size
  have ht : Turns (fun b => some b = vb.ownBlock) wr w4 := (Turns.of_below hx).then_ (Turns.of_grown hg) (fun _ _ h => h) (fun _ _ h => h)
  have hRl := (Array.getElem?_eq_some_iff.1 h.res).1
  have hQl := (Array.getElem?_eq_some_iff.1 h.two).1
  have hgl := h.rd.lt
  have hR4 : Two w4 R _ _ := h.res.of_cells (ht.block R hRl (fun e => own_neK h.ob h.res (by decide) e.symm))
  have hQ4 : Two w4 Q _ _ := h.two.of_cells (ht.block Q hQl (fun e => own_neK h.ob h.two (by decide) e.symm))
  have hE4 := ht.row h.oe (fun b hb e => by
    obtain ⟨c9, z9, h9⟩ := Lib.ownsRow_kind h.oe b hb
    exact own_neK h.ob h9 (by decide) e.symm)
  have hset : Turns (fun k => k = Q) w4 (w4.setCell ⟨Q, 0, none⟩ v') := ⟨rfl, rfl, rfl, by simp [World.setCell], fun j _ hj => Below.heap_setCell _ _ _ _ hj⟩
  have htu : Turns (fun k => k = g) w (w4.setCell ⟨Q, 0, none⟩ v') := (h.tu.then_ ht (T := fun k => k = g) (fun _ _ h => h) (fun i hi e => by have := (h.ob.lt i e.symm).1; omega)).setNew hQ _
  obtain ⟨p0, h0⟩ := h.ent
  refine ⟨h.ent, h0.turns htu ?_, hR4.far hR _, hQ4.set0 _, own_far hown (own_neK hown hQ4 (by decide)) _, own_far hE4 (own_neK hE4 hQ4 (by decide)) _, htu⟩
  exact (hset.block g (Nat.lt_of_lt_of_le hgl ht.size) h.qne.symm).trans ((ht.block g hgl (fun e => h.bne e.symm)).trans h.rd.here)
/-- an edge linked: the program's block holds what l1Link answers -/
theorem GS.link (h : GS w wr g a n cap p R Q vb ve L E) {w4 : World} {v' : Value} {E' : List Pr} (ht : Turns (fun b => some b = ve.ownBlock) wr w4) (hown : w4.ownsRow w.heap.size 111 2 v' E'.length (cellsOf E')) (hR : R ≠ Q) (hQ : w.heap.size ≤ Q) :
    GS w ((w4.setCell ⟨Q, 0, none⟩ vb).setCell ⟨Q, 1, none⟩ v') g a n cap p R Q vb v' L E' := by
  have hRl := (Array.getElem?_eq_some_iff.1 h.res).1
  have hQl := (Array.getElem?_eq_some_iff.1 h.two).1
  have hgl := h.rd.lt
  have hR4 : Two w4 R _ _ := h.res.of_cells (ht.block R hRl (fun e => own_neK h.oe h.res (by decide) e.symm))
  have hQ4 : Two w4 Q _ _ := h.two.of_cells (ht.block Q hQl (fun e => own_neK h.oe h.two (by decide) e.symm))
  have hB4 := ht.row h.ob (fun b hb e => by
    obtain ⟨c9, z9, h9⟩ := Lib.ownsRow_kind h.ob b hb
    exact own_neK h.oe h9 (by decide) e.symm)
  have hset : Turns (fun k => k = Q) w4 ((w4.setCell ⟨Q, 0, none⟩ vb).setCell ⟨Q, 1, none⟩ v') := ⟨rfl, rfl, rfl, by simp [World.setCell], fun j _ hj => (Below.heap_setCell _ _ _ _ hj).trans (Below.heap_setCell _ _ _ _ hj)⟩
  have htu : Turns (fun k => k = g) w ((w4.setCell ⟨Q, 0, none⟩ vb).setCell ⟨Q, 1, none⟩ v') := ((h.tu.then_ ht (T := fun k => k = g) (fun _ _ h => h) (fun i hi e => by have := (h.oe.lt i e.symm).1; omega)).setNew hQ _).setNew hQ _
  obtain ⟨p0, h0⟩ := h.ent
  refine ⟨h.ent, h0.turns htu ?_, (hR4.far hR _).far hR _, (hQ4.set0 _).set1 _, own_far (own_far hB4 (own_neK hB4 hQ4 (by decide)) _) (own_neK hB4 hQ4 (by decide)) _, own_far (own_far hown (own_neK hown hQ4 (by decide)) _) (own_neK hown hQ4 (by decide)) _, htu⟩
  exact (hset.block g (Nat.lt_of_lt_of_le hgl ht.size) h.qne.symm).trans ((ht.block g hgl (fun e => h.ene e.symm)).trans h.rd.here)
end
end Go.Proofs.YtngcmjfkeageiaaDoor
end

section
/-
  The model's l1Good: a valid program, drawn. Conditions: at most 900000 numbers drawn before.
-/
namespace Go.Proofs.YtngcmjfkeageiaaDoor
open Go.RowKit Go.Maps

/-- a valid program in memory; only the source is written -/
def GoodDraw (w : World) (g : Nat) (a : Option Addr) (n cap p : Nat) (e : Ending) (w' : World) : Prop := ∃ bs es ab ae cb ce, e = .returned (.agg #[.slice ab bs.length cb, .slice ae es.length ce]) ∧ Valid bs es ∧ PairsAt w' ab bs ∧ PairsAt w' ae es ∧ Drawn w w' g a n cap p 80
theorem PairsAt.setS {w : World} {a : Option Addr} {l : List Pr} (h : PairsAt w a l) {p : Addr} {v u : Value} (hc : w.cell? p = some v) (hv : ∀ s, v ≠ .string s) : PairsAt (w.setCell p u) a l :=
  ⟨h.len, h.size, fun i hi => by
    obtain ⟨b, off, e, hb, h1, h2⟩ := h.cell i hi
    refine ⟨b, off, e, by simpa [World.setCell] using hb, ?_, ?_⟩
    · rw [World.cell?_setCell_other]
      · exact h1
      · rintro rfl; rw [hc] at h1; exact hv _ (Option.some.inj h1)
    · rw [World.cell?_setCell_other]
      · exact h2
      · rintro rfl; rw [hc] at h2; exact hv _ (Option.some.inj h2)⟩
theorem l1Link_int (w : World) (bs es : List Pr) (ab ae : Option Addr) (cb ce : Nat) (base i j : Nat) (I J : Int) (hI : I = i) (hJ : J = j) (hi : i < bs.length) (hj : j < bs.length) (hpb : PairsAt w ab bs) (hn : ∀ k, k < bs.length → (nameAt bs k).size ≤ 1) (hbase : base ≤ w.heap.size)
    (ho : w.ownsRow base 111 2 (.slice ae es.length ce) es.length (cellsOf es)) (hl : es.length ≤ 1000) (h1 : Ed1 es) :
    Calls Tryd.prog 142 #[.agg #[.slice ab bs.length cb, .slice ae es.length ce], .int .i64 I, .int .i64 J] w (LinkPost w (.slice ab bs.length cb) ae ce es base) := by
  subst hI hJ; exact l1Link_any w bs es ab ae cb ce base i j hi hj hpb hn hbase ho hl h1
theorem num_in1 : ∀ x ∈ [(5 : Int), 4, 6, 3, 7, 5], 3 ≤ x ∧ x ≤ 7 := by decide
theorem num_in2 : ∀ x ∈ [(1 : Int), 0, 1, 2, 0, 3], 0 ≤ x ∧ x ≤ 3 := by decide
theorem num_in3 : ∀ x ∈ [(2 : Int), 3, 1, 4, 0], 0 ≤ x ∧ x ≤ 4 := by decide
def opsL : List ByteArray := [⟨#[120]⟩, ⟨#[120]⟩, ⟨#[88]⟩, ⟨#[120]⟩, ⟨#[121]⟩, ⟨#[89]⟩, ⟨#[120]⟩]
theorem opsL_one {x : ByteArray} (h : x ∈ opsL) : x.size = 1 := by
  unfold opsL at h
  repeat (rcases List.mem_cons.1 h with rfl | h; · rfl)
  cases h
def abcT : ByteArray := ⟨#[65, 66, 67, 68, 69, 70, 71, 72, 73]⟩

set_option maxRecDepth 100000 in
set_option maxHeartbeats 6400000 in
theorem l1Good_any (w : World) (g : Nat) (a : Option Addr) (n cap p : Nat) (hp : p ≤ 900000) (h : RdAt w g a n cap p) :
    Calls Tryd.prog 86 #[.pointer (some ⟨g, 0, none⟩)] w (GoodDraw w g a n cap p) := by
  have hA : Below w.heap.size w (w.alloc (.cells #[.slice none 0 0, .slice none 0 0] 32)) := (Below.refl _ _).alloc (Nat.le_refl _) _
  have hR : Two (w.alloc (.cells #[.slice none 0 0, .slice none 0 0] 32)) w.heap.size (.slice none 0 0) (.slice none 0 0) := heap_alloc_new _ _
  have hgl := h.lt
  have hrA := h.below hA
  have H0 := Lib.hid (And.intro h (And.intro (Turns.of_below (S := fun k => k = g) hA) hR))
  clear h hA hR
  obtain ⟨i0, hi, hz0, hz1, hz2⟩ := info_parts Tryd.infoBlock
  go_enter Tryd.func86, Tryd.ntmps86
  go_wp2_with fail
  refine (pick_any _ g a n cap p 3 (by decide) (by decide) (by omega) hrA).mono ?_
  rintro e w1 ⟨r, rfl, hr0, hr1, hrd, htu⟩
  have hr2 := hr1 (by decide)
  have hR1 : Two w1 w.heap.size _ _ := htu.rd H0.out.2.2 (by omega)
  have hsz1 := htu.size
  simp at hsz1
  have H1 := Lib.hid (And.intro hrd (And.intro (H0.out.2.1.trans htu) hR1))
  clear hr1 htu hrA hrd hR1
  by_cases hz : r = 0
  · subst hz
    have hrd := H1.out.1
    go_wp2_with fail
    refine (pick_any _ g a n cap (p + 1) 12 (by decide) (by decide) (by omega) hrd).mono ?_
    rintro e w2 ⟨r2, rfl, hr20, hr21, hrd2, htu2⟩
    obtain ⟨k, rfl⟩ := Int.eq_ofNat_of_zero_le hr20
    have hk : k < 12 := by have := hr21 (by decide); omega
    have H2 := Lib.hid (And.intro hrd2 (And.intro (H1.out.2.1.trans htu2) (htu2.rd H1.out.2.2 (by omega))))
    have hs2 := htu2.size
    clear hr20 hr21 htu2 hrd hrd2
    go_wp2_with fail
    refine (l1Sample_any _ k hk).mono ?_
    rintro e w3 ⟨bs, es, ab, ae, cb, ce, rfl, hV, hPb, hPe, hb3⟩
    have hR3 : Two w3 w.heap.size _ _ := (hb3.block _ (by omega)).trans H2.out.2.2
    obtain ⟨r0, r1, t0, t1, _⟩ := hR3.cells
    have hn : ∀ s, Value.slice none 0 0 ≠ .string s := fun s h => by cases h
    have hPb' := (hPb.setS (u := .slice ab bs.length cb) r0 hn).setS (p := ⟨w.heap.size, 1, none⟩) (u := .slice ae es.length ce) ((hR3.set0 (.slice ab bs.length cb)).cells.2.1) hn
    have hPe' := (hPe.setS (u := .slice ab bs.length cb) r0 hn).setS (p := ⟨w.heap.size, 1, none⟩) (u := .slice ae es.length ce) ((hR3.set0 (.slice ab bs.length cb)).cells.2.1) hn
    have htf := ((H2.out.2.1.trans (Turns.of_below hb3)).setNew (p := ⟨w.heap.size, 0, none⟩) (Nat.le_refl _) (.slice ab bs.length cb)).setNew (p := ⟨w.heap.size, 1, none⟩) (Nat.le_refl _) (.slice ae es.length ce)
    have hh3 := (hb3.block g (by omega)).trans H2.out.1.here
    have hhf : ((w3.setCell ⟨w.heap.size, 0, none⟩ (.slice ab bs.length cb)).setCell ⟨w.heap.size, 1, none⟩ (.slice ae es.length ce)).heap[g]? = w3.heap[g]? := (Below.heap_setCell _ _ _ _ (by simp; omega)).trans (Below.heap_setCell _ _ _ _ (by simp; omega))
    have HX := Lib.hid (And.intro hV (And.intro hPb' (And.intro hPe' (And.intro htf (H0.out.1.turns htf (hhf.trans hh3))))))
    clear hV hPb hPe hPb' hPe' htf hh3 hhf hb3 hR3 hn
    go_wp2
    refine bodyPost_ret (v := .agg #[.slice ab bs.length cb, .slice ae es.length ce]) (by simp [results, Tryd.results86, go_sem, r0, r1]) rfl ?_
    exact ⟨bs, es, ab, ae, cb, ce, rfl, HX.out.1, HX.out.2.1, HX.out.2.2.1, (p + 1) + 1, by omega, HX.out.2.2.2.2, HX.out.2.2.2.1⟩
  · have d1 : (r == 0) = false := by simpa using hz
    clear hz
    go_wp2_with fail
    refine (num_new w1 g a n cap (p + 1) [5, 4, 6, 3, 7, 5] (by omega) H1.out.1 (by decide) (by decide)).mono ?_
    rintro e w2 ⟨nn, hnn, rfl, hrd2, htu2⟩
    obtain ⟨hn3, hn7⟩ := num_in1 nn hnn
    obtain ⟨N, rfl⟩ := Int.eq_ofNat_of_zero_le (show 0 ≤ nn by omega)
    have hs2 := htu2.size
    have hR2 : Two w2 w.heap.size _ _ := htu2.rd H1.out.2.2 (by omega)
    have hG : GS w (((w2.alloc (.cells #[] 40)).alloc (.cells #[] 111)).alloc (.cells #[.slice (some ⟨w2.heap.size, 0, none⟩) 0 0, .slice (some ⟨w2.heap.size + 1, 0, none⟩) 0 0] 32)) g a n cap (p + 1 + 1) w.heap.size (w2.heap.size + 1 + 1) (.slice (some ⟨w2.heap.size, 0, none⟩) 0 0) (.slice (some ⟨w2.heap.size + 1, 0, none⟩) 0 0) [] [] := by
      have hb : Below w2.heap.size w2 (((w2.alloc (.cells #[] 40)).alloc (.cells #[] 111)).alloc (.cells #[.slice (some ⟨w2.heap.size, 0, none⟩) 0 0, .slice (some ⟨w2.heap.size + 1, 0, none⟩) 0 0] 32)) := (((Below.refl _ _).alloc (Nat.le_refl _) _).alloc (by simp) _).alloc (by simp; omega) _
      refine ⟨⟨p, H0.out.1⟩, hrd2.below hb, (hb.block _ (by omega)).trans hR2, ?_, ?_, ?_, (H1.out.2.1.trans htu2).trans (.of_below hb)⟩
      · unfold Two
        rw [show w2.heap.size + 1 + 1 = ((w2.alloc (.cells #[] 40)).alloc (.cells #[] 111)).heap.size by simp]; exact heap_alloc_new _ _
      · exact ((World.ownsRow_made w2 #[] 0 (by omega) (Nat.zero_le _) rfl).alloc _).alloc _
      · have := ((World.ownsRow_made (w2.alloc (.cells #[] 40)) (base := w.heap.size) (e := 111) (size := 2) #[] 0 (by simp; omega) (Nat.zero_le _) rfl).alloc (.cells #[.slice (some ⟨w2.heap.size, 0, none⟩) 0 0, .slice (some ⟨w2.heap.size + 1, 0, none⟩) 0 0] 32))
        simpa [cellsOf] using this
    have HG := Lib.hid hG
    have hRQ : w.heap.size < w2.heap.size + 1 + 1 := by omega
    clear hG hR2 htu2 hrd2 hnn
    go_wp2
    go_loopw [21] (fun i wr => ∃ (k p' : Nat) (vb : Value) (L : List Pr), k ≤ N ∧ i = .int .i64 k ∧ L.length = k ∧ Bk1 L ∧ p' ≤ p + 2 + 4 * k ∧ GS w wr g a n cap p' w.heap.size (w2.heap.size + 1 + 1) vb (.slice (some ⟨w2.heap.size + 1, 0, none⟩) 0 0) L []) (fun i _ => N - (intOf i).toNat)
    case atStart => exact ⟨0, p + 1 + 1, _, [], Nat.zero_le _, rfl, rfl, fun i h => absurd h (Nat.not_lt_zero _), by omega, HG.out⟩
    case round =>
      obtain ⟨k, p', vb, L, hk, rfl, hLl, hB, hp', hG⟩ := hrel
      have HLl := Lib.hid (And.intro hLl hB); clear hLl hB
      have HGr := Lib.hid hG
      have hgr := hG.tu.size
      by_cases hlt : k < N
      · have w3 : IntKind.i64.wrap ((k : Int) + 1) = (k : Int) + 1 := IntWalk.i64_in _ (by omega)
        have s3 := run_slice_str abcT (k : Int) ((k : Int) + 1) k (k + 1) rfl (by omega) (by omega) (show k + 1 ≤ 9 by omega)
        have HX := Lib.hid (show (abcT.extract k (k + 1)).size ≤ 1 by rw [ByteArray.size_extract]; omega)
        generalize abcT.extract k (k + 1) = X at *
        unfold abcT at s3
        by_cases hk0 : (0 : Int) < (k : Int)
        · clear hG
          go_wp2_with fail
          refine (num_new wr g a n cap p' [1, 0, 1, 2, 0, 3] (by omega) HGr.out.rd (by decide) (by decide)).mono ?_
          rintro e w4 ⟨mm, hmm, rfl, hrd4, htu4⟩
          obtain ⟨hm0, hm3⟩ := num_in2 mm hmm
          obtain ⟨M, rfl⟩ := Int.eq_ofNat_of_zero_le hm0
          have HG4 := Lib.hid (HGr.out.draw htu4 hrd4)
          clear htu4 hrd4 hmm
          obtain ⟨wo, rfl⟩ : ∃ wo, wo = wr := ⟨_, rfl⟩
          go_wp2
          go_loopw [29, 6] (fun i o wr => ∃ (j p'' : Nat) (s : ByteArray), j ≤ M ∧ i = .int .i64 j ∧ o = .string s ∧ s.size ≤ j ∧ p'' ≤ p' + 1 + j ∧ GS w wr g a n cap p'' w.heap.size (w2.heap.size + 1 + 1) vb (.slice (some ⟨w2.heap.size + 1, 0, none⟩) 0 0) L []) (fun i _ _ => M - (intOf i).toNat)
          case atStart => exact ⟨0, p' + 1, _, Nat.zero_le _, rfl, rfl, Nat.le_refl _, by omega, HG4.out⟩
          case round =>
            obtain ⟨j, p'', s, hj, rfl, rfl, hsj, hp'', hG⟩ := hrel
            have HGi := Lib.hid hG
            by_cases hjl : j < M
            · clear hG
              go_wp2_with fail
              refine (of_new wr g a n cap p'' opsL (by omega) HGi.out.rd (by decide) (by decide)).mono ?_
              rintro e w5 ⟨x, hx, rfl, hrd5, htu5⟩
              have hx1 := opsL_one hx
              have HGj := Lib.hid (HGi.out.draw htu5 hrd5)
              have t0 : ¬ 9223372036854775807 < s.size + x.size := by omega
              have HS := Lib.hid (show (s ++ x).size ≤ j + 1 by rw [ByteArray.size_append]; omega)
              clear hx hx1 hrd5 htu5
              go_wp2
              go_roundw
              case rel => exact ⟨j + 1, p'' + 1, _, by omega, by go_num, rfl, HS.out, by omega, HGj.out⟩
              case measure => simp [intOf]; omega
            · have hwz := hG.tu.size
              have hs9 : s.size ≤ 1000 := by omega
              have hpz : p'' ≤ p + 2 + 4 * (k + 1) := by omega
              obtain ⟨wa, wc, rfl⟩ := own_form hG.ob
              obtain ⟨c0, c1, f0, f1, hQl⟩ := hG.two.cells
              have hb1 : some (w2.heap.size + 1 + 1) ≠ (Value.slice wa L.length wc).ownBlock := fun e => own_neK hG.ob hG.two (by decide) e.symm
              have e0' : wr.drew.cell? ⟨w2.heap.size + 1 + 1, 0, none⟩ = some (.slice wa L.length wc) := c0
              have hLk : L.length = k := HLl.out.1
              have hLs : L.length ≤ 7 := by omega
              have HK := Lib.hid hLk
              have x1 : (0 : Int) ≤ (k : Int) := by omega
              have x2 : (0 : Int) ≤ (k : Int) + 1 := by omega
              clear hG hLk c1 f1
              go_wp2
              go_region_law (first
                | (refine step_append_lies _ rfl (.tmp 38) (.tmp 45) 29 rfl w.heap.size 40 i0 (.agg #[.string ⟨#[]⟩, .string ⟨#[]⟩]) 2 32 Tryd.underlying29 hi hz0 hz1 hz2 rfl (by decide) _ L.length (cellsOf L) rfl ((ownsRow_below HGi.out.ob (Below.refl _ _).drew).alloc _) ⟨wr.heap.size, 0, none⟩ 1 1 [.string X, .string s] rfl rfl (cell_two_new _ _ _ _) (two_one _ _ rfl rfl) (by decide) (by unfold maxLen; omega) (by omega) (by simp; omega) _ rfl ?_
                   intro g' cap' w6 hown6 hgrow6 hlies6 _
                   have hT6 : Two w6 (w2.heap.size + 1 + 1) (.slice wa L.length wc) _ := HGi.out.two.of_cells ((hgrow6.block _ (by simp; omega) hb1).trans (Lib.alloc_old wr.drew _ _ hQl))
                   have e6 := hT6.cells.1
                   have f6 := hT6.cells.2.2.1))
              all_goals
                have hGN := HGi.out.growB (v' := .slice (some ⟨g', 0, none⟩) (L.length + 1) cap') (L' := L ++ [(X, s)]) (((Below.refl _ _).drew).alloc (Nat.le_refl _) _) hgrow6 (by rw [cellsOf_snoc, List.length_append]; exact hown6) (by omega) (by omega)
                have HGN := Lib.hid hGN
                clear hGN hown6 hgrow6 hlies6 hT6 e6 f6
                go_wp2
                go_roundw
                case rel => exact ⟨k + 1, p'', _, L ++ [(X, s)], by omega, by go_num, by rw [List.length_append, HK.out]; rfl, HLl.out.2.snoc HX.out hs9, hpz, HGN.out⟩
                case measure => simp [intOf]; omega
        · have hG' := hG
          obtain ⟨p'', hpe⟩ : ∃ p'', p'' = p' := ⟨_, rfl⟩
          obtain ⟨s, hse⟩ : ∃ s : ByteArray, s = ⟨#[]⟩ := ⟨_, rfl⟩
          have HGi := HGr
          rw [← hpe] at HGi
          have hwz := hG.tu.size
          have hs9 : s.size ≤ 1000 := by rw [hse]; exact Nat.zero_le _
          have hpz : p'' ≤ p + 2 + 4 * (k + 1) := by omega
          rw [← hpe] at hG
          have HPE := Lib.hid (And.intro hpe hse)
          clear hpe hG'
          subst hse
          obtain ⟨wa, wc, rfl⟩ := own_form hG.ob
          obtain ⟨c0, c1, f0, f1, hQl⟩ := hG.two.cells
          have hb1 : some (w2.heap.size + 1 + 1) ≠ (Value.slice wa L.length wc).ownBlock := fun e => own_neK hG.ob hG.two (by decide) e.symm
          have e0' : wr.drew.cell? ⟨w2.heap.size + 1 + 1, 0, none⟩ = some (.slice wa L.length wc) := c0
          have hLk : L.length = k := HLl.out.1
          have hLs : L.length ≤ 7 := by omega
          have HK := Lib.hid hLk
          have x1 : (0 : Int) ≤ (k : Int) := by omega
          have x2 : (0 : Int) ≤ (k : Int) + 1 := by omega
          clear hG hLk c1 f1
          go_wp2
          go_region_law (first
            | (refine step_append_lies _ rfl (.tmp 38) (.tmp 45) 29 rfl w.heap.size 40 i0 (.agg #[.string ⟨#[]⟩, .string ⟨#[]⟩]) 2 32 Tryd.underlying29 hi hz0 hz1 hz2 rfl (by decide) _ L.length (cellsOf L) rfl ((ownsRow_below HGi.out.ob (Below.refl _ _).drew).alloc _) ⟨wr.heap.size, 0, none⟩ 1 1 [.string X, .string ⟨#[]⟩] rfl rfl (cell_two_new _ _ _ _) (two_one _ _ rfl rfl) (by decide) (by unfold maxLen; omega) (by omega) (by simp; omega) _ rfl ?_
               intro g' cap' w6 hown6 hgrow6 hlies6 _
               have hT6 : Two w6 (w2.heap.size + 1 + 1) (.slice wa L.length wc) _ := HGi.out.two.of_cells ((hgrow6.block _ (by simp; omega) hb1).trans (Lib.alloc_old wr.drew _ _ hQl))
               have e6 := hT6.cells.1
               have f6 := hT6.cells.2.2.1))
          all_goals
            have hGN := HGi.out.growB (v' := .slice (some ⟨g', 0, none⟩) (L.length + 1) cap') (L' := L ++ [(X, ⟨#[]⟩)]) (((Below.refl _ _).drew).alloc (Nat.le_refl _) _) hgrow6 (by rw [cellsOf_snoc, List.length_append]; exact hown6) (by omega) (by omega)
            have HGN := Lib.hid hGN
            clear hGN hown6 hgrow6 hlies6 hT6 e6 f6
            go_wp2
            go_roundw
            case rel => exact ⟨k + 1, p'', _, L ++ [(X, ⟨#[]⟩)], by omega, by go_num, by rw [List.length_append, HK.out]; rfl, HLl.out.2.snoc HX.out hs9, hpz, HGN.out⟩
            case measure => simp [intOf]; omega
      · obtain ⟨N1, hN1⟩ : ∃ N1, N = N1 + 1 := ⟨N - 1, by omega⟩
        have hwN : IntKind.i64.wrap ((N : Int) - 1) = (N1 : Int) := by rw [show (N : Int) - 1 = (N1 : Int) by omega]; exact IntWalk.i64_in _ (by omega)
        have hkN : N1 + 1 ≤ k := by omega
        have hN6 : N1 ≤ 6 := by omega
        have hN2 : 2 ≤ N1 := by omega
        have hk7 : k ≤ 7 := by omega
        have hpk : p' ≤ p + 30 := by omega
        have HNN := Lib.hid hN1
        obtain ⟨xa, xc, rfl⟩ := own_form hG.ob
        have hltN := hlt
        clear hN1 hlt hk hG hp'
        have HGr' := HGr
        clear HGr
        obtain ⟨w7, rfl⟩ : ∃ w7, w7 = wr := ⟨_, rfl⟩
        go_wp2
        go_loopw [51] (fun i wr => ∃ (q : Nat) (ve : Value) (E : List Pr), q ≤ N1 ∧ i = .int .i64 q ∧ E.length ≤ q ∧ Ed1 E ∧ GS w wr g a n cap p' w.heap.size (w2.heap.size + 1 + 1) (.slice xa L.length xc) ve L E) (fun i _ => N1 - (intOf i).toNat)
        case atStart => exact ⟨0, _, [], Nat.zero_le _, rfl, Nat.le_refl _, fun i h => absurd h (Nat.not_lt_zero _), HGr'.out⟩
        case round =>
          obtain ⟨q, ve, E, hq, rfl, hEl, hE1, hG⟩ := hrel
          have hgr7 := hG.tu.size
          obtain ⟨ya, yc, rfl⟩ := own_form hG.oe
          obtain ⟨c0, c1, f0, f1, hQl⟩ := hG.two.cells
          have HL2 := Lib.hid (And.intro hG (And.intro hE1 hEl))
          by_cases hlt : q < N1
          · have wq : IntKind.i64.wrap ((q : Int) + 1) = (q : Int) + 1 := IntWalk.i64_in _ (by omega)
            clear hG hE1 hEl
            go_wp2_with fail
            refine (l1Link_int wr L E _ _ _ _ w.heap.size q (q + 1) _ _ rfl (by omega) (by rw [HLl.out.1]; omega) (by rw [HLl.out.1]; omega) (own_at rfl HL2.out.1.ob (by rw [HLl.out.1]; omega) HLl.out.2.small) (fun k h => (HLl.out.2 k h).1) (by omega) HL2.out.1.oe (by have := HL2.out.2.2; omega) HL2.out.2.1).mono ?_
            rintro e w8 ⟨ya', yc', E', rfl, ho8, ht8, hl8, hlen8, hE8⟩
            have hT8 : Two w8 (w2.heap.size + 1 + 1) _ _ := ht8.two HL2.out.1.two (fun e => own_neK HL2.out.1.oe HL2.out.1.two (by decide) e.symm)
            obtain ⟨d0, d1, g0, g1, _⟩ := hT8.cells
            have hGN := HL2.out.1.link ht8 ho8 (by omega) (by omega)
            have HGN := Lib.hid (And.intro hGN (And.intro hE8 (show E'.length ≤ q + 1 by have := HL2.out.2.2; omega)))
            clear hGN hT8 ho8 ht8 hl8 hlen8 hE8 c0 c1 f0 f1
            go_wp2
            go_roundw
            case rel => exact ⟨q + 1, _, E', by omega, by go_num, HGN.out.2.2, HGN.out.2.1, HGN.out.1⟩
            case measure => simp [intOf]; omega
          · clear hG hE1 hEl c0 c1 f0 f1
            obtain ⟨w9, rfl⟩ : ∃ w9, w9 = wr := ⟨_, rfl⟩
            go_wp2_with fail
            refine (num_new w9 g a n cap p' [2, 3, 1, 4, 0] (by omega) HL2.out.1.rd (by decide) (by decide)).mono ?_
            rintro e w10 ⟨mm, hmm, rfl, hrd4, htu4⟩
            obtain ⟨hm0, hm3⟩ := num_in3 mm hmm
            obtain ⟨M, rfl⟩ := Int.eq_ofNat_of_zero_le hm0
            have HG4 := Lib.hid (And.intro (HL2.out.1.draw htu4 hrd4) (And.intro HL2.out.2.1 (show E.length ≤ 6 by have := HL2.out.2.2; omega)))
            clear htu4 hrd4 hmm HL2 hQl
            go_wp2
            go_loopw [63] (fun i wr => ∃ (q pp : Nat) (ve : Value) (E : List Pr), q ≤ M ∧ i = .int .i64 q ∧ E.length ≤ 6 + q ∧ Ed1 E ∧ pp ≤ p' + 1 + 2 * q ∧ GS w wr g a n cap pp w.heap.size (w2.heap.size + 1 + 1) (.slice xa L.length xc) ve L E) (fun i _ => M - (intOf i).toNat)
            case atStart => exact ⟨0, p' + 1, _, E, Nat.zero_le _, rfl, HG4.out.2.2, HG4.out.2.1, by omega, HG4.out.1⟩
            case round =>
              obtain ⟨q, pp, ve, E, hq, rfl, hEl, hE1, hpp, hG⟩ := hrel
              have hgr8 := hG.tu.size
              obtain ⟨za, zc, rfl⟩ := own_form hG.oe
              obtain ⟨c0, c1, f0, f1, hQl⟩ := hG.two.cells
              have HL2 := Lib.hid (And.intro hG (And.intro hE1 hEl))
              by_cases hlt : q < M
              · have e0' : wr.drew.cell? ⟨w2.heap.size + 1 + 1, 0, none⟩ = some (.slice xa L.length xc) := c0
                have e1' : wr.drew.cell? ⟨w2.heap.size + 1 + 1, 1, none⟩ = some (.slice za E.length zc) := c1
                have hdr : Below wr.heap.size wr wr.drew := (Below.refl _ _).drew
                have hrd0 := HL2.out.1.rd.below hdr
                have HD := Lib.hid (HL2.out.1.below hdr)
                have hEq : E.length ≤ 6 + q := hEl
                clear hG hE1 hEl hdr
                have hLl := HLl.out.1
                have HLk := Lib.hid hLl
                have hN1i : (1 : Int) ≤ (N1 : Int) := by omega
                have hN1j : (N1 : Int) ≤ 1000 := by omega
                clear hLl
                go_wp2
                go_region_law (first
                  | (go_simp; go_at_call 87; refine (pick_any _ g a n cap (pp + 1) _ hN1j (by omega) (by omega) hrdN).mono ?_; rintro e wM ⟨r2, rfl, hr20, hr21, hrdM, htuM⟩; have hr22 := hr21 hN1i; have hGM := HD.out.draw (htuN.trans htuM) hrdM; have a0 := hGM.two.cells.1; have a1 := hGM.two.cells.2.1; have hw9 : IntKind.i64.wrap (1 + r2) = 1 + r2 := IntWalk.i64_in _ (by omega); obtain ⟨j2, hj2⟩ := Int.eq_ofNat_of_zero_le hr20; have hj3 : 1 + r2 = ((j2 + 1 : Nat) : Int) := (by omega); have hj4 : j2 + 1 < N1 + 1 := (by omega); have HM := Lib.hid (And.intro hGM (And.intro hj3 hj4)); clear hr21 hGM hj2 hj3 hj4)
                  | (go_simp; go_at_call 87; refine (pick_any _ g a n cap pp _ hN1j (by omega) (by omega) hrd0).mono ?_; rintro e wN ⟨r1, rfl, hr10, hr11, hrdN, htuN⟩; have hr12 := hr11 hN1i; have hGN := HD.out.draw htuN hrdN; have b0 := hGN.two.cells.1; have b1 := hGN.two.cells.2.1; obtain ⟨j1, hj1⟩ := Int.eq_ofNat_of_zero_le hr10; have hj5 : j1 < N1 := (by omega); have HN9 := Lib.hid (And.intro hj1 hj5); clear hr11 hGN hj1 hj5)
                  | (go_simp; go_at_call 142; refine (l1Link_int wM L E _ _ _ _ w.heap.size j1 (j2 + 1) _ _ HN9.out.1 HM.out.2.1 (by rw [HLk.out]; have := HN9.out.2; omega) (by rw [HLk.out]; have := HM.out.2.2; omega) (own_at rfl HM.out.1.ob (by rw [HLk.out]; omega) HLl.out.2.small) (fun k h => (HLl.out.2 k h).1) HM.out.1.tu.size HM.out.1.oe (by omega) HL2.out.2.1).mono ?_; rintro e w8 ⟨ya', yc', E', rfl, ho8, ht8, hl8, hlen8, hE8⟩; have hT8 : Two w8 (w2.heap.size + 1 + 1) _ _ := ht8.two HM.out.1.two (fun e => own_neK HM.out.1.oe HM.out.1.two (by decide) e.symm); obtain ⟨d0, d1, g0, g1, _⟩ := hT8.cells))
                all_goals
                  have hGN := HM.out.1.link ht8 ho8 (by omega) (by omega)
                  have HGN := Lib.hid (And.intro hGN (And.intro hE8 (show E'.length ≤ 6 + (q + 1) by omega)))
                  clear hGN hT8 ho8 ht8 hl8 hlen8 hE8 d0 d1 g0 g1 a0 a1 b0 b1 hrdN hrdM htuN htuM
                  go_wp2
                  go_roundw
                  case rel => exact ⟨q + 1, pp + 1 + 1, _, E', by omega, by go_num, HGN.out.2.2, HGN.out.2.1, by omega, HGN.out.1⟩
                  case measure => simp [intOf]; omega
              · have hPL := own_at rfl HL2.out.1.ob (by rw [HLl.out.1]; omega) HLl.out.2.small
                have hPE := own_at rfl HL2.out.1.oe (by have := HL2.out.2.2; omega) HL2.out.2.1.small
                have HP := Lib.hid (And.intro hPL hPE)
                have hppB : pp ≤ p + 40 := by omega
                clear hG hE1 hEl hPL hPE f0 f1
                go_wp2_with fail
                refine (ProgValid_spec wr L E _ _ _ _ HP.out.1 HP.out.2).mono ?_
                rintro e w11 ⟨rfl, hb11⟩
                have hz11 := hb11.size
                have hGf := HL2.out.1.below hb11
                have u0 := (hb11.cell (p := ⟨w2.heap.size + 1 + 1, 0, none⟩) hQl).trans c0
                have u1 := (hb11.cell (p := ⟨w2.heap.size + 1 + 1, 1, none⟩) hQl).trans c1
                have H9 := Lib.hid (And.intro hGf.rd (And.intro hGf.tu hGf.res))
                have HPf := Lib.hid (And.intro (HP.out.1.below hb11) (HP.out.2.below hb11))
                have hgw : g < w11.heap.size := by omega
                clear hb11 hGf
                cases hv : validB L E
                · clear hv u0 u1 c0 c1
                  have hrd := H9.out.1
                  go_wp2_with fail
                  refine (pick_any _ g a n cap pp 12 (by decide) (by decide) (by omega) hrd).mono ?_
                  rintro e w12 ⟨r2, rfl, hr20, hr21, hrd2, htu2⟩
                  obtain ⟨k2, rfl⟩ := Int.eq_ofNat_of_zero_le hr20
                  have hk : k2 < 12 := by have := hr21 (by decide); omega
                  have H2 := Lib.hid (And.intro hrd2 (And.intro (H9.out.2.1.trans htu2) (htu2.rd H9.out.2.2 (by omega))))
                  have hs2 := htu2.size
                  clear hr20 hr21 htu2 hrd hrd2
                  go_wp2_with fail
                  refine (l1Sample_any _ k2 hk).mono ?_
                  rintro e w13 ⟨bs, es, ab, ae, cb, ce, rfl, hV, hPb, hPe, hb3⟩
                  have hR3 : Two w13 w.heap.size _ _ := (hb3.block _ (by omega)).trans H2.out.2.2
                  obtain ⟨r0, r1, t0, t1, _⟩ := hR3.cells
                  have hn : ∀ s, Value.slice none 0 0 ≠ .string s := fun s h => by cases h
                  have hPb' := (hPb.setS (u := .slice ab bs.length cb) r0 hn).setS (p := ⟨w.heap.size, 1, none⟩) (u := .slice ae es.length ce) ((hR3.set0 (.slice ab bs.length cb)).cells.2.1) hn
                  have hPe' := (hPe.setS (u := .slice ab bs.length cb) r0 hn).setS (p := ⟨w.heap.size, 1, none⟩) (u := .slice ae es.length ce) ((hR3.set0 (.slice ab bs.length cb)).cells.2.1) hn
                  have htf := ((H2.out.2.1.trans (Turns.of_below hb3)).setNew (p := ⟨w.heap.size, 0, none⟩) (Nat.le_refl _) (.slice ab bs.length cb)).setNew (p := ⟨w.heap.size, 1, none⟩) (Nat.le_refl _) (.slice ae es.length ce)
                  have hh3 := (hb3.block g (by omega)).trans H2.out.1.here
                  have hhf : ((w13.setCell ⟨w.heap.size, 0, none⟩ (.slice ab bs.length cb)).setCell ⟨w.heap.size, 1, none⟩ (.slice ae es.length ce)).heap[g]? = w13.heap[g]? := (Below.heap_setCell _ _ _ _ (by simp; omega)).trans (Below.heap_setCell _ _ _ _ (by simp; omega))
                  have HX := Lib.hid (And.intro hV (And.intro hPb' (And.intro hPe' (And.intro htf (H0.out.1.turns htf (hhf.trans hh3))))))
                  clear hV hPb hPe hPb' hPe' htf hh3 hhf hb3 hR3 hn
                  go_wp2
                  refine bodyPost_ret (v := .agg #[.slice ab bs.length cb, .slice ae es.length ce]) (by simp [results, Tryd.results86, go_sem, r0, r1]) rfl ?_
                  exact ⟨bs, es, ab, ae, cb, ce, rfl, HX.out.1, HX.out.2.1, HX.out.2.2.1, pp + 1, by omega, HX.out.2.2.2.2, HX.out.2.2.2.1⟩
                · have hV : Valid L E := by simpa [validB] using hv
                  obtain ⟨r0, r1, t0, t1, _⟩ := Two.cells H9.out.2.2
                  have hn : ∀ s, Value.slice none 0 0 ≠ .string s := fun s h => by cases h
                  have hPb' := (HPf.out.1.setS (u := .slice xa L.length xc) r0 hn).setS (p := ⟨w.heap.size, 1, none⟩) (u := .slice za E.length zc) ((Two.set0 H9.out.2.2 (.slice xa L.length xc)).cells.2.1) hn
                  have hPe' := (HPf.out.2.setS (u := .slice xa L.length xc) r0 hn).setS (p := ⟨w.heap.size, 1, none⟩) (u := .slice za E.length zc) ((Two.set0 H9.out.2.2 (.slice xa L.length xc)).cells.2.1) hn
                  have htf := (H9.out.2.1.setNew (p := ⟨w.heap.size, 0, none⟩) (Nat.le_refl _) (.slice xa L.length xc)).setNew (p := ⟨w.heap.size, 1, none⟩) (Nat.le_refl _) (.slice za E.length zc)
                  have hhf : ((w11.setCell ⟨w.heap.size, 0, none⟩ (.slice xa L.length xc)).setCell ⟨w.heap.size, 1, none⟩ (.slice za E.length zc)).heap[g]? = w11.heap[g]? := (Below.heap_setCell _ _ _ _ (by simp; omega)).trans (Below.heap_setCell _ _ _ _ (by simp; omega))
                  have HX := Lib.hid (And.intro hV (And.intro hPb' (And.intro hPe' (And.intro htf (H0.out.1.turns htf (hhf.trans H9.out.1.here))))))
                  clear hv hV hPb' hPe' htf hhf hn c0 c1
                  go_wp2
                  refine bodyPost_ret (v := .agg #[.slice xa L.length xc, .slice za E.length zc]) (by simp [results, Tryd.results86, go_sem, r0, r1]) rfl ?_
                  exact ⟨L, E, xa, za, xc, zc, rfl, HX.out.1, HX.out.2.1, HX.out.2.2.1, pp, by omega, HX.out.2.2.2.2, HX.out.2.2.2.1⟩
end Go.Proofs.YtngcmjfkeageiaaDoor
end
