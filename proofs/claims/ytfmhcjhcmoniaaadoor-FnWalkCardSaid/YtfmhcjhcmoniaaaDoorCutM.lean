/-
  Plain mathematics of the model's parser: a text cut at a byte, blocks and edges from their parts; the model's known programs, which are valid. It names no Go and no program. Conditions: none.
-/
import Derived.Test.YtfmhcjhcmoniaaaDoorWords
namespace Go.Proofs.YtfmhcjhcmoniaaaDoor

/-- what lies cut, and where the next part begins, behind the first i places -/
def cutSt (s : ByteArray) (c : Nat) : Nat → List ByteArray × Nat
  | 0 => ([], 0)
  | i + 1 =>
    match cutSt s c i with
    | (o, f) => if i = s.size ∨ byteAt s i = c then (o ++ [s.extract f i], i + 1) else (o, f)
def cutL (s : ByteArray) (c : Nat) : List ByteArray := (cutSt s c (s.size + 1)).1
theorem cutSt_hit {s : ByteArray} {c i : Nat} (h : i = s.size ∨ byteAt s i = c) : cutSt s c (i + 1) = ((cutSt s c i).1 ++ [s.extract (cutSt s c i).2 i], i + 1) := by
  show (match cutSt s c i with | (o, f) => if i = s.size ∨ byteAt s i = c then (o ++ [s.extract f i], i + 1) else (o, f)) = _
  generalize cutSt s c i = q
  obtain ⟨o, f⟩ := q
  exact if_pos h
theorem cutSt_miss {s : ByteArray} {c i : Nat} (h : ¬ (i = s.size ∨ byteAt s i = c)) : cutSt s c (i + 1) = cutSt s c i := by
  show (match cutSt s c i with | (o, f) => if i = s.size ∨ byteAt s i = c then (o ++ [s.extract f i], i + 1) else (o, f)) = _
  generalize cutSt s c i = q
  obtain ⟨o, f⟩ := q
  exact if_neg h
theorem cutSt_le (s : ByteArray) (c : Nat) : ∀ i, (cutSt s c i).2 ≤ i
  | 0 => Nat.le_refl _
  | i + 1 => by
    by_cases h : i = s.size ∨ byteAt s i = c
    · rw [cutSt_hit h]; exact Nat.le_refl _
    · rw [cutSt_miss h]; exact Nat.le_succ_of_le (cutSt_le s c i)
theorem cutSt_len (s : ByteArray) (c : Nat) : ∀ i, (cutSt s c i).1.length ≤ i
  | 0 => Nat.le_refl _
  | i + 1 => by
    by_cases h : i = s.size ∨ byteAt s i = c
    · rw [cutSt_hit h]; have := cutSt_len s c i; simp; omega
    · rw [cutSt_miss h]; exact Nat.le_succ_of_le (cutSt_len s c i)
theorem extract_size_le (s : ByteArray) (f i : Nat) : (s.extract f i).size ≤ s.size := by rw [ByteArray.size_extract]; omega
theorem cutSt_size (s : ByteArray) (c : Nat) : ∀ i, ∀ t ∈ (cutSt s c i).1, t.size ≤ s.size
  | 0 => fun t ht => by cases ht
  | i + 1 => by
    intro t ht
    by_cases h : i = s.size ∨ byteAt s i = c
    · rw [cutSt_hit h] at ht
      rcases List.mem_append.1 ht with h1 | h1
      · exact cutSt_size s c i t h1
      · rw [List.mem_singleton.1 h1]; exact extract_size_le _ _ _
    · rw [cutSt_miss h] at ht; exact cutSt_size s c i t ht
theorem cutL_size {s : ByteArray} {c : Nat} {t : ByteArray} (h : t ∈ cutL s c) : t.size ≤ s.size := cutSt_size s c _ t h
theorem cutL_len (s : ByteArray) (c : Nat) : (cutL s c).length ≤ s.size + 1 := cutSt_len s c _

/-- the parts and what parts them are the text -/
theorem cutSt_sum (s : ByteArray) (c : Nat) : ∀ i, i ≤ s.size + 1 → ((cutSt s c i).1.map ByteArray.size).sum + (cutSt s c i).1.length = (cutSt s c i).2
  | 0, _ => rfl
  | i + 1, hi => by
    have ih := cutSt_sum s c i (by omega)
    by_cases h : i = s.size ∨ byteAt s i = c
    · rw [cutSt_hit h]
      have hf := cutSt_le s c i
      have he : (s.extract (cutSt s c i).2 i).size = i - (cutSt s c i).2 := by rw [ByteArray.size_extract]; omega
      simp only [List.map_append, List.map_cons, List.map_nil, List.sum_append, List.sum_cons, List.sum_nil, List.length_append, List.length_cons, List.length_nil, he]
      omega
    · rw [cutSt_miss h]; exact ih
theorem cutL_two {s : ByteArray} {c : Nat} (h : (cutL s c).length = 2) : (∀ t ∈ cutL s c, t.size + 1 ≤ s.size) := by
  have hs := cutSt_sum s c (s.size + 1) (Nat.le_refl _)
  have he : (cutSt s c (s.size + 1)).2 = s.size + 1 := by rw [cutSt_hit (.inl rfl)]
  intro t ht
  unfold cutL at h ht
  rw [he, h] at hs
  obtain ⟨a, b, e⟩ : ∃ a b, (cutSt s c (s.size + 1)).1 = [a, b] := by
    match h' : (cutSt s c (s.size + 1)).1, h with
    | [a, b], _ => exact ⟨a, b, rfl⟩
  rw [e] at hs ht
  simp at hs ht
  rcases ht with rfl | rfl <;> omega

/-- a part's first letter and the others -/
def blkOf (s : ByteArray) : Pr := (s.extract 0 1, s.extract 1 s.size)
def partAt (text : ByteArray) (i : Nat) : List ByteArray := cutL ((cutL text 58).getD i e0) 44
def bsOf (text : ByteArray) : List Pr := (partAt text 0).map blkOf
def esOf (text : ByteArray) : List Pr := (partAt text 1).map blkOf
/-- whether a text has the parts of a program, valid or not -/
def partsB (text : ByteArray) : Bool := decide ((cutL text 58).length = 2) && ((partAt text 0).all fun s => decide (s ≠ e0)) && ((partAt text 1).all fun s => decide (s.size = 2))

def memB (l : List ByteArray) (x : ByteArray) : Bool := l.any fun y => decide (y = x)
theorem memB_iff {l : List ByteArray} {x : ByteArray} : memB l x = true ↔ x ∈ l := by
  unfold memB
  rw [List.any_eq_true]
  constructor
  · rintro ⟨y, hy, e⟩; rw [← of_decide_eq_true e]; exact hy
  · intro h; exact ⟨x, h, decide_eq_true rfl⟩
/-- what is reached in some rounds -/
def reachF (es : List Pr) : Nat → List ByteArray → List ByteArray
  | 0, S => S
  | n + 1, S => reachF es n (S ++ (es.filter fun e => memB S e.1).map (·.2))
theorem reachF_sound {es : List Pr} {a : ByteArray} : ∀ (n : Nat) (S : List ByteArray), (∀ x ∈ S, Reach es a x) → ∀ x ∈ reachF es n S, Reach es a x
  | 0, S, h => h
  | n + 1, S, h => by
    apply reachF_sound n
    intro x hx
    rcases List.mem_append.1 hx with h1 | h1
    · exact h x h1
    · obtain ⟨e, he, rfl⟩ := List.mem_map.1 h1
      obtain ⟨h2, h3⟩ := List.mem_filter.1 he
      exact .step (h e.1 (memB_iff.1 h3)) h2
def opsC (s : ByteArray) : Bool := decide (s.size ≤ 6) && (List.range s.size).all fun i => opB (byteAt s i)
def chkB (bs : List Pr) : Bool := decide (2 ≤ bs.length) && (decide (bs.length ≤ 9) && (bs.all (fun p => isNm p.1) && (bs.all (fun p => opsC p.2) && (decide (names bs).Nodup && decide (restAt bs 0 = e0)))))
def chkE (bs es : List Pr) : Bool := decide (es.length ≤ 14) && (es.all (fun e => memB (names bs) e.1 && (memB (names bs) e.2 && (decide (e.2 ≠ nameAt bs 0) && decide (e.1 ≠ nameAt bs (bs.length - 1))))) && decide es.Nodup)
def chkR (bs es : List Pr) (a : ByteArray) : Bool := bs.all fun p => memB (reachF es 9 [a]) p.1
theorem chkB_ok {bs : List Pr} (h : chkB bs = true) : BlocksOk bs := by
  unfold chkB at h
  simp only [Bool.and_eq_true, decide_eq_true_eq, List.all_eq_true] at h
  obtain ⟨h1, h2, h3, h4, h5, h6⟩ := h
  refine ⟨h1, h2, h3, fun p hp => ?_, h5, h6⟩
  have := h4 p hp
  unfold opsC at this
  simp only [Bool.and_eq_true, decide_eq_true_eq, List.all_eq_true, List.mem_range] at this
  exact this
theorem chkE_ok {bs es : List Pr} (h : chkE bs es = true) : EdgesOk bs es := by
  unfold chkE at h
  simp only [Bool.and_eq_true, decide_eq_true_eq, List.all_eq_true] at h
  obtain ⟨h1, h2, h3⟩ := h
  exact ⟨h1, fun e he => memB_iff.1 (h2 e he).1, fun e he => memB_iff.1 (h2 e he).2.1, h3, fun e he => (h2 e he).2.2.1, fun e he => (h2 e he).2.2.2⟩
theorem chkR_ok {bs es : List Pr} {a : ByteArray} (h : chkR bs es a = true) : ∀ p ∈ bs, Reach es a p.1 := by
  intro p hp
  unfold chkR at h
  rw [List.all_eq_true] at h
  exact reachF_sound 9 [a] (fun x hx => by rw [List.mem_singleton.1 hx]; exact .refl) _ (memB_iff.1 (h p hp))
def chkV (bs es : List Pr) : Bool := chkB bs && (chkE bs es && (chkR bs es (nameAt bs 0) && chkR bs (flip es) (nameAt bs (bs.length - 1))))
theorem chkV_ok {bs es : List Pr} (h : chkV bs es = true) : Valid bs es := by
  unfold chkV at h
  simp only [Bool.and_eq_true] at h
  exact ⟨chkB_ok h.1, chkE_ok h.2.1, chkR_ok h.2.2.1, chkR_ok h.2.2.2⟩

/-- the model's known programs -/
def sampleT : Nat → ByteArray
  | 0 => ⟨#[65, 44, 66, 120, 44, 67, 44, 68, 120, 44, 69, 58, 65, 66, 44, 65, 67, 44, 66, 68, 44, 67, 68, 44, 68, 69]⟩
  | 1 => ⟨#[65, 44, 66, 44, 67, 120, 44, 68, 58, 65, 66, 44, 66, 67, 44, 67, 67, 44, 67, 68]⟩
  | 2 => ⟨#[65, 44, 66, 44, 67, 120, 44, 68, 44, 69, 120, 44, 70, 58, 65, 66, 44, 66, 67, 44, 66, 68, 44, 67, 69, 44, 68, 69, 44, 69, 70]⟩
  | 3 => ⟨#[65, 44, 66, 120, 44, 67, 88, 44, 68, 120, 44, 69, 58, 65, 66, 44, 66, 67, 44, 66, 68, 44, 67, 68, 44, 68, 69]⟩
  | 4 => ⟨#[65, 44, 66, 120, 44, 67, 120, 44, 68, 58, 65, 66, 44, 65, 67, 44, 66, 68, 44, 67, 68]⟩
  | 5 => ⟨#[65, 44, 66, 44, 67, 44, 68, 120, 44, 69, 58, 65, 66, 44, 66, 67, 44, 67, 66, 44, 67, 68, 44, 68, 69, 44, 66, 69]⟩
  | 6 => ⟨#[65, 44, 66, 120, 88, 120, 44, 67, 120, 44, 68, 58, 65, 66, 44, 66, 67, 44, 67, 66, 44, 67, 68]⟩
  | 7 => ⟨#[65, 44, 66, 120, 44, 67, 121, 44, 68, 120, 121, 44, 69, 58, 65, 66, 44, 65, 67, 44, 66, 68, 44, 67, 68, 44, 68, 69]⟩
  | 8 => ⟨#[65, 44, 66, 44, 67, 44, 68, 44, 69, 120, 44, 70, 58, 65, 66, 44, 65, 67, 44, 66, 68, 44, 66, 69, 44, 67, 69, 44, 68, 70, 44, 69, 70]⟩
  | 9 => ⟨#[65, 44, 66, 44, 67, 120, 44, 68, 88, 44, 69, 120, 44, 70, 58, 65, 66, 44, 66, 67, 44, 67, 68, 44, 67, 69, 44, 68, 69, 44, 69, 66, 44, 69, 70]⟩
  | 10 => ⟨#[65, 44, 66, 58, 65, 66]⟩
  | 11 => ⟨#[65, 44, 66, 120, 44, 67, 44, 68, 44, 69, 120, 44, 70, 120, 44, 71, 58, 65, 66, 44, 65, 67, 44, 66, 68, 44, 67, 68, 44, 68, 69, 44, 68, 70, 44, 69, 71, 44, 70, 71]⟩
  | _ => e0
set_option maxRecDepth 100000
theorem sample_0 : (partsB (sampleT 0) && chkV (bsOf (sampleT 0)) (esOf (sampleT 0))) = true := by kernel_rfl
theorem sample_1 : (partsB (sampleT 1) && chkV (bsOf (sampleT 1)) (esOf (sampleT 1))) = true := by kernel_rfl
theorem sample_2 : (partsB (sampleT 2) && chkV (bsOf (sampleT 2)) (esOf (sampleT 2))) = true := by kernel_rfl
theorem sample_3 : (partsB (sampleT 3) && chkV (bsOf (sampleT 3)) (esOf (sampleT 3))) = true := by kernel_rfl
theorem sample_4 : (partsB (sampleT 4) && chkV (bsOf (sampleT 4)) (esOf (sampleT 4))) = true := by kernel_rfl
theorem sample_5 : (partsB (sampleT 5) && chkV (bsOf (sampleT 5)) (esOf (sampleT 5))) = true := by kernel_rfl
theorem sample_6 : (partsB (sampleT 6) && chkV (bsOf (sampleT 6)) (esOf (sampleT 6))) = true := by kernel_rfl
theorem sample_7 : (partsB (sampleT 7) && chkV (bsOf (sampleT 7)) (esOf (sampleT 7))) = true := by kernel_rfl
theorem sample_8 : (partsB (sampleT 8) && chkV (bsOf (sampleT 8)) (esOf (sampleT 8))) = true := by kernel_rfl
theorem sample_9 : (partsB (sampleT 9) && chkV (bsOf (sampleT 9)) (esOf (sampleT 9))) = true := by kernel_rfl
theorem sample_10 : (partsB (sampleT 10) && chkV (bsOf (sampleT 10)) (esOf (sampleT 10))) = true := by kernel_rfl
theorem sample_11 : (partsB (sampleT 11) && chkV (bsOf (sampleT 11)) (esOf (sampleT 11))) = true := by kernel_rfl
theorem and_parts {a b : Bool} (h : (a && b) = true) : a = true ∧ b = true := by simpa using h
theorem sample_ok : ∀ k, k < 12 → partsB (sampleT k) = true ∧ Valid (bsOf (sampleT k)) (esOf (sampleT k)) := by
  intro k hk
  match k, hk with
  | 0, _ => exact ⟨(and_parts sample_0).1, chkV_ok (and_parts sample_0).2⟩
  | 1, _ => exact ⟨(and_parts sample_1).1, chkV_ok (and_parts sample_1).2⟩
  | 2, _ => exact ⟨(and_parts sample_2).1, chkV_ok (and_parts sample_2).2⟩
  | 3, _ => exact ⟨(and_parts sample_3).1, chkV_ok (and_parts sample_3).2⟩
  | 4, _ => exact ⟨(and_parts sample_4).1, chkV_ok (and_parts sample_4).2⟩
  | 5, _ => exact ⟨(and_parts sample_5).1, chkV_ok (and_parts sample_5).2⟩
  | 6, _ => exact ⟨(and_parts sample_6).1, chkV_ok (and_parts sample_6).2⟩
  | 7, _ => exact ⟨(and_parts sample_7).1, chkV_ok (and_parts sample_7).2⟩
  | 8, _ => exact ⟨(and_parts sample_8).1, chkV_ok (and_parts sample_8).2⟩
  | 9, _ => exact ⟨(and_parts sample_9).1, chkV_ok (and_parts sample_9).2⟩
  | 10, _ => exact ⟨(and_parts sample_10).1, chkV_ok (and_parts sample_10).2⟩
  | 11, _ => exact ⟨(and_parts sample_11).1, chkV_ok (and_parts sample_11).2⟩
theorem sample_size : ∀ k, k < 12 → (sampleT k).size ≤ 100 := by
  intro k hk
  match k, hk with
  | 0, _ => exact of_decide_eq_true rfl
  | 1, _ => exact of_decide_eq_true rfl
  | 2, _ => exact of_decide_eq_true rfl
  | 3, _ => exact of_decide_eq_true rfl
  | 4, _ => exact of_decide_eq_true rfl
  | 5, _ => exact of_decide_eq_true rfl
  | 6, _ => exact of_decide_eq_true rfl
  | 7, _ => exact of_decide_eq_true rfl
  | 8, _ => exact of_decide_eq_true rfl
  | 9, _ => exact of_decide_eq_true rfl
  | 10, _ => exact of_decide_eq_true rfl
  | 11, _ => exact of_decide_eq_true rfl
end Go.Proofs.YtfmhcjhcmoniaaaDoor
