/-
  A program whose terms are swapped, as data: its blocks, what the two functions return. It names the program's types alone. Conditions: none.
-/
import Derived.Test.YtdepangkeeehpaaDoorSwapM
import Derived.Test.YtdepangkeeehpaaDoorPgLib
namespace Go.Proofs.YtdepangkeeehpaaDoor
open Go.RowKit Go.Maps

/-- the first blocks, two terms swapped -/
def swL (bs : List Pr) (t u : Nat) (k : Nat) : List Pr := (List.range k).map fun i => (nameAt bs i, swT (restAt bs i) t u (restAt bs i).size)
theorem swL_length (bs : List Pr) (t u k : Nat) : (swL bs t u k).length = k := by simp [swL]
theorem cellsOf_appendW : ∀ (a b : List Pr), cellsOf (a ++ b) = cellsOf a ++ cellsOf b
  | [], b => rfl
  | p :: r, b => by show _ :: _ :: cellsOf (r ++ b) = _; rw [cellsOf_appendW r b]; rfl
theorem swL_snoc (bs : List Pr) (t u k : Nat) : swL bs t u (k + 1) = swL bs t u k ++ [(nameAt bs k, swT (restAt bs k) t u (restAt bs k).size)] := by
  unfold swL
  rw [List.range_succ, List.map_append]; rfl
theorem swL_succ (bs : List Pr) (t u k : Nat) : cellsOf (swL bs t u (k + 1)) = cellsOf (swL bs t u k) ++ [.string (nameAt bs k), .string (swT (restAt bs k) t u (restAt bs k).size)] := by
  rw [swL_snoc, cellsOf_appendW]; rfl
theorem swL_get {bs : List Pr} {t u k i : Nat} (h : i < k) : (swL bs t u k).getD i (e0, e0) = (nameAt bs i, swT (restAt bs i) t u (restAt bs i).size) := by
  unfold swL
  rw [List.getD_eq_getElem?_getD]
  simp [h]
theorem swL_name {bs : List Pr} {t u k i : Nat} (h : i < k) : nameAt (swL bs t u k) i = nameAt bs i := by
  show ((swL bs t u k).getD i (e0, e0)).1 = _
  rw [swL_get h]
theorem swL_rest {bs : List Pr} {t u k i : Nat} (h : i < k) : restAt (swL bs t u k) i = swT (restAt bs i) t u (restAt bs i).size := by
  show ((swL bs t u k).getD i (e0, e0)).2 = _
  rw [swL_get h]
theorem swL_small {bs : List Pr} {t u : Nat} (h : ∀ i, i < bs.length → (nameAt bs i).size ≤ 1048576 ∧ (restAt bs i).size ≤ 1048576) : ∀ i, i < (swL bs t u bs.length).length → (nameAt (swL bs t u bs.length) i).size ≤ 1048576 ∧ (restAt (swL bs t u bs.length) i).size ≤ 1048576 := by
  intro i hi
  rw [swL_length] at hi
  rw [swL_name hi, swL_rest hi, swT_size]
  exact h i hi
/-- whether there is an answer -/
noncomputable def swOk (bs es : List Pr) (x y : ByteArray) : Bool := validB bs es && (isTm x && isTm y)
open Classical in
noncomputable def swRL (bs es : List Pr) (x y : ByteArray) : List Pr := if swOk bs es x y = true then swL bs (byteAt x 0) (byteAt y 0) bs.length else []
open Classical in
noncomputable def swRE (bs es : List Pr) (x y : ByteArray) : List Pr := if swOk bs es x y = true then es else []
theorem swRL_small {bs es : List Pr} {x y : ByteArray} (hl : bs.length ≤ 1048576) (h : ∀ i, i < bs.length → (nameAt bs i).size ≤ 1048576 ∧ (restAt bs i).size ≤ 1048576) : (swRL bs es x y).length ≤ 1048576 ∧ ∀ i, i < (swRL bs es x y).length → (nameAt (swRL bs es x y) i).size ≤ 1048576 ∧ (restAt (swRL bs es x y) i).size ≤ 1048576 := by
  unfold swRL
  split
  · exact ⟨by rw [swL_length]; exact hl, swL_small h⟩
  · exact ⟨Nat.zero_le _, fun i hi => absurd hi (Nat.not_lt_zero _)⟩
theorem swRE_small {bs es : List Pr} {x y : ByteArray} (hl : es.length ≤ 1048576) (h : ∀ i, i < es.length → (nameAt es i).size ≤ 1048576 ∧ (restAt es i).size ≤ 1048576) : (swRE bs es x y).length ≤ 1048576 ∧ ∀ i, i < (swRE bs es x y).length → (nameAt (swRE bs es x y) i).size ≤ 1048576 ∧ (restAt (swRE bs es x y) i).size ≤ 1048576 := by
  unfold swRE
  split
  · exact ⟨hl, h⟩
  · exact ⟨Nat.zero_le _, fun i hi => absurd hi (Nat.not_lt_zero _)⟩
theorem ProgRes.yes {W W' : World} {L E : List Pr} {v ve : Value} {n m : Nat} (hn : n = L.length) (hm : m = E.length) (hb : Below W.heap.size W W') (ho : W'.ownsRow W.heap.size 62 2 v n (cellsOf L)) (hoe : W'.ownsRow W.heap.size 56 2 ve m (cellsOf E)) :
    ProgRes W true L E (.returned (.tuple #[.agg #[v, ve], .bool true])) W' := by
  subst hn hm
  obtain ⟨a, c, rfl⟩ := own_form ho
  obtain ⟨a', c', rfl⟩ := own_form hoe
  exact ⟨hb, a, c, a', c', rfl, ho, hoe, fun g hg => (ho.lt g hg).2, fun g hg => (hoe.lt g hg).2⟩
theorem ProgRes.no {W W' : World} (hb : Below W.heap.size W W') : ProgRes W false [] [] (.returned (.tuple #[.agg #[.slice none 0 0, .slice none 0 0], .bool false])) W' :=
  ⟨hb, none, 0, none, 0, rfl, World.ownsRow_nil _ _ _ _, World.ownsRow_nil _ _ _ _, fun g hg => by simp [Value.ownBlock] at hg, fun g hg => by simp [Value.ownBlock] at hg⟩
theorem swNo {bs es : List Pr} {x y : ByteArray} (h : swOk bs es x y = false) : swRL bs es x y = [] ∧ swRE bs es x y = [] := by
  unfold swRL swRE; rw [if_neg (by rw [h]; simp), if_neg (by rw [h]; simp)]; exact ⟨rfl, rfl⟩
theorem swYes {bs es : List Pr} {x y : ByteArray} (h : swOk bs es x y = true) : swRL bs es x y = swL bs (byteAt x 0) (byteAt y 0) bs.length ∧ swRE bs es x y = es := by
  unfold swRL swRE; rw [if_pos h, if_pos h]; exact ⟨rfl, rfl⟩
theorem ProgRes.swNo {W W' : World} {bs es : List Pr} {x y : ByteArray} (h : swOk bs es x y = false) (hb : Below W.heap.size W W') : ProgRes W (swOk bs es x y) (swRL bs es x y) (swRE bs es x y) (.returned (.tuple #[.agg #[.slice none 0 0, .slice none 0 0], .bool false])) W' := by
  rw [(Go.Proofs.YtdepangkeeehpaaDoor.swNo h).1, (Go.Proofs.YtdepangkeeehpaaDoor.swNo h).2, h]; exact ProgRes.no hb
theorem ProgRes.swYes {W W' : World} {bs es : List Pr} {x y : ByteArray} {v ve : Value} (h : swOk bs es x y = true) (hb : Below W.heap.size W W') (ho : W'.ownsRow W.heap.size 62 2 v bs.length (cellsOf (swL bs (byteAt x 0) (byteAt y 0) bs.length))) (hoe : W'.ownsRow W.heap.size 56 2 ve es.length (cellsOf es)) :
    ProgRes W (swOk bs es x y) (swRL bs es x y) (swRE bs es x y) (.returned (.tuple #[.agg #[v, ve], .bool true])) W' := by
  rw [(Go.Proofs.YtdepangkeeehpaaDoor.swYes h).1, (Go.Proofs.YtdepangkeeehpaaDoor.swYes h).2, h]; exact ProgRes.yes (swL_length _ _ _ _).symm rfl hb ho hoe

/-- a text's one letter -/
def letC (t u c : Nat) : ByteArray := ⟨#[swC t u c]⟩
theorem one_of_size {c : ByteArray} (h : c.size = 1) (ho : opB (byteAt c 0) = true) : c = ⟨#[88]⟩ ∨ c = ⟨#[89]⟩ ∨ c = ⟨#[90]⟩ ∨ c = ⟨#[120]⟩ ∨ c = ⟨#[121]⟩ ∨ c = ⟨#[122]⟩ := by
  obtain ⟨⟨l⟩⟩ := c
  have hl : l.length = 1 := h
  match l, hl with
  | [b], _ =>
    have e : byteAt ⟨⟨[b]⟩⟩ 0 = b.toNat := rfl
    rw [e] at ho
    unfold opB lowB upB at ho
    simp only [Bool.or_eq_true, Bool.and_eq_true, decide_eq_true_eq] at ho
    have h6 : b.toNat = 88 ∨ b.toNat = 89 ∨ b.toNat = 90 ∨ b.toNat = 120 ∨ b.toNat = 121 ∨ b.toNat = 122 := by omega
    rcases h6 with h | h | h | h | h | h
    · obtain rfl : b = 88 := UInt8.toNat_inj.1 h; exact .inl rfl
    · obtain rfl : b = 89 := UInt8.toNat_inj.1 h; exact .inr (.inl rfl)
    · obtain rfl : b = 90 := UInt8.toNat_inj.1 h; exact .inr (.inr (.inl rfl))
    · obtain rfl : b = 120 := UInt8.toNat_inj.1 h; exact .inr (.inr (.inr (.inl rfl)))
    · obtain rfl : b = 121 := UInt8.toNat_inj.1 h; exact .inr (.inr (.inr (.inr (.inl rfl))))
    · obtain rfl : b = 122 := UInt8.toNat_inj.1 h; exact .inr (.inr (.inr (.inr (.inr rfl))))
/-- which of five ways a letter goes -/
theorem sw_pick {x y c : ByteArray} (hx : isTm x = true) (hy : isTm y = true) (h : c.size = 1) (ho : opB (byteAt c 0) = true) :
    (c = x → letC (byteAt x 0) (byteAt y 0) (byteAt c 0) = y) ∧ (c ≠ x → c = y → letC (byteAt x 0) (byteAt y 0) (byteAt c 0) = x) ∧ (c ≠ x → c ≠ y → c = spoilT x → letC (byteAt x 0) (byteAt y 0) (byteAt c 0) = spoilT y) ∧
    (c ≠ x → c ≠ y → c ≠ spoilT x → c = spoilT y → letC (byteAt x 0) (byteAt y 0) (byteAt c 0) = spoilT x) ∧ (c ≠ x → c ≠ y → c ≠ spoilT x → c ≠ spoilT y → letC (byteAt x 0) (byteAt y 0) (byteAt c 0) = c) := by
  rcases isTm_iff.1 hx with rfl | rfl | rfl <;> rcases isTm_iff.1 hy with rfl | rfl | rfl <;> rcases one_of_size h ho with rfl | rfl | rfl | rfl | rfl | rfl <;> refine ⟨?_, ?_, ?_, ?_, ?_⟩ <;> decide
theorem byteAt_one {s : ByteArray} {i : Nat} (h : i < s.size) : byteAt (s.extract i (i + 1)) 0 = byteAt s i := by
  unfold byteAt
  rw [ByteArray.data_extract]
  simp only [Array.getD_eq_getD_getElem?]
  rw [Array.getElem?_extract]
  have h2 : 0 < min (i + 1) s.size - i := by omega
  simp [h2]
theorem swT_step {s : ByteArray} {t u i : Nat} (h : i < s.size) : swT s t u (i + 1) = swT s t u i ++ letC t u (byteAt (s.extract i (i + 1)) 0) := by
  rw [byteAt_one h]; exact swT_succ _ _ _ _
end Go.Proofs.YtdepangkeeehpaaDoor
