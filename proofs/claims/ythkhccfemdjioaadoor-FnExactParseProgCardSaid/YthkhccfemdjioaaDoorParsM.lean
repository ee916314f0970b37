/-
  Plain mathematics of the program's parser: what a text cut at its first colon, and then at so many commas at most, has of a program, against the model's parts. It names the program's types alone. Conditions: none.
-/
import Derived.Test.YthkhccfemdjioaaDoorSplM
import Derived.Test.YthkhccfemdjioaaDoorParseS
namespace Go.Proofs.YthkhccfemdjioaaDoor
open Go.RowKit

/-- ahead of the first colon, and behind it -/
def headT (text : ByteArray) : ByteArray := ⟨(Lib.cut text.data.toList [58]).1.toArray⟩
def tailT (text : ByteArray) : ByteArray := ⟨(Lib.cut text.data.toList [58]).2.1.toArray⟩
def foundT (text : ByteArray) : Bool := (Lib.cut text.data.toList [58]).2.2
def comT : ByteArray := ⟨#[44]⟩
/-- the pieces, at most n -/
def piecesN (n : Nat) (s : ByteArray) : List ByteArray := Lib.splitB comT 0 (min n (s.size + 1) - 1) s
theorem cut_no {text : ByteArray} (h : foundT text = false) : (cutL text 58).length = 1 := by
  unfold foundT Lib.cut at h
  rcases index_one 58 text.data.toList with ⟨h1, h2⟩ | ⟨a, b, e, ha, h1⟩
  · rw [cutL_count text 58 (by decide), show UInt8.ofNat 58 = 58 from rfl, spl_none h2]; rfl
  · rw [h1, if_pos (by omega)] at h; cases h
theorem cut_yes {text : ByteArray} (h : foundT text = true) : cutL text 58 = headT text :: cutL (tailT text) 58 ∧ (58 : UInt8) ∈ text.data.toList := by
  rcases index_one 58 text.data.toList with ⟨h1, h2⟩ | ⟨a, b, e, ha, h1⟩
  · unfold foundT Lib.cut at h
    rw [h1, if_neg (by decide)] at h; cases h
  · have eh : (headT text).data.toList = a := by
      unfold headT Lib.cut
      rw [h1, if_pos (by omega), e]; simp
    have et : (tailT text).data.toList = b := by
      unfold tailT Lib.cut
      rw [h1, if_pos (by omega), e]
      rw [show (a.length : Int).toNat + [(58 : UInt8)].length = a.length + 1 by simp, List.drop_append]; simp
    refine ⟨list_inj ?_, by rw [e]; simp⟩
    rw [cutL_spl text 58 (by decide), List.map_cons, cutL_spl (tailT text) 58 (by decide), eh, et, e, show UInt8.ofNat 58 = 58 from rfl, spl_first b ha]
theorem headT_size (text : ByteArray) : (headT text).size ≤ text.size := by
  have hl : text.data.toList.length = text.size := by simp
  have : (headT text).size = (Lib.cut text.data.toList [58]).1.length := by unfold headT; exact List.size_toArray
  rw [this]
  unfold Lib.cut
  split
  · show (List.take _ _).length ≤ _
    rw [List.length_take]; omega
  · show text.data.toList.length ≤ _; omega
theorem tailT_size (text : ByteArray) : (tailT text).size ≤ text.size := by
  have hl : text.data.toList.length = text.size := by simp
  have : (tailT text).size = (Lib.cut text.data.toList [58]).2.1.length := by unfold tailT; exact List.size_toArray
  rw [this]
  unfold Lib.cut
  split
  · show (List.drop _ _).length ≤ _
    rw [List.length_drop]; omega
  · show ([] : List UInt8).length ≤ _; exact Nat.zero_le _
theorem pieces_few {n : Nat} {s : ByteArray} (h : (cutL s 44).length ≤ n) : piecesN n s = cutL s 44 := by
  have h1 := cutL_len s 44
  have h2 := spl_pos (UInt8.ofNat 44) s.data.toList
  rw [← cutL_count s 44 (by decide)] at h2
  exact (splitB_cut s comT 44 _ (by decide) rfl).1 (by omega)
theorem pieces_many {n : Nat} {s : ByteArray} (h1n : 1 ≤ n) (h : n < (cutL s 44).length) : (piecesN n s).length = n := by
  have h1 := cutL_len s 44
  unfold piecesN
  rw [(splitB_cut s comT 44 _ (by decide) rfl).2 (by omega)]
  omega
theorem pieces_len (n : Nat) (s : ByteArray) (h1n : 1 ≤ n) : (piecesN n s).length ≤ n := by
  rcases Nat.lt_or_ge n (cutL s 44).length with h | h
  · rw [pieces_many h1n h]; exact Nat.le_refl _
  · rw [pieces_few h]; exact h
theorem splitB_size (sep : ByteArray) : ∀ (k : Nat) (s : ByteArray), ∀ t ∈ Lib.splitB sep 0 k s, t.size ≤ s.size
  | 0, s => fun t ht => by rw [List.mem_singleton.1 ht]; exact Nat.le_refl _
  | k + 1, s => fun t ht => by
    unfold Lib.splitB at ht
    split at ht
    · rw [List.mem_singleton.1 ht]; exact Nat.le_refl _
    · rcases List.mem_cons.1 ht with rfl | ht
      · exact extract_size_le _ _ _
      · exact Nat.le_trans (splitB_size sep k _ t ht) (extract_size_le _ _ _)
theorem pieces_size {n : Nat} {s t : ByteArray} (h : t ∈ piecesN n s) : t.size ≤ s.size := splitB_size _ _ _ t h
/-- what the program reads is a program -/
structure ReadOk (text : ByteArray) : Prop where
  col : foundT text = true
  ne : ∀ s ∈ piecesN 10 (headT text), s ≠ e0
  two : ∀ s ∈ piecesN 15 (tailT text), s.size = 2
  val : Valid ((piecesN 10 (headT text)).map blkOf) ((piecesN 15 (tailT text)).map blkOf)
theorem no_colon {bs : List Pr} {L : List ByteArray} {s : ByteArray} (hV : Valid bs (L.map blkOf)) (h2 : ∀ p ∈ L, p.size = 2) (hL : cutL s 44 = L) : (58 : UInt8) ∉ s.data.toList := by
  intro hm
  rcases spl_mem (c := UInt8.ofNat 44) hm with h | ⟨p, hp, hx⟩
  · cases h
  · rw [← cutL_spl s 44 (by decide), hL] at hp
    obtain ⟨q, hq, rfl⟩ := List.mem_map.1 hp
    have hb : blkOf q ∈ L.map blkOf := List.mem_map.2 ⟨q, hq, rfl⟩
    have hq2 := h2 q hq
    have nm : ∀ x ∈ names bs, isNm x = true := fun x hx => by
      obtain ⟨p, hp, rfl⟩ := List.mem_map.1 hx
      exact hV.b.nm p hp
    have n1 := nm _ (hV.e.fr _ hb)
    have n2 := nm _ (hV.e.to _ hb)
    unfold blkOf at n1 n2
    unfold isNm at n1 n2
    simp only [Bool.and_eq_true, decide_eq_true_eq] at n1 n2
    obtain ⟨⟨l⟩⟩ := q
    have hl : l.length = 2 := hq2
    match l, hl with
    | [a, b], _ =>
      have e1 : byteAt ((⟨⟨[a, b]⟩⟩ : ByteArray).extract 0 1) 0 = a.toNat := rfl
      have e2 : byteAt ((⟨⟨[a, b]⟩⟩ : ByteArray).extract 1 (⟨⟨[a, b]⟩⟩ : ByteArray).size) 0 = b.toNat := rfl
      rw [e1] at n1
      rw [e2] at n2
      have h58 : (58 : UInt8).toNat = 58 := rfl
      simp only [List.mem_cons, List.not_mem_nil, or_false] at hx
      rcases hx with h | h
      · rw [← h, h58] at n1; omega
      · rw [← h, h58] at n2; omega
theorem cutL_alone {s : ByteArray} {c : Nat} (hc : c < 256) (h : UInt8.ofNat c ∉ s.data.toList) : cutL s c = [s] := list_inj (by rw [cutL_spl s c hc, spl_none h]; rfl)
theorem read_iff (text : ByteArray) : ReadOk text ↔ (partsB text = true ∧ Valid (bsOf text) (esOf text)) := by
  constructor
  · intro h
    obtain ⟨e1, _⟩ := cut_yes h.col
    have hb9 := h.val.b.hi
    have he14 := h.val.e.hi
    rw [List.length_map] at hb9 he14
    have f1 : piecesN 10 (headT text) = cutL (headT text) 44 := by
      rcases Nat.lt_or_ge 10 (cutL (headT text) 44).length with h' | h'
      · have := pieces_many (by decide) h'; omega
      · exact pieces_few h'
    have f2 : piecesN 15 (tailT text) = cutL (tailT text) 44 := by
      rcases Nat.lt_or_ge 15 (cutL (tailT text) 44).length with h' | h'
      · have := pieces_many (by decide) h'; omega
      · exact pieces_few h'
    have hV := h.val
    have h2 := h.two
    have hn := h.ne
    rw [f1, f2] at hV
    rw [f2] at h2
    rw [f1] at hn
    have e2 := cutL_alone (c := 58) (by decide) (no_colon hV h2 rfl)
    rw [e2] at e1
    have p0 : partAt text 0 = cutL (headT text) 44 := by unfold partAt; rw [e1]; rfl
    have p1 : partAt text 1 = cutL (tailT text) 44 := by unfold partAt; rw [e1]; rfl
    refine ⟨partsB_mk (by rw [e1]; rfl) (by rw [p0]; exact hn) (by rw [p1]; exact h2), ?_⟩
    unfold bsOf esOf
    rw [p0, p1]; exact hV
  · rintro ⟨hp, hV⟩
    have hl := partsB_len hp
    have hf : foundT text = true := by
      cases hf : foundT text
      · have := cut_no hf; omega
      · rfl
    obtain ⟨e1, _⟩ := cut_yes hf
    have e2 : cutL (tailT text) 58 = [tailT text] := by
      have h1 : (cutL (tailT text) 58).length = 1 := by rw [e1] at hl; simpa using hl
      rw [cutL_count _ 58 (by decide)] at h1
      exact cutL_alone (by decide) fun hm => by have := spl_two hm; omega
    rw [e2] at e1
    have p0 : partAt text 0 = cutL (headT text) 44 := by unfold partAt; rw [e1]; rfl
    have p1 : partAt text 1 = cutL (tailT text) 44 := by unfold partAt; rw [e1]; rfl
    have hb9 := hV.b.hi
    have he14 := hV.e.hi
    unfold bsOf at hb9
    unfold esOf at he14
    rw [List.length_map, p0] at hb9
    rw [List.length_map, p1] at he14
    have f1 : piecesN 10 (headT text) = cutL (headT text) 44 := pieces_few (by omega)
    have f2 : piecesN 15 (tailT text) = cutL (tailT text) 44 := pieces_few (by omega)
    unfold bsOf esOf at hV
    rw [p0, p1] at hV
    exact ⟨hf, by rw [f1, ← p0]; exact partsB_b hp, by rw [f2, ← p1]; exact partsB_e hp, by rw [f1, f2]; exact hV⟩
theorem read_parts {text : ByteArray} (h : ReadOk text) : (piecesN 10 (headT text)).map blkOf = bsOf text ∧ (piecesN 15 (tailT text)).map blkOf = esOf text := by
  obtain ⟨hp, hV⟩ := (read_iff text).1 h
  obtain ⟨e1, _⟩ := cut_yes h.col
  have hl := partsB_len hp
  have e2 : cutL (tailT text) 58 = [tailT text] := by
    have h1 : (cutL (tailT text) 58).length = 1 := by rw [e1] at hl; simpa using hl
    rw [cutL_count _ 58 (by decide)] at h1
    exact cutL_alone (by decide) fun hm => by have := spl_two hm; omega
  rw [e2] at e1
  have p0 : partAt text 0 = cutL (headT text) 44 := by unfold partAt; rw [e1]; rfl
  have p1 : partAt text 1 = cutL (tailT text) 44 := by unfold partAt; rw [e1]; rfl
  have hb9 := hV.b.hi
  have he14 := hV.e.hi
  unfold bsOf at hb9 ⊢
  unfold esOf at he14 ⊢
  rw [List.length_map, p0] at hb9
  rw [List.length_map, p1] at he14
  rw [p0, p1, pieces_few (by omega), pieces_few (by omega)]
  exact ⟨rfl, rfl⟩
end Go.Proofs.YthkhccfemdjioaaDoor
