import Derived.Test.YtngcmjfkeageiaaDoorFsA
import Derived.Lib.Split
section
/-
  Plain mathematics of texts: a text cut at a byte, as the model cuts it and as the library does at most so often. It names no program. Conditions: none.
-/
namespace Go.Proofs.YtngcmjfkeageiaaDoor

/-- bytes cut at each byte c -/
def spl (c : UInt8) : List UInt8 → List (List UInt8)
  | [] => [[]]
  | x :: r => if x = c then [] :: spl c r else (x :: (spl c r).headD []) :: (spl c r).tail
theorem spl_hit (c : UInt8) (r : List UInt8) : spl c (c :: r) = [] :: spl c r := by rw [spl, if_pos rfl]
theorem spl_miss {c x : UInt8} (h : x ≠ c) (r : List UInt8) : spl c (x :: r) = (x :: (spl c r).headD []) :: (spl c r).tail := by rw [spl, if_neg h]
theorem spl_form (c : UInt8) (l : List UInt8) : ∃ p q, spl c l = p :: q := by
  cases l with
  | nil => exact ⟨_, _, rfl⟩
  | cons x r =>
    by_cases h : x = c
    · subst h; exact ⟨_, _, spl_hit _ _⟩
    · exact ⟨_, _, spl_miss h r⟩
theorem spl_snoc_hit (c : UInt8) : ∀ l : List UInt8, spl c (l ++ [c]) = spl c l ++ [[]]
  | [] => by rw [List.nil_append, spl_hit]; rfl
  | y :: r => by
    have ih := spl_snoc_hit c r
    obtain ⟨p, q, e⟩ := spl_form c r
    by_cases h : y = c
    · subst h; rw [List.cons_append, spl_hit, spl_hit, ih]; rfl
    · rw [List.cons_append, spl_miss h, spl_miss h, ih, e]; rfl
theorem spl_snoc_miss {c x : UInt8} (h : x ≠ c) : ∀ l : List UInt8, ∃ o z, spl c l = o ++ [z] ∧ spl c (l ++ [x]) = o ++ [z ++ [x]]
  | [] => ⟨[], [], rfl, by rw [List.nil_append, spl_miss h]; rfl⟩
  | y :: r => by
    obtain ⟨o, z, h1, h2⟩ := spl_snoc_miss h r
    by_cases hy : y = c
    · subst hy
      exact ⟨[] :: o, z, by rw [spl_hit, h1]; rfl, by rw [List.cons_append, spl_hit, h2]; rfl⟩
    · cases o with
      | nil => exact ⟨[], y :: z, by rw [spl_miss hy, h1]; rfl, by rw [List.cons_append, spl_miss hy, h2]; rfl⟩
      | cons p q => exact ⟨(y :: p) :: q, z, by rw [spl_miss hy, h1]; rfl, by rw [List.cons_append, spl_miss hy, h2]; rfl⟩
theorem spl_none {c : UInt8} : ∀ {l : List UInt8}, c ∉ l → spl c l = [l]
  | [], _ => rfl
  | x :: r, h => by
    have h1 : x ≠ c := fun e => h (by rw [e]; exact List.mem_cons_self ..)
    rw [spl_miss h1, spl_none fun hm => h (List.mem_cons_of_mem _ hm)]; rfl
theorem spl_first {c : UInt8} (b : List UInt8) : ∀ {a : List UInt8}, c ∉ a → spl c (a ++ c :: b) = a :: spl c b
  | [], _ => spl_hit c b
  | x :: r, h => by
    have h1 : x ≠ c := fun e => h (by rw [e]; exact List.mem_cons_self ..)
    rw [List.cons_append, spl_miss h1, spl_first b fun hm => h (List.mem_cons_of_mem _ hm)]; rfl
theorem spl_pos (c : UInt8) (l : List UInt8) : 1 ≤ (spl c l).length := by
  obtain ⟨p, q, e⟩ := spl_form c l
  rw [e]; simp
/-- each byte of a text stands in a piece, or parts two -/
theorem spl_mem {c x : UInt8} : ∀ {l : List UInt8}, x ∈ l → x = c ∨ ∃ p ∈ spl c l, x ∈ p
  | y :: r, h => by
    by_cases hy : y = c
    · subst hy
      rcases List.mem_cons.1 h with rfl | h
      · exact .inl rfl
      · rcases spl_mem h with h | ⟨p, hp, hx⟩
        · exact .inl h
        · exact .inr ⟨p, by rw [spl_hit]; exact List.mem_cons_of_mem _ hp, hx⟩
    · rw [spl_miss hy]
      rcases List.mem_cons.1 h with rfl | h
      · exact .inr ⟨_, List.mem_cons_self .., List.mem_cons_self ..⟩
      · rcases spl_mem h with h | ⟨p, hp, hx⟩
        · exact .inl h
        · obtain ⟨p0, q, e⟩ := spl_form c r
          rw [e] at hp ⊢
          rcases List.mem_cons.1 hp with rfl | hp
          · exact .inr ⟨_, List.mem_cons_self .., List.mem_cons_of_mem _ hx⟩
          · exact .inr ⟨p, List.mem_cons_of_mem _ hp, hx⟩
/-- the first place of a byte -/
theorem first_mem {c : UInt8} : ∀ {l : List UInt8}, c ∈ l → ∃ a b, l = a ++ c :: b ∧ c ∉ a
  | x :: r, h => by
    by_cases hx : x = c
    · subst hx; exact ⟨[], r, rfl, by simp⟩
    · have hr : c ∈ r := by
        rcases List.mem_cons.1 h with e | h
        · exact absurd e.symm hx
        · exact h
      obtain ⟨a, b, rfl, ha⟩ := first_mem hr
      exact ⟨x :: a, b, rfl, fun hm => by
        rcases List.mem_cons.1 hm with e | hm
        · exact hx e.symm
        · exact ha hm⟩
theorem spl_two {c : UInt8} {l : List UInt8} (h : c ∈ l) : 2 ≤ (spl c l).length := by
  obtain ⟨a, b, rfl, ha⟩ := first_mem h
  rw [spl_first b ha, List.length_cons]
  have := spl_pos c b
  omega
theorem index_one (c : UInt8) : ∀ s : List UInt8, (Lib.index s [c] = -1 ∧ c ∉ s) ∨ ∃ a b, s = a ++ c :: b ∧ c ∉ a ∧ Lib.index s [c] = (a.length : Int)
  | [] => .inl ⟨rfl, by simp⟩
  | x :: r => by
    have e : Lib.index (x :: r) [c] = if List.isPrefixOf [c] (x :: r) then 0 else if Lib.index r [c] == -1 then -1 else Lib.index r [c] + 1 := rfl
    rw [e]
    by_cases hx : x = c
    · subst hx
      exact .inr ⟨[], r, rfl, by simp, by simp [List.isPrefixOf]⟩
    · have hp : List.isPrefixOf [c] (x :: r) = false := by simp [List.isPrefixOf]; exact fun e => hx e.symm
      rw [hp]
      have hc : c ≠ x := fun e => hx e.symm
      rcases index_one c r with ⟨h1, h2⟩ | ⟨a, b, rfl, ha, h1⟩
      · refine .inl ⟨by rw [h1]; rfl, fun hm => ?_⟩
        rcases List.mem_cons.1 hm with e | hm
        · exact hc e
        · exact h2 hm
      · refine .inr ⟨x :: a, b, rfl, fun hm => ?_, ?_⟩
        · rcases List.mem_cons.1 hm with e | hm
          · exact hc e
          · exact ha hm
        · rw [h1]
          have : (((a.length : Nat) : Int) == -1) = false := by rw [beq_eq_false_iff_ne]; omega
          rw [this]
          simp
/-- at most so many cuts -/
theorem splitK_spl (c : UInt8) : ∀ (k : Nat) (s : List UInt8), ((spl c s).length ≤ k + 1 → Lib.splitK [c] 0 k s = spl c s) ∧ (k + 1 < (spl c s).length → (Lib.splitK [c] 0 k s).length = k + 1)
  | 0, s => by
    refine ⟨fun h => ?_, fun _ => rfl⟩
    rw [spl_none fun hm => by have := spl_two hm; omega]; rfl
  | k + 1, s => by
    unfold Lib.splitK
    rcases index_one c s with ⟨h1, h2⟩ | ⟨a, b, rfl, ha, h1⟩
    · rw [h1, spl_none h2]
      exact ⟨fun _ => rfl, fun h => by simp at h⟩
    · have hf : ((((a.length : Nat) : Int) == -1)) = false := by rw [beq_eq_false_iff_ne]; omega
      rw [h1, hf, spl_first b ha]
      have h3 := splitK_spl c k b
      have e1 : (a ++ c :: b).take ((a.length : Int).toNat + 0) = a := by simp
      have e2 : (a ++ c :: b).drop ((a.length : Int).toNat + [c].length) = b := by
        rw [show (a.length : Int).toNat + [c].length = a.length + 1 by simp, List.drop_append]; simp
      have e3 : (if (((a.length : Int) == -1) = true) then [a ++ c :: b] else (a ++ c :: b).take ((a.length : Int).toNat + 0) :: Lib.splitK [c] 0 k ((a ++ c :: b).drop ((a.length : Int).toNat + [c].length))) = a :: Lib.splitK [c] 0 k b := by
        rw [hf, e1, e2]; rfl
      rw [hf] at e3
      rw [e3, List.length_cons, List.length_cons]
      exact ⟨fun h => by rw [h3.1 (by omega)], fun h => by rw [h3.2 (by omega)]⟩
theorem extr_list (s : ByteArray) (f i : Nat) : (s.extract f i).data.toList = (s.data.toList.take i).drop f := by
  rw [ByteArray.data_extract, Array.toList_extract, List.extract_eq_take_drop, List.drop_take]
/-- what the model's cut holds behind so many bytes -/
theorem cutSt_spl (s : ByteArray) (c : Nat) (hc : c < 256) : ∀ i, i ≤ s.size → (cutSt s c i).1.map (·.data.toList) ++ [(s.extract (cutSt s c i).2 i).data.toList] = spl (UInt8.ofNat c) (s.data.toList.take i)
  | 0, _ => by
    rw [extr_list]; rfl
  | i + 1, hi => by
    have ih := cutSt_spl s c hc i (by omega)
    have hl : i < s.data.toList.length := by have : s.data.toList.length = s.size := by simp
                                             omega
    have hb : byteAt s i = (s.data.toList[i]).toNat := by
      unfold byteAt
      rw [Array.getD_eq_getD_getElem?, Array.getElem?_eq_getElem (by simpa using hl)]
      simp
    have ht : s.data.toList.take (i + 1) = s.data.toList.take i ++ [s.data.toList[i]] := List.take_succ_eq_append_getElem hl
    have hu : (UInt8.ofNat c).toNat = c := by rw [UInt8.toNat_ofNat']; omega
    rw [ht]
    by_cases h : byteAt s i = c
    · have e : s.data.toList[i] = UInt8.ofNat c := UInt8.toNat_inj.1 (by rw [hu, ← hb, h])
      rw [cutSt_hit (.inr h), e, spl_snoc_hit, ← ih, List.map_append, List.map_cons, List.map_nil, extr_list s (i + 1) (i + 1)]
      congr 1
      simp
    · have hn : ¬ (i = s.size ∨ byteAt s i = c) := fun hh => by rcases hh with hh | hh; omega; exact h hh
      have e : s.data.toList[i] ≠ UInt8.ofNat c := fun e => h (by rw [hb, e, hu])
      obtain ⟨o, z, h1, h2⟩ := spl_snoc_miss e (s.data.toList.take i)
      rw [cutSt_miss hn, h2]
      rw [h1] at ih
      have hz := List.append_inj' ih rfl
      rw [hz.1]
      have h3 := hz.2
      simp only [List.cons.injEq, and_true] at h3
      rw [← h3, extr_list, extr_list, ht, List.drop_append_of_le_length (by have := cutSt_le s c i; simp only [List.length_take]; omega)]
theorem cutL_spl (s : ByteArray) (c : Nat) (hc : c < 256) : (cutL s c).map (·.data.toList) = spl (UInt8.ofNat c) s.data.toList := by
  have h := cutSt_spl s c hc s.size (Nat.le_refl _)
  have hl : s.data.toList.length = s.size := by simp
  unfold cutL
  rw [cutSt_hit (.inl rfl), List.map_append, List.map_cons, List.map_nil, h, List.take_of_length_le (by omega)]
theorem cutL_count (s : ByteArray) (c : Nat) (hc : c < 256) : (cutL s c).length = (spl (UInt8.ofNat c) s.data.toList).length := by rw [← cutL_spl s c hc, List.length_map]
theorem list_inj {a b : List ByteArray} (h : a.map (·.data.toList) = b.map (·.data.toList)) : a = b := by
  induction a generalizing b with
  | nil => cases b with
    | nil => rfl
    | cons _ _ => cases h
  | cons x r ih => cases b with
    | nil => cases h
    | cons y q =>
      simp only [List.map_cons, List.cons.injEq] at h
      rw [ByteArray.ext (Array.toList_inj.1 h.1), ih h.2]
/-- the library's pieces, where there are few, are the model's; else there are as many as were asked for -/
theorem splitB_cut (s sep : ByteArray) (c k : Nat) (hc : c < 256) (hs : sep.data.toList = [UInt8.ofNat c]) : ((cutL s c).length ≤ k + 1 → Lib.splitB sep 0 k s = cutL s c) ∧ (k + 1 < (cutL s c).length → (Lib.splitB sep 0 k s).length = k + 1) := by
  have h1 := Lib.splitB_data sep 0 k s
  have h2 := splitK_spl (UInt8.ofNat c) k s.data.toList
  rw [cutL_count s c hc]
  rw [hs] at h1
  refine ⟨fun h => list_inj ?_, fun h => ?_⟩
  · rw [h1, cutL_spl s c hc, h2.1 h]
  · rw [← h2.2 h, ← h1, List.length_map]
end Go.Proofs.YtngcmjfkeageiaaDoor
end

section
/-
  Plain mathematics of the program's parser: what a text cut at its first colon, and then at so many commas at most, has of a program, against the model's parts. It names the program's types alone. Conditions: none.
-/
namespace Go.Proofs.YtngcmjfkeageiaaDoor
open Go.RowKit

/-- ahead of the first colon, and behind it -/
def headT (text : ByteArray) : ByteArray := ⟨(Lib.cut text.data.toList [58]).1.toArray⟩
def tailT (text : ByteArray) : ByteArray := ⟨(Lib.cut text.data.toList [58]).2.1.toArray⟩
def foundT (text : ByteArray) : Bool := (Lib.cut text.data.toList [58]).2.2
def comT : ByteArray := ⟨#[44]⟩
/-- the pieces, at most n -/
def piecesN (n : Nat) (s : ByteArray) : List ByteArray := Lib.splitB comT 0 (min n (s.size + 1) - 1) s
theorem cut_no {text : ByteArray} (h : foundT text = false) : (cutL text 58).length = 1 := by
  unfold foundT Lib.cut at h
  rcases index_one 58 text.data.toList with ⟨h1, h2⟩ | ⟨a, b, e, ha, h1⟩
  · rw [cutL_count text 58 (by decide), show UInt8.ofNat 58 = 58 from rfl, spl_none h2]; rfl
  · rw [h1, if_pos (by omega)] at h; cases h
theorem cut_yes {text : ByteArray} (h : foundT text = true) : cutL text 58 = headT text :: cutL (tailT text) 58 ∧ (58 : UInt8) ∈ text.data.toList := by
  rcases index_one 58 text.data.toList with ⟨h1, h2⟩ | ⟨a, b, e, ha, h1⟩
  · unfold foundT Lib.cut at h
    rw [h1, if_neg (by decide)] at h; cases h
  · have eh : (headT text).data.toList = a := by
      unfold headT Lib.cut
      rw [h1, if_pos (by omega), e]; simp
    have et : (tailT text).data.toList = b := by
      unfold tailT Lib.cut
      rw [h1, if_pos (by omega), e]
      rw [show (a.length : Int).toNat + [(58 : UInt8)].length = a.length + 1 by simp, List.drop_append]; simp
    refine ⟨list_inj ?_, by rw [e]; simp⟩
    rw [cutL_spl text 58 (by decide), List.map_cons, cutL_spl (tailT text) 58 (by decide), eh, et, e, show UInt8.ofNat 58 = 58 from rfl, spl_first b ha]
theorem headT_size (text : ByteArray) : (headT text).size ≤ text.size := by
  have hl : text.data.toList.length = text.size := by simp
  have : (headT text).size = (Lib.cut text.data.toList [58]).1.length := by unfold headT; exact List.size_toArray
  rw [this]
  unfold Lib.cut
  split
  · show (List.take _ _).length ≤ _
    rw [List.length_take]; omega
  · show text.data.toList.length ≤ _; omega
theorem tailT_size (text : ByteArray) : (tailT text).size ≤ text.size := by
  have hl : text.data.toList.length = text.size := by simp
  have : (tailT text).size = (Lib.cut text.data.toList [58]).2.1.length := by unfold tailT; exact List.size_toArray
  rw [this]
  unfold Lib.cut
  split
  · show (List.drop _ _).length ≤ _
    rw [List.length_drop]; omega
  · show ([] : List UInt8).length ≤ _; exact Nat.zero_le _
theorem pieces_few {n : Nat} {s : ByteArray} (h : (cutL s 44).length ≤ n) : piecesN n s = cutL s 44 := by
  have h1 := cutL_len s 44
  have h2 := spl_pos (UInt8.ofNat 44) s.data.toList
  rw [← cutL_count s 44 (by decide)] at h2
  exact (splitB_cut s comT 44 _ (by decide) rfl).1 (by omega)
theorem pieces_many {n : Nat} {s : ByteArray} (h1n : 1 ≤ n) (h : n < (cutL s 44).length) : (piecesN n s).length = n := by
  have h1 := cutL_len s 44
  unfold piecesN
  rw [(splitB_cut s comT 44 _ (by decide) rfl).2 (by omega)]
  omega
theorem pieces_len (n : Nat) (s : ByteArray) (h1n : 1 ≤ n) : (piecesN n s).length ≤ n := by
  rcases Nat.lt_or_ge n (cutL s 44).length with h | h
  · rw [pieces_many h1n h]; exact Nat.le_refl _
  · rw [pieces_few h]; exact h
theorem splitB_size (sep : ByteArray) : ∀ (k : Nat) (s : ByteArray), ∀ t ∈ Lib.splitB sep 0 k s, t.size ≤ s.size
  | 0, s => fun t ht => by rw [List.mem_singleton.1 ht]; exact Nat.le_refl _
  | k + 1, s => fun t ht => by
    unfold Lib.splitB at ht
    split at ht
    · rw [List.mem_singleton.1 ht]; exact Nat.le_refl _
    · rcases List.mem_cons.1 ht with rfl | ht
      · exact extract_size_le _ _ _
      · exact Nat.le_trans (splitB_size sep k _ t ht) (extract_size_le _ _ _)
theorem pieces_size {n : Nat} {s t : ByteArray} (h : t ∈ piecesN n s) : t.size ≤ s.size := splitB_size _ _ _ t h
/-- what the program reads is a program -/
structure ReadOk (text : ByteArray) : Prop where
  col : foundT text = true
  ne : ∀ s ∈ piecesN 10 (headT text), s ≠ e0
  two : ∀ s ∈ piecesN 15 (tailT text), s.size = 2
  val : Valid ((piecesN 10 (headT text)).map blkOf) ((piecesN 15 (tailT text)).map blkOf)
theorem no_colon {bs : List Pr} {L : List ByteArray} {s : ByteArray} (hV : Valid bs (L.map blkOf)) (h2 : ∀ p ∈ L, p.size = 2) (hL : cutL s 44 = L) : (58 : UInt8) ∉ s.data.toList := by
  intro hm
  rcases spl_mem (c := UInt8.ofNat 44) hm with h | ⟨p, hp, hx⟩
  · cases h
  · rw [← cutL_spl s 44 (by decide), hL] at hp
    obtain ⟨q, hq, rfl⟩ := List.mem_map.1 hp
    have hb : blkOf q ∈ L.map blkOf := List.mem_map.2 ⟨q, hq, rfl⟩
    have hq2 := h2 q hq
    have nm : ∀ x ∈ names bs, isNm x = true := fun x hx => by
      obtain ⟨p, hp, rfl⟩ := List.mem_map.1 hx
      exact hV.b.nm p hp
    have n1 := nm _ (hV.e.fr _ hb)
    have n2 := nm _ (hV.e.to _ hb)
    unfold blkOf at n1 n2
    unfold isNm at n1 n2
    simp only [Bool.and_eq_true, decide_eq_true_eq] at n1 n2
    obtain ⟨⟨l⟩⟩ := q
    have hl : l.length = 2 := hq2
    match l, hl with
    | [a, b], _ =>
      have e1 : byteAt ((⟨⟨[a, b]⟩⟩ : ByteArray).extract 0 1) 0 = a.toNat := rfl
      have e2 : byteAt ((⟨⟨[a, b]⟩⟩ : ByteArray).extract 1 (⟨⟨[a, b]⟩⟩ : ByteArray).size) 0 = b.toNat := rfl
      rw [e1] at n1
      rw [e2] at n2
      have h58 : (58 : UInt8).toNat = 58 := rfl
      simp only [List.mem_cons, List.not_mem_nil, or_false] at hx
      rcases hx with h | h
      · rw [← h, h58] at n1; omega
      · rw [← h, h58] at n2; omega
theorem cutL_alone {s : ByteArray} {c : Nat} (hc : c < 256) (h : UInt8.ofNat c ∉ s.data.toList) : cutL s c = [s] := list_inj (by rw [cutL_spl s c hc, spl_none h]; rfl)
theorem read_iff (text : ByteArray) : ReadOk text ↔ (partsB text = true ∧ Valid (bsOf text) (esOf text)) := by
  constructor
  · intro h
    obtain ⟨e1, _⟩ := cut_yes h.col
    have hb9 := h.val.b.hi
    have he14 := h.val.e.hi
    rw [List.length_map] at hb9 he14
    have f1 : piecesN 10 (headT text) = cutL (headT text) 44 := by
      rcases Nat.lt_or_ge 10 (cutL (headT text) 44).length with h' | h'
      · have := pieces_many (by decide) h'; omega
      · exact pieces_few h'
    have f2 : piecesN 15 (tailT text) = cutL (tailT text) 44 := by
      rcases Nat.lt_or_ge 15 (cutL (tailT text) 44).length with h' | h'
      · have := pieces_many (by decide) h'; omega
      · exact pieces_few h'
    have hV := h.val
    have h2 := h.two
    have hn := h.ne
    rw [f1, f2] at hV
    rw [f2] at h2
    rw [f1] at hn
    have e2 := cutL_alone (c := 58) (by decide) (no_colon hV h2 rfl)
    rw [e2] at e1
    have p0 : partAt text 0 = cutL (headT text) 44 := by unfold partAt; rw [e1]; rfl
    have p1 : partAt text 1 = cutL (tailT text) 44 := by unfold partAt; rw [e1]; rfl
    refine ⟨partsB_mk (by rw [e1]; rfl) (by rw [p0]; exact hn) (by rw [p1]; exact h2), ?_⟩
    unfold bsOf esOf
    rw [p0, p1]; exact hV
  · rintro ⟨hp, hV⟩
    have hl := partsB_len hp
    have hf : foundT text = true := by
      cases hf : foundT text
      · have := cut_no hf; omega
      · rfl
    obtain ⟨e1, _⟩ := cut_yes hf
    have e2 : cutL (tailT text) 58 = [tailT text] := by
      have h1 : (cutL (tailT text) 58).length = 1 := by rw [e1] at hl; simpa using hl
      rw [cutL_count _ 58 (by decide)] at h1
      exact cutL_alone (by decide) fun hm => by have := spl_two hm; omega
    rw [e2] at e1
    have p0 : partAt text 0 = cutL (headT text) 44 := by unfold partAt; rw [e1]; rfl
    have p1 : partAt text 1 = cutL (tailT text) 44 := by unfold partAt; rw [e1]; rfl
    have hb9 := hV.b.hi
    have he14 := hV.e.hi
    unfold bsOf at hb9
    unfold esOf at he14
    rw [List.length_map, p0] at hb9
    rw [List.length_map, p1] at he14
    have f1 : piecesN 10 (headT text) = cutL (headT text) 44 := pieces_few (by omega)
    have f2 : piecesN 15 (tailT text) = cutL (tailT text) 44 := pieces_few (by omega)
    unfold bsOf esOf at hV
    rw [p0, p1] at hV
    exact ⟨hf, by rw [f1, ← p0]; exact partsB_b hp, by rw [f2, ← p1]; exact partsB_e hp, by rw [f1, f2]; exact hV⟩
theorem read_parts {text : ByteArray} (h : ReadOk text) : (piecesN 10 (headT text)).map blkOf = bsOf text ∧ (piecesN 15 (tailT text)).map blkOf = esOf text := by
  obtain ⟨hp, hV⟩ := (read_iff text).1 h
  obtain ⟨e1, _⟩ := cut_yes h.col
  have hl := partsB_len hp
  have e2 : cutL (tailT text) 58 = [tailT text] := by
    have h1 : (cutL (tailT text) 58).length = 1 := by rw [e1] at hl; simpa using hl
    rw [cutL_count _ 58 (by decide)] at h1
    exact cutL_alone (by decide) fun hm => by have := spl_two hm; omega
  rw [e2] at e1
  have p0 : partAt text 0 = cutL (headT text) 44 := by unfold partAt; rw [e1]; rfl
  have p1 : partAt text 1 = cutL (tailT text) 44 := by unfold partAt; rw [e1]; rfl
  have hb9 := hV.b.hi
  have he14 := hV.e.hi
  unfold bsOf at hb9 ⊢
  unfold esOf at he14 ⊢
  rw [List.length_map, p0] at hb9
  rw [List.length_map, p1] at he14
  rw [p0, p1, pieces_few (by omega), pieces_few (by omega)]
  exact ⟨rfl, rfl⟩
end Go.Proofs.YtngcmjfkeageiaaDoor
end
