/-
  FactsOf of the model: what all blocks do to a term, as a text. Conditions: at most 1048576 blocks and edges, each text at most as many bytes.
-/
import Derived.Test.YtoppcppinjmjeaaDoorFactM
import Derived.Test.YtoppcppinjmjeaaDoorOnceS
namespace Go.Proofs.YtoppcppinjmjeaaDoor
open Go.RowKit Go.Maps

/-- what is told of a block -/
def partT (bs : List Pr) (t : ByteArray) (k : Nat) : ByteArray := nameAt bs k ++ dg (fsOf (restAt bs k) t).n ++ mkT (fsOf (restAt bs k) t)
/-- of the first blocks, with spaces between them -/
def accF (bs : List Pr) (t : ByteArray) : Nat → ByteArray
  | 0 => e0
  | k + 1 => (if 0 < k then accF bs t k ++ ⟨#[32]⟩ else accF bs t k) ++ partT bs t k
theorem accF_first {bs : List Pr} {t : ByteArray} {k : Nat} (h : ¬ 0 < k) : accF bs t (k + 1) = accF bs t k ++ partT bs t k := by rw [accF, if_neg h]
theorem accF_next {bs : List Pr} {t : ByteArray} {k : Nat} (h : 0 < k) : accF bs t (k + 1) = accF bs t k ++ ⟨#[32]⟩ ++ partT bs t k := by rw [accF, if_pos h]
theorem mkB_size (a b c : Bool) : (mkB a b c).size ≤ 3 := by cases a <;> cases b <;> cases c <;> decide
theorem dg_size (n : Nat) : (dg n).size = 1 := rfl
theorem partT_size {bs es : List Pr} (hV : Valid bs es) (t : ByteArray) {k : Nat} (hk : k < bs.length) : (partT bs t k).size ≤ 5 := by
  have h1 := hV.name_size (nameAt_mem hk)
  have h2 := mkB_size (fsOf (restAt bs k) t).up (fsOf (restAt bs k) t).dn (fsOf (restAt bs k) t).cl
  unfold partT mkT
  rw [ByteArray.size_append, ByteArray.size_append, dg_size]
  omega
theorem accF_size {bs es : List Pr} (hV : Valid bs es) (t : ByteArray) : ∀ k, k ≤ bs.length → (accF bs t k).size ≤ 6 * k
  | 0, _ => by show e0.size ≤ 0; exact Nat.le_refl _
  | k + 1, hk => by
    have h1 := accF_size hV t k (by omega)
    have h2 := partT_size hV t (k := k) (by omega)
    have h3 : (⟨#[32]⟩ : ByteArray).size = 1 := rfl
    by_cases h0 : 0 < k
    · rw [accF_next h0, ByteArray.size_append, ByteArray.size_append]; omega
    · rw [accF_first h0, ByteArray.size_append]; omega
noncomputable def factsV (bs es : List Pr) (t : ByteArray) : Value := if (validB bs es && isTm t) = true then .tuple #[.string (accF bs t bs.length), .bool true] else .tuple #[.string e0, .bool false]
theorem factsV_yes {bs es : List Pr} {t : ByteArray} (h : validB bs es = true) (h' : isTm t = true) : factsV bs es t = .tuple #[.string (accF bs t bs.length), .bool true] := by unfold factsV; rw [h, h']; rfl
theorem factsV_no1 {bs es : List Pr} {t : ByteArray} (h : validB bs es = false) : factsV bs es t = .tuple #[.string e0, .bool false] := by unfold factsV; rw [h]; rfl
theorem factsV_no2 {bs es : List Pr} {t : ByteArray} (h : isTm t = false) : factsV bs es t = .tuple #[.string e0, .bool false] := by unfold factsV; rw [h, Bool.and_false]; rfl
theorem factsV_form (bs es : List Pr) (t : ByteArray) : ∃ (r : ByteArray) (ok : Bool), factsV bs es t = .tuple #[.string r, .bool ok] := by
  cases h : validB bs es
  · exact ⟨_, _, factsV_no1 h⟩
  · cases h' : isTm t
    · exact ⟨_, _, factsV_no2 h'⟩
    · exact ⟨_, _, factsV_yes h h'⟩
/-- the letters of facts behind a text, one by one -/
def letT (o : ByteArray) (a b c : Bool) : ByteArray :=
  let p := if a then o ++ ⟨#[117]⟩ else o
  let q := if b then p ++ ⟨#[100]⟩ else p
  if c then q ++ ⟨#[99]⟩ else q
theorem letT_eq (o : ByteArray) (a b c : Bool) : letT o a b c = o ++ mkB a b c := by
  cases a <;> cases b <;> cases c <;> (apply bytes_ext2; simp [letT, mkB, ByteArray.data_append])
theorem l3Up_lit (s t : ByteArray) (b : Bool) (h : (fsOf s t).up = b) (w : World) (hs : s.size ≤ 1048576) (ht : isTm t = true) :
    Calls Tryd.prog 53 #[.string s, .string t] w fun e w' => e = .returned (.bool b) ∧ Below w.heap.size w w' := by subst h; exact l3Up_any s t w hs ht
theorem l3Down_lit (s t : ByteArray) (b : Bool) (h : (fsOf s t).dn = b) (w : World) (hs : s.size ≤ 1048576) (ht : isTm t = true) :
    Calls Tryd.prog 55 #[.string s, .string t] w fun e w' => e = .returned (.bool b) ∧ Below w.heap.size w w' := by subst h; exact l3Down_any s t w hs ht
theorem l3Clear_lit (s t : ByteArray) (b : Bool) (h : (fsOf s t).cl = b) (w : World) (hs : s.size ≤ 1048576) (ht : isTm t = true) :
    Calls Tryd.prog 56 #[.string s, .string t] w fun e w' => e = .returned (.bool b) ∧ Below w.heap.size w w' := by subst h; exact l3Clear_any s t w hs ht
end Go.Proofs.YtoppcppinjmjeaaDoor
