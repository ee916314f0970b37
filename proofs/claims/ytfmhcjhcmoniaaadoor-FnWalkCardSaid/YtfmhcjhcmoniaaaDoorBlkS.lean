/-
  The model's chapter 3: what a block does to a term. Conditions: a term; a text has at most 1048576 bytes, a list at most as many pairs.
-/
import Derived.Test.YtfmhcjhcmoniaaaDoorWith
import Derived.Test.YtfmhcjhcmoniaaaDoorRuns
import Derived.Test.YtfmhcjhcmoniaaaDoorBlk
import Derived.Laws.IdiomStrings
namespace Go.Proofs.YtfmhcjhcmoniaaaDoor
open Go.RowKit Go.Maps

theorem isTm_eq {s : ByteArray} (h : s.size = 1) (h0 : 0 < s.size) : isTm s = inB (s[0].toNat : Int) 120 122 := by
  have hb := byteAt_get h0
  have := inB_byte (byteAt s 0) 120 122
  unfold isTm lowB
  rw [h, hb]
  simpa using this.symm
theorem one_ext {a b : ByteArray} (ha : a.size = 1) (hb : b.size = 1) (h : byteAt a 0 = byteAt b 0) : a = b := by
  obtain ⟨⟨a⟩⟩ := a
  obtain ⟨⟨b⟩⟩ := b
  have ha' : a.length = 1 := ha
  have hb' : b.length = 1 := hb
  match a, ha', b, hb' with
  | [x], _, [y], _ =>
    have : x.toNat = y.toNat := h
    rw [UInt8.toNat_inj.1 this]
theorem one_iff {a b : ByteArray} (ha : a.size = 1) (hb : b.size = 1) : a = b ↔ byteAt a 0 = byteAt b 0 := ⟨fun e => by rw [e], one_ext ha hb⟩
theorem byteAt_ch {s : ByteArray} {k : Nat} (h : k < s.size) : byteAt (s.extract k (k + 1)) 0 = byteAt s k := by
  have e := extract_one h
  have h1 : byteAt (s.extract k (k + 1)) 0 = ((s.extract k (k + 1)).data.toList.getD 0 0).toNat := by
    unfold byteAt
    congr 1
    cases (s.extract k (k + 1)).data with
    | mk l => cases l <;> rfl
  rw [h1, e, ← byteAt_get h]; rfl
theorem spoilT_size (t : ByteArray) : (spoilT t).size = 1 := rfl
theorem spoilT_at {t : ByteArray} (h : isTm t = true) : byteAt (spoilT t) 0 + 32 = byteAt t 0 := by
  rcases isTm_iff.1 h with rfl | rfl | rfl <;> rfl
theorem ch_hit {s t : ByteArray} {k : Nat} (h : k < s.size) (ht : isTm t = true) : ((s.extract k (k + 1)).toList == t.toList) = decide (byteAt s k = byteAt t 0) := by
  rw [toList_eq_iff]
  have := one_iff (ch_size h) (isTm_size ht)
  rw [show byteAt (ch s k) 0 = byteAt s k from byteAt_ch h] at this
  exact decide_eq_decide.2 this
theorem ch_spoil {s t : ByteArray} {k : Nat} (h : k < s.size) (ht : isTm t = true) : ((s.extract k (k + 1)).toList == (spoilT t).toList) = decide (byteAt s k + 32 = byteAt t 0) := by
  rw [toList_eq_iff]
  have := one_iff (ch_size h) (spoilT_size t)
  rw [show byteAt (ch s k) 0 = byteAt s k from byteAt_ch h] at this
  have h2 := spoilT_at ht
  exact decide_eq_decide.2 ⟨fun e => by have := this.1 e; omega, fun e => this.2 (by omega)⟩

/-- 'string([]byte{c})' -/
theorem conv_one (w : World) (i : Int) (c : UInt8) (h : i = (c.toNat : Int)) : (convert 41 9 (.slice (some ⟨w.heap.size, 0, none⟩) 1 1)).run Tryd.prog (w.alloc (.cells #[.int .u8 i] 5)) = .ok (.string ⟨#[c]⟩) (w.alloc (.cells #[.int .u8 i] 5)) := by
  subst h
  refine run_convert_bytes_back (P := Tryd.prog) (w.alloc (.cells #[.int .u8 (c.toNat : Int)] 5)) 41 9 5 ⟨w.heap.size, 0, none⟩ 1 [c] Tryd.underlying41 Tryd.underlying5 Tryd.underlying9 (fun j hj => ?_)
  obtain rfl : j = 0 := by simpa using hj
  go_simp
theorem spoilT_val {t : ByteArray} (h : isTm t = true) (h0 : 0 < t.size) : ∃ c : UInt8, spoilT t = ⟨#[c]⟩ ∧ ((t[0].toNat : Int) - 120 + 88) = (c.toNat : Int) ∧ 120 ≤ (t[0].toNat : Int) ∧ (t[0].toNat : Int) ≤ 122 := by
  refine ⟨_, rfl, ?_⟩
  rcases isTm_iff.1 h with rfl | rfl | rfl <;> (revert h0; decide)
/-- the first place of a byte, -1 if there is none -/
def fndC (s : ByteArray) (c : Nat) : Int := match idx (s.data.toList.map UInt8.toNat) c with | some i => (i : Int) | none => -1
theorem bytes_map_at {s : ByteArray} {k : Nat} (h : k < s.size) : (s.data.toList.map UInt8.toNat)[k]? = some (byteAt s k) := by
  have hl : k < s.data.toList.length := by rw [Array.length_toList]; exact h
  rw [List.getElem?_map, List.getElem?_eq_getElem hl, Option.map_some, ← byteAt_get h]
  rfl
theorem fndC_hit {s : ByteArray} {c k : Nat} (hk : k < s.size) (h : byteAt s k = c) (hn : ∀ j, j < k → byteAt s j ≠ c) : fndC s c = (k : Int) := by
  unfold fndC
  rw [idx_hit _ c k (by rw [bytes_map_at hk, h]) fun j hj e => hn j hj (by rw [bytes_map_at (by omega)] at e; exact Option.some.inj e)]
theorem fndC_none {s : ByteArray} {c : Nat} (hn : ∀ j, j < s.size → byteAt s j ≠ c) : fndC s c = -1 := by
  unfold fndC
  rw [idx_none _ c fun j hj e => ?_]
  have hj' : j < s.size := by simpa using hj
  exact hn j hj' (by rw [bytes_map_at hj'] at e; exact Option.some.inj e)
theorem fndC_neg (s : ByteArray) (c : Nat) : fndC s c < 0 ↔ ∀ j, j < s.size → byteAt s j ≠ c := by
  constructor
  · intro h j hj e
    unfold fndC at h
    cases hi : idx (s.data.toList.map UInt8.toNat) c with
    | none =>
      refine (idx_eq_none_iff _ _).1 hi ?_
      rw [← e]
      exact List.mem_of_getElem? (bytes_map_at hj)
    | some i => rw [hi] at h; simp at h; omega
  · intro h; rw [fndC_none h]; omega
theorem clear_iff (s t : ByteArray) : (fsOf s t).cl = true ↔ ∀ j, j < s.size → byteAt s j + 32 ≠ byteAt t 0 := by
  constructor
  · intro h j hj e
    have := cl_spoil (t := byteAt t 0) hj e
    unfold fsOf at h
    rw [this] at h; cases h
  · intro h; exact fsA_cl h
theorem clear_dec {s t : ByteArray} (ht : isTm t = true) : decide (fndC s (byteAt (spoilT t) 0) < 0) = (fsOf s t).cl := by
  have h2 := spoilT_at ht
  rw [Bool.eq_iff_iff, decide_eq_true_eq, clear_iff, fndC_neg]
  exact ⟨fun h j hj e => h j hj (by omega), fun h j hj e => h j hj (by omega)⟩
end Go.Proofs.YtfmhcjhcmoniaaaDoor
