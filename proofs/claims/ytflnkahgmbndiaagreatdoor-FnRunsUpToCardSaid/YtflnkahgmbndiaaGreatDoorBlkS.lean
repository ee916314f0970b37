/-
  The model's chapter 3: what a block does to a term. Conditions: a term; a text has at most 1048576 bytes, a list at most as many pairs.
-/
import Derived.Test.YtflnkahgmbndiaaGreatDoorWith
import Derived.Test.YtflnkahgmbndiaaGreatDoorRuns
import Derived.Test.YtflnkahgmbndiaaGreatDoorBlk
import Derived.Laws.IdiomStrings
namespace Go.Proofs.YtflnkahgmbndiaaGreatDoor
open Go.RowKit Go.Maps

theorem isTm_eq {s : ByteArray} (h : s.size = 1) (h0 : 0 < s.size) : isTm s = inB (s[0].toNat : Int) 120 122 := by
  have hb := byteAt_get h0
  have := inB_byte (byteAt s 0) 120 122
  unfold isTm lowB
  rw [h, hb]
  simpa using this.symm
set_option maxHeartbeats 400000 in
theorem l1Term_any (s : ByteArray) (w : World) :
    Calls Tryz.prog 118 #[.string s] w fun e w' => e = .returned (.bool (isTm s)) ∧ w = w' := by
  by_cases h : s.size = 1
  · have h0 : 0 < s.size := by omega
    have hB : (s[0].toNat : Int) ≤ 255 := by have := s[0].toNat_lt; omega
    go_enter Tryz.func118, Tryz.ntmps118
    go_wp2_with (go_at_call 34; refine (l1In_any _ _ _ _).mono ?_; rintro e w' ⟨rfl, rfl⟩)
    go_ret
    exact ⟨ret_bool (isTm_eq h h0).symm, rfl⟩
  · have hb : ((s.size : Int) == 1) = false := by rw [beq_eq_false_iff_ne]; omega
    have hf : isTm s = false := by unfold isTm; rw [show (s.size == 1) = false from by rw [beq_eq_false_iff_ne]; exact h]; rfl
    go_enter Tryz.func118, Tryz.ntmps118
    go_wp2_with (go_at_call 34; refine (l1In_any _ _ _ _).mono ?_; rintro e w' ⟨rfl, rfl⟩)
    go_ret
    exact ⟨ret_bool hf.symm, rfl⟩

theorem one_ext {a b : ByteArray} (ha : a.size = 1) (hb : b.size = 1) (h : byteAt a 0 = byteAt b 0) : a = b := by
  obtain ⟨⟨a⟩⟩ := a
  obtain ⟨⟨b⟩⟩ := b
  have ha' : a.length = 1 := ha
  have hb' : b.length = 1 := hb
  match a, ha', b, hb' with
  | [x], _, [y], _ =>
    have : x.toNat = y.toNat := h
    rw [UInt8.toNat_inj.1 this]
theorem one_iff {a b : ByteArray} (ha : a.size = 1) (hb : b.size = 1) : a = b ↔ byteAt a 0 = byteAt b 0 := ⟨fun e => by rw [e], one_ext ha hb⟩
theorem byteAt_ch {s : ByteArray} {k : Nat} (h : k < s.size) : byteAt (s.extract k (k + 1)) 0 = byteAt s k := by
  have e := extract_one h
  have h1 : byteAt (s.extract k (k + 1)) 0 = ((s.extract k (k + 1)).data.toList.getD 0 0).toNat := by
    unfold byteAt
    congr 1
    cases (s.extract k (k + 1)).data with
    | mk l => cases l <;> rfl
  rw [h1, e, ← byteAt_get h]; rfl
theorem spoilT_size (t : ByteArray) : (spoilT t).size = 1 := rfl
theorem spoilT_at {t : ByteArray} (h : isTm t = true) : byteAt (spoilT t) 0 + 32 = byteAt t 0 := by
  rcases isTm_iff.1 h with rfl | rfl | rfl <;> rfl
theorem ch_hit {s t : ByteArray} {k : Nat} (h : k < s.size) (ht : isTm t = true) : ((s.extract k (k + 1)).toList == t.toList) = decide (byteAt s k = byteAt t 0) := by
  rw [toList_eq_iff]
  have := one_iff (ch_size h) (isTm_size ht)
  rw [show byteAt (ch s k) 0 = byteAt s k from byteAt_ch h] at this
  exact decide_eq_decide.2 this
theorem ch_spoil {s t : ByteArray} {k : Nat} (h : k < s.size) (ht : isTm t = true) : ((s.extract k (k + 1)).toList == (spoilT t).toList) = decide (byteAt s k + 32 = byteAt t 0) := by
  rw [toList_eq_iff]
  have := one_iff (ch_size h) (spoilT_size t)
  rw [show byteAt (ch s k) 0 = byteAt s k from byteAt_ch h] at this
  have h2 := spoilT_at ht
  exact decide_eq_decide.2 ⟨fun e => by have := this.1 e; omega, fun e => this.2 (by omega)⟩

/-- 'string([]byte{c})' -/
theorem conv_one (w : World) (i : Int) (c : UInt8) (h : i = (c.toNat : Int)) : (convert 22 9 (.slice (some ⟨w.heap.size, 0, none⟩) 1 1)).run Tryz.prog (w.alloc (.cells #[.int .u8 i] 5)) = .ok (.string ⟨#[c]⟩) (w.alloc (.cells #[.int .u8 i] 5)) := by
  subst h
  refine run_convert_bytes_back (P := Tryz.prog) (w.alloc (.cells #[.int .u8 (c.toNat : Int)] 5)) 22 9 5 ⟨w.heap.size, 0, none⟩ 1 [c] Tryz.underlying22 Tryz.underlying5 Tryz.underlying9 (fun j hj => ?_)
  obtain rfl : j = 0 := by simpa using hj
  go_simp
theorem spoilT_val {t : ByteArray} (h : isTm t = true) (h0 : 0 < t.size) : ∃ c : UInt8, spoilT t = ⟨#[c]⟩ ∧ ((t[0].toNat : Int) - 120 + 88) = (c.toNat : Int) ∧ 120 ≤ (t[0].toNat : Int) ∧ (t[0].toNat : Int) ≤ 122 := by
  refine ⟨_, rfl, ?_⟩
  rcases isTm_iff.1 h with rfl | rfl | rfl <;> (revert h0; decide)
set_option maxRecDepth 100000 in
theorem l1Spoil_any (t : ByteArray) (w : World) (ht : isTm t = true) :
    Calls Tryz.prog 164 #[.string t] w fun e w' => e = .returned (.string (spoilT t)) ∧ Below w.heap.size w w' := by
  have h0 : 0 < t.size := by rw [isTm_size ht]; decide
  obtain ⟨c, hs, hv, hb1, hb2⟩ := spoilT_val ht h0
  have HS := Lib.hid hs; clear hs
  have kc := conv_one w _ _ hv
  clear hv
  go_enter Tryz.func164, Tryz.ntmps164
  go_wp2
  go_ret
  exact ⟨by rw [HS.out]; rfl, (Below.refl _ _).alloc (Nat.le_refl _) _⟩
set_option maxRecDepth 100000 in
set_option maxHeartbeats 1600000 in
theorem l2Needed_any (s t : ByteArray) (w : World) (hs : s.size ≤ 1048576) (ht : isTm t = true) :
    Calls Tryz.prog 188 #[.string s, .string t, .bool false] w fun e w' => e = .returned (.tuple #[.int .i64 ((fsOf s t).n : Int), .bool (fsOf s t).dn]) ∧ Below w.heap.size w w' := by
  have HT := Lib.hid ht; clear ht
  go_enter Tryz.func188, Tryz.ntmps188
  go_wp2
  go_loopw [12, 8, 2] (fun i o v wr => ∃ k : Nat, k ≤ s.size ∧ i = .int .i64 k ∧ o = .int .i64 ((fsA s (byteAt t 0) k).n : Int) ∧ v = .bool (fsA s (byteAt t 0) k).dn ∧ Below w.heap.size w wr) (fun i _ _ _ => s.size - (intOf i).toNat)
  case atStart => exact ⟨0, Nat.zero_le _, rfl, rfl, rfl, Below.refl _ _⟩
  case round =>
    obtain ⟨k, hk, rfl, rfl, rfl, hbl⟩ := hrel
    have hsz := hbl.size
    have hn := fsA_n s (byteAt t 0) k
    by_cases hlt : k < s.size
    · have s3 := run_slice_str s ((k : Int)) ((k : Int) + 1) k (k + 1) rfl (by omega) (by omega) (by omega)
      have w3 : IntKind.i64.wrap ((k : Int) + 1) = (k : Int) + 1 := IntWalk.i64_in _ (by omega)
      have q1 := ch_hit hlt HT.out
      by_cases e1 : byteAt s k = byteAt t 0
      · have HS := Lib.hid ((fsA_succ s (byteAt t 0) k).trans (FS.step_hit e1))
        rw [decide_eq_true e1] at q1
        clear e1
        cases hd : (fsA s (byteAt t 0) k).dn
        all_goals
          rw [hd] at HS
          go_wp2
          go_roundw
          case rel => exact ⟨k + 1, by omega, by go_num, by rw [HS.out]; rfl, by rw [HS.out], hbl⟩
          case measure => simp [intOf]; omega
      · rw [decide_eq_false e1] at q1
        have q2 := ch_spoil hlt HT.out
        by_cases e2 : byteAt s k + 32 = byteAt t 0
        · have HS := Lib.hid ((fsA_succ s (byteAt t 0) k).trans (FS.step_spoil e2))
          rw [decide_eq_true e2] at q2
          clear e1 e2
          go_wp2_with fail
          refine (l1Spoil_any t _ HT.out).mono ?_
          rintro e w1 ⟨rfl, hb1⟩
          have hall := hbl.trans (hb1.mono hsz)
          go_wp2
          go_roundw
          case rel => exact ⟨k + 1, by omega, by go_num, by rw [HS.out], by rw [HS.out], hall⟩
          case measure => simp [intOf]; omega
        · have HS := Lib.hid (show fsA s (byteAt t 0) (k + 1) = fsA s (byteAt t 0) k by rw [fsA_succ]; exact FS.step_none e1 e2)
          rw [decide_eq_false e2] at q2
          clear e1 e2
          go_wp2_with fail
          refine (l1Spoil_any t _ HT.out).mono ?_
          rintro e w1 ⟨rfl, hb1⟩
          have hall := hbl.trans (hb1.mono hsz)
          go_wp2
          go_roundw
          case rel => exact ⟨k + 1, by omega, by go_num, by rw [HS.out], by rw [HS.out], hall⟩
          case measure => simp [intOf]; omega
    · obtain rfl : k = s.size := by omega
      go_wp2
      go_ret2
      exact ⟨rfl, hbl⟩

set_option maxRecDepth 100000 in
theorem l3Down_any (s t : ByteArray) (w : World) (hs : s.size ≤ 1048576) (ht : isTm t = true) :
    Calls Tryz.prog 162 #[.string s, .string t] w fun e w' => e = .returned (.bool (fsOf s t).dn) ∧ Below w.heap.size w w' := by
  go_enter Tryz.func162, Tryz.ntmps162
  go_wp2_with fail
  refine (l2Needed_any s t _ hs ht).mono ?_
  rintro e w1 ⟨rfl, hb1⟩
  go_wp2
  go_ret
  exact ⟨rfl, hb1⟩

set_option maxRecDepth 100000 in
set_option maxHeartbeats 1600000 in
theorem l3Up_any (s t : ByteArray) (w : World) (hs : s.size ≤ 1048576) (ht : isTm t = true) :
    Calls Tryz.prog 138 #[.string s, .string t] w fun e w' => e = .returned (.bool (fsOf s t).up) ∧ Below w.heap.size w w' := by
  have HT := Lib.hid ht; clear ht
  go_enter Tryz.func138, Tryz.ntmps138
  go_wp2
  go_loopw [8] (fun i wr => ∃ k : Nat, k ≤ s.size ∧ i = .int .i64 k ∧ Still s (byteAt t 0) k ∧ Below w.heap.size w wr) (fun i _ => s.size - (intOf i).toNat)
  case atStart => exact ⟨0, Nat.zero_le _, rfl, fun j hj => absurd hj (Nat.not_lt_zero _), Below.refl _ _⟩
  case round =>
    obtain ⟨k, hk, rfl, hst, hbl⟩ := hrel
    have hsz := hbl.size
    have HS := Lib.hid hst; clear hst
    by_cases hlt : k < s.size
    · have s3 := run_slice_str s ((k : Int)) ((k : Int) + 1) k (k + 1) rfl (by omega) (by omega) (by omega)
      have w3 : IntKind.i64.wrap ((k : Int) + 1) = (k : Int) + 1 := IntWalk.i64_in _ (by omega)
      have q1 := ch_hit hlt HT.out
      by_cases e1 : byteAt s k = byteAt t 0
      · have HU := Lib.hid (up_hit HS.out hlt e1)
        rw [decide_eq_true e1] at q1
        clear e1
        go_wp2
        go_ret
        exact ⟨ret_bool HU.out.symm, hbl⟩
      · rw [decide_eq_false e1] at q1
        have q2 := ch_spoil hlt HT.out
        by_cases e2 : byteAt s k + 32 = byteAt t 0
        · have HU := Lib.hid (up_spoil HS.out hlt e2)
          rw [decide_eq_true e2] at q2
          clear e1 e2
          go_wp2_with fail
          refine (l1Spoil_any t _ HT.out).mono ?_
          rintro e w1 ⟨rfl, hb1⟩
          have hall := hbl.trans (hb1.mono hsz)
          go_wp2
          go_ret
          exact ⟨ret_bool HU.out.symm, hall⟩
        · have HN := Lib.hid (show Still s (byteAt t 0) (k + 1) from all_step HS.out ⟨e1, e2⟩)
          rw [decide_eq_false e2] at q2
          clear e1 e2
          go_wp2_with fail
          refine (l1Spoil_any t _ HT.out).mono ?_
          rintro e w1 ⟨rfl, hb1⟩
          have hall := hbl.trans (hb1.mono hsz)
          go_wp2
          go_roundw
          case rel => exact ⟨k + 1, by omega, by go_num, HN.out, hall⟩
          case measure => simp [intOf]; omega
    · obtain rfl : k = s.size := by omega
      have HU := Lib.hid (up_none HS.out)
      go_wp2
      go_ret
      exact ⟨ret_bool HU.out.symm, hbl⟩

/-- the first place of a byte, -1 if there is none -/
def fndC (s : ByteArray) (c : Nat) : Int := match idx (s.data.toList.map UInt8.toNat) c with | some i => (i : Int) | none => -1
theorem bytes_map_at {s : ByteArray} {k : Nat} (h : k < s.size) : (s.data.toList.map UInt8.toNat)[k]? = some (byteAt s k) := by
  have hl : k < s.data.toList.length := by rw [Array.length_toList]; exact h
  rw [List.getElem?_map, List.getElem?_eq_getElem hl, Option.map_some, ← byteAt_get h]
  rfl
theorem fndC_hit {s : ByteArray} {c k : Nat} (hk : k < s.size) (h : byteAt s k = c) (hn : ∀ j, j < k → byteAt s j ≠ c) : fndC s c = (k : Int) := by
  unfold fndC
  rw [idx_hit _ c k (by rw [bytes_map_at hk, h]) fun j hj e => hn j hj (by rw [bytes_map_at (by omega)] at e; exact Option.some.inj e)]
theorem fndC_none {s : ByteArray} {c : Nat} (hn : ∀ j, j < s.size → byteAt s j ≠ c) : fndC s c = -1 := by
  unfold fndC
  rw [idx_none _ c fun j hj e => ?_]
  have hj' : j < s.size := by simpa using hj
  exact hn j hj' (by rw [bytes_map_at hj'] at e; exact Option.some.inj e)
theorem fndC_neg (s : ByteArray) (c : Nat) : fndC s c < 0 ↔ ∀ j, j < s.size → byteAt s j ≠ c := by
  constructor
  · intro h j hj e
    unfold fndC at h
    cases hi : idx (s.data.toList.map UInt8.toNat) c with
    | none =>
      refine (idx_eq_none_iff _ _).1 hi ?_
      rw [← e]
      exact List.mem_of_getElem? (bytes_map_at hj)
    | some i => rw [hi] at h; simp at h; omega
  · intro h; rw [fndC_none h]; omega
set_option maxRecDepth 100000 in
theorem l15Find_any (s : ByteArray) (c : Nat) (w : World) (hs : s.size ≤ 1048576) :
    Calls Tryz.prog 189 #[.string s, .int .u8 (c : Int)] w fun e w' => e = .returned (.int .i64 (fndC s c)) ∧ w = w' := by
  go_enter Tryz.func189, Tryz.ntmps189
  go_wp2
  go_loop [5] (fun i => ∃ k : Nat, k ≤ s.size ∧ i = .int .i64 k ∧ ∀ j, j < k → byteAt s j ≠ c) (fun i => s.size - (intOf i).toNat)
  case atStart => exact ⟨0, Nat.zero_le _, rfl, all_zero⟩
  case round =>
    obtain ⟨k, hk, rfl, hno⟩ := hrel
    have Hno := Lib.hid hno; clear hno
    by_cases hlt : k < s.size
    · have hB : (s[k].toNat : Int) ≤ 255 := by have := s[k].toNat_lt; omega
      by_cases e1 : byteAt s k = c
      · have q1 : ((s[k].toNat : Int) == (c : Int)) = true := by rw [byteAt_get hlt, e1]; simp
        have HE := Lib.hid (fndC_hit hlt e1 Hno.out)
        clear e1
        go_wp2
        go_ret
        exact ⟨ret_int HE.out.symm, rfl⟩
      · have q1 : ((s[k].toNat : Int) == (c : Int)) = false := by rw [byteAt_get hlt, beq_eq_false_iff_ne]; omega
        have HE := Lib.hid (show byteAt s k ≠ c from e1)
        clear e1
        go_wp2
        go_round
        case rel => exact ⟨k + 1, by omega, by go_num, all_step Hno.out HE.out⟩
        case measure => simp [intOf]; omega
    · obtain rfl : k = s.size := by omega
      go_wp2
      go_ret
      exact ⟨ret_int (fndC_none Hno.out).symm, rfl⟩
theorem clear_iff (s t : ByteArray) : (fsOf s t).cl = true ↔ ∀ j, j < s.size → byteAt s j + 32 ≠ byteAt t 0 := by
  constructor
  · intro h j hj e
    have := cl_spoil (t := byteAt t 0) hj e
    unfold fsOf at h
    rw [this] at h; cases h
  · intro h; exact fsA_cl h
theorem clear_dec {s t : ByteArray} (ht : isTm t = true) : decide (fndC s (byteAt (spoilT t) 0) < 0) = (fsOf s t).cl := by
  have h2 := spoilT_at ht
  rw [Bool.eq_iff_iff, decide_eq_true_eq, clear_iff, fndC_neg]
  exact ⟨fun h j hj e => h j hj (by omega), fun h j hj e => h j hj (by omega)⟩
set_option maxRecDepth 100000 in
theorem l3Clear_any (s t : ByteArray) (w : World) (hs : s.size ≤ 1048576) (ht : isTm t = true) :
    Calls Tryz.prog 163 #[.string s, .string t] w fun e w' => e = .returned (.bool (fsOf s t).cl) ∧ Below w.heap.size w w' := by
  have HD := Lib.hid (clear_dec (s := s) ht)
  have h0 : 0 < (spoilT t).size := by rw [spoilT_size]; decide
  have hg := byteAt_get h0
  have hB : ((spoilT t)[0].toNat : Int) ≤ 255 := by have := (spoilT t)[0].toNat_lt; omega
  have hz := spoilT_size t
  go_enter Tryz.func163, Tryz.ntmps163
  go_wp2_with fail
  refine (l1Spoil_any t _ ht).mono ?_
  rintro e w1 ⟨rfl, hb1⟩
  go_wp2_with fail
  refine (l15Find_any s ((spoilT t)[0].toNat) _ hs).mono ?_
  rintro e w2 ⟨rfl, rfl⟩
  go_wp2
  go_ret
  exact ⟨ret_bool (by rw [← HD.out, ← hg]), hb1⟩
end Go.Proofs.YtflnkahgmbndiaaGreatDoor
