/-
  The program's tidier folded over letters. Conditions: at most 1000 letters, each a term or what spoils one; the tidier lies in a block of its own, its terms in another; the letters' row is older than both.
-/
import Derived.Test.YtngcmjfkeageiaaDoorTidyT
namespace Go.Proofs.YtngcmjfkeageiaaDoor
open Go.RowKit Go.Maps

theorem spT_spare {s : ByteArray} {k : Nat} {T : Nat → Nat} (h0 : T 0 = 120) (h1 : T 1 = 121) (h2 : T 2 = 122) : spT (byteAt s k) (fun j => fsA s (T j) k) T 3 = spareB s k := by
  show (((false || (decide (byteAt s k = T 0) && (fsA s (T 0) k).dn)) || (decide (byteAt s k = T 1) && (fsA s (T 1) k).dn)) || (decide (byteAt s k = T 2) && (fsA s (T 2) k).dn)) = _
  rw [h0, h1, h2]
  unfold spareB lowB
  generalize byteAt s k = u
  by_cases e0 : u = 120
  · subst e0; simp
  · by_cases e1 : u = 121
    · subst e1; simp
    · by_cases e2 : u = 122
      · subst e2; simp
      · have hl : (decide (120 ≤ u) && decide (u ≤ 122)) = false := by
          rw [Bool.and_eq_false_iff, decide_eq_false_iff_not, decide_eq_false_iff_not]
          omega
        rw [decide_eq_false e0, decide_eq_false e1, decide_eq_false e2, hl]
        rfl
theorem extract_ch {s : ByteArray} {k : Nat} (h : k < s.size) : s.extract k (k + 1) = ⟨#[s[k]]⟩ := by
  have e := extract_one h
  generalize s.extract k (k + 1) = t at e
  obtain ⟨⟨l⟩⟩ := t
  have e' : l = [s[k]] := e
  rw [e']
theorem tidyA_next {s : ByteArray} {k : Nat} (h : k < s.size) : (if spareB s k then tidyA s k else tidyA s k ++ ⟨#[s[k]]⟩) = tidyA s (k + 1) := by
  cases hb : spareB s k
  · rw [tidyA_more hb, extract_ch h]; rfl
  · rw [tidyA_spare hb]; rfl

set_option maxRecDepth 100000 in
set_option maxHeartbeats 1600000 in
theorem foldT_any (w0 w : World) (R Tb ct : Nat) (v : Value) (s : ByteArray) (T : Nat → Nat) (h0 : T 0 = 120) (h1 : T 1 = 121) (h2 : T 2 = 122) (p vb : Value) (hs : s.size ≤ 1000) (hop : ∀ i, i < s.size → opB (byteAt s i) = true) (hr : RowAt w0 v (opVals s s.size)) (hb0 : Below w0.heap.size w0 w)
    (h : TidB w0.heap.size R ⟨#[]⟩ p vb (.slice (some ⟨Tb, 0, none⟩) 3 ct) w) (hTb : TB3 w Tb T (fun _ => FS.zero)) (hlo : w0.heap.size ≤ Tb) :
    Calls Tryd.prog 149 #[v, .pointer (some ⟨R, 0, none⟩), .func (.func 150) #[] #[]] w fun e w' => e = .returned (.pointer (some ⟨R, 0, none⟩)) ∧ (∃ p' vb', TidB w0.heap.size R (tidyA s s.size) p' vb' (.slice (some ⟨Tb, 0, none⟩) 3 ct) w') ∧ Below w0.heap.size w w' := by
  obtain ⟨a, cap, rfl⟩ := row_len3 hr
  have hl := opVals_length s s.size
  rw [hl] at hr ⊢
  have hT : ∀ j, j < 3 → 120 ≤ T j ∧ T j ≤ 122 := by
    intro j hj
    obtain rfl | rfl | rfl : j = 0 ∨ j = 1 ∨ j = 2 := by omega
    all_goals omega
  have hsz0 := hb0.size
  have HR := Lib.hid hr; clear hr
  have HO := Lib.hid (And.intro hop (And.intro hT (And.intro h0 (And.intro h1 (And.intro h2 (And.intro h hTb)))))); clear hop hT h0 h1 h2 h hTb
  go_enter Tryd.func149, Tryd.ntmps149
  go_wp2
  go_loopw [11, 1] (fun i d wr => ∃ k : Nat, k ≤ s.size ∧ i = .int .i64 k ∧ d = .pointer (some ⟨R, 0, none⟩) ∧ (∃ p' vb', TidB w0.heap.size R (tidyA s k) p' vb' (.slice (some ⟨Tb, 0, none⟩) 3 ct) wr) ∧ TB3 wr Tb T (fun j => fsA s (T j) k) ∧ Below w0.heap.size w wr) (fun i _ _ => s.size - (intOf i).toNat)
  case atStart => exact ⟨0, Nat.zero_le _, rfl, rfl, ⟨p, vb, HO.out.2.2.2.2.2.1⟩, HO.out.2.2.2.2.2.2, Below.refl _ _⟩
  case round =>
    obtain ⟨k, hk, rfl, rfl, ⟨p', vb', hti⟩, htb, hbl⟩ := hrel
    have hsz := hbl.size
    by_cases hlt : k < s.size
    · obtain ⟨g, cap', e, hg, hc⟩ := row_cell3 HR.out (k := k) (by omega)
      rw [hl] at e
      simp only [Value.slice.injEq, true_and] at e
      obtain ⟨rfl, rfl⟩ := e
      rw [opVals_at3 hlt] at hc
      have d1 := ((hbl.cell (p := ⟨g, k, none⟩) hg).trans (hb0.cell (p := ⟨g, k, none⟩) hg)).trans hc
      have hO1 := tidyA_size s k hk
      have htk := takeT_any w0.heap.size R Tb ct (tidyA s k) p' vb' T HO.out.2.1 (fun j => fsA s (T j) k) (fun j => by have := fsA_n s (T j) k; show (fsA s (T j) k).n ≤ 1000; omega) (byteAt s k) (HO.out.1 k hlt) s[k] (byteAt_get hlt) wr hti htb hlo (by omega) (by omega)
      have HTK := Lib.hid htk
      have HB := Lib.hid hbl
      have hN := tidyA_next hlt
      rw [← spT_spare HO.out.2.2.1 HO.out.2.2.2.1 HO.out.2.2.2.2.1] at hN
      have HN := Lib.hid hN
      clear hc htk hti htb hbl hN hO1
      go_wp2_with fail
      refine HTK.out.mono ?_
      rintro e w2 ⟨rfl, ⟨p2, vb2, ht2⟩, hb3, hbl2⟩
      rw [HN.out] at ht2
      have HF := Lib.hid (And.intro ht2 (And.intro hb3 (HB.out.trans hbl2)))
      clear ht2 hb3 hbl2
      go_wp2
      go_roundw
      case rel => exact ⟨k + 1, by omega, by go_num, rfl, ⟨p2, vb2, HF.out.1⟩, HF.out.2.1, HF.out.2.2⟩
      case measure => simp [intOf]; omega
    · obtain rfl : k = s.size := by omega
      have HF := Lib.hid (And.intro hti hbl)
      clear hti htb hbl
      go_wp2
      go_ret
      exact ⟨rfl, ⟨p', vb', HF.out.1⟩, HF.out.2⟩
end Go.Proofs.YtngcmjfkeageiaaDoor
