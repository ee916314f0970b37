/-
  writeOps: the letters that a row of letters' values stands for. Conditions: the row is the one of at most six letters that tell something.
-/
import Derived.Test.YtdepangkeeehpaaDoorPlan
import Derived.Test.YtdepangkeeehpaaDoorShelfB
namespace Go.Proofs.YtdepangkeeehpaaDoor
open Go.RowKit Go.Maps

theorem row_cell {w : World} {v : Value} {xs : List Value} (h : RowAt w v xs) {k : Nat} (hk : k < xs.length) : ∃ g cap, v = .slice (some ⟨g, 0, none⟩) xs.length cap ∧ g < w.heap.size ∧ w.cell? ⟨g, k, none⟩ = xs[k]? := by
  obtain ⟨h1, ⟨_, h0⟩ | ⟨g, cap, cur, e1, _, e3, _, _, e6, e7⟩⟩ := h
  · omega
  · refine ⟨g, cap, e1, (Array.getElem?_eq_some_iff.1 e3).1, ?_⟩
    have hx : (cur.toList.take (xs.length * 1))[k]? = xs[k]? := by rw [e7]
    rw [List.getElem?_take, if_pos (by omega)] at hx
    rw [← hx]
    simp [World.cell?, e3]
theorem row_len {w : World} {v : Value} {xs : List Value} (h : RowAt w v xs) : ∃ a cap, v = .slice a xs.length cap := by
  obtain ⟨h1, ⟨e, h0⟩ | ⟨g, cap, cur, e1, _⟩⟩ := h
  · exact ⟨none, 0, by rw [e, h0]⟩
  · exact ⟨_, cap, e1⟩
theorem opVals_at {s : ByteArray} {k : Nat} (hk : k < s.size) : (opVals s s.size)[k]? = some (opVal (byteAt s k)) := by simp [opVals, hk]

theorem Tryd.letterC (b : Int) (w : World) : (method 382 102 (.agg #[.int .u8 b]) "loop.example/onceways/impl.letter").run Tryd.prog w = .ok (292, .agg #[.int .u8 b]) w := by kernel_rfl
theorem Tryd.letterS (b : Int) (w : World) : (method 382 103 (.agg #[.int .u8 b]) "loop.example/onceways/impl.letter").run Tryd.prog w = .ok (293, .agg #[.int .u8 b]) w := by kernel_rfl

theorem letterC_any (b : Int) (w : World) : Calls Tryd.prog 292 #[.agg #[.int .u8 b]] w fun e w' => e = .returned (.int .u8 b) ∧ Below w.heap.size w w' := by
  go_enter Tryd.func292, Tryd.ntmps292
  go_wp2
  go_ret
  exact ⟨rfl, (Below.refl _ _).alloc (Nat.le_refl _) _⟩
theorem letterS_any (c : Int) (h1 : 88 ≤ c) (h2 : c ≤ 90) (w : World) : Calls Tryd.prog 293 #[.agg #[.int .u8 (c - 88 + 120)]] w fun e w' => e = .returned (.int .u8 c) ∧ Below w.heap.size w w' := by
  obtain rfl | rfl | rfl : c = 88 ∨ c = 89 ∨ c = 90 := by omega
  all_goals
    go_enter Tryd.func293, Tryd.ntmps293
    go_wp2
    go_ret
    exact ⟨rfl, (Below.refl _ _).alloc (Nat.le_refl _) _⟩
theorem bytes_step {s : ByteArray} {k : Nat} (h : k < s.size) : Lib.byteCells (s.data.toList.take (k + 1)) = Lib.byteCells (s.data.toList.take k) ++ [.int .u8 (byteAt s k : Int)] := by
  have hk : s.data.toList[k]? = some s[k] := by
    rw [Array.getElem?_toList]
    exact Array.getElem?_eq_getElem _
  rw [List.take_add_one, hk]
  simp only [Lib.byteCells, Option.toList_some, List.map_append, List.map_cons, List.map_nil]
  rw [← byteAt_get h]
theorem bytes_all {s : ByteArray} : (⟨(s.data.toList.take s.size).toArray⟩ : ByteArray) = s := by
  have : s.data.toList.take s.size = s.data.toList := List.take_of_length_le (Nat.le_of_eq (by rw [Array.length_toList]; rfl))
  rw [this]

/-- a builder stands where nothing older than the heap's end is written -/
theorem builder_at_below {T e : TypeId} {B b : Nat} {p : Value} {bs : List Value} {w w' : World} (h : Lib.BuilderAtF T e B b p bs w) (hb : Below w.heap.size w w') : Lib.BuilderAtF T e B b p bs w' := by
  obtain ⟨hB, v, hc, ⟨h1, ho⟩, hne⟩ := h
  refine ⟨hB, v, (hb.block b (Array.getElem?_eq_some_iff.1 hc).1).trans hc, ⟨h1, ?_⟩, hne⟩
  rcases ho with ho | ⟨g, cap, cur, fz, e1, e2, e3, e4⟩
  · exact .inl ho
  · exact .inr ⟨g, cap, cur, fz, e1, e2, (hb.block g (Array.getElem?_eq_some_iff.1 e3).1).trans e3, e4⟩
theorem builder_below {T e : TypeId} {B b : Nat} {bs : List Value} {w w' : World} (h : Lib.IsBuilderF T e B b bs w) (hb : Below w.heap.size w w') : Lib.IsBuilderF T e B b bs w' :=
  h.elim (fun x => .inl (builder_at_below x hb)) (fun x => .inr (builder_at_below x hb))
set_option maxRecDepth 100000 in
set_option maxHeartbeats 1600000 in
theorem writeOps_any (w : World) (v : Value) (s : ByteArray) (hs : s.size ≤ 1000 ∧ ∀ i, i < s.size → opB (byteAt s i) = true) (hr : RowAt w v (opVals s s.size)) :
    Calls Tryd.prog 81 #[v] w fun e w' => e = .returned (.string s) ∧ Below w.heap.size w w' := by
  obtain ⟨a, cap, rfl⟩ := row_len hr
  have hl := opVals_length s s.size
  rw [hl] at hr ⊢
  have h6 := hs.1
  have HS := Lib.hid hs; clear hs
  have HR := Lib.hid hr; clear hr
  go_enter Tryd.func81, Tryd.ntmps81
  go_wp2
  go_loopw [8] (fun i wr => ∃ k : Nat, k ≤ s.size ∧ i = .int .i64 k ∧ Lib.IsBuilderF 178 5 w.heap.size w.heap.size (Lib.byteCells (s.data.toList.take k)) wr ∧ Below w.heap.size w wr) (fun i _ => s.size - (intOf i).toNat)
  case atStart => exact ⟨0, Nat.zero_le _, rfl, Lib.IsBuilderF.of (Lib.fresh_isBuilder _ _ _), (Below.refl _ _).alloc (Nat.le_refl _) _⟩
  case round =>
    obtain ⟨k, hk, rfl, hB, hbl⟩ := hrel
    have hs1 := hbl.size
    by_cases hlt : k < s.size
    · obtain ⟨g, cap', e, hg, hc⟩ := row_cell HR.out (k := k) (by omega)
      rw [hl] at e
      simp only [Value.slice.injEq, true_and] at e
      obtain ⟨rfl, rfl⟩ := e
      rw [opVals_at hlt] at hc
      have d1 := (hbl.cell (p := ⟨g, k, none⟩) hg).trans hc
      clear hc
      by_cases hlow : lowB (byteAt s k) = true
      · unfold opVal at d1
        rw [if_pos hlow] at d1
        have m1 := fun w => Tryd.letterC (byteAt s k : Int) w
        go_wp2_with fail
        refine (letterC_any _ _).mono ?_
        rintro e x1 ⟨rfl, hx1⟩
        have HB' := builder_below hB hx1
        have hs2 := hx1.size
        go_wp2_with fail
        refine (Tryd.Builder_WriteByte_k _ _ _ _ _ HB' (by rw [Lib.byteCells_length]; simp; omega) (by omega)).mono ?_
        rintro e x2 ⟨rfl, hat, hx2, _⟩
        go_wp2
        go_roundw
        case rel => exact ⟨k + 1, by omega, by go_num, by rw [bytes_step hlt]; exact .inr hat, (hbl.trans (hx1.mono hs1)).trans hx2⟩
        case measure => simp [intOf]; omega
      · have hop := HS.out.2 k hlt
        have hup : upB (byteAt s k) = true := by
          unfold opB at hop
          simpa [hlow] using hop
        have hlow' : lowB (byteAt s k) = false := by simpa using hlow
        unfold opVal at d1
        rw [hlow'] at d1
        simp only [Bool.false_eq_true, if_false] at d1
        have hup2 : (88 : Int) ≤ byteAt s k ∧ (byteAt s k : Int) ≤ 90 := by unfold upB at hup; simp at hup; omega
        have HU := Lib.hid hup2
        have m1 := fun w => Tryd.letterS ((byteAt s k : Int) - 88 + 120) w
        clear hop hup hlow hlow' hup2
        go_wp2_with fail
        refine (letterS_any _ HU.out.1 HU.out.2 _).mono ?_
        rintro e x1 ⟨rfl, hx1⟩
        have HB' := builder_below hB hx1
        have hs2 := hx1.size
        go_wp2_with fail
        refine (Tryd.Builder_WriteByte_k _ _ _ _ _ HB' (by rw [Lib.byteCells_length]; simp; omega) (by omega)).mono ?_
        rintro e x2 ⟨rfl, hat, hx2, _⟩
        go_wp2
        go_roundw
        case rel => exact ⟨k + 1, by omega, by go_num, by rw [bytes_step hlt]; exact .inr hat, (hbl.trans (hx1.mono hs1)).trans hx2⟩
        case measure => simp [intOf]; omega
    · obtain rfl : k = s.size := by omega
      go_wp2_with fail
      refine (Tryd.Builder_String_any_f _ _ _ _ hB hs1).mono ?_
      rintro e x1 ⟨rfl, _, hx1⟩
      go_wp2
      go_ret
      exact ⟨congrArg (fun x => Ending.returned (.string x)) bytes_all, hbl.trans hx1⟩
end Go.Proofs.YtdepangkeeehpaaDoor
