import Derived.Test.YthkhccfemdjioaaDoorShelf
import Derived.Shelf.Strings.BuilderK
import Derived.Test.YthkhccfemdjioaaDoorPlan
import Derived.Test.YthkhccfemdjioaaDoorFsS
import Derived.Test.YthkhccfemdjioaaDoorBlkJ
import Derived.Test.YthkhccfemdjioaaDoorFsP
section
/-
  (*strings.Builder).WriteByte by the library's contract, in this program's own numbers. Conditions: the contract's own.
-/
namespace Go.Proofs
open Go.Shelf
def Tryd.lays167_ren : Go.Shelf.Ren := ⟨fun | 167 => 133 | 240 => 166 | 276 => 192 | n => n, fun | 4 => 4 | 5 => 5 | 9 => 9 | 20 => 20 | 37 => 40 | 70 => 160 | 72 => 162 | 75 => 75 | 164 => 219 | 80 => 134 | n => n, fun | n => n⟩
theorem Tryd.lays167 : Go.Proofs.Lays.n167 Tryd.prog Tryd.lays167_ren := {
  mixed := by kernel_rfl
  f167 := Tryd.func133.trans (congrArg some (by kernel_rfl))
  f240 := Tryd.func166.trans (congrArg some (by kernel_rfl))
  f276 := Tryd.func192.trans (congrArg some (by kernel_rfl))
  t0 := Tryd.underlying0
  a0 := Tryd.isAgg0
  z0 := Tryd.sizeOf0
  v0 := Tryd.zeroValue0
  t4 := Tryd.underlying4
  a4 := Tryd.isAgg4
  z4 := Tryd.sizeOf4
  v4 := Tryd.zeroValue4
  t5 := Tryd.underlying5
  a5 := Tryd.isAgg5
  z5 := Tryd.sizeOf5
  v5 := Tryd.zeroValue5
  t9 := Tryd.underlying9
  a9 := Tryd.isAgg9
  z9 := Tryd.sizeOf9
  v9 := Tryd.zeroValue9
  t20 := Tryd.underlying20
  a20 := Tryd.isAgg20
  z20 := Tryd.sizeOf20
  v20 := Tryd.zeroValue20
  t37 := Tryd.underlying40
  a37 := Tryd.isAgg40
  z37 := Tryd.sizeOf40
  v37 := Tryd.zeroValue40
  t70 := Tryd.underlying160
  a70 := Tryd.isAgg160
  z70 := Tryd.sizeOf160
  v70 := Tryd.zeroValue160
  t72 := Tryd.underlying162
  a72 := Tryd.isAgg162
  z72 := Tryd.sizeOf162
  v72 := Tryd.zeroValue162
  t75 := Tryd.underlying75
  a75 := Tryd.isAgg75
  z75 := Tryd.sizeOf75
  v75 := Tryd.zeroValue75
  t164 := Tryd.underlying219
  a164 := Tryd.isAgg219
  z164 := Tryd.sizeOf219
  v164 := Tryd.zeroValue219 }
theorem Tryd.Builder_Extra_167 : Builder.Extra Tryd.prog Tryd.lays167_ren := {
  sizeBuilder := by kernel_rfl
  liesBuilder := by kernel_rfl
  t5 := Tryd.underlying5
  a5 := Tryd.isAgg5
  z5 := Tryd.sizeOf5
  v5 := Tryd.zeroValue5
  infoByte := by kernel_rfl
  cellsByte := by kernel_rfl
  sizeByte := by kernel_rfl
  neB5 := by decide }
open Go.RowKit in
/-- one byte behind what the builder holds; nothing but the builder and rows of bytes turns -/
theorem Tryd.Builder_WriteByte_k (B b : Nat) (bs : List Value) (c : Int) (w : World) (h : Lib.IsBuilderF 162 5 B b bs w) (hlen : bs.length + 1 ≤ 140737488355328) (hBw : B ≤ w.heap.size) :
    Calls Tryd.prog 133 #[.pointer (some ⟨b, 0, none⟩), .int .u8 c] w fun e w' => e = .returned .nilIface ∧ (Lib.BuilderAtF 162 5 B b (.pointer (some ⟨b, 0, none⟩)) (bs ++ [.int .u8 c]) w' ∧ Below B w w' ∧ Lib.OthersKept 5 (some b) w w') :=
  Any.Builder_WriteByte_k Tryd.lays167 Tryd.Builder_Extra_167 B b bs c w h hlen hBw
end Go.Proofs
end

section
/-
  writeOps: the letters that a row of letters' values stands for. Conditions: the row is the one of at most six letters that tell something.
-/
namespace Go.Proofs.YthkhccfemdjioaaDoor
open Go.RowKit Go.Maps

theorem row_cell {w : World} {v : Value} {xs : List Value} (h : RowAt w v xs) {k : Nat} (hk : k < xs.length) : ∃ g cap, v = .slice (some ⟨g, 0, none⟩) xs.length cap ∧ g < w.heap.size ∧ w.cell? ⟨g, k, none⟩ = xs[k]? := by
  obtain ⟨h1, ⟨_, h0⟩ | ⟨g, cap, cur, e1, _, e3, _, _, e6, e7⟩⟩ := h
  · omega
  · refine ⟨g, cap, e1, (Array.getElem?_eq_some_iff.1 e3).1, ?_⟩
    have hx : (cur.toList.take (xs.length * 1))[k]? = xs[k]? := by rw [e7]
    rw [List.getElem?_take, if_pos (by omega)] at hx
    rw [← hx]
    simp [World.cell?, e3]
theorem row_len {w : World} {v : Value} {xs : List Value} (h : RowAt w v xs) : ∃ a cap, v = .slice a xs.length cap := by
  obtain ⟨h1, ⟨e, h0⟩ | ⟨g, cap, cur, e1, _⟩⟩ := h
  · exact ⟨none, 0, by rw [e, h0]⟩
  · exact ⟨_, cap, e1⟩
theorem opVals_at {s : ByteArray} {k : Nat} (hk : k < s.size) : (opVals s s.size)[k]? = some (opVal (byteAt s k)) := by simp [opVals, hk]

theorem Tryd.letterC (b : Int) (w : World) : (method 290 83 (.agg #[.int .u8 b]) "loop.example/onceways/impl.letter").run Tryd.prog w = .ok (269, .agg #[.int .u8 b]) w := by kernel_rfl
theorem Tryd.letterS (b : Int) (w : World) : (method 290 84 (.agg #[.int .u8 b]) "loop.example/onceways/impl.letter").run Tryd.prog w = .ok (270, .agg #[.int .u8 b]) w := by kernel_rfl

theorem letterC_any (b : Int) (w : World) : Calls Tryd.prog 269 #[.agg #[.int .u8 b]] w fun e w' => e = .returned (.int .u8 b) ∧ Below w.heap.size w w' := by
  go_enter Tryd.func269, Tryd.ntmps269
  go_wp2
  go_ret
  exact ⟨rfl, (Below.refl _ _).alloc (Nat.le_refl _) _⟩
theorem letterS_any (c : Int) (h1 : 88 ≤ c) (h2 : c ≤ 90) (w : World) : Calls Tryd.prog 270 #[.agg #[.int .u8 (c - 88 + 120)]] w fun e w' => e = .returned (.int .u8 c) ∧ Below w.heap.size w w' := by
  obtain rfl | rfl | rfl : c = 88 ∨ c = 89 ∨ c = 90 := by omega
  all_goals
    go_enter Tryd.func270, Tryd.ntmps270
    go_wp2
    go_ret
    exact ⟨rfl, (Below.refl _ _).alloc (Nat.le_refl _) _⟩
theorem bytes_step {s : ByteArray} {k : Nat} (h : k < s.size) : Lib.byteCells (s.data.toList.take (k + 1)) = Lib.byteCells (s.data.toList.take k) ++ [.int .u8 (byteAt s k : Int)] := by
  have hk : s.data.toList[k]? = some s[k] := by
    rw [Array.getElem?_toList]
    exact Array.getElem?_eq_getElem _
  rw [List.take_add_one, hk]
  simp only [Lib.byteCells, Option.toList_some, List.map_append, List.map_cons, List.map_nil]
  rw [← byteAt_get h]
theorem bytes_all {s : ByteArray} : (⟨(s.data.toList.take s.size).toArray⟩ : ByteArray) = s := by
  have : s.data.toList.take s.size = s.data.toList := List.take_of_length_le (Nat.le_of_eq (by rw [Array.length_toList]; rfl))
  rw [this]

/-- a builder stands where nothing older than the heap's end is written -/
theorem builder_at_below {T e : TypeId} {B b : Nat} {p : Value} {bs : List Value} {w w' : World} (h : Lib.BuilderAtF T e B b p bs w) (hb : Below w.heap.size w w') : Lib.BuilderAtF T e B b p bs w' := by
  obtain ⟨hB, v, hc, ⟨h1, ho⟩, hne⟩ := h
  refine ⟨hB, v, (hb.block b (Array.getElem?_eq_some_iff.1 hc).1).trans hc, ⟨h1, ?_⟩, hne⟩
  rcases ho with ho | ⟨g, cap, cur, fz, e1, e2, e3, e4⟩
  · exact .inl ho
  · exact .inr ⟨g, cap, cur, fz, e1, e2, (hb.block g (Array.getElem?_eq_some_iff.1 e3).1).trans e3, e4⟩
theorem builder_below {T e : TypeId} {B b : Nat} {bs : List Value} {w w' : World} (h : Lib.IsBuilderF T e B b bs w) (hb : Below w.heap.size w w') : Lib.IsBuilderF T e B b bs w' :=
  h.elim (fun x => .inl (builder_at_below x hb)) (fun x => .inr (builder_at_below x hb))
set_option maxRecDepth 100000 in
set_option maxHeartbeats 1600000 in
theorem writeOps_any (w : World) (v : Value) (s : ByteArray) (hs : s.size ≤ 1000 ∧ ∀ i, i < s.size → opB (byteAt s i) = true) (hr : RowAt w v (opVals s s.size)) :
    Calls Tryd.prog 77 #[v] w fun e w' => e = .returned (.string s) ∧ Below w.heap.size w w' := by
  obtain ⟨a, cap, rfl⟩ := row_len hr
  have hl := opVals_length s s.size
  rw [hl] at hr ⊢
  have h6 := hs.1
  have HS := Lib.hid hs; clear hs
  have HR := Lib.hid hr; clear hr
  go_enter Tryd.func77, Tryd.ntmps77
  go_wp2
  go_loopw [8] (fun i wr => ∃ k : Nat, k ≤ s.size ∧ i = .int .i64 k ∧ Lib.IsBuilderF 162 5 w.heap.size w.heap.size (Lib.byteCells (s.data.toList.take k)) wr ∧ Below w.heap.size w wr) (fun i _ => s.size - (intOf i).toNat)
  case atStart => exact ⟨0, Nat.zero_le _, rfl, Lib.IsBuilderF.of (Lib.fresh_isBuilder _ _ _), (Below.refl _ _).alloc (Nat.le_refl _) _⟩
  case round =>
    obtain ⟨k, hk, rfl, hB, hbl⟩ := hrel
    have hs1 := hbl.size
    by_cases hlt : k < s.size
    · obtain ⟨g, cap', e, hg, hc⟩ := row_cell HR.out (k := k) (by omega)
      rw [hl] at e
      simp only [Value.slice.injEq, true_and] at e
      obtain ⟨rfl, rfl⟩ := e
      rw [opVals_at hlt] at hc
      have d1 := (hbl.cell (p := ⟨g, k, none⟩) hg).trans hc
      clear hc
      by_cases hlow : lowB (byteAt s k) = true
      · unfold opVal at d1
        rw [if_pos hlow] at d1
        have m1 := fun w => Tryd.letterC (byteAt s k : Int) w
        go_wp2_with fail
        refine (letterC_any _ _).mono ?_
        rintro e x1 ⟨rfl, hx1⟩
        have HB' := builder_below hB hx1
        have hs2 := hx1.size
        go_wp2_with fail
        refine (Tryd.Builder_WriteByte_k _ _ _ _ _ HB' (by rw [Lib.byteCells_length]; simp; omega) (by omega)).mono ?_
        rintro e x2 ⟨rfl, hat, hx2, _⟩
        go_wp2
        go_roundw
        case rel => exact ⟨k + 1, by omega, by go_num, by rw [bytes_step hlt]; exact .inr hat, (hbl.trans (hx1.mono hs1)).trans hx2⟩
        case measure => simp [intOf]; omega
      · have hop := HS.out.2 k hlt
        have hup : upB (byteAt s k) = true := by
          unfold opB at hop
          simpa [hlow] using hop
        have hlow' : lowB (byteAt s k) = false := by simpa using hlow
        unfold opVal at d1
        rw [hlow'] at d1
        simp only [Bool.false_eq_true, if_false] at d1
        have hup2 : (88 : Int) ≤ byteAt s k ∧ (byteAt s k : Int) ≤ 90 := by unfold upB at hup; simp at hup; omega
        have HU := Lib.hid hup2
        have m1 := fun w => Tryd.letterS ((byteAt s k : Int) - 88 + 120) w
        clear hop hup hlow hlow' hup2
        go_wp2_with fail
        refine (letterS_any _ HU.out.1 HU.out.2 _).mono ?_
        rintro e x1 ⟨rfl, hx1⟩
        have HB' := builder_below hB hx1
        have hs2 := hx1.size
        go_wp2_with fail
        refine (Tryd.Builder_WriteByte_k _ _ _ _ _ HB' (by rw [Lib.byteCells_length]; simp; omega) (by omega)).mono ?_
        rintro e x2 ⟨rfl, hat, hx2, _⟩
        go_wp2
        go_roundw
        case rel => exact ⟨k + 1, by omega, by go_num, by rw [bytes_step hlt]; exact .inr hat, (hbl.trans (hx1.mono hs1)).trans hx2⟩
        case measure => simp [intOf]; omega
    · obtain rfl : k = s.size := by omega
      go_wp2_with fail
      refine (Tryd.Builder_String_any_f _ _ _ _ hB hs1).mono ?_
      rintro e x1 ⟨rfl, _, hx1⟩
      go_wp2
      go_ret
      exact ⟨congrArg (fun x => Ending.returned (.string x)) bytes_all, hbl.trans hx1⟩
end Go.Proofs.YthkhccfemdjioaaDoor
end

section
/-
  SwapTerms of the program. Conditions: at most 1048576 blocks and edges, each text at most as many bytes; the errors' variables hold errors.
-/
namespace Go.Proofs.YthkhccfemdjioaaDoor
open Go.RowKit Go.Maps

theorem RowAt.ofOwn {w : World} {B n : Nat} {v : Value} {xs : List Value} (hn : n = xs.length) (h : w.ownsRow B 81 1 v n xs) : RowAt w v xs := by
  subst hn; exact own_base h (Nat.zero_le _)
theorem swT_okW {s : ByteArray} {t u : Nat} (ht : lowB t = true) (hu : lowB u = true) (h6 : s.size ≤ 6) (hop : ∀ i, i < s.size → opB (byteAt s i) = true) : (swT s t u s.size).size ≤ 1000 ∧ ∀ i, i < (swT s t u s.size).size → opB (byteAt (swT s t u s.size) i) = true := by
  rw [swT_size]
  refine ⟨by omega, fun i hi => ?_⟩
  rw [swT_at s t u s.size i hi, swC_nat ht hu (hop i hi)]
  exact (swB_le ht hu (hop i hi)).2.1
theorem below_zero {w w1 : World} (h : Below w.heap.size w w1) (o : Obj) : Below w.heap.size w (((w1.setCell ⟨w.heap.size + 1, 0, none⟩ (.slice none 0 0)).setCell ⟨w.heap.size + 1, 1, none⟩ (.slice none 0 0)).alloc o) :=
  ((h.setCell (p := ⟨w.heap.size + 1, 0, none⟩) (Nat.le_succ _) _).setCell (p := ⟨w.heap.size + 1, 1, none⟩) (Nat.le_succ _) _).alloc (by have := h.size; simp [World.setCell]; omega) o
theorem below_resS {w w1 : World} (h : Below w.heap.size w w1) (u v : Value) : Below w.heap.size w ((w1.setCell ⟨w.heap.size + 1, 0, none⟩ u).setCell ⟨w.heap.size + 1, 1, none⟩ v) :=
  (h.setCell (p := ⟨w.heap.size + 1, 0, none⟩) (Nat.le_succ _) _).setCell (p := ⟨w.heap.size + 1, 1, none⟩) (Nat.le_succ _) _
theorem isTm_low {t : ByteArray} (h : isTm t = true) : lowB (byteAt t 0) = true := by
  unfold isTm at h
  simp only [Bool.and_eq_true] at h
  exact h.2

set_option maxRecDepth 100000 in
set_option maxHeartbeats 6400000 in
theorem SwapTerms_impl (w : World) (bs es : List Pr) (ab ae : Option Addr) (cb ce : Nat) (x y : ByteArray) (_hxs : x.size ≤ 1048576) (_hys : y.size ≤ 1048576) (hpb : PairsAt w ab bs) (hpe : PairsAt w ae es) (hg : Errs w) :
    Calls Tryd.prog 23 #[.agg #[.slice ab bs.length cb, .slice ae es.length ce], .string x, .string y] w (ProgRes w (swOk bs es x y) (swRL bs es x y) (swRE bs es x y)) := by
  have h1 : Below w.heap.size w ((w.alloc (.cells #[.slice ab bs.length cb, .slice ae es.length ce] 32)).alloc (.cells #[.slice none 0 0, .slice none 0 0] 32)) := ((Below.refl _ _).alloc (Nat.le_refl _) _).alloc (by simp) _
  have hpb1 := hpb.below h1
  have hpe1 := hpe.below h1
  have hg1 := hg.keep h1
  have hRA : Two ((w.alloc (.cells #[.slice ab bs.length cb, .slice ae es.length ce] 32)).alloc (.cells #[.slice none 0 0, .slice none 0 0] 32)) (w.heap.size + 1) (.slice none 0 0) (.slice none 0 0) := by
    rw [show w.heap.size + 1 = (w.alloc (.cells #[.slice ab bs.length cb, .slice ae es.length ce] 32)).heap.size by simp]; exact heap_alloc_new _ _
  have hPA : Two ((w.alloc (.cells #[.slice ab bs.length cb, .slice ae es.length ce] 32)).alloc (.cells #[.slice none 0 0, .slice none 0 0] 32)) w.heap.size (.slice ab bs.length cb) (.slice ae es.length ce) := (Below.heap_alloc _ _ _ (by simp)).trans (heap_alloc_new _ _)
  have hl9 := hpb.len
  obtain ⟨i0, hi, hz0, hz1, hz2⟩ := info_parts Tryd.infoBlock
  have H1 := Lib.hid (And.intro h1 (And.intro hRA hPA)); clear h1 hRA hPA
  go_enter Tryd.func23, Tryd.ntmps23
  go_wp2_with fail
  refine (planOf_any _ bs es _ _ _ _ hpb1 hpe1 hg1).mono ?_
  rintro e w1 ⟨hb1, hcase⟩
  have hall : Below w.heap.size w w1 := H1.out.1.trans (hb1.mono (by simp; omega))
  have hz := hall.size
  have hR1 : Two w1 (w.heap.size + 1) _ _ := H1.out.2.1.of_cells (hb1.block _ (by simp))
  have hP1 : Two w1 w.heap.size _ _ := H1.out.2.2.of_cells (hb1.block _ (by simp; omega))
  obtain ⟨c0, c1, _, _, hzA⟩ := hP1.cells
  obtain ⟨r0, r1, t0, t1, hzB⟩ := hR1.cells
  rcases hcase with ⟨hv, o, lo, li, rfl, hp⟩ | ⟨hv, ty, z, rfl⟩
  · have hvb : validB bs es = true := by simpa [validB] using hv
    have G := fun a b q => hR1.reads a b q
    have HNo := Lib.hid (And.intro hall G)
    cases hx : isTm x
    · have HN := Lib.hid (show swOk bs es x y = false by unfold swOk; rw [hx]; simp)
      have HX := Lib.hid hx
      clear hx hvb hv hp hb1 hpb1 hpe1 hg1 hR1 hP1 G
      go_wp2_with (go_at_call 74; refine (isTerm_lit x _ HX.out _).mono ?_; rintro e w' ⟨rfl, rfl⟩)
      refine bodyPost_ret (v := .tuple #[.agg #[.slice none 0 0, .slice none 0 0], .bool false]) (by simp [results, Tryd.results23, go_sem, (HNo.out.2 _ _ _).1, (HNo.out.2 _ _ _).2]) rfl ?_
      exact ProgRes.swNo HN.out (below_zero HNo.out.1 _)
    cases hy : isTm y
    · have HN := Lib.hid (show swOk bs es x y = false by unfold swOk; rw [hy]; simp)
      have HX := Lib.hid (And.intro hx hy)
      clear hx hy hvb hv hp hb1 hpb1 hpe1 hg1 hR1 hP1 G
      go_wp2_with (first
        | (go_at_call 74; (with_reducible show Calls _ _ #[Value.string x] _ _); refine (isTerm_lit x _ HX.out.1 _).mono ?_; rintro e w' ⟨rfl, rfl⟩)
        | (go_at_call 74; (with_reducible show Calls _ _ #[Value.string y] _ _); refine (isTerm_lit y _ HX.out.2 _).mono ?_; rintro e w' ⟨rfl, rfl⟩))
      refine bodyPost_ret (v := .tuple #[.agg #[.slice none 0 0, .slice none 0 0], .bool false]) (by simp [results, Tryd.results23, go_sem, (HNo.out.2 _ _ _).1, (HNo.out.2 _ _ _).2]) rfl ?_
      exact ProgRes.swNo HN.out (below_zero HNo.out.1 _)
    have HV := Lib.hid (And.intro hv (show swOk bs es x y = true by unfold swOk; rw [hvb, hx, hy]; rfl))
    have HX := Lib.hid (And.intro hx hy)
    have hx0 : 0 < x.size := by rw [isTm_size hx]; decide
    have hy0 : 0 < y.size := by rw [isTm_size hy]; decide
    have HB0 := Lib.hid (And.intro (byteAt_get hx0) (byteAt_get hy0))
    have hxi : (0 : Int) < (x.size : Int) := by omega
    have hyi : (0 : Int) < (y.size : Int) := by omega
    have hwa : Below w1.heap.size w1 (w1.alloc (.cells #[.map (some o), .map (some lo), .map (some li)] 73)) := (Below.refl _ _).alloc (Nat.le_refl _) _
    obtain ⟨F, hO0⟩ := hp.ops
    have hO := hO0.below hwa
    have hpb2 := (hpb1.below hb1).below hwa
    have hpe2 := (hpe1.below hb1).below hwa
    have y0 : (w1.alloc (.cells #[.map (some o), .map (some lo), .map (some li)] 73)).cell? ⟨w1.heap.size, 0, none⟩ = some (.map (some o)) := by go_simp
    have hzW : w1.heap.size < (w1.alloc (.cells #[.map (some o), .map (some lo), .map (some li)] 73)).heap.size := by simp
    have HA := Lib.hid (And.intro hO (And.intro hpb2 (And.intro (hall.alloc hz (.cells #[.map (some o), .map (some lo), .map (some li)] 73)) (And.intro (hR1.of_cells (hwa.block _ hzB)) (hP1.of_cells (hwa.block _ hzA))))))
    clear hx hy hvb hv hO0 hO hpb2 hwa hp hpb1 hpe1 hg1 hb1 hall hR1 hP1 r0 r1 t0 t1 G HNo
    go_wp2_with (first
      | (go_at_call 74; (with_reducible show Calls _ _ #[Value.string x] _ _); refine (isTerm_lit x _ HX.out.1 _).mono ?_; rintro e w' ⟨rfl, rfl⟩)
      | (go_at_call 74; (with_reducible show Calls _ _ #[Value.string y] _ _); refine (isTerm_lit y _ HX.out.2 _).mono ?_; rintro e w' ⟨rfl, rfl⟩))
    refine (cloneE_any _ es _ _ hpe2).mono ?_
    rintro e w2 ⟨ve, rfl, hve, hb2⟩
    obtain ⟨xa, xc, rfl⟩ := own_form hve
    generalize w1.alloc (.cells #[.map (some o), .map (some lo), .map (some li)] 73) = w4 at *
    obtain ⟨hO, hpb4, hall4, hR4, hP4⟩ := HA.out
    have hs2 := hb2.size
    have hP2 : Two w2 w.heap.size _ _ := hP4.of_cells (hb2.block _ (by omega))
    have hR2 : Two w2 (w.heap.size + 1) _ _ := hR4.of_cells (hb2.block _ (by omega))
    have kA : ∀ q, (w2.alloc q).cell? ⟨w.heap.size, 0, none⟩ = some (.slice ab bs.length cb) := fun q => (World.cell?_alloc_lt _ _ _ (show w.heap.size < w2.heap.size by omega)).trans hP2.cells.1
    have y2 := (hb2.cell (p := ⟨w1.heap.size, 0, none⟩) hzW).trans y0
    have hbY : Below w2.heap.size w2 (w2.alloc (.cells #[.slice none 0 0, .slice xa es.length xc] 32)) := (Below.refl _ _).alloc (Nat.le_refl _) _
    have hTL : TLoop w (w2.alloc (.cells #[.slice none 0 0, .slice xa es.length xc] 32)) (w.heap.size + 1) w2.heap.size w4.heap.size (.slice none 0 0) (.slice xa es.length xc) 0 es.length (swL bs (byteAt x 0) (byteAt y 0) 0) es :=
      ⟨heap_alloc_new _ _, hR2.of_cells (hbY.block _ (by omega)), World.ownsRow_nil _ _ _ _, ownsRow_below hve hbY, (hall4.trans (hb2.mono (by omega))).trans (hbY.mono (by omega))⟩
    have HB := Lib.hid (And.intro hO (And.intro hpb4 hTL))
    have HYb := Lib.hid (hb2.trans (hbY.mono hb2.size))
    have hQl : w4.heap.size ≤ w2.heap.size := hb2.size
    clear HA hO hpb4 hall4 hR4 hP4 hP2 hR2 hve hb2 hpe2 hTL hbY c0 c1 y2
    go_wp2
    go_loopw [39] (fun i wr => ∃ (k : Nat) (v : Value), k ≤ bs.length ∧ i = .int .i64 k ∧ TLoop w wr (w.heap.size + 1) w2.heap.size w4.heap.size v (.slice xa es.length xc) k es.length (swL bs (byteAt x 0) (byteAt y 0) k) es ∧ Below w4.heap.size w4 wr) (fun i _ => bs.length - (intOf i).toNat)
    case atStart => exact ⟨0, _, Nat.zero_le _, rfl, HB.out.2.2, HYb.out⟩
    case round =>
      obtain ⟨k, v, hk, rfl, hT, hbl⟩ := hrel
      have hs3 := hbl.size
      obtain ⟨wa, wc, rfl⟩ := own_form hT.ob
      by_cases hlt : k < bs.length
      · obtain ⟨b, off, rfl, hb, g1, g2⟩ := HB.out.2.1.cell k hlt
        have d1 := (hbl.cell (p := ⟨b, off + k * 2, none⟩) hb).trans g1
        have d2 := (hbl.cell (p := ⟨b, off + k * 2 + 1, none⟩) hb).trans g2
        have d3 := (hbl.cell (p := ⟨w1.heap.size, 0, none⟩) hzW).trans y0
        have hsx : (nameAt bs k).size ≤ 1048576 := (HB.out.2.1.size k hlt).1
        have hwB : Below wr.heap.size wr (wr.alloc (.cells #[.string (nameAt bs k), .string (restAt bs k)] 52)) := (Below.refl _ _).alloc (Nat.le_refl _) _
        have hOr := (HB.out.1.below hbl).below hwB
        obtain ⟨v, hFv, hrow⟩ := hOr.row _ (pair_mem hlt)
        have lk := (hOr.map.drew).look Tryd.underlying69 (zeroOps _) (mx hsx)
        rw [show F (nameAt bs k) = some v from hFv, Option.getD_some] at lk
        have hok : opsOk (restAt bs k) := HV.out.1.b.op _ (pair_mem hlt)
        have n0 : (wr.alloc (.cells #[.string (nameAt bs k), .string (restAt bs k)] 52)).cell? ⟨wr.heap.size, 0, none⟩ = some (.string (nameAt bs k)) := by go_simp
        have m0 := (hwB.cell (p := ⟨w1.heap.size, 0, none⟩) (show w1.heap.size < wr.heap.size by omega)).trans d3
        have hzb : (wr.alloc (.cells #[.string (nameAt bs k), .string (restAt bs k)] 52)).heap.size = wr.heap.size + 1 := by simp
        have HK := Lib.hid (And.intro hrow (And.intro hok (And.intro (hT.below hwB) (And.intro (hbl.trans (hwB.mono hs3)) hzb))))
        have HE := Lib.hid (swL_succ bs (byteAt x 0) (byteAt y 0) k)
        clear hrow hok hT hbl hFv hOr g1 g2 hwB hzb
        go_wp2
        generalize wr.alloc (.cells #[.string (nameAt bs k), .string (restAt bs k)] 52) = wB at *
        have hlB : wr.heap.size < wB.heap.size := by have := HK.out.2.2.2.2; omega
        refine wp_region_still_tail 9 (by kernel_rfl) (by kernel_rfl) ?_
        simp only [List.take_succ_cons, List.take_zero, List.drop_succ_cons, List.drop_zero]
        change wpStill _ _ wB.drew _ _ _
        repeat still_step
        refine wpStill_nil ?_
        change wpList _ _ _ _ _ wB.drew
        rw [HB0.out.1, HB0.out.2]
        go_wp2_with fail
        refine (swapIn_any _ v (restAt bs k) (byteAt x 0) (byteAt y 0) (isTm_low HX.out.1) (isTm_low HX.out.2) (by have := HK.out.2.1.1; omega) HK.out.2.1.2 (RowAt.keepB HK.out.1 (Below.refl _ _).drew)).mono ?_
        rintro e w5 ⟨⟨v5, rfl, ho5⟩, hb5⟩
        have hbB5 : Below wB.heap.size wB w5 := (Below.refl _ _).drew.trans hb5
        have hT5 := HK.out.2.2.1.below hbB5
        have hR5 : RowAt w5 v5 (opVals (swT (restAt bs k) (byteAt x 0) (byteAt y 0) (restAt bs k).size) (swT (restAt bs k) (byteAt x 0) (byteAt y 0) (restAt bs k).size).size) := by
          rw [swT_size]; exact RowAt.ofOwn (by rw [opVals_length]) ho5
        have hok5 := swT_okW (s := restAt bs k) (isTm_low HX.out.1) (isTm_low HX.out.2) HK.out.2.1.1 HK.out.2.1.2
        have n5 := (hbB5.cell (p := ⟨wr.heap.size, 0, none⟩) hlB).trans n0
        have hB4 := HK.out.2.2.2.1.trans (hbB5.mono HK.out.2.2.2.1.size)
        generalize swT (restAt bs k) (byteAt x 0) (byteAt y 0) (restAt bs k).size = A at *
        obtain ⟨q0, q1, _, _, hlt2⟩ := hT5.two.cells
        have hl5 : wr.heap.size < w5.heap.size := Nat.lt_of_lt_of_le hlB hbB5.size
        have hlo5 : w4.heap.size ≤ w5.heap.size := hB4.size
        have HK5 := Lib.hid (And.intro hT5 (And.intro hR5 (And.intro hok5 hB4)))
        clear ho5 hb5 hbB5 hT5 hR5 hok5 hB4 m0 n0 lk
        go_wp2
        go_region_law (first
          | (go_simp; go_at_call 77; refine (writeOps_any _ v5 A HK5.out.2.2.1 (RowAt.keepB HK5.out.2.1 (Below.refl _ _).drew)).mono ?_; rintro e wN ⟨rfl, hbN⟩; have eN : wN.cell? ⟨w2.heap.size, 0, none⟩ = some (.slice wa k wc) := (hbN.cell (p := ⟨w2.heap.size, 0, none⟩) hlt2).trans q0; have hRN : w2.heap.size < wN.heap.size := Nat.lt_of_lt_of_le hlt2 hbN.size; have eNA : ∀ o, (wN.alloc o).cell? ⟨w2.heap.size, 0, none⟩ = some (.slice wa k wc) := fun o => (World.cell?_alloc_lt _ _ _ hRN).trans eN; have nN : wN.cell? ⟨wr.heap.size, 0, none⟩ = some (.string (nameAt bs k)) := (hbN.cell (p := ⟨wr.heap.size, 0, none⟩) hl5).trans n5)
          | (refine step_append_lies _ rfl (.tmp 54) (.tmp 60) 29 rfl w4.heap.size 52 i0 (.agg #[.string ⟨#[]⟩, .string ⟨#[]⟩]) 2 32 Tryd.underlying29 hi hz0 hz1 hz2 rfl (by decide) _ k (cellsOf (swL bs (byteAt x 0) (byteAt y 0) k)) rfl ((ownsRow_below HK5.out.1.ob ((Below.refl _ _).drew.trans hbN)).alloc _) ⟨wN.heap.size, 0, none⟩ 1 1 [.string (nameAt bs k), .string A] rfl rfl (cell_two_new _ _ _ _) (two_one _ _ rfl rfl) (by decide) (by unfold maxLen; omega) (by omega) (by have h9 := hbN.size; simp at h9 ⊢; omega) _ rfl ?_
             intro g' cap' w7 hown7 hgrow7 hlies7 _
             have hT7 : Two w7 w2.heap.size _ _ := HK5.out.1.two.of_cells ((hgrow7.block _ (by have h9 := hbN.size; simp at h9 ⊢; omega) (fun e => own_neK HK5.out.1.ob HK5.out.1.two (by decide) e.symm)).trans ((Lib.alloc_old wN _ _ (Nat.lt_of_lt_of_le hlt2 hbN.size)).trans (hbN.block _ hlt2)))
             have e7 := hT7.cells.1
             have f7 := hT7.cells.2.2.1))
        all_goals
          have hbN' : Below w5.heap.size w5 wN := (Below.refl _ _).drew.trans hbN
          have hTN := HK5.out.1.step (L' := swL bs (byteAt x 0) (byteAt y 0) (k + 1)) (v' := .slice (some ⟨g', 0, none⟩) (k + 1) cap') (hbN'.alloc hbN'.size _) hgrow7 (by rw [HE.out]; exact hown7) (by omega) (by omega) (by omega)
          have hb7 : Below w4.heap.size w4 w7 := ((HK5.out.2.2.2.trans (hbN'.mono hlo5)).alloc (by have := hbN'.size; omega) _).grown hgrow7 (by have h9 := hbN'.size; simp; omega) (fun j hj => (HK5.out.1.ob.lt j hj).1)
          have HX7 := Lib.hid (And.intro hTN (hb7.setCell (p := ⟨w2.heap.size, 0, none⟩) hQl (.slice (some ⟨g', 0, none⟩) (k + 1) cap')))
          clear hTN hb7 hbN' hown7 hgrow7 hT7 e7 f7 hbN eN eNA hRN nN hlies7
          go_wp2
          go_roundw
          case rel => exact ⟨k + 1, _, by omega, by go_num, HX7.out.1, HX7.out.2⟩
          case measure => simp [intOf]; omega
      · obtain rfl : k = bs.length := by omega
        obtain ⟨r0, r1, t0, t1, _⟩ := hT.res.cells
        obtain ⟨q0, q1, _, _, _⟩ := hT.two.cells
        have HXX := Lib.hid hT
        clear hT hbl
        go_wp2
        refine bodyPost_ret (v := .tuple #[.agg #[.slice wa bs.length wc, .slice xa es.length xc], .bool true]) (by simp [results, Tryd.results23, go_sem, r0, r1]) rfl ?_
        refine ProgRes.swYes HV.out.2 (below_resS HXX.out.bw _ _) ?_ ?_
        · exact own_base (own_farT (own_farT HXX.out.ob (own_neK HXX.out.ob HXX.out.res (by decide)) _) (own_neK HXX.out.ob HXX.out.res (by decide)) _) (by omega)
        · exact own_base (own_farT (own_farT HXX.out.oe (own_neK HXX.out.oe HXX.out.res (by decide)) _) (own_neK HXX.out.oe HXX.out.res (by decide)) _) (by omega)
  · have HN := Lib.hid (show swOk bs es x y = false by unfold swOk; rw [show validB bs es = false by simpa [validB] using hv]; rfl)
    have HX := Lib.hid hall
    have G := fun a b q => hR1.reads a b q
    have HG := Lib.hid G; clear G
    clear hv hall hR1 hP1 hb1
    go_wp2
    refine bodyPost_ret (v := .tuple #[.agg #[.slice none 0 0, .slice none 0 0], .bool false]) (by simp [results, Tryd.results23, go_sem, (HG.out _ _ _).1, (HG.out _ _ _).2]) rfl ?_
    exact ProgRes.swNo HN.out (below_zero HX.out _)
end Go.Proofs.YthkhccfemdjioaaDoor
end

section
/-
  The program's ProgValid. Conditions: what came in has lengths that Go bears; the errors' variables hold errors.
-/
namespace Go.Proofs.YthkhccfemdjioaaDoor
open Go.RowKit

set_option maxRecDepth 100000 in
set_option maxHeartbeats 1600000 in
theorem ProgValid_impl (w : World) (bs es : List Pr) (ab ae : Option Addr) (cb ce : Nat) (hpb : PairsAt w ab bs) (hpe : PairsAt w ae es) (hg : Errs w) :
    Calls Tryd.prog 25 #[.agg #[.slice ab bs.length cb, .slice ae es.length ce]] w fun e w' => e = .returned (.bool (validB bs es)) ∧ Below w.heap.size w w' := by
  have h1 : Below w.heap.size w (w.alloc (.cells #[.slice ab bs.length cb, .slice ae es.length ce] 32)) := (Below.refl _ _).alloc (Nat.le_refl _) _
  have hpb1 := hpb.below h1
  have hpe1 := hpe.below h1
  have hg1 := hg.keep h1
  have H1 := Lib.hid h1; clear h1
  go_enter Tryd.func25, Tryd.ntmps25
  go_wp2_with fail
  refine (planOf_any _ bs es _ _ _ _ hpb1 hpe1 hg1).mono ?_
  rintro e w1 ⟨hb1, hcase⟩
  have hall : Below w.heap.size w w1 := H1.out.trans (hb1.mono (by simp))
  have hz := hall.size
  rcases hcase with ⟨hv, o, lo, li, rfl, _⟩ | ⟨hv, t, x, rfl⟩
  · have HV := Lib.hid (show validB bs es = true by simpa [validB] using hv)
    clear hv
    go_wp2
    go_ret
    exact ⟨ret_bool (by rw [HV.out]), hall.alloc hz _⟩
  · have HV := Lib.hid (show validB bs es = false by simpa [validB] using hv)
    clear hv
    go_wp2
    go_ret
    exact ⟨ret_bool (by rw [HV.out]), hall.alloc hz _⟩

end Go.Proofs.YthkhccfemdjioaaDoor
end

section
/-
  The walk of the law FnSwapThree. Conditions: what came in are bytes; the errors' variables hold errors.
-/
namespace Go.Proofs.YthkhccfemdjioaaDoor
open Go.RowKit Go.Maps

/-- SwapTerms of a valid program and two terms -/
def SwYes (w : World) (bs es : List Pr) (t u : Nat) (e : Ending) (w' : World) : Prop := ∃ a c a' c', e = .returned (.tuple #[.agg #[.slice a (swA bs t u).length c, .slice a' es.length c'], .bool true]) ∧ PairsAt w' a (swA bs t u) ∧ PairsAt w' a' es ∧ Below w.heap.size w w'
theorem Valid.smallB {bs es : List Pr} (hV : Valid bs es) : bs.length ≤ 1048576 ∧ ∀ i, i < bs.length → (nameAt bs i).size ≤ 1048576 ∧ (restAt bs i).size ≤ 1048576 := by
  refine ⟨by have := hV.b.hi; omega, fun i hi => ?_⟩
  have h1 := hV.b.nm _ (pair_mem hi)
  have h2 : (restAt bs i).size ≤ 6 := (hV.b.op _ (pair_mem hi)).1
  unfold isNm at h1
  simp only [Bool.and_eq_true, beq_iff_eq] at h1
  exact ⟨by have := h1.1; omega, by omega⟩
theorem swRes_yes {w : World} {bs es : List Pr} {x y : ByteArray} {e : Ending} {w' : World} (hV : Valid bs es) (hx : isTm x = true) (hy : isTm y = true) (he : es.length ≤ 1048576 ∧ ∀ i, i < es.length → (nameAt es i).size ≤ 1048576 ∧ (restAt es i).size ≤ 1048576) (h : ProgRes w (swOk bs es x y) (swRL bs es x y) (swRE bs es x y) e w') : SwYes w bs es (byteAt x 0) (byteAt y 0) e w' := by
  rw [swOk_yes hV hx hy, swRL_yes hV hx hy, swRE_yes hV hx hy] at h
  obtain ⟨hb, a, c, a', c', rfl, hR⟩ := h
  have hs := (hV.swap (isTm_low hx) (isTm_low hy)).smallB
  obtain ⟨p1, p2⟩ := hR.pairs hs.1 hs.2 he.1 he.2
  exact ⟨a, c, a', c', rfl, p1, p2, hb⟩
section
variable (w : World) (bs es : List Pr) (ab ae : Option Addr) (cb ce : Nat)
theorem Swap_implY (x y : ByteArray) (t u : Nat) (hV : Valid bs es) (hx : isTm x = true) (hy : isTm y = true) (ht : byteAt x 0 = t) (hu : byteAt y 0 = u) (hpb : PairsAt w ab bs) (hpe : PairsAt w ae es) (hg : Errs w) :
    Calls Tryd.prog 23 #[.agg #[.slice ab bs.length cb, .slice ae es.length ce], .string x, .string y] w (SwYes w bs es t u) := by
  subst ht hu
  exact (SwapTerms_impl w bs es ab ae cb ce x y (by rw [isTm_size hx]; decide) (by rw [isTm_size hy]; decide) hpb hpe hg).mono fun _ _ h => swRes_yes hV hx hy ⟨hpe.len, hpe.size⟩ h
theorem Swap_specY (x y : ByteArray) (t u : Nat) (hV : Valid bs es) (hx : isTm x = true) (hy : isTm y = true) (ht : byteAt x 0 = t) (hu : byteAt y 0 = u) (hpb : PairsAt w ab bs) (hpe : PairsAt w ae es) :
    Calls Tryd.prog 24 #[.agg #[.slice ab bs.length cb, .slice ae es.length ce], .string x, .string y] w (SwYes w bs es t u) := by
  subst ht hu
  exact (SwapTerms_spec w bs es ab ae cb ce x y (by rw [isTm_size hx]; decide) (by rw [isTm_size hy]; decide) hpb hpe).mono fun _ _ h => swRes_yes hV hx hy ⟨hpe.len, hpe.size⟩ h
/-- SwapTerms of what is no program -/
def SwNo (w : World) (e : Ending) (w' : World) : Prop := ∃ a c a' c', e = .returned (.tuple #[.agg #[.slice a 0 c, .slice a' 0 c'], .bool false]) ∧ Below w.heap.size w w'
theorem swRes_no {w : World} {bs es : List Pr} {x y : ByteArray} {e : Ending} {w' : World} (hn : swOk bs es x y = false) (h : ProgRes w (swOk bs es x y) (swRL bs es x y) (swRE bs es x y) e w') : SwNo w e w' := by
  rw [(swNo hn).1, (swNo hn).2, hn] at h
  obtain ⟨hb, a, c, a', c', rfl, _⟩ := h
  exact ⟨a, c, a', c', rfl, hb⟩
theorem Swap_implN (x y : ByteArray) (hn : swOk bs es x y = false) (hx : x.size ≤ 1048576) (hy : y.size ≤ 1048576) (hpb : PairsAt w ab bs) (hpe : PairsAt w ae es) (hg : Errs w) :
    Calls Tryd.prog 23 #[.agg #[.slice ab bs.length cb, .slice ae es.length ce], .string x, .string y] w (SwNo w) :=
  (SwapTerms_impl w bs es ab ae cb ce x y hx hy hpb hpe hg).mono fun _ _ h => swRes_no hn h
theorem Swap_specN (x y : ByteArray) (hn : swOk bs es x y = false) (hx : x.size ≤ 1048576) (hy : y.size ≤ 1048576) (hpb : PairsAt w ab bs) (hpe : PairsAt w ae es) :
    Calls Tryd.prog 24 #[.agg #[.slice ab bs.length cb, .slice ae es.length ce], .string x, .string y] w (SwNo w) :=
  (SwapTerms_spec w bs es ab ae cb ce x y hx hy hpb hpe).mono fun _ _ h => swRes_no hn h
theorem owProg_same (bs' es' : List Pr) (ab' ae' : Option Addr) (cb' ce' : Nat) (h1 : bs = bs') (h2 : es = es') (hb : PairsAt w ab bs) (he : PairsAt w ae es) (hb' : PairsAt w ab' bs') (he' : PairsAt w ae' es') :
    Calls Tryd.prog 26 #[.agg #[.slice ab bs.length cb, .slice ae es.length ce], .agg #[.slice ab' bs'.length cb', .slice ae' es'.length ce']] w fun e w' => e = .returned (.bool true) ∧ Below w.heap.size w w' :=
  (owProg_any w bs es bs' es' ab ae ab' ae' cb ce cb' ce' hb he hb' he').mono fun e w' h => ⟨by rw [h.1, sameL_yes h1, sameL_yes h2]; rfl, h.2⟩
theorem ProgValid_implB (b : Bool) (h : validB bs es = b) (hpb : PairsAt w ab bs) (hpe : PairsAt w ae es) (hg : Errs w) :
    Calls Tryd.prog 25 #[.agg #[.slice ab bs.length cb, .slice ae es.length ce]] w fun e w' => e = .returned (.bool b) ∧ Below w.heap.size w w' := by
  subst h; exact ProgValid_impl w bs es ab ae cb ce hpb hpe hg
end
/-- a program that a law holds, in a later world -/
theorem PAt.step {w w' : World} {q : Nat} {ab ae : Option Addr} {cb ce : Nat} {bs es : List Pr} (h : PAt w q ab ae cb ce bs es) (hb : Below w.heap.size w w') (o : Obj) : PAt (w'.alloc o) q ab ae cb ce bs es := (h.below hb).below ((Below.refl _ _).alloc (Nat.le_refl _) _)
theorem below_step {w w1 w2 : World} (h : Below w.heap.size w w1) (hb : Below w1.heap.size w1 w2) (o : Obj) : Below w.heap.size w (w2.alloc o) := by
  have h1 := h.trans (hb.mono h.size)
  exact h1.alloc h1.size o

set_option maxRecDepth 100000 in
set_option maxHeartbeats 6400000 in
theorem LawFnSwapThree_any (w : World) (a : Option Addr) (n cap : Nat) (hby : BytesRaw w a n cap) (hg : Errs w) :
    Calls Tryd.prog 5 #[.slice a n cap] w fun e w' => e = .returned (.bool true) ∧ Below w.heap.size w w' := by
  go_enter Tryd.func5, Tryd.ntmps5
  by_cases hL : (1048576 : Int) < (n : Int)
  · go_wp2
    go_ret
    exact ⟨rfl, Below.refl _ _⟩
  have HG := Lib.hid hg
  clear hg
  go_wp2_with fail
  refine (DrawSwapTerms_any w a n cap hby).mono ?_
  rintro e w1 ⟨bs, es, ab, ae, cb, ce, x, y, rfl, hSb, hSe, hxs, hys, hPb, hPe, hb1⟩
  have hP := PAt.new ab ae cb ce hPb hPe
  have hall : Below w.heap.size w (w1.alloc (.cells #[.slice ab bs.length cb, .slice ae es.length ce] 32)) := hb1.alloc hb1.size _
  obtain ⟨c0, c1⟩ := And.intro hP.c0 hP.c1
  have H1 := Lib.hid (And.intro hP hall)
  clear hPb hPe hb1 hSb hSe hxs hys hby hP hall
  go_wp2_with fail
  generalize w1.alloc (.cells #[.slice ab bs.length cb, .slice ae es.length ce] 32) = wP at *
  generalize w1.heap.size = q at *
  by_cases hV : Valid bs es
  · have HV := Lib.hid hV
    clear hV
    refine (Swap_implY wP bs es _ _ _ _ _ _ 120 121 HV.out rfl rfl rfl rfl H1.out.1.b H1.out.1.e (HG.out.keep H1.out.2)).mono ?_
    rintro e w2 ⟨a2, d2, a2', d2', rfl, p2, p2', hb2⟩
    have hA := PAt.new a2 a2' d2 d2' p2 p2'
    have hP := H1.out.1.step hb2 (.cells #[.slice a2 (swA bs 120 121).length d2, .slice a2' es.length d2'] 32)
    have hB := below_step H1.out.2 hb2 (.cells #[.slice a2 (swA bs 120 121).length d2, .slice a2' es.length d2'] 32)
    obtain ⟨c0, c1⟩ := And.intro hP.c0 hP.c1
    have H2 := Lib.hid (And.intro hP (And.intro hA hB))
    clear p2 p2' hb2 hA hP hB H1
    go_wp2_with fail
    generalize w2.alloc (.cells #[.slice a2 (swA bs 120 121).length d2, .slice a2' es.length d2'] 32) = wA at *
    generalize w2.heap.size = qa at *
    refine (Swap_specY wA bs es _ _ _ _ _ _ 120 121 HV.out rfl rfl rfl rfl H2.out.1.b H2.out.1.e).mono ?_
    rintro e w3 ⟨a3, d3, a3', d3', rfl, _, _, hb3⟩
    have hP := H2.out.1.step hb3 (.cells #[.slice a3 (swA bs 120 121).length d3, .slice a3' es.length d3'] 32)
    have hA := H2.out.2.1.step hb3 (.cells #[.slice a3 (swA bs 120 121).length d3, .slice a3' es.length d3'] 32)
    have hB := below_step H2.out.2.2 hb3 (.cells #[.slice a3 (swA bs 120 121).length d3, .slice a3' es.length d3'] 32)
    obtain ⟨c0, c1⟩ := And.intro hA.c0 hA.c1
    have H3 := Lib.hid (And.intro hP (And.intro hA hB))
    clear hb3 hA hP hB H2
    go_wp2_with fail
    generalize w3.alloc (.cells #[.slice a3 (swA bs 120 121).length d3, .slice a3' es.length d3'] 32) = wB at *
    have HVA := Lib.hid (HV.out.swap (t := 120) (u := 121) (by decide) (by decide))
    refine (Swap_implY wB (swA bs 120 121) es _ _ _ _ _ _ 121 122 HVA.out rfl rfl rfl rfl H3.out.2.1.b H3.out.2.1.e (HG.out.keep H3.out.2.2)).mono ?_
    rintro e w4 ⟨a4, d4, a4', d4', rfl, p4, p4', hb4⟩
    have hQ := PAt.new a4 a4' d4 d4' p4 p4'
    have hP := H3.out.1.step hb4 (.cells #[.slice a4 (swA (swA bs 120 121) 121 122).length d4, .slice a4' es.length d4'] 32)
    have hB := below_step H3.out.2.2 hb4 (.cells #[.slice a4 (swA (swA bs 120 121) 121 122).length d4, .slice a4' es.length d4'] 32)
    obtain ⟨c0, c1⟩ := And.intro hQ.c0 hQ.c1
    have H4 := Lib.hid (And.intro hP (And.intro hQ hB))
    have HVB := Lib.hid (HVA.out.swap (t := 121) (u := 122) (by decide) (by decide))
    clear p4 p4' hb4 hQ hP hB H3
    go_wp2_with fail
    generalize w4.alloc (.cells #[.slice a4 (swA (swA bs 120 121) 121 122).length d4, .slice a4' es.length d4'] 32) = wC at *
    generalize w4.heap.size = qb at *
    refine (Swap_implY wC (swA (swA bs 120 121) 121 122) es _ _ _ _ _ _ 120 121 HVB.out rfl rfl rfl rfl H4.out.2.1.b H4.out.2.1.e (HG.out.keep H4.out.2.2)).mono ?_
    rintro e w5 ⟨a5, d5, a5', d5', rfl, p5, p5', hb5⟩
    have hQ := PAt.new a5 a5' d5 d5' p5 p5'
    have hP := H4.out.1.step hb5 (.cells #[.slice a5 (swA (swA (swA bs 120 121) 121 122) 120 121).length d5, .slice a5' es.length d5'] 32)
    have hB := below_step H4.out.2.2 hb5 (.cells #[.slice a5 (swA (swA (swA bs 120 121) 121 122) 120 121).length d5, .slice a5' es.length d5'] 32)
    obtain ⟨c0, c1⟩ := And.intro hP.c0 hP.c1
    have H5 := Lib.hid (And.intro hP (And.intro hQ hB))
    clear p5 p5' hb5 hQ hP hB H4
    go_wp2_with fail
    generalize w5.alloc (.cells #[.slice a5 (swA (swA (swA bs 120 121) 121 122) 120 121).length d5, .slice a5' es.length d5'] 32) = wD at *
    generalize w5.heap.size = qc at *
    refine (Swap_implY wD bs es _ _ _ _ _ _ 120 122 HV.out rfl rfl rfl rfl H5.out.1.b H5.out.1.e (HG.out.keep H5.out.2.2)).mono ?_
    rintro e w6 ⟨a6, d6, a6', d6', rfl, p6, p6', hb6⟩
    have hR := PAt.new a6 a6' d6 d6' p6 p6'
    have hP := H5.out.1.step hb6 (.cells #[.slice a6 (swA bs 120 122).length d6, .slice a6' es.length d6'] 32)
    have hQ := H5.out.2.1.step hb6 (.cells #[.slice a6 (swA bs 120 122).length d6, .slice a6' es.length d6'] 32)
    have hB := below_step H5.out.2.2 hb6 (.cells #[.slice a6 (swA bs 120 122).length d6, .slice a6' es.length d6'] 32)
    obtain ⟨c0, c1⟩ := And.intro hP.c0 hP.c1
    have H6 := Lib.hid (And.intro hP (And.intro hQ (And.intro hR hB)))
    clear p6 p6' hb6 hR hQ hP hB H5
    go_wp2_with fail
    generalize w6.alloc (.cells #[.slice a6 (swA bs 120 122).length d6, .slice a6' es.length d6'] 32) = wE at *
    generalize w6.heap.size = qd at *
    refine (Swap_implY wE bs es _ _ _ _ _ _ 121 121 HV.out rfl rfl rfl rfl H6.out.1.b H6.out.1.e (HG.out.keep H6.out.2.2.2)).mono ?_
    rintro e w7 ⟨a7, d7, a7', d7', rfl, p7, p7', hb7⟩
    have hT := PAt.new a7 a7' d7 d7' p7 p7'
    have hP := H6.out.1.step hb7 (.cells #[.slice a7 (swA bs 121 121).length d7, .slice a7' es.length d7'] 32)
    have hQ := H6.out.2.1.step hb7 (.cells #[.slice a7 (swA bs 121 121).length d7, .slice a7' es.length d7'] 32)
    have hR := H6.out.2.2.1.step hb7 (.cells #[.slice a7 (swA bs 121 121).length d7, .slice a7' es.length d7'] 32)
    have hB := below_step H6.out.2.2.2 hb7 (.cells #[.slice a7 (swA bs 121 121).length d7, .slice a7' es.length d7'] 32)
    obtain ⟨k0, k1⟩ := And.intro hQ.c0 hQ.c1
    obtain ⟨m0, m1⟩ := And.intro hR.c0 hR.c1
    have H7 := Lib.hid (And.intro hP (And.intro hQ (And.intro hR (And.intro hT hB))))
    clear p7 p7' hb7 hR hQ hP hT hB H6 c0 c1
    go_wp2_with fail
    generalize w7.alloc (.cells #[.slice a7 (swA bs 121 121).length d7, .slice a7' es.length d7'] 32) = wF at *
    generalize w7.heap.size = qe at *
    refine (owProg_same wF _ es _ _ _ _ _ es _ _ _ _ (swA_three HV.out) rfl H7.out.2.1.b H7.out.2.1.e H7.out.2.2.1.b H7.out.2.2.1.e).mono ?_
    rintro e w8 ⟨rfl, hb8⟩
    have hP := H7.out.1.below hb8
    have hT := H7.out.2.2.2.1.below hb8
    have hB := H7.out.2.2.2.2.trans (hb8.mono H7.out.2.2.2.2.size)
    obtain ⟨k0, k1⟩ := And.intro hP.c0 hP.c1
    obtain ⟨m0, m1⟩ := And.intro hT.c0 hT.c1
    have H8 := Lib.hid (And.intro hP (And.intro hT hB))
    clear hb8 hP hT hB H7
    go_wp2_with fail
    refine (owProg_same w8 _ es _ _ _ _ _ es _ _ _ _ (swA_self HV.out (by decide)) rfl H8.out.2.1.b H8.out.2.1.e H8.out.1.b H8.out.1.e).mono ?_
    rintro e w9 ⟨rfl, hb9⟩
    have HZ := Lib.hid (H8.out.2.2.trans (hb9.mono H8.out.2.2.size))
    clear hb9 H8
    go_wp2
    go_ret
    exact ⟨rfl, HZ.out⟩
  · have HN := Lib.hid (And.intro (swOk_no hV xT yT) (show validB bs es = false by simpa [validB] using hV))
    clear hV
    refine (Swap_implN wP bs es _ _ _ _ xT yT HN.out.1 (by decide) (by decide) H1.out.1.b H1.out.1.e (HG.out.keep H1.out.2)).mono ?_
    rintro e w2 ⟨a2, d2, a2', d2', rfl, hb2⟩
    have hP := H1.out.1.step hb2 (.cells #[.slice a2 0 d2, .slice a2' 0 d2'] 32)
    have hB := below_step H1.out.2 hb2 (.cells #[.slice a2 0 d2, .slice a2' 0 d2'] 32)
    obtain ⟨c0, c1⟩ := And.intro hP.c0 hP.c1
    have H2 := Lib.hid (And.intro hP hB)
    clear hb2 hP hB H1
    go_wp2_with fail
    generalize w2.alloc (.cells #[.slice a2 0 d2, .slice a2' 0 d2'] 32) = wA at *
    refine (Swap_specN wA bs es _ _ _ _ xT yT HN.out.1 (by decide) (by decide) H2.out.1.b H2.out.1.e).mono ?_
    rintro e w3 ⟨a3, d3, a3', d3', rfl, hb3⟩
    have hP := H2.out.1.step hb3 (.cells #[.slice a3 0 d3, .slice a3' 0 d3'] 32)
    have hB := below_step H2.out.2 hb3 (.cells #[.slice a3 0 d3, .slice a3' 0 d3'] 32)
    obtain ⟨c0, c1⟩ := And.intro hP.c0 hP.c1
    have H3 := Lib.hid (And.intro hP hB)
    clear hb3 hP hB H2
    go_wp2_with fail
    generalize w3.alloc (.cells #[.slice a3 0 d3, .slice a3' 0 d3'] 32) = wB at *
    refine (ProgValid_implB wB bs es _ _ _ _ false HN.out.2 H3.out.1.b H3.out.1.e (HG.out.keep H3.out.2)).mono ?_
    rintro e w4 ⟨rfl, hb4⟩
    have HZ := Lib.hid (H3.out.2.trans (hb4.mono H3.out.2.size))
    clear hb4 H3
    go_wp2
    go_ret
    exact ⟨rfl, HZ.out⟩
end Go.Proofs.YthkhccfemdjioaaDoor
end
