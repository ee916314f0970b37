import Derived.Test.YthkhccfemdjioaaDoorIrA
import Derived.Test.YthkhccfemdjioaaDoorBlkF
import Derived.Deep.RegionLaw
import Derived.Test.YthkhccfemdjioaaDoorShelf
import Derived.Shelf.Strings.BuilderK
import Derived.Test.YthkhccfemdjioaaDoorPlan
import Derived.Laws.AppendOwnNone
import Derived.Test.YthkhccfemdjioaaDoorEq
import Derived.Test.YthkhccfemdjioaaDoorWith
import Derived.Test.YthkhccfemdjioaaDoorIrC
import Derived.Deep.RegionHeldLaw
section
/-
  The program's opsAlong: what each block of a run does, as rows of letters. Conditions: at most 1048576 blocks and edges, each text at most as many bytes; the errors' variables hold errors.
-/
namespace Go.Proofs.YthkhccfemdjioaaDoor
open Go.RowKit Go.Maps

/-- rows of letters, one for each block of a run -/
def AlongPost (w : World) (bs es : List Pr) (run : ByteArray) (e : Ending) (w' : World) : Prop :=
  Below w.heap.size w w' ∧ ((isRunB bs es run = true ∧ ∃ (b cap : Nat) (V : Nat → Value), e = .returned (.tuple #[.slice (some ⟨b, 0, none⟩) run.size cap, .bool true]) ∧ b < w'.heap.size ∧ (∀ i, i < run.size → w'.cell? ⟨b, i, none⟩ = some (V i)) ∧
      ∀ i, i < run.size → RowAt w' (V i) (opVals (opsAt bs (ch run i)) (opsAt bs (ch run i)).size)) ∨
    (isRunB bs es run = false ∧ e = .returned (.tuple #[.slice none 0 0, .bool false])))
theorem Tryd.infoRow : (Tryd.prog.info? 79).map (fun i => (i.zero, i.size, i.bytes)) = some (some (.slice none 0 0), 1, 24) := by kernel_rfl

theorem RowAt.below {w w' : World} {v : Value} {xs : List Value} (h : RowAt w v xs) (hb : Below w.heap.size w w') : RowAt w' v xs :=
  h.same fun k _ _ _ hk => hb.block k (Array.getElem?_eq_some_iff.1 hk).1
set_option maxRecDepth 100000 in
set_option maxHeartbeats 3200000 in
theorem opsAlong_any (w : World) (bs es : List Pr) (ab ae : Option Addr) (cb ce : Nat) (run : ByteArray) (hr : run.size ≤ 1048576) (hpb : PairsAt w ab bs) (hpe : PairsAt w ae es) (hg : Errs w) :
    Calls Tryd.prog 93 #[.agg #[.slice ab bs.length cb, .slice ae es.length ce], .string run] w (AlongPost w bs es run) := by
  have h1 : Below w.heap.size w (w.alloc (.cells #[.slice ab bs.length cb, .slice ae es.length ce] 32)) := (Below.refl _ _).alloc (Nat.le_refl _) _
  have hpb1 := hpb.below h1
  have hpe1 := hpe.below h1
  have hg1 := hg.keep h1
  have H1 := Lib.hid h1; clear h1
  go_enter Tryd.func93, Tryd.ntmps93
  go_wp2_with fail
  refine (courseOf_any _ bs es _ _ _ _ hpb1 hpe1 hg1).mono ?_
  rintro e w1 ⟨hb1, hcase⟩
  have hall : Below w.heap.size w w1 := H1.out.trans (hb1.mono (by simp))
  have hz := hall.size
  rcases hcase with ⟨hv, o, lo, li, vn, f, D, rfl, hp⟩ | ⟨hv, rfl⟩
  · have HV := Lib.hid (show validB bs es = true by simpa [validB] using hv)
    have HVV := Lib.hid hv
    have hwa : Below w1.heap.size w1 (w1.alloc (.cells #[.map (some o), .map (some lo), .map (some li), vn, .map (some f)] 116)) := (Below.refl _ _).alloc (Nat.le_refl _) _
    have hpA := hp.keep hwa
    obtain ⟨ga, gc, rfl⟩ := own_form hp.names
    have hkA : (w1.alloc (.cells #[.map (some o), .map (some lo), .map (some li), .slice ga bs.length gc, .map (some f)] 116)).heap[w1.heap.size]? = some (.cells #[.map (some o), .map (some lo), .map (some li), .slice ga bs.length gc, .map (some f)] 116 (0, 0)) := heap_alloc_new w1 _
    have HP := Lib.hid (And.intro hpA (And.intro hkA hwa)); clear hpA hp hv hkA hwa
    go_wp2_with fail
    refine (isRun_any _ o lo li f _ bs es D run hr HVV.out HP.out.1).mono ?_
    rintro e w2 ⟨rfl, hb2⟩
    have hall2 : Below w.heap.size w w2 := (hall.alloc hz _).trans (hb2.mono (by simp; omega))
    have hz2 := hall2.size
    cases hR : runB bs es run
    · have HN := Lib.hid (show isRunB bs es run = false by rw [isRunB_yes HV.out, hR])
      clear hR
      go_wp2
      go_ret2
      exact ⟨hall2, .inr ⟨HN.out, rfl⟩⟩
    · have HN := Lib.hid (show isRunB bs es run = true by rw [isRunB_yes HV.out, hR])
      have HRO := Lib.hid (show RunOk bs es run by simpa [runB] using hR)
      clear hR
      obtain ⟨i0, hi, hz0, hz1, hz2⟩ := info_parts Tryd.infoRow
      have hp2 := HP.out.1.keep hb2
      have hk2 := (hb2.block w1.heap.size (by simp)).trans HP.out.2.1
      obtain ⟨F, hO⟩ := hp2.plan.ops
      have hV : ∀ i, i < run.size → ∃ v, F (ch run i) = some v ∧ RowAt w2 v (opVals (opsAt bs (ch run i)) (opsAt bs (ch run i)).size) := fun i hi => by
        obtain ⟨kk, hkk, hf, hn⟩ := fnd_pos (HRO.out.mem HVV.out hi)
        obtain ⟨v, hv, hrow⟩ := hO.row _ (pair_mem hkk)
        refine ⟨v, by rw [← hv]; exact congrArg F hn.symm, ?_⟩
        unfold opsAt
        rw [hf]
        exact hrow
      obtain ⟨V, hVd⟩ : ∃ V : Nat → Value, V = fun i => (F (ch run i)).getD (.slice none 0 0) := ⟨_, rfl⟩
      have hVr : ∀ i, i < run.size → F (ch run i) = some (V i) ∧ RowAt w2 (V i) (opVals (opsAt bs (ch run i)) (opsAt bs (ch run i)).size) := fun i hi => by
        obtain ⟨v, h1, h2⟩ := hV i hi
        have : V i = v := by rw [hVd]; show (F (ch run i)).getD _ = v; rw [h1]; rfl
        rw [this]; exact ⟨h1, h2⟩
      have HVr := Lib.hid (And.intro hVr (And.intro hO hk2)); clear hV hVd hVr hO hk2 hp2
      have hr40 := HRO.out.hi
      have hr2 := HRO.out.lo
      go_wp2
      go_loopw [25, 8] (fun i v wr => ∃ k : Nat, k ≤ run.size ∧ i = .int .i64 k ∧ wr.ownsRow w2.heap.size 79 1 v k ((List.range k).map V) ∧ Below w2.heap.size w2 wr) (fun i _ _ => run.size - (intOf i).toNat)
      case atStart => exact ⟨0, Nat.zero_le _, rfl, World.ownsRow_nil _ _ _ _, Below.refl _ _⟩
      case round =>
        obtain ⟨k, hk, rfl, hown, hbl⟩ := hrel
        have hs3 := hbl.size
        by_cases hlt : k < run.size
        · obtain ⟨hF, hrow⟩ := HVr.out.1 k hlt
          obtain ⟨va, vc, hva⟩ := row_len3 hrow
          have hw1 : w1.heap.size < w2.heap.size := (Array.getElem?_eq_some_iff.1 HVr.out.2.2).1
          have hkr := (hbl.block w1.heap.size hw1).trans HVr.out.2.2
          obtain ⟨⟨x0, x1, x2, x3, x4⟩, _⟩ := block5 hkr
          have hch : (ch run k).size ≤ 1048576 := by rw [ch_size hlt]; decide
          have lk := (HVr.out.2.1.below hbl).map.look Tryd.underlying69 (zeroOps wr) (mx hch)
          rw [hF, Option.getD_some] at lk
          have lk1 : (Instr.lookup 69 (.map (some o)) (.string (run.extract k (k + 1))) false).run Tryd.prog wr.drew = .ok (V k) wr.drew := by
            have := ((HVr.out.2.1.below hbl).map.drew).look Tryd.underlying69 (zeroOps wr.drew) (mx hch)
            rw [hF, Option.getD_some] at this
            exact this
          have s3 := run_slice_str run ((k : Int)) ((k : Int) + 1) k (k + 1) rfl (by omega) (by omega) (by omega)
          have w3 : IntKind.i64.wrap ((k : Int) + 1) = (k : Int) + 1 := IntWalk.i64_in _ (by omega)
          rw [hva] at lk1
          generalize (opVals (opsAt bs (ch run k)) (opsAt bs (ch run k)).size).length = vl at hva lk1
          have hone : ∀ u ∈ [Value.slice va vl vc], u.oneCell' = true := one_one _ rfl
          have HR1 := Lib.hid (show (List.range (k + 1)).map V = (List.range k).map V ++ [Value.slice va vl vc] by rw [List.range_succ, List.map_append, List.map_cons, List.map_nil, hva])
          have hownd : wr.drew.ownsRow w2.heap.size 79 1 _ k ((List.range k).map V) := hown
          clear hva hrow hF lk hkr
          go_wp2
          go_region_law (refine step_append_lies _ rfl (.tmp 28) (.tmp 38) 119 rfl w2.heap.size 79 i0 (.slice none 0 0) 1 24 Tryd.underlying119 hi hz0 hz1 hz2 rfl (by decide) _ k ((List.range k).map V) rfl (hownd.alloc _) ⟨wr.heap.size, 0, none⟩ 1 1 [Value.slice va vl vc] rfl rfl (cell_one_new _ _ _) hone (by decide) (by unfold maxLen; omega) (by omega) (by simp; omega) _ rfl ?_; intro g' cap' w4 hown4 hgrow4 _ _)
          have hb4 : Below w2.heap.size w2 w4 := ((hbl.drew).alloc (by simpa using hs3) _).grown hgrow4 (by simp; omega) (fun j hj => (hown.lt j hj).1)
          go_wp2
          go_roundw
          case rel => exact ⟨k + 1, by omega, by go_num, by rw [HR1.out]; exact hown4, hb4⟩
          case measure => simp [intOf]; omega
        · obtain rfl : k = run.size := by omega
          obtain ⟨n, hn⟩ : ∃ n, run.size = n + 1 := ⟨run.size - 1, by omega⟩
          have hown' : wr.ownsRow w2.heap.size 79 1 u8 (n + 1) ((List.range run.size).map V) := by rw [← hn]; exact hown
          obtain ⟨g, cap, hu8, hgb, hgw, hcap, hcm, hcells⟩ := own_last hown'
          rw [← hn] at hu8
          have HC := Lib.hid hcells
          clear hown hown' hcells hn
          subst hu8
          go_wp2
          go_ret2
          refine ⟨hall2.trans (hbl.mono hall2.size), .inl ⟨HN.out, g, cap, V, rfl, hgw, fun i hi => HC.out i _ (by simp [hi]), fun i hi => ?_⟩⟩
          exact (HVr.out.1 i hi).2.below hbl
  · have HN := Lib.hid (isRunB_no1 (run := run) (show validB bs es = false by simpa [validB] using hv))
    clear hv
    go_wp2
    go_ret2
    exact ⟨hall.alloc hz _, .inr ⟨HN.out, rfl⟩⟩
end Go.Proofs.YthkhccfemdjioaaDoor
end

section
/-
  (*strings.Builder).WriteByte by the library's contract, in this program's own numbers. Conditions: the contract's own.
-/
namespace Go.Proofs
open Go.Shelf
def Tryd.lays167_ren : Go.Shelf.Ren := ⟨fun | 167 => 133 | 240 => 166 | 276 => 192 | n => n, fun | 4 => 4 | 5 => 5 | 9 => 9 | 20 => 20 | 37 => 40 | 70 => 160 | 72 => 162 | 75 => 75 | 164 => 219 | 80 => 134 | n => n, fun | n => n⟩
theorem Tryd.lays167 : Go.Proofs.Lays.n167 Tryd.prog Tryd.lays167_ren := {
  mixed := by kernel_rfl
  f167 := Tryd.func133.trans (congrArg some (by kernel_rfl))
  f240 := Tryd.func166.trans (congrArg some (by kernel_rfl))
  f276 := Tryd.func192.trans (congrArg some (by kernel_rfl))
  t0 := Tryd.underlying0
  a0 := Tryd.isAgg0
  z0 := Tryd.sizeOf0
  v0 := Tryd.zeroValue0
  t4 := Tryd.underlying4
  a4 := Tryd.isAgg4
  z4 := Tryd.sizeOf4
  v4 := Tryd.zeroValue4
  t5 := Tryd.underlying5
  a5 := Tryd.isAgg5
  z5 := Tryd.sizeOf5
  v5 := Tryd.zeroValue5
  t9 := Tryd.underlying9
  a9 := Tryd.isAgg9
  z9 := Tryd.sizeOf9
  v9 := Tryd.zeroValue9
  t20 := Tryd.underlying20
  a20 := Tryd.isAgg20
  z20 := Tryd.sizeOf20
  v20 := Tryd.zeroValue20
  t37 := Tryd.underlying40
  a37 := Tryd.isAgg40
  z37 := Tryd.sizeOf40
  v37 := Tryd.zeroValue40
  t70 := Tryd.underlying160
  a70 := Tryd.isAgg160
  z70 := Tryd.sizeOf160
  v70 := Tryd.zeroValue160
  t72 := Tryd.underlying162
  a72 := Tryd.isAgg162
  z72 := Tryd.sizeOf162
  v72 := Tryd.zeroValue162
  t75 := Tryd.underlying75
  a75 := Tryd.isAgg75
  z75 := Tryd.sizeOf75
  v75 := Tryd.zeroValue75
  t164 := Tryd.underlying219
  a164 := Tryd.isAgg219
  z164 := Tryd.sizeOf219
  v164 := Tryd.zeroValue219 }
theorem Tryd.Builder_Extra_167 : Builder.Extra Tryd.prog Tryd.lays167_ren := {
  sizeBuilder := by kernel_rfl
  liesBuilder := by kernel_rfl
  t5 := Tryd.underlying5
  a5 := Tryd.isAgg5
  z5 := Tryd.sizeOf5
  v5 := Tryd.zeroValue5
  infoByte := by kernel_rfl
  cellsByte := by kernel_rfl
  sizeByte := by kernel_rfl
  neB5 := by decide }
open Go.RowKit in
/-- one byte behind what the builder holds; nothing but the builder and rows of bytes turns -/
theorem Tryd.Builder_WriteByte_k (B b : Nat) (bs : List Value) (c : Int) (w : World) (h : Lib.IsBuilderF 162 5 B b bs w) (hlen : bs.length + 1 ≤ 140737488355328) (hBw : B ≤ w.heap.size) :
    Calls Tryd.prog 133 #[.pointer (some ⟨b, 0, none⟩), .int .u8 c] w fun e w' => e = .returned .nilIface ∧ (Lib.BuilderAtF 162 5 B b (.pointer (some ⟨b, 0, none⟩)) (bs ++ [.int .u8 c]) w' ∧ Below B w w' ∧ Lib.OthersKept 5 (some b) w w') :=
  Any.Builder_WriteByte_k Tryd.lays167 Tryd.Builder_Extra_167 B b bs c w h hlen hBw
end Go.Proofs
end

section
/-
  writeOps: the letters that a row of letters' values stands for. Conditions: the row is the one of at most six letters that tell something.
-/
namespace Go.Proofs.YthkhccfemdjioaaDoor
open Go.RowKit Go.Maps

theorem row_cell {w : World} {v : Value} {xs : List Value} (h : RowAt w v xs) {k : Nat} (hk : k < xs.length) : ∃ g cap, v = .slice (some ⟨g, 0, none⟩) xs.length cap ∧ g < w.heap.size ∧ w.cell? ⟨g, k, none⟩ = xs[k]? := by
  obtain ⟨h1, ⟨_, h0⟩ | ⟨g, cap, cur, e1, _, e3, _, _, e6, e7⟩⟩ := h
  · omega
  · refine ⟨g, cap, e1, (Array.getElem?_eq_some_iff.1 e3).1, ?_⟩
    have hx : (cur.toList.take (xs.length * 1))[k]? = xs[k]? := by rw [e7]
    rw [List.getElem?_take, if_pos (by omega)] at hx
    rw [← hx]
    simp [World.cell?, e3]
theorem row_len {w : World} {v : Value} {xs : List Value} (h : RowAt w v xs) : ∃ a cap, v = .slice a xs.length cap := by
  obtain ⟨h1, ⟨e, h0⟩ | ⟨g, cap, cur, e1, _⟩⟩ := h
  · exact ⟨none, 0, by rw [e, h0]⟩
  · exact ⟨_, cap, e1⟩
theorem opVals_at {s : ByteArray} {k : Nat} (hk : k < s.size) : (opVals s s.size)[k]? = some (opVal (byteAt s k)) := by simp [opVals, hk]

theorem Tryd.letterC (b : Int) (w : World) : (method 290 83 (.agg #[.int .u8 b]) "loop.example/onceways/impl.letter").run Tryd.prog w = .ok (269, .agg #[.int .u8 b]) w := by kernel_rfl
theorem Tryd.letterS (b : Int) (w : World) : (method 290 84 (.agg #[.int .u8 b]) "loop.example/onceways/impl.letter").run Tryd.prog w = .ok (270, .agg #[.int .u8 b]) w := by kernel_rfl

theorem letterC_any (b : Int) (w : World) : Calls Tryd.prog 269 #[.agg #[.int .u8 b]] w fun e w' => e = .returned (.int .u8 b) ∧ Below w.heap.size w w' := by
  go_enter Tryd.func269, Tryd.ntmps269
  go_wp2
  go_ret
  exact ⟨rfl, (Below.refl _ _).alloc (Nat.le_refl _) _⟩
theorem letterS_any (c : Int) (h1 : 88 ≤ c) (h2 : c ≤ 90) (w : World) : Calls Tryd.prog 270 #[.agg #[.int .u8 (c - 88 + 120)]] w fun e w' => e = .returned (.int .u8 c) ∧ Below w.heap.size w w' := by
  obtain rfl | rfl | rfl : c = 88 ∨ c = 89 ∨ c = 90 := by omega
  all_goals
    go_enter Tryd.func270, Tryd.ntmps270
    go_wp2
    go_ret
    exact ⟨rfl, (Below.refl _ _).alloc (Nat.le_refl _) _⟩
theorem bytes_step {s : ByteArray} {k : Nat} (h : k < s.size) : Lib.byteCells (s.data.toList.take (k + 1)) = Lib.byteCells (s.data.toList.take k) ++ [.int .u8 (byteAt s k : Int)] := by
  have hk : s.data.toList[k]? = some s[k] := by
    rw [Array.getElem?_toList]
    exact Array.getElem?_eq_getElem _
  rw [List.take_add_one, hk]
  simp only [Lib.byteCells, Option.toList_some, List.map_append, List.map_cons, List.map_nil]
  rw [← byteAt_get h]
theorem bytes_all {s : ByteArray} : (⟨(s.data.toList.take s.size).toArray⟩ : ByteArray) = s := by
  have : s.data.toList.take s.size = s.data.toList := List.take_of_length_le (Nat.le_of_eq (by rw [Array.length_toList]; rfl))
  rw [this]

/-- a builder stands where nothing older than the heap's end is written -/
theorem builder_at_below {T e : TypeId} {B b : Nat} {p : Value} {bs : List Value} {w w' : World} (h : Lib.BuilderAtF T e B b p bs w) (hb : Below w.heap.size w w') : Lib.BuilderAtF T e B b p bs w' := by
  obtain ⟨hB, v, hc, ⟨h1, ho⟩, hne⟩ := h
  refine ⟨hB, v, (hb.block b (Array.getElem?_eq_some_iff.1 hc).1).trans hc, ⟨h1, ?_⟩, hne⟩
  rcases ho with ho | ⟨g, cap, cur, fz, e1, e2, e3, e4⟩
  · exact .inl ho
  · exact .inr ⟨g, cap, cur, fz, e1, e2, (hb.block g (Array.getElem?_eq_some_iff.1 e3).1).trans e3, e4⟩
theorem builder_below {T e : TypeId} {B b : Nat} {bs : List Value} {w w' : World} (h : Lib.IsBuilderF T e B b bs w) (hb : Below w.heap.size w w') : Lib.IsBuilderF T e B b bs w' :=
  h.elim (fun x => .inl (builder_at_below x hb)) (fun x => .inr (builder_at_below x hb))
set_option maxRecDepth 100000 in
set_option maxHeartbeats 1600000 in
theorem writeOps_any (w : World) (v : Value) (s : ByteArray) (hs : s.size ≤ 1000 ∧ ∀ i, i < s.size → opB (byteAt s i) = true) (hr : RowAt w v (opVals s s.size)) :
    Calls Tryd.prog 77 #[v] w fun e w' => e = .returned (.string s) ∧ Below w.heap.size w w' := by
  obtain ⟨a, cap, rfl⟩ := row_len hr
  have hl := opVals_length s s.size
  rw [hl] at hr ⊢
  have h6 := hs.1
  have HS := Lib.hid hs; clear hs
  have HR := Lib.hid hr; clear hr
  go_enter Tryd.func77, Tryd.ntmps77
  go_wp2
  go_loopw [8] (fun i wr => ∃ k : Nat, k ≤ s.size ∧ i = .int .i64 k ∧ Lib.IsBuilderF 162 5 w.heap.size w.heap.size (Lib.byteCells (s.data.toList.take k)) wr ∧ Below w.heap.size w wr) (fun i _ => s.size - (intOf i).toNat)
  case atStart => exact ⟨0, Nat.zero_le _, rfl, Lib.IsBuilderF.of (Lib.fresh_isBuilder _ _ _), (Below.refl _ _).alloc (Nat.le_refl _) _⟩
  case round =>
    obtain ⟨k, hk, rfl, hB, hbl⟩ := hrel
    have hs1 := hbl.size
    by_cases hlt : k < s.size
    · obtain ⟨g, cap', e, hg, hc⟩ := row_cell HR.out (k := k) (by omega)
      rw [hl] at e
      simp only [Value.slice.injEq, true_and] at e
      obtain ⟨rfl, rfl⟩ := e
      rw [opVals_at hlt] at hc
      have d1 := (hbl.cell (p := ⟨g, k, none⟩) hg).trans hc
      clear hc
      by_cases hlow : lowB (byteAt s k) = true
      · unfold opVal at d1
        rw [if_pos hlow] at d1
        have m1 := fun w => Tryd.letterC (byteAt s k : Int) w
        go_wp2_with fail
        refine (letterC_any _ _).mono ?_
        rintro e x1 ⟨rfl, hx1⟩
        have HB' := builder_below hB hx1
        have hs2 := hx1.size
        go_wp2_with fail
        refine (Tryd.Builder_WriteByte_k _ _ _ _ _ HB' (by rw [Lib.byteCells_length]; simp; omega) (by omega)).mono ?_
        rintro e x2 ⟨rfl, hat, hx2, _⟩
        go_wp2
        go_roundw
        case rel => exact ⟨k + 1, by omega, by go_num, by rw [bytes_step hlt]; exact .inr hat, (hbl.trans (hx1.mono hs1)).trans hx2⟩
        case measure => simp [intOf]; omega
      · have hop := HS.out.2 k hlt
        have hup : upB (byteAt s k) = true := by
          unfold opB at hop
          simpa [hlow] using hop
        have hlow' : lowB (byteAt s k) = false := by simpa using hlow
        unfold opVal at d1
        rw [hlow'] at d1
        simp only [Bool.false_eq_true, if_false] at d1
        have hup2 : (88 : Int) ≤ byteAt s k ∧ (byteAt s k : Int) ≤ 90 := by unfold upB at hup; simp at hup; omega
        have HU := Lib.hid hup2
        have m1 := fun w => Tryd.letterS ((byteAt s k : Int) - 88 + 120) w
        clear hop hup hlow hlow' hup2
        go_wp2_with fail
        refine (letterS_any _ HU.out.1 HU.out.2 _).mono ?_
        rintro e x1 ⟨rfl, hx1⟩
        have HB' := builder_below hB hx1
        have hs2 := hx1.size
        go_wp2_with fail
        refine (Tryd.Builder_WriteByte_k _ _ _ _ _ HB' (by rw [Lib.byteCells_length]; simp; omega) (by omega)).mono ?_
        rintro e x2 ⟨rfl, hat, hx2, _⟩
        go_wp2
        go_roundw
        case rel => exact ⟨k + 1, by omega, by go_num, by rw [bytes_step hlt]; exact .inr hat, (hbl.trans (hx1.mono hs1)).trans hx2⟩
        case measure => simp [intOf]; omega
    · obtain rfl : k = s.size := by omega
      go_wp2_with fail
      refine (Tryd.Builder_String_any_f _ _ _ _ hB hs1).mono ?_
      rintro e x1 ⟨rfl, _, hx1⟩
      go_wp2
      go_ret
      exact ⟨congrArg (fun x => Ending.returned (.string x)) bytes_all, hbl.trans hx1⟩
end Go.Proofs.YthkhccfemdjioaaDoor
end

section
/-
  OpsOn of the model: what the blocks of a run do, one behind the other. Conditions: at most 1048576 blocks and edges, each text at most as many bytes.
-/
namespace Go.Proofs.YthkhccfemdjioaaDoor
open Go.RowKit Go.Maps

noncomputable def opsOnV (bs es : List Pr) (run : ByteArray) : Value := if isRunB bs es run = true then .tuple #[.string (opsTxt bs run run.size), .bool true] else .tuple #[.string e0, .bool false]
theorem opsOnV_yes {bs es : List Pr} {x : ByteArray} (h : isRunB bs es x = true) : opsOnV bs es x = .tuple #[.string (opsTxt bs x x.size), .bool true] := by unfold opsOnV; rw [if_pos h]
theorem opsOnV_no {bs es : List Pr} {x : ByteArray} (h : isRunB bs es x = false) : opsOnV bs es x = .tuple #[.string e0, .bool false] := by unfold opsOnV; rw [if_neg (by rw [h]; simp)]
theorem opsOnV_form (bs es : List Pr) (x : ByteArray) : ∃ (r : ByteArray) (ok : Bool), opsOnV bs es x = .tuple #[.string r, .bool ok] := by
  cases h : isRunB bs es x
  · exact ⟨_, _, opsOnV_no h⟩
  · exact ⟨_, _, opsOnV_yes h⟩
theorem l1Find_k2 (name : ByteArray) (w : World) (l : List Pr) (a : Option Addr) (cap : Nat) (ve : Value) (k : Nat) (hk : fnd l name = (k : Int)) (hp : PairsAt w a l) :
    Calls Tryd.prog 82 #[.agg #[.slice a l.length cap, ve], .string name] w fun e w' => e = .returned (.int .i64 (k : Int)) ∧ Below w.heap.size w w' :=
  (l1Find_any name w l a cap ve hp).mono fun e w' h => ⟨by rw [h.1, hk], h.2⟩

set_option maxRecDepth 100000 in
set_option maxHeartbeats 1600000 in
theorem l2Ops_any (w : World) (bs es : List Pr) (ab ae : Option Addr) (cb ce : Nat) (run : ByteArray) (hV : Valid bs es) (hR : RunOk bs es run) (hpb : PairsAt w ab bs) :
    Calls Tryd.prog 95 #[.agg #[.slice ab bs.length cb, .slice ae es.length ce], .string run] w fun e w' => e = .returned (.string (opsTxt bs run run.size)) ∧ Below w.heap.size w w' := by
  have h1 : Below w.heap.size w (w.alloc (.cells #[.slice ab bs.length cb, .slice ae es.length ce] 32)) := (Below.refl _ _).alloc (Nat.le_refl _) _
  have y0 : (w.alloc (.cells #[.slice ab bs.length cb, .slice ae es.length ce] 32)).cell? ⟨w.heap.size, 0, none⟩ = some (.slice ab bs.length cb) := by go_simp
  have y1 : (w.alloc (.cells #[.slice ab bs.length cb, .slice ae es.length ce] 32)).cell? ⟨w.heap.size, 1, none⟩ = some (.slice ae es.length ce) := by go_simp
  have hsA : w.heap.size < (w.alloc (.cells #[.slice ab bs.length cb, .slice ae es.length ce] 32)).heap.size := by simp
  have hpbA := hpb.below h1
  have hr40 := hR.hi
  have HV := Lib.hid (And.intro hV hR); clear hV hR
  go_enter Tryd.func95, Tryd.ntmps95
  go_wp2
  generalize w.alloc (.cells #[.slice ab bs.length cb, .slice ae es.length ce] 32) = wA at *
  have HA := Lib.hid (And.intro hpbA h1); clear hpbA h1
  go_loopw [9, 5] (fun i v wr => ∃ k : Nat, k ≤ run.size ∧ i = .int .i64 k ∧ v = .string (opsTxt bs run k) ∧ Below wA.heap.size wA wr) (fun i _ _ => run.size - (intOf i).toNat)
  case atStart => exact ⟨0, Nat.zero_le _, rfl, rfl, Below.refl _ _⟩
  case round =>
    obtain ⟨k, hk, rfl, rfl, hbl⟩ := hrel
    have hs2 := hbl.size
    have hall : Below w.heap.size w wr := HA.out.2.trans (hbl.mono (by omega))
    by_cases hlt : k < run.size
    · have x0 := (hbl.cell (p := ⟨w.heap.size, 0, none⟩) hsA).trans y0
      have x1 := (hbl.cell (p := ⟨w.heap.size, 1, none⟩) hsA).trans y1
      have hn1 : w.heap.size < wr.heap.size := by omega
      have hmem := HV.out.2.mem HV.out.1 hlt
      obtain ⟨kk, hkk, hf, hn⟩ := fnd_pos hmem
      have hpr := HA.out.1.below hbl
      obtain ⟨b, off, rfl, hb, g1, g2⟩ := hpr.cell kk hkk
      have hat : opsAt bs (ch run k) = restAt bs kk := by unfold opsAt; rw [hf]; rfl
      have hs6 := (opsAt_ok HV.out.1 hmem).1
      rw [hat] at hs6
      have hsz := opsTxt_size HV.out.1 HV.out.2 k hk
      have t1 : ¬ 9223372036854775807 < (opsTxt bs run k).size + (restAt bs kk).size := by omega
      have HS := Lib.hid (show opsTxt bs run (k + 1) = opsTxt bs run k ++ restAt bs kk by rw [opsTxt_succ, hat])
      have HF := Lib.hid hf
      have s3 := run_slice_str run ((k : Int)) ((k : Int) + 1) k (k + 1) rfl (by omega) (by omega) (by omega)
      have w2 : IntKind.i64.wrap ((k : Int) + 1) = (k : Int) + 1 := IntWalk.i64_in _ (by omega)
      have i1 : (0 : Int) ≤ (kk : Int) := by omega
      have i2 : (kk : Int) < (bs.length : Int) := by omega
      clear hmem hf hn hat hsz g1
      go_wp2
      go_region_held3 (fun w' => w'.cell? ⟨w.heap.size, 0, none⟩ = some (.slice (some ⟨b, off, none⟩) bs.length cb) ∧ w'.cell? ⟨w.heap.size, 1, none⟩ = some (.slice ae es.length ce) ∧ w'.cell? ⟨b, off + kk * 2 + 1, none⟩ = some (.string (restAt bs kk)) ∧ Below wr.heap.size wr w')
        (first
          | exact ⟨x0, x1, g2, (Below.refl _ _).drew⟩
          | (have hq := below_new (‹_ ∧ _ ∧ _ ∧ Below wr.heap.size wr _›).2.2.2 hbN; exact ⟨(hq.cell (p := ⟨w.heap.size, 0, none⟩) hn1).trans x0, (hq.cell (p := ⟨w.heap.size, 1, none⟩) hn1).trans x1, (hq.cell (p := ⟨b, off + kk * 2 + 1, none⟩) hb).trans g2, hq⟩))
        (first
          | (go_at_call 82; refine (l1Find_k2 (ch run k) _ bs _ cb _ kk HF.out ?_).mono ?_; (exact hpr.drew); rintro e wN ⟨rfl, hbN⟩))
      have hbN2 : Below wA.heap.size wA wN := hbl.trans ((‹_ ∧ _ ∧ _ ∧ Below wr.heap.size wr wN›).2.2.2.mono hs2)
      go_wp2
      go_roundw
      case rel => exact ⟨k + 1, by omega, by go_num, by rw [HS.out], hbN2⟩
      case measure => simp [intOf]; omega
    · obtain rfl : k = run.size := by omega
      go_wp2
      go_ret
      exact ⟨rfl, hall⟩

set_option maxRecDepth 100000 in
theorem OpsOn_spec (w : World) (bs es : List Pr) (ab ae : Option Addr) (cb ce : Nat) (run : ByteArray) (hr : run.size ≤ 1048576) (hpb : PairsAt w ab bs) (hpe : PairsAt w ae es) :
    Calls Tryd.prog 41 #[.agg #[.slice ab bs.length cb, .slice ae es.length ce], .string run] w fun e w' => e = .returned (opsOnV bs es run) ∧ Below w.heap.size w w' := by
  have h1 : Below w.heap.size w (w.alloc (.cells #[.slice ab bs.length cb, .slice ae es.length ce] 32)) := (Below.refl _ _).alloc (Nat.le_refl _) _
  have hpb1 := hpb.below h1
  have hpe1 := hpe.below h1
  have H1 := Lib.hid h1; clear h1
  go_enter Tryd.func41, Tryd.ntmps41
  go_wp2_with fail
  refine (IsRun_spec _ bs es _ _ _ _ run hr hpb1 hpe1).mono ?_
  rintro e w1 ⟨rfl, hb1⟩
  have hall : Below w.heap.size w w1 := H1.out.trans (hb1.mono (by simp))
  have hpb2 := hpb1.below hb1
  have c0 := (hb1.cell (p := ⟨w.heap.size, 0, none⟩) (by simp)).trans (show _ = some (.slice ab bs.length cb) by go_simp)
  have c1 := (hb1.cell (p := ⟨w.heap.size, 1, none⟩) (by simp)).trans (show _ = some (.slice ae es.length ce) by go_simp)
  have hz := hall.size
  cases hv : isRunB bs es run
  · have HN := Lib.hid (opsOnV_no hv)
    clear hv
    go_wp2
    go_ret2
    exact ⟨by rw [HN.out]; rfl, hall⟩
  · have HN := Lib.hid (opsOnV_yes hv)
    have HR := Lib.hid (isRunB_iff.1 hv)
    clear hv
    go_wp2_with fail
    refine (l2Ops_any _ bs es _ _ _ _ run HR.out.1 HR.out.2 hpb2).mono ?_
    rintro e w2 ⟨rfl, hb2⟩
    go_wp2
    go_ret2
    exact ⟨by rw [HN.out]; rfl, hall.trans (hb2.mono hz)⟩
end Go.Proofs.YthkhccfemdjioaaDoor
end

section
/-
  slices.Concat at rows of letters: a new row that holds all, one behind the other. Conditions: at most a thousand values altogether, at most forty rows.
-/
namespace Go.Proofs.YthkhccfemdjioaaDoor
open Go.RowKit Go.Maps

theorem run_append_zeros (w : World) (t u ty e : TypeId) (i : TypeInfo) (z : Value) (ht : Tryd.prog.underlying t = some (.slice e)) (hu : Tryd.prog.underlying u = some (.int .i64)) (hi : Tryd.prog.info? e = some i) (hz : i.zero = some z) (hs1 : i.size = 1) (hb : i.bytes = 16)
    (n : Nat) (h0 : 0 < n) (hn : n ≤ 1000) :
    (Builtin.append_ #[t, u] ty #[.slice none 0 0, .int .i64 n]).run Tryd.prog w =
      .ok (.slice (some ⟨w.heap.size, 0, none⟩) n (grownCap w n 0 e)) (w.drew.alloc (.cells (Builtin.zeroCells z.cells n ++ Builtin.zeroCells z.cells (grownCap w n 0 e - n)) e)) := by
  have h1 : n ≠ 0 := by omega
  have h2 : IntKind.i64.wrap (n : Int) = (n : Int) := IntWalk.i64_in _ (by omega)
  have h3 : ¬ ((n : Int) < 0) := by omega
  have h4 : ¬ (281474976710656 < (n : Int) * 16) := by omega
  have h63 : ¬ (9223372036854775807 < (n : Int)) := by omega
  have h48 : ¬ (281474976710656 < Builtin.nextslicecap n 0 * 16) := by rw [nextslicecap_zero h0]; omega
  simp [Builtin.append_, run_underlying ht, run_underlying hu, sizeOf, typeInfo, zeroValue, hi, hz, hs1, hb, Builtin.lenOf, h1, h2, h3, h4, h63, h48, asInt, asIntOf, Question.forced, run_firstCells_none, newRow, grownCap]

theorem wpList_append_zeros {w : World} {ops : Array Oper} {rest : List Oper} {o : Oper} {a : Act} {Q : Exit → Act → World → Prop} (hgd : o.guard = none) (s x : Operand) (t u : TypeId)
    (ho : o.op = .call { callee := .builtin .append, args := #[s, x], argTypes := #[t, u] }) (e : TypeId) (i : TypeInfo) (z : Value) (ht : Tryd.prog.underlying t = some (.slice e)) (hu : Tryd.prog.underlying u = some (.int .i64)) (hi : Tryd.prog.info? e = some i) (hz : i.zero = some z) (hs1 : i.size = 1) (hb : i.bytes = 16)
    (n : Nat) (h0 : 0 < n) (hn : n ≤ 1000) (hs : a.eval s = .slice none 0 0) (hx : a.eval x = .int .i64 n)
    (h : wpList Tryd.prog ops Q rest (a.put o.dst (.slice (some ⟨w.heap.size, 0, none⟩) n (grownCap w n 0 e))) (w.drew.alloc (.cells (Builtin.zeroCells z.cells n ++ Builtin.zeroCells z.cells (grownCap w n 0 e - n)) e))) : wpList Tryd.prog ops Q (o :: rest) a w :=
  wpList_plain hgd fun _ hK => by
    have hr := run_append_zeros w t u o.type e i z ht hu hi hz hs1 hb n h0 hn
    unfold Oper.wp execOp
    simp only [ho, resolve, invoke, builtin, Sem.run_bind, Sem.run_pure, Result.andThen_ok, List.map_toArray, List.map_cons, List.map_nil, hs, hx, hr]
    exact hK _ _ h

set_option maxRecDepth 100000 in
theorem Grow_any (w : World) (n : Nat) (hn : n ≤ 1000) :
    Calls Tryd.prog 144 #[.slice none 0 0, .int .i64 n] w fun e w' => ∃ v, e = .returned v ∧ w'.ownsRow w.heap.size 81 1 v 0 [] ∧ Below w.heap.size w w' := by
  obtain ⟨i0, hi, hz0, hz1, hz2⟩ := info_parts Tryd.infoOp
  have hw : IntKind.i64.wrap (n : Int) = (n : Int) := IntWalk.i64_in _ (by omega)
  have h1 : (0 : Int) ≤ (n : Int) := by omega
  by_cases h0 : 0 < n
  · have hge := grownCap_ge w n 0 81
    have hcm := grownCap_le_maxLen w n 0 81 (by unfold maxLen; omega)
    have h2 : (0 : Int) < (n : Int) := by omega
    have Hg := Lib.hid (And.intro hge hcm); clear hge hcm
    go_enter Tryd.func144, Tryd.ntmps144
    go_wp2_with (at_builtin; refine wpList_append_zeros rfl _ _ 79 3 rfl 81 i0 .nilIface Tryd.underlying79 Tryd.underlying3 hi hz0 hz1 hz2 n h0 hn rfl rfl ?_; generalize hcap : grownCap w n 0 81 = cap at *; have hc1 : 0 ≤ cap := Nat.zero_le _)
    go_ret
    refine ⟨_, rfl, ⟨by simp, .inr ⟨w.heap.size, cap, _, rfl, Nat.le_refl _, heap_alloc_new w.drew _, Nat.zero_le _, Hg.out.2, ?_, by simp⟩⟩, (Below.refl _ _).drew.alloc (Nat.le_refl _) _⟩
    have := Hg.out.1
    simp [size_zeroCells]
    omega
  · have h2 : n = 0 := by omega
    subst h2
    go_enter Tryd.func144, Tryd.ntmps144
    go_wp2
    go_ret
    exact ⟨_, rfl, World.ownsRow_nil _ _ _ _, Below.refl _ _⟩

/-- rows one behind the other -/
def flat (X : Nat → List Value) (k : Nat) : List Value := (List.range k).flatMap X
theorem flat_succ (X : Nat → List Value) (k : Nat) : flat X (k + 1) = flat X k ++ X k := by simp [flat, List.range_succ]
theorem flat_len {X : Nat → List Value} {K : Nat} (h : ∀ i, i < K → (X i).length ≤ 6) : ∀ k, k ≤ K → (flat X k).length ≤ 6 * k
  | 0, _ => by simp [flat]
  | k + 1, hk => by
    have h1 := flat_len h k (by omega)
    have h2 := h k (by omega)
    rw [flat_succ, List.length_append]
    omega
set_option maxRecDepth 100000 in
set_option maxHeartbeats 1600000 in
theorem Concat_any (w : World) (b cap K : Nat) (V : Nat → Value) (X : Nat → List Value) (hK : K ≤ 40) (hb : b < w.heap.size) (hcell : ∀ i, i < K → w.cell? ⟨b, i, none⟩ = some (V i)) (hrow : ∀ i, i < K → RowAt w (V i) (X i)) (hsz : ∀ i, i < K → (X i).length ≤ 6) (hone : ∀ i, i < K → ∀ u ∈ X i, u.oneCell' = true) :
    Calls Tryd.prog 94 #[.slice (some ⟨b, 0, none⟩) K cap] w fun e w' => ∃ v, e = .returned v ∧ w'.ownsRow w.heap.size 81 1 v (flat X K).length (flat X K) ∧ Below w.heap.size w w' := by
  obtain ⟨i0, hi, hz0, hz1, hz2⟩ := info_parts Tryd.infoOp
  have hfl := flat_len hsz
  have HX := Lib.hid (And.intro hcell (And.intro hrow (And.intro hsz (And.intro hone hfl))))
  clear hcell hrow hsz hone hfl
  go_enter Tryd.func94, Tryd.ntmps94
  go_wp2
  go_loopw [11, 3] (fun i s wr => ∃ k : Nat, k ≤ K ∧ i = .int .i64 k ∧ s = .int .i64 ((flat X k).length : Nat) ∧ wr = w) (fun i _ _ => K - (intOf i).toNat)
  case atStart => exact ⟨0, Nat.zero_le _, rfl, by simp [flat], rfl⟩
  case round =>
    obtain ⟨k, hk, rfl, rfl, rfl⟩ := hrel
    have hfk := HX.out.2.2.2.2 k hk
    by_cases hlt : k < K
    · obtain ⟨a, c, hv⟩ := row_len (HX.out.2.1 k hlt)
      have d1 := HX.out.1 k hlt
      rw [hv] at d1
      have hf1 := HX.out.2.2.2.2 (k + 1) hlt
      rw [flat_succ, List.length_append] at hf1
      have w1 : IntKind.i64.wrap (((flat X k).length : Int) + ((X k).length : Int)) = ((flat X k).length : Int) + ((X k).length : Int) := IntWalk.i64_in _ (by omega)
      have w2 : ¬ (((flat X k).length : Int) + ((X k).length : Int) < 0) := by omega
      have HF := Lib.hid (show ((flat X (k + 1)).length : Int) = ((flat X k).length : Int) + ((X k).length : Int) by rw [flat_succ, List.length_append]; omega)
      clear hv
      go_wp2
      go_roundw
      case rel => exact ⟨k + 1, by omega, by go_num, by rw [HF.out], by first | rfl | trivial⟩
      case measure => simp [intOf]; omega
    · obtain rfl : k = K := by omega
      obtain ⟨wo, rfl⟩ : ∃ wo : World, wo = wr := ⟨_, rfl⟩
      go_wp2_with fail
      refine (Grow_any _ (flat X k).length (by omega)).mono ?_
      rintro e w1 ⟨v, rfl, hown0, hb1⟩
      have HB := Lib.hid hb1; clear hb1
      go_wp2
      go_loopw [27, 6] (fun i v w2 => ∃ m : Nat, m ≤ k ∧ i = .int .i64 m ∧ w2.ownsRow wo.heap.size 81 1 v (flat X m).length (flat X m) ∧ Below wo.heap.size wo w2) (fun i _ _ => k - (intOf i).toNat)
      case atStart => exact ⟨0, Nat.zero_le _, rfl, hown0, HB.out⟩
      case round =>
        obtain ⟨m, hm, rfl, hown, hbl⟩ := hrel
        have hs2 := hbl.size
        by_cases hlt2 : m < k
        · have hrm := HX.out.2.1 m hlt2
          have hfm := HX.out.2.2.2.2 (m + 1) hlt2
          rw [flat_succ, List.length_append] at hfm
          have d1 := (hbl.cell (p := ⟨b, m, none⟩) hb).trans (HX.out.1 m hlt2)
          obtain ⟨hr1, ⟨hr2, hr3⟩ | ⟨g, c, cur, hr2, _, hr4, hr5, _, hr6, hr7⟩⟩ := hrm
          · have hx0 : X m = [] := List.eq_nil_of_length_eq_zero hr3
            have HE := Lib.hid (show flat X (m + 1) = flat X m by rw [flat_succ, hx0, List.append_nil])
            rw [hr2] at d1
            clear hr1 hr2 hr3 hx0 hfm
            go_wp2_with (at_builtin; refine wpList_append_own_none rfl _ _ 79 rfl wo.heap.size 81 i0 1 Tryd.underlying79 hi _ (flat X m).length (flat X m) rfl hown rfl ?_)
            go_roundw
            case rel => exact ⟨m + 1, by omega, by go_num, by rw [HE.out]; exact hown, hbl⟩
            case measure => simp [intOf]; omega
          · rw [hr2] at d1
            have hgw := (Array.getElem?_eq_some_iff.1 hr4).1
            have hnews : ∀ (j : Nat) (u : Value), (X m)[j]? = some u → wr.cell? ((⟨g, 0, none⟩ : Addr).add j) = some u := fun j u hu => by
              have hj := (List.getElem?_eq_some_iff.1 hu).1
              rw [Addr.add_lit, Nat.zero_add]
              refine (hbl.cell (p := ⟨g, j, none⟩) hgw).trans ?_
              rw [cell_of_row wo g j _ _ (0, 0) hr4]
              rw [← hr7, List.getElem?_take, if_pos (by simpa using hj)] at hu
              simpa using hu
            have HN := Lib.hid hnews
            have HO := Lib.hid (HX.out.2.2.2.1 m hlt2)
            have HF := Lib.hid (flat_succ X m)
            clear hnews hr1 hr2 hr4 hr5 hr6 hr7
            go_wp2_with (at_builtin; refine wpList_append_own _ rfl _ _ 79 rfl wo.heap.size 81 i0 .nilIface 1 16 Tryd.underlying79 hi hz0 hz1 hz2 rfl (by decide) _ (flat X m).length (flat X m) rfl hown ⟨g, 0, none⟩ (X m).length c (X m) rfl (by simp) HN.out HO.out (by unfold maxLen; omega) (by omega) hs2 ?_; intro v' w3 hown3 hgrow3 _)
            have hb3 : Below wo.heap.size wo w3 := hbl.grown hgrow3 hs2 (fun j hj => (hown.lt j hj).1)
            go_roundw
            case rel => exact ⟨m + 1, by omega, by go_num, by rw [HF.out, List.length_append]; exact hown3, hb3⟩
            case measure => simp [intOf]; omega
        · obtain rfl : m = k := by omega
          go_wp2
          go_ret
          exact ⟨_, rfl, hown, hbl⟩
end Go.Proofs.YthkhccfemdjioaaDoor
end

section
/-
  eqProg of a program with itself: what LawValid (P1) holds ahead of its law, for seats without that law. Conditions: none.
-/
namespace Go.Proofs.YthkhccfemdjioaaDoor
open Go.RowKit

theorem eqProg_same (w : World) (bs es : List Pr) (ab ae ab' ae' : Option Addr) (cb ce cb' ce' : Nat) (hb : PairsAt w ab bs) (he : PairsAt w ae es) (hb' : PairsAt w ab' bs) (he' : PairsAt w ae' es) :
    Calls Tryd.prog 17 #[.agg #[.slice ab bs.length cb, .slice ae es.length ce], .agg #[.slice ab' bs.length cb', .slice ae' es.length ce']] w fun e w' => e = .returned (.bool true) ∧ Below w.heap.size w w' :=
  (eqProg_any w bs es bs es ab ae ab' ae' cb ce cb' ce' hb he hb' he').mono fun e w' h => ⟨by rw [h.1]; simp [sameL], h.2⟩

end Go.Proofs.YthkhccfemdjioaaDoor
end

section
/-
  The program's OpsOn: what the blocks of a run do, one behind the other. Conditions: at most 1048576 blocks and edges, each text at most as many bytes; the errors' variables hold errors.
-/
namespace Go.Proofs.YthkhccfemdjioaaDoor
open Go.RowKit Go.Maps

theorem opVals_list (s : ByteArray) : opVals s s.size = s.data.toList.map fun u => opVal u.toNat := by
  apply List.ext_getElem?
  intro j
  by_cases hj : j < s.size
  · rw [opVals_at hj, List.getElem?_map]
    have hj' : j < s.data.toList.length := by simpa using hj
    rw [List.getElem?_eq_getElem hj', Option.map_some]
    unfold byteAt
    have hj2 : j < s.data.size := hj
    simp [Array.getD_eq_getD_getElem?, Array.getElem?_eq_getElem hj2]
  · rw [List.getElem?_eq_none (by rw [opVals_length]; omega), List.getElem?_eq_none (by simp; exact Nat.le_of_not_lt hj)]
theorem opVals_app (a b : ByteArray) : opVals (a ++ b) (a ++ b).size = opVals a a.size ++ opVals b b.size := by
  rw [opVals_list, opVals_list, opVals_list, ByteArray.data_append, Array.toList_append, List.map_append]
theorem flat_txt (bs : List Pr) (run : ByteArray) : ∀ k, flat (fun i => opVals (opsAt bs (ch run i)) (opsAt bs (ch run i)).size) k = opVals (opsTxt bs run k) (opsTxt bs run k).size
  | 0 => rfl
  | k + 1 => by rw [flat_succ, flat_txt bs run k, opsTxt_succ, opVals_app]
theorem letters_iff (s : ByteArray) : (∀ i, i < s.size → opB (byteAt s i) = true) ↔ ∀ u ∈ s.data.toList, opB u.toNat = true := by
  constructor
  · intro h u hu
    obtain ⟨i, hi, e⟩ := List.getElem_of_mem hu
    have hi' : i < s.size := by simpa using hi
    have := h i hi'
    rw [← byteAt_get hi'] at this
    rw [← e]; exact this
  · intro h i hi
    rw [← byteAt_get hi]
    exact h _ (by have hj : i < s.data.toList.length := by simpa using hi
                  exact List.getElem_mem hj)
theorem opsTxt_letters {bs es : List Pr} {run : ByteArray} (hV : Valid bs es) (hR : RunOk bs es run) : ∀ k, k ≤ run.size → ∀ u ∈ (opsTxt bs run k).data.toList, opB u.toNat = true
  | 0, _, u, hu => by have e : (opsTxt bs run 0).data.toList = [] := rfl
                      rw [e] at hu; cases hu
  | k + 1, hk, u, hu => by
    rw [opsTxt_succ, ByteArray.data_append, Array.toList_append, List.mem_append] at hu
    rcases hu with h | h
    · exact opsTxt_letters hV hR k (by omega) u h
    · exact (letters_iff _).1 (opsAt_ok hV (hR.mem hV (k := k) (by omega))).2 u h
theorem opVals_one (s : ByteArray) : ∀ u ∈ opVals s s.size, u.oneCell' = true := by
  rw [opVals_list]
  intro u hu
  obtain ⟨b, _, rfl⟩ := List.mem_map.1 hu
  unfold opVal
  split <;> rfl

set_option maxRecDepth 100000 in
theorem OpsOn_impl (w : World) (bs es : List Pr) (ab ae : Option Addr) (cb ce : Nat) (x : ByteArray) (hx : x.size ≤ 1048576) (hpb : PairsAt w ab bs) (hpe : PairsAt w ae es) (hg : Errs w) :
    Calls Tryd.prog 40 #[.agg #[.slice ab bs.length cb, .slice ae es.length ce], .string x] w fun e w' => e = .returned (opsOnV bs es x) ∧ Below w.heap.size w w' := by
  have h1 : Below w.heap.size w (w.alloc (.cells #[.slice ab bs.length cb, .slice ae es.length ce] 32)) := (Below.refl _ _).alloc (Nat.le_refl _) _
  have hpb1 := hpb.below h1
  have hpe1 := hpe.below h1
  have hg1 := hg.keep h1
  have H1 := Lib.hid h1; clear h1
  go_enter Tryd.func40, Tryd.ntmps40
  go_wp2_with fail
  refine (opsAlong_any _ bs es _ _ _ _ x hx hpb1 hpe1 hg1).mono ?_
  rintro e w1 ⟨hb1, hcase⟩
  have hall : Below w.heap.size w w1 := H1.out.trans (hb1.mono (by simp))
  have hz := hall.size
  rcases hcase with ⟨hv, b, cap, V, rfl, hbw, hcell, hrow⟩ | ⟨hv, rfl⟩
  · have HN := Lib.hid (opsOnV_yes hv)
    obtain ⟨hV, hR⟩ := isRunB_iff.1 hv
    have hcon := Concat_any w1 b cap x.size V (fun i => opVals (opsAt bs (ch x i)) (opsAt bs (ch x i)).size) hR.hi hbw hcell hrow (fun i hi => by
      show (opVals _ _).length ≤ 6
      rw [opVals_length]; exact (opsAt_ok hV (hR.mem hV hi)).1) (fun i hi => opVals_one _)
    rw [flat_txt] at hcon
    have hs : (opsTxt bs x x.size).size ≤ 1000 ∧ ∀ i, i < (opsTxt bs x x.size).size → opB (byteAt (opsTxt bs x x.size) i) = true :=
      ⟨by have := opsTxt_size hV hR x.size (Nat.le_refl _); have := hR.hi; omega, (letters_iff _).2 (opsTxt_letters hV hR x.size (Nat.le_refl _))⟩
    have HS := Lib.hid hs
    clear hv hV hR hcell hrow hbw hs
    go_wp2_with fail
    refine hcon.mono ?_
    rintro e w2 ⟨v, rfl, hown, hb2⟩
    have hr2 : RowAt w2 v (opVals (opsTxt bs x x.size) (opsTxt bs x x.size).size) := RowAt.of_own hown
    obtain ⟨va, vc, rfl⟩ := row_len hr2
    have HR2 := Lib.hid hr2
    clear hown hr2 hcon
    go_wp2_with fail
    refine (writeOps_any _ _ (opsTxt bs x x.size) HS.out HR2.out).mono ?_
    rintro e w3 ⟨rfl, hb3⟩
    have hb12 := hall.trans (hb2.mono hz)
    go_wp2
    go_ret2
    exact ⟨by rw [HN.out]; rfl, hb12.trans (hb3.mono hb12.size)⟩
  · have HN := Lib.hid (opsOnV_no hv)
    clear hv
    go_wp2
    go_ret2
    exact ⟨by rw [HN.out]; rfl, hall⟩
end Go.Proofs.YthkhccfemdjioaaDoor
end

section
/-
  OpsOf, the program's and the model's: what a block of a valid program does. Conditions: at most 1048576 blocks and edges, each text at most as many bytes; the errors' variables hold errors.
-/
namespace Go.Proofs.YthkhccfemdjioaaDoor
open Go.RowKit Go.Maps

noncomputable def opsV (bs es : List Pr) (x : ByteArray) : Value := if hasB bs es x = true then .tuple #[.string (restAt bs (fnd bs x).toNat), .bool true] else .tuple #[.string e0, .bool false]
theorem opsV_yes {bs es : List Pr} {x : ByteArray} (h : hasB bs es x = true) : opsV bs es x = .tuple #[.string (restAt bs (fnd bs x).toNat), .bool true] := by unfold opsV; rw [if_pos h]
theorem opsV_no {bs es : List Pr} {x : ByteArray} (h : hasB bs es x = false) : opsV bs es x = .tuple #[.string e0, .bool false] := by unfold opsV; rw [if_neg (by rw [h]; simp)]
theorem opsV_form (bs es : List Pr) (x : ByteArray) : ∃ (r : ByteArray) (ok : Bool), opsV bs es x = .tuple #[.string r, .bool ok] := by
  cases h : hasB bs es x
  · exact ⟨_, _, opsV_no h⟩
  · exact ⟨_, _, opsV_yes h⟩

theorem l1Find_k (name : ByteArray) (w : World) (l : List Pr) (a : Option Addr) (cap : Nat) (ve : Value) (k : Nat) (hk : fnd l name = (k : Int)) (hp : PairsAt w a l) :
    Calls Tryd.prog 82 #[.agg #[.slice a l.length cap, ve], .string name] w fun e w' => e = .returned (.int .i64 (k : Int)) ∧ Below w.heap.size w w' :=
  (l1Find_any name w l a cap ve hp).mono fun e w' h => ⟨by rw [h.1, hk], h.2⟩
set_option maxRecDepth 100000 in
theorem OpsOf_spec (w : World) (bs es : List Pr) (ab ae : Option Addr) (cb ce : Nat) (x : ByteArray) (hpb : PairsAt w ab bs) (hpe : PairsAt w ae es) :
    Calls Tryd.prog 37 #[.agg #[.slice ab bs.length cb, .slice ae es.length ce], .string x] w fun e w' => e = .returned (opsV bs es x) ∧ Below w.heap.size w w' := by
  have h1 : Below w.heap.size w (w.alloc (.cells #[.slice ab bs.length cb, .slice ae es.length ce] 32)) := (Below.refl _ _).alloc (Nat.le_refl _) _
  have hpb1 := hpb.below h1
  have hpe1 := hpe.below h1
  have H1 := Lib.hid h1; clear h1
  go_enter Tryd.func37, Tryd.ntmps37
  go_wp2_with fail
  refine (l1Has_any _ bs es _ _ _ _ x hpb1 hpe1).mono ?_
  rintro e w1 ⟨rfl, hb1⟩
  have hall : Below w.heap.size w w1 := H1.out.trans (hb1.mono (by simp))
  have hpb2 := hpb1.below hb1
  have c0 := (hb1.cell (p := ⟨w.heap.size, 0, none⟩) (by simp)).trans (show _ = some (.slice ab bs.length cb) by go_simp)
  have c1 := (hb1.cell (p := ⟨w.heap.size, 1, none⟩) (by simp)).trans (show _ = some (.slice ae es.length ce) by go_simp)
  have hz := hall.size
  cases hv : hasB bs es x
  · have HV := Lib.hid (opsV_no hv)
    clear hv
    go_wp2
    go_ret2
    exact ⟨by rw [HV.out]; rfl, hall⟩
  · have HV := Lib.hid (opsV_yes hv)
    have HM := Lib.hid (hasB_iff.1 hv).2
    clear hv
    obtain ⟨k, hk, hf, hn⟩ := fnd_pos HM.out
    have HF := Lib.hid hf
    have HN := Lib.hid hn
    clear hf hn
    obtain ⟨b, off, rfl, hb, g1, g2⟩ := hpb2.cell k hk
    have hs : w.heap.size < w1.heap.size := by have := hb1.size; simp at this; omega
    have l1 : (k : Int) < (bs.length : Int) := by omega
    have l2 : (0 : Int) ≤ (k : Int) := by omega
    go_wp2
    go_region_held3 (fun w' => w'.cell? ⟨w.heap.size, 0, none⟩ = some (.slice (some ⟨b, off, none⟩) bs.length cb) ∧ w'.cell? ⟨w.heap.size, 1, none⟩ = some (.slice ae es.length ce) ∧ w'.cell? ⟨b, off + k * 2 + 1, none⟩ = some (.string (restAt bs k)) ∧ Below w1.heap.size w1 w')
      (first
        | exact ⟨c0, c1, g2, (Below.refl _ _).drew⟩
        | (have hq := below_new (‹_ ∧ _ ∧ _ ∧ Below w1.heap.size w1 _›).2.2.2 hbN; exact ⟨(hq.cell (p := ⟨w.heap.size, 0, none⟩) hs).trans c0, (hq.cell (p := ⟨w.heap.size, 1, none⟩) hs).trans c1, (hq.cell (p := ⟨b, off + k * 2 + 1, none⟩) hb).trans g2, hq⟩))
      (first
        | (go_at_call 82; refine (l1Find_k x _ bs _ cb _ k HF.out ?_).mono ?_; (exact hpb2.drew); rintro e wN ⟨rfl, hbN⟩))
    have hfin : Below w.heap.size w wN := hall.trans ((‹_ ∧ _ ∧ _ ∧ Below w1.heap.size w1 wN›).2.2.2.mono hz)
    go_wp2
    go_ret2
    exact ⟨by rw [HV.out, HF.out]; rfl, hfin⟩

set_option maxRecDepth 100000 in
theorem OpsOf_impl (w : World) (bs es : List Pr) (ab ae : Option Addr) (cb ce : Nat) (x : ByteArray) (hx : x.size ≤ 1048576) (hpb : PairsAt w ab bs) (hpe : PairsAt w ae es) (hg : Errs w) :
    Calls Tryd.prog 34 #[.agg #[.slice ab bs.length cb, .slice ae es.length ce], .string x] w fun e w' => e = .returned (opsV bs es x) ∧ Below w.heap.size w w' := by
  have h1 : Below w.heap.size w (w.alloc (.cells #[.slice ab bs.length cb, .slice ae es.length ce] 32)) := (Below.refl _ _).alloc (Nat.le_refl _) _
  have hpb1 := hpb.below h1
  have hpe1 := hpe.below h1
  have hg1 := hg.keep h1
  have H1 := Lib.hid h1; clear h1
  go_enter Tryd.func34, Tryd.ntmps34
  go_wp2_with fail
  refine (planWith_any _ bs es _ _ _ _ x hx hpb1 hpe1 hg1).mono ?_
  rintro e w1 ⟨hb1, hcase⟩
  have hall : Below w.heap.size w w1 := H1.out.trans (hb1.mono (by simp))
  have hz := hall.size
  rcases hcase with ⟨hv, o, lo, li, rfl, hp⟩ | ⟨hv, rfl⟩
  · have HV := Lib.hid (opsV_yes hv)
    have HM := Lib.hid (hasB_iff.1 hv)
    clear hv
    obtain ⟨F, hO⟩ := hp.ops
    obtain ⟨k, hk, hf, hn⟩ := fnd_pos HM.out.2
    have HF := Lib.hid hf
    have hwa : Below w1.heap.size w1 (w1.alloc (.cells #[.map (some o), .map (some lo), .map (some li)] 73)) := (Below.refl _ _).alloc (Nat.le_refl _) _
    obtain ⟨v, hFv, hrow⟩ := (hO.below hwa).row _ (pair_mem hk)
    rw [show (nameAt bs k, restAt bs k).1 = x from hn] at hFv
    have l1 := (hO.below hwa).map.look Tryd.underlying69 (zeroOps _) (mx hx)
    rw [hFv] at l1
    have HRow := Lib.hid hrow
    have HOK := Lib.hid (show opsOk (restAt bs k) from (show Valid bs es by simpa [validB] using HM.out.1).b.op _ (pair_mem hk))
    clear hf hn hrow
    go_wp2_with fail
    refine (writeOps_any _ v (restAt bs k) ⟨by have := HOK.out.1; omega, HOK.out.2⟩ HRow.out).mono ?_
    rintro e w2 ⟨rfl, hb2⟩
    go_wp2
    go_ret2
    exact ⟨by rw [HV.out, HF.out]; rfl, (hall.alloc hz _).trans (hb2.mono (by simp; omega))⟩
  · have HV := Lib.hid (opsV_no hv)
    clear hv
    go_wp2
    go_ret2
    exact ⟨by rw [HV.out]; rfl, hall.alloc hz _⟩
end Go.Proofs.YthkhccfemdjioaaDoor
end

section
/-
  EdgeOf, the program's and the model's: the index of an edge of a valid program, else -1. Conditions: at most 1048576 blocks and edges, each text at most as many bytes; the errors' variables hold errors.
-/
namespace Go.Proofs.YthkhccfemdjioaaDoor
open Go.RowKit Go.Maps

noncomputable def edgeV (bs es : List Pr) (x y : ByteArray) : Int := if validB bs es = true then fndE es (x, y) else -1

set_option maxRecDepth 100000 in
theorem EdgeOf_impl (w : World) (bs es : List Pr) (ab ae : Option Addr) (cb ce : Nat) (x y : ByteArray) (hx : x.size ≤ 1048576) (hy : y.size ≤ 1048576) (hpb : PairsAt w ab bs) (hpe : PairsAt w ae es) (hg : Errs w) :
    Calls Tryd.prog 43 #[.agg #[.slice ab bs.length cb, .slice ae es.length ce], .string x, .string y] w fun e w' => e = .returned (.int .i64 (edgeV bs es x y)) ∧ Below w.heap.size w w' := by
  have h1 : Below w.heap.size w (w.alloc (.cells #[.slice ab bs.length cb, .slice ae es.length ce] 32)) := (Below.refl _ _).alloc (Nat.le_refl _) _
  have hpb1 := hpb.below h1
  have hpe1 := hpe.below h1
  have hg1 := hg.keep h1
  have H1 := Lib.hid h1; clear h1
  go_enter Tryd.func43, Tryd.ntmps43
  go_wp2_with fail
  refine (planOf_any _ bs es _ _ _ _ hpb1 hpe1 hg1).mono ?_
  rintro e w1 ⟨hb1, hcase⟩
  have hall : Below w.heap.size w w1 := H1.out.trans (hb1.mono (by simp))
  have hz := hall.size
  rcases hcase with ⟨hv, o, lo, li, rfl, hp⟩ | ⟨hv, t, z, rfl⟩
  · have HV := Lib.hid (show validB bs es = true by simpa [validB] using hv)
    clear hv
    obtain ⟨fp, F, hL, hfp⟩ := hp.out
    have hwa : Below w1.heap.size w1 (w1.alloc (.cells #[.map (some o), .map (some lo), .map (some li)] 73)) := (Below.refl _ _).alloc (Nat.le_refl _) _
    have l3 := (hL.map.below hwa hL.map.lt).look Tryd.underlying71 (zeroMap _) (mx hx)
    cases hFL : F x with
    | none =>
      rw [hFL] at l3
      have l4 := look_nil_ok (w := w1.alloc (.cells #[.map (some o), .map (some lo), .map (some li)] 73)) Tryd.underlying114 (zeroInt _) (mx hy)
      have hE : fndE es (x, y) = -1 := by unfold fndE; rw [(idx_eq_none_iff _ _).2 (hL.none_ x hFL y)]
      have HE := Lib.hid hE
      clear hE
      go_wp2
      go_ret
      exact ⟨by unfold edgeV; rw [if_pos HV.out, HE.out]; rfl, hall.alloc hz _⟩
    | some v =>
      obtain ⟨bi, rfl, hbi, hmi, _⟩ := hL.some_ x v hFL
      rw [hFL] at l3
      have l4 := (hmi.below hwa (hfp bi hbi)).look_ok Tryd.underlying114 (zeroInt _) (mx hy)
      unfold inner at l4
      cases hi : idx es (x, y) with
      | none =>
        rw [hi] at l4
        have HE := Lib.hid (show fndE es (x, y) = -1 by unfold fndE; rw [hi])
        clear hi
        go_wp2
        go_ret
        exact ⟨by unfold edgeV; rw [if_pos HV.out, HE.out]; rfl, hall.alloc hz _⟩
      | some k =>
        rw [hi] at l4
        have HE := Lib.hid (show fndE es (x, y) = (k : Int) by unfold fndE; rw [hi])
        clear hi
        go_wp2
        go_ret
        exact ⟨by unfold edgeV; rw [if_pos HV.out, HE.out]; rfl, hall.alloc hz _⟩
  · have HV := Lib.hid (show validB bs es = false by simpa [validB] using hv)
    clear hv
    go_wp2
    go_ret
    exact ⟨by unfold edgeV; rw [if_neg (by rw [HV.out]; simp)]; rfl, hall.alloc hz _⟩
end Go.Proofs.YthkhccfemdjioaaDoor
end

section
/-
  IsRun of the program. Conditions: at most 1048576 blocks and edges, each text at most as many bytes; the errors' variables hold errors.
-/
namespace Go.Proofs.YthkhccfemdjioaaDoor
open Go.RowKit Go.Maps

set_option maxRecDepth 100000 in
theorem IsRun_impl (w : World) (bs es : List Pr) (ab ae : Option Addr) (cb ce : Nat) (run : ByteArray) (hr : run.size ≤ 1048576) (hpb : PairsAt w ab bs) (hpe : PairsAt w ae es) (hg : Errs w) :
    Calls Tryd.prog 39 #[.agg #[.slice ab bs.length cb, .slice ae es.length ce], .string run] w fun e w' => e = .returned (.bool (isRunB bs es run)) ∧ Below w.heap.size w w' := by
  have h1 : Below w.heap.size w (w.alloc (.cells #[.slice ab bs.length cb, .slice ae es.length ce] 32)) := (Below.refl _ _).alloc (Nat.le_refl _) _
  have hpb1 := hpb.below h1
  have hpe1 := hpe.below h1
  have hg1 := hg.keep h1
  have H1 := Lib.hid h1; clear h1
  go_enter Tryd.func39, Tryd.ntmps39
  go_wp2_with fail
  refine (courseOf_any _ bs es _ _ _ _ hpb1 hpe1 hg1).mono ?_
  rintro e w1 ⟨hb1, hcase⟩
  have hall : Below w.heap.size w w1 := H1.out.trans (hb1.mono (by simp))
  have hz := hall.size
  rcases hcase with ⟨hv, o, lo, li, vn, f, D, rfl, hp⟩ | ⟨hv, rfl⟩
  · have HV := Lib.hid (show validB bs es = true by simpa [validB] using hv)
    have HVV := Lib.hid hv
    have hwa : Below w1.heap.size w1 (w1.alloc (.cells #[.map (some o), .map (some lo), .map (some li), vn, .map (some f)] 116)) := (Below.refl _ _).alloc (Nat.le_refl _) _
    have hpA := hp.keep hwa
    obtain ⟨ga, gc, rfl⟩ := own_form hp.names
    have HP := Lib.hid hpA; clear hpA hp hv
    go_wp2_with fail
    refine (isRun_any _ o lo li f _ bs es D run hr HVV.out HP.out).mono ?_
    rintro e w2 ⟨rfl, hb2⟩
    go_wp2
    go_ret
    exact ⟨ret_bool (by rw [isRunB_yes HV.out]), (hall.alloc hz _).trans (hb2.mono (by simp; omega))⟩
  · have HN := Lib.hid (isRunB_no1 (run := run) (show validB bs es = false by simpa [validB] using hv))
    clear hv
    go_wp2
    go_ret
    exact ⟨ret_bool HN.out.symm, hall.alloc hz _⟩
end Go.Proofs.YthkhccfemdjioaaDoor
end

section
/-
  The walk of the law FnIsRun. Conditions: what came in are bytes; the errors' variables hold errors.
-/
namespace Go.Proofs.YthkhccfemdjioaaDoor
open Go.RowKit Go.Maps

section
variable (w : World) (bs es : List Pr) (ab ae : Option Addr) (cb ce : Nat) (x y : ByteArray)
theorem IsRun_implB (b : Bool) (h : isRunB bs es x = b) (hx : x.size ≤ 1048576) (hpb : PairsAt w ab bs) (hpe : PairsAt w ae es) (hg : Errs w) :
    Calls Tryd.prog 39 #[.agg #[.slice ab bs.length cb, .slice ae es.length ce], .string x] w fun e w' => e = .returned (.bool b) ∧ Below w.heap.size w w' := by
  subst h; exact IsRun_impl w bs es ab ae cb ce x hx hpb hpe hg
theorem IsRun_specB (b : Bool) (h : isRunB bs es x = b) (hx : x.size ≤ 1048576) (hpb : PairsAt w ab bs) (hpe : PairsAt w ae es) :
    Calls Tryd.prog 42 #[.agg #[.slice ab bs.length cb, .slice ae es.length ce], .string x] w fun e w' => e = .returned (.bool b) ∧ Below w.heap.size w w' := by
  subst h; exact IsRun_spec w bs es ab ae cb ce x hx hpb hpe
theorem OpsOn_implB (r : ByteArray) (b : Bool) (h : opsOnV bs es x = .tuple #[.string r, .bool b]) (hx : x.size ≤ 1048576) (hpb : PairsAt w ab bs) (hpe : PairsAt w ae es) (hg : Errs w) :
    Calls Tryd.prog 40 #[.agg #[.slice ab bs.length cb, .slice ae es.length ce], .string x] w fun e w' => e = .returned (.tuple #[.string r, .bool b]) ∧ Below w.heap.size w w' :=
  (OpsOn_impl w bs es ab ae cb ce x hx hpb hpe hg).mono fun e w' k => ⟨by rw [k.1, h], k.2⟩
theorem OpsOn_specB (r : ByteArray) (b : Bool) (h : opsOnV bs es x = .tuple #[.string r, .bool b]) (hx : x.size ≤ 1048576) (hpb : PairsAt w ab bs) (hpe : PairsAt w ae es) :
    Calls Tryd.prog 41 #[.agg #[.slice ab bs.length cb, .slice ae es.length ce], .string x] w fun e w' => e = .returned (.tuple #[.string r, .bool b]) ∧ Below w.heap.size w w' :=
  (OpsOn_spec w bs es ab ae cb ce x hx hpb hpe).mono fun e w' k => ⟨by rw [k.1, h], k.2⟩
theorem OpsOf_implB (r : ByteArray) (b : Bool) (h : opsV bs es x = .tuple #[.string r, .bool b]) (hx : x.size ≤ 1048576) (hpb : PairsAt w ab bs) (hpe : PairsAt w ae es) (hg : Errs w) :
    Calls Tryd.prog 34 #[.agg #[.slice ab bs.length cb, .slice ae es.length ce], .string x] w fun e w' => e = .returned (.tuple #[.string r, .bool b]) ∧ Below w.heap.size w w' :=
  (OpsOf_impl w bs es ab ae cb ce x hx hpb hpe hg).mono fun e w' k => ⟨by rw [k.1, h], k.2⟩
theorem EdgeOf_implK (k : Nat) (h : edgeV bs es x y = (k : Int)) (hx : x.size ≤ 1048576) (hy : y.size ≤ 1048576) (hpb : PairsAt w ab bs) (hpe : PairsAt w ae es) (hg : Errs w) :
    Calls Tryd.prog 43 #[.agg #[.slice ab bs.length cb, .slice ae es.length ce], .string x, .string y] w fun e w' => e = .returned (.int .i64 (k : Int)) ∧ Below w.heap.size w w' :=
  (EdgeOf_impl w bs es ab ae cb ce x y hx hy hpb hpe hg).mono fun e w' q => ⟨by rw [q.1, h], q.2⟩
end
theorem opsV_at {bs es : List Pr} {x : ByteArray} (hV : Valid bs es) (hx : x ∈ names bs) : opsV bs es x = .tuple #[.string (opsAt bs x), .bool true] := by
  rw [opsV_yes (hasB_iff.2 ⟨by simpa [validB] using hV, hx⟩)]; rfl
theorem edgeV_at {bs es : List Pr} {x y : ByteArray} (hV : Valid bs es) (hm : (x, y) ∈ es) : ∃ k : Nat, edgeV bs es x y = (k : Int) := by
  obtain ⟨k, _, e, _⟩ := fndE_yes hm
  exact ⟨k, by unfold edgeV; rw [if_pos (by simpa [validB] using hV), e]⟩

set_option maxRecDepth 100000 in
set_option maxHeartbeats 6400000 in
theorem LawFnIsRun_any (w : World) (a : Option Addr) (n cap : Nat) (hby : BytesRaw w a n cap) (hg : Errs w) :
    Calls Tryd.prog 9 #[.slice a n cap] w fun e w' => e = .returned (.bool true) ∧ Below w.heap.size w w' := by
  go_enter Tryd.func9, Tryd.ntmps9
  by_cases hL : (1048576 : Int) < (n : Int)
  · go_wp2
    go_ret
    exact ⟨rfl, Below.refl _ _⟩
  have HG := Lib.hid hg
  clear hg
  go_wp2_with fail
  refine (DrawIsRun_any w a n cap hby).mono ?_
  rintro e w1 ⟨bs, es, ab, ae, cb, ce, x, rfl, hSb, hSe, hxs, hPb, hPe, hb1⟩
  have hx : x.size ≤ 1048576 := by omega
  have hW : Below w1.heap.size w1 (w1.alloc (.cells #[.slice ab bs.length cb, .slice ae es.length ce] 32)) := (Below.refl _ _).alloc (Nat.le_refl _) _
  have hP := PAt.new ab ae cb ce hPb hPe
  have hall : Below w.heap.size w (w1.alloc (.cells #[.slice ab bs.length cb, .slice ae es.length ce] 32)) := hb1.trans (hW.mono hb1.size)
  go_upto_region 4 with fail
  generalize hwP : w1.alloc (.cells #[.slice ab bs.length cb, .slice ae es.length ce] 32) = wP at *
  have hz1 : w1.heap.size < wP.heap.size := by rw [← hwP]; simp
  have HSm := Lib.hid (show ∀ W', Below wP.heap.size wP W' → (W'.cell? ⟨w1.heap.size, 0, none⟩ = some (.slice ab bs.length cb) ∧ W'.cell? ⟨w1.heap.size, 1, none⟩ = some (.slice ae es.length ce) ∧ w1.heap.size < W'.heap.size) from fun W' hB => ⟨(hP.below hB).c0, (hP.below hB).c1, Nat.lt_of_lt_of_le hz1 hB.size⟩)
  have HPP := Lib.hid (show ∀ W', Below wP.heap.size wP W' → (PairsAt W' ab bs ∧ PairsAt W' ae es ∧ Errs W') from fun W' hB => ⟨(hP.below hB).b, (hP.below hB).e, HG.out.keep (hall.trans (hB.mono hall.size))⟩)
  have HF := Lib.hid (show ∀ W', Below wP.heap.size wP W' → Below w.heap.size w W' from fun W' hB => hall.trans (hB.mono hall.size))
  obtain ⟨c0, c1, _⟩ := HSm.out _ (Below.refl _ _)
  generalize w1.heap.size = q at *
  clear hwP hW hP hPb hPe hb1 hSb hSe hxs hby hall HG hz1
  cases hh : isRunB bs es x
  · have HE := Lib.hid (And.intro hh (opsOnV_no hh))
    clear hh
    go_wp2_with fail
    refine (IsRun_implB _ bs es _ _ _ _ x _ HE.out.1 hx (HPP.out _ (Below.refl _ _)).1 (HPP.out _ (Below.refl _ _)).2.1 (HPP.out _ (Below.refl _ _)).2.2).mono ?_
    rintro e w2 ⟨rfl, hb2⟩
    have HQ2 := Lib.hid hb2
    obtain ⟨c0, c1, _⟩ := HSm.out _ HQ2.out
    clear hb2
    go_wp2_with fail
    refine (OpsOn_implB _ bs es _ _ _ _ x _ _ HE.out.2 hx (HPP.out _ HQ2.out).1 (HPP.out _ HQ2.out).2.1 (HPP.out _ HQ2.out).2.2).mono ?_
    rintro e w3 ⟨rfl, hb3⟩
    have HQ3 := Lib.hid (below_new HQ2.out hb3)
    obtain ⟨c0, c1, _⟩ := HSm.out _ HQ3.out
    clear hb3 HQ2
    go_wp2_with fail
    refine (OpsOn_specB _ bs es _ _ _ _ x _ _ HE.out.2 hx (HPP.out _ HQ3.out).1 (HPP.out _ HQ3.out).2.1).mono ?_
    rintro e w4 ⟨rfl, hb4⟩
    have HQ4 := Lib.hid (below_new HQ3.out hb4)
    obtain ⟨c0, c1, _⟩ := HSm.out _ HQ4.out
    clear hb4 HQ3
    go_wp2_with fail
    refine (IsRun_specB _ bs es _ _ _ _ x _ HE.out.1 hx (HPP.out _ HQ4.out).1 (HPP.out _ HQ4.out).2.1).mono ?_
    rintro e w5 ⟨rfl, hb5⟩
    have HQ5 := Lib.hid (below_new HQ4.out hb5)
    obtain ⟨c0, c1, _⟩ := HSm.out _ HQ5.out
    clear hb5 HQ4
    go_wp2_with fail
    refine (IsRun_specB _ bs es _ _ _ _ x _ HE.out.1 hx (HPP.out _ HQ5.out).1 (HPP.out _ HQ5.out).2.1).mono ?_
    rintro e w6 ⟨rfl, hb6⟩
    have HQ6 := Lib.hid (HF.out _ (below_new HQ5.out hb6))
    clear hb6 HQ5
    go_wp2
    go_ret
    exact ⟨rfl, HQ6.out⟩
  · have HE := Lib.hid (And.intro hh (And.intro (opsOnV_yes hh) (isRunB_iff.1 hh)))
    clear hh
    go_wp2_with fail
    refine (IsRun_implB _ bs es _ _ _ _ x _ HE.out.1 hx (HPP.out _ (Below.refl _ _)).1 (HPP.out _ (Below.refl _ _)).2.1 (HPP.out _ (Below.refl _ _)).2.2).mono ?_
    rintro e w2 ⟨rfl, hb2⟩
    have HQ2 := Lib.hid hb2
    obtain ⟨c0, c1, _⟩ := HSm.out _ HQ2.out
    clear hb2
    obtain ⟨T, hT⟩ : ∃ T, opsTxt bs x x.size = T := ⟨_, rfl⟩
    have HT := Lib.hid hT
    clear hT
    go_wp2_with fail
    refine (OpsOn_implB _ bs es _ _ _ _ x T true (by rw [HE.out.2.1, HT.out]) hx (HPP.out _ HQ2.out).1 (HPP.out _ HQ2.out).2.1 (HPP.out _ HQ2.out).2.2).mono ?_
    rintro e w3 ⟨rfl, hb3⟩
    have HQ3 := Lib.hid (below_new HQ2.out hb3)
    obtain ⟨c0, c1, _⟩ := HSm.out _ HQ3.out
    clear hb3 HQ2
    go_wp2_with fail
    refine (OpsOn_specB _ bs es _ _ _ _ x T true (by rw [HE.out.2.1, HT.out]) hx (HPP.out _ HQ3.out).1 (HPP.out _ HQ3.out).2.1).mono ?_
    rintro e w4 ⟨rfl, hb4⟩
    have HQ4 := Lib.hid (below_new HQ3.out hb4)
    obtain ⟨c0, c1, _⟩ := HSm.out _ HQ4.out
    clear hb4 HQ3
    go_wp2_with fail
    refine (IsRun_specB _ bs es _ _ _ _ x _ HE.out.1 hx (HPP.out _ HQ4.out).1 (HPP.out _ HQ4.out).2.1).mono ?_
    rintro e w5 ⟨rfl, hb5⟩
    have HQ5 := Lib.hid (below_new HQ4.out hb5)
    have tt : (T.toList == T.toList) = true := by rw [toList_eq_iff]; exact decide_eq_true rfl
    have hx40 := HE.out.2.2.2.hi
    have hx2 := HE.out.2.2.2.lo
    clear hb5 HQ4 c0 c1
    go_wp2
    go_loopw [83, 10] (fun i v wr => ∃ k : Nat, k ≤ x.size ∧ i = .int .i64 k ∧ v = .string (opsTxt bs x k) ∧ Below wP.heap.size wP wr) (fun i _ _ => x.size - (intOf i).toNat)
    case atStart => exact ⟨0, Nat.zero_le _, rfl, rfl, HQ5.out⟩
    case round =>
      obtain ⟨k, hk, rfl, rfl, hbl⟩ := hrel
      obtain ⟨c0, c1, _⟩ := HSm.out _ hbl
      have HB := Lib.hid hbl
      clear hbl
      have hsz := opsTxt_size HE.out.2.2.1 HE.out.2.2.2 k hk
      by_cases hlt : k < x.size
      · have hm := HE.out.2.2.2.mem HE.out.2.2.1 hlt
        have ho6 := (opsAt_ok HE.out.2.2.1 hm).1
        have HO := Lib.hid (And.intro (opsV_at HE.out.2.2.1 hm) (opsTxt_succ bs x k))
        have hcs : (ch x k).size ≤ 1048576 := by rw [ch_size hlt]; decide
        have s3 := run_slice_str x (k : Int) ((k : Int) + 1) k (k + 1) rfl (by omega) (by omega) (by omega)
        have w1' : IntKind.i64.wrap ((k : Int) + 1) = (k : Int) + 1 := IntWalk.i64_in _ (by omega)
        have x1 : (0 : Int) ≤ (k : Int) := by omega
        have x2 : (k : Int) + 1 ≤ (x.size : Int) := by omega
        have x3 : (k : Int) ≤ (k : Int) + 1 := by omega
        have s3' : ∀ W : World, (Instr.slice 9 (.string x) (some (.int .i64 (k : Int))) (some (.int .i64 ((k : Int) + 1))) none).run Tryd.prog W = .ok (.string (ch x k)) W := s3
        clear hm s3
        obtain ⟨A, hA⟩ : ∃ A, opsAt bs (ch x k) = A := ⟨_, rfl⟩
        obtain ⟨C, hC⟩ : ∃ C, ch x k = C := ⟨_, rfl⟩
        rw [hA] at HO ho6
        rw [hC] at HO hcs s3'
        have HC := Lib.hid (And.intro hA hC)
        clear hA hC
        obtain ⟨O, hO⟩ : ∃ O, opsTxt bs x k = O := ⟨_, rfl⟩
        rw [hO] at HO hsz ⊢
        have HOO := Lib.hid hO
        clear hO
        have t1 : ¬ 9223372036854775807 < O.size + A.size := by omega
        go_wp2
        go_region_held_law (fun w' => w'.cell? ⟨q, 0, none⟩ = some (.slice ab bs.length cb) ∧ w'.cell? ⟨q, 1, none⟩ = some (.slice ae es.length ce))
          (first
            | with_reducible exact ⟨(HSm.out _ (show Below wP.heap.size wP wr.drew from HB.out.drew)).1, (HSm.out _ (show Below wP.heap.size wP wr.drew from HB.out.drew)).2.1⟩
            | with_reducible exact ⟨m0, m1⟩)
          (first
            | (go_at_call 34; refine (OpsOf_implB wr.drew bs es _ _ _ _ C A true HO.out.1 hcs (HPP.out _ (show Below wP.heap.size wP wr.drew from HB.out.drew)).1 (HPP.out _ (show Below wP.heap.size wP wr.drew from HB.out.drew)).2.1 (HPP.out _ (show Below wP.heap.size wP wr.drew from HB.out.drew)).2.2).mono ?_; rintro e w6 ⟨rfl, hb6⟩; have H6 := Lib.hid (below_new (show Below wP.heap.size wP wr.drew from HB.out.drew) hb6); obtain ⟨m0, m1, _⟩ := HSm.out _ H6.out))
        have H6' := Lib.hid H6.out
        clear hb6 H6 m0 m1
        obtain ⟨c0, c1, _⟩ := HSm.out _ H6'.out
        rcases Nat.eq_zero_or_pos k with hk0 | hk0
        · subst hk0
          have d0 : decide ((0 : Int) < 0) = false := by decide
          have d1 : decide ((0 : Int) < ((0 : Nat) : Int)) = false := by decide
          go_wp2
          go_quiet (fail)
          go_wp2
          go_roundw
          case rel => exact ⟨1, by omega, by go_num, by rw [HO.out.2], below_drewN H6'.out _⟩
          case measure => simp [intOf]; omega
        · obtain ⟨m, rfl⟩ : ∃ m, k = m + 1 := ⟨k - 1, by omega⟩
          obtain ⟨j, hj⟩ := edgeV_at HE.out.2.2.1 (HE.out.2.2.2.ed m hlt)
          have HJ := Lib.hid hj
          have hjn : ¬ ((j : Int) < 0) := by omega
          have hcm : (ch x m).size ≤ 1048576 := by rw [ch_size (by omega)]; decide
          have s1 := run_slice_str x (m : Int) ((m : Int) + 1) m (m + 1) rfl (by omega) (by omega) (by omega)
          have s1' : ∀ W : World, (Instr.slice 9 (.string x) (some (.int .i64 (m : Int))) (some (.int .i64 ((m : Int) + 1))) none).run Tryd.prog W = .ok (.string (ch x m)) W := s1
          have s2' : ∀ W : World, (Instr.slice 9 (.string x) (some (.int .i64 ((m : Int) + 1))) (some (.int .i64 ((m : Int) + 1 + 1))) none).run Tryd.prog W = .ok (.string C) W := fun W => by
            have := s3' W
            simpa using this
          have w3' : IntKind.i64.wrap ((m : Int) + 1 - 1) = (m : Int) := by rw [show (m : Int) + 1 - 1 = m by omega]; exact IntWalk.i64_in _ (by omega)
          have w4' : IntKind.i64.wrap (m : Int) = (m : Int) := IntWalk.i64_in _ (by omega)
          have w5' : IntKind.i64.wrap ((m : Int) + 1 + 1) = (m : Int) + 1 + 1 := IntWalk.i64_in _ (by omega)
          have d1 : decide ((0 : Int) < (m : Int) + 1) = true := decide_eq_true (by omega)
          have d2 : (0 : Int) < (m : Int) + 1 := by omega
          clear hj s1
          go_wp2
          go_region_held_law (fun w' => w'.cell? ⟨q, 0, none⟩ = some (.slice ab bs.length cb) ∧ w'.cell? ⟨q, 1, none⟩ = some (.slice ae es.length ce))
            (first
              | with_reducible exact ⟨(HSm.out _ (show Below wP.heap.size wP w6.drew from H6'.out.drew)).1, (HSm.out _ (show Below wP.heap.size wP w6.drew from H6'.out.drew)).2.1⟩
              | with_reducible exact ⟨n0, n1⟩)
            (first
              | (go_at_call 43; refine (EdgeOf_implK w6.drew bs es _ _ _ _ (ch x m) C j (by rw [← HC.out.2]; exact HJ.out) hcm hcs (HPP.out _ (show Below wP.heap.size wP w6.drew from H6'.out.drew)).1 (HPP.out _ (show Below wP.heap.size wP w6.drew from H6'.out.drew)).2.1 (HPP.out _ (show Below wP.heap.size wP w6.drew from H6'.out.drew)).2.2).mono ?_; rintro e w7 ⟨rfl, hb7⟩; have H7 := Lib.hid (below_new (show Below wP.heap.size wP w6.drew from H6'.out.drew) hb7); obtain ⟨n0, n1, _⟩ := HSm.out _ H7.out))
          go_wp2
          go_roundw
          case rel => exact ⟨m + 1 + 1, by omega, by go_num, by rw [HO.out.2], H7.out⟩
          case measure => simp [intOf]; omega
      · obtain rfl : k = x.size := by omega
        obtain ⟨bb, off, rfl, hb0, g1, _⟩ := (HPP.out _ HB.out).1.cell 0 (by have := HE.out.2.2.1.b.lo; omega)
        obtain ⟨bb', off', e', _, g3, _⟩ := (HPP.out _ HB.out).1.cell (bs.length - 1) (by have := HE.out.2.2.1.b.lo; omega)
        cases e'
        simp only [Nat.zero_mul, Nat.add_zero] at g1
        have hb2 := HE.out.2.2.1.b.lo
        have hb9 := HE.out.2.2.1.b.hi
        have l0 : (0 : Int) < (bs.length : Int) := by omega
        have l1 : (0 : Int) ≤ (bs.length : Int) - 1 := by omega
        have l2 : (bs.length : Int) - 1 < (bs.length : Int) := by omega
        have l4 : (1 : Int) ≤ (bs.length : Int) := by omega
        have l5 : 1 ≤ bs.length := by omega
        have l6 : 1 ≤ x.size := by omega
        have l7 : (1 : Int) ≤ (x.size : Int) := by omega
        have e1 : IntKind.i64.wrap ((bs.length : Int) - 1) = (bs.length : Int) - 1 := IntWalk.i64_in _ (by omega)
        have e2 : ((bs.length : Int) - 1).toNat = bs.length - 1 := by omega
        have e3 : ((x.size : Int) - 1).toNat = x.size - 1 := by omega
        have e4 : IntKind.i64.wrap ((x.size : Int) - 1) = (x.size : Int) - 1 := IntWalk.i64_in _ (by omega)
        have t3 : ((x.extract 0 1).toList == (nameAt bs 0).toList) = true := by rw [toList_eq_iff]; exact decide_eq_true HE.out.2.2.2.st
        have t5 : ((x.extract (x.size - 1) x.size).toList == (nameAt bs (bs.length - 1)).toList) = true := by rw [toList_eq_iff, ch_last (by omega)]; exact decide_eq_true HE.out.2.2.2.en
        have HX := Lib.hid (HF.out _ HB.out)
        rw [HT.out]
        clear hlt hk
        go_wp2
        go_quiet (fail)
        go_wp2
        go_ret
        exact ⟨rfl, below_drewN HX.out _⟩
end Go.Proofs.YthkhccfemdjioaaDoor
end
