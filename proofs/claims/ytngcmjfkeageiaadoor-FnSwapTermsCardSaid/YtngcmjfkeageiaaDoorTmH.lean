import Derived.Test.YtngcmjfkeageiaaDoorShelf
import Derived.Shelf.Strings.BuilderK
import Derived.Test.YtngcmjfkeageiaaDoorPlan
import Derived.Test.YtngcmjfkeageiaaDoorWith
import Derived.Test.YtngcmjfkeageiaaDoorTmG
section
/-
  (*strings.Builder).WriteByte by the library's contract, in this program's own numbers. Conditions: the contract's own.
-/
namespace Go.Proofs
open Go.Shelf
def Tryd.lays167_ren : Go.Shelf.Ren := ⟨fun | 167 => 131 | 240 => 169 | 276 => 193 | n => n, fun | 4 => 4 | 5 => 5 | 9 => 9 | 20 => 20 | 37 => 36 | 70 => 182 | 72 => 184 | 75 => 85 | 164 => 251 | 80 => 130 | n => n, fun | n => n⟩
theorem Tryd.lays167 : Go.Proofs.Lays.n167 Tryd.prog Tryd.lays167_ren := {
  mixed := by kernel_rfl
  f167 := Tryd.func131.trans (congrArg some (by kernel_rfl))
  f240 := Tryd.func169.trans (congrArg some (by kernel_rfl))
  f276 := Tryd.func193.trans (congrArg some (by kernel_rfl))
  t0 := Tryd.underlying0
  a0 := Tryd.isAgg0
  z0 := Tryd.sizeOf0
  v0 := Tryd.zeroValue0
  t4 := Tryd.underlying4
  a4 := Tryd.isAgg4
  z4 := Tryd.sizeOf4
  v4 := Tryd.zeroValue4
  t5 := Tryd.underlying5
  a5 := Tryd.isAgg5
  z5 := Tryd.sizeOf5
  v5 := Tryd.zeroValue5
  t9 := Tryd.underlying9
  a9 := Tryd.isAgg9
  z9 := Tryd.sizeOf9
  v9 := Tryd.zeroValue9
  t20 := Tryd.underlying20
  a20 := Tryd.isAgg20
  z20 := Tryd.sizeOf20
  v20 := Tryd.zeroValue20
  t37 := Tryd.underlying36
  a37 := Tryd.isAgg36
  z37 := Tryd.sizeOf36
  v37 := Tryd.zeroValue36
  t70 := Tryd.underlying182
  a70 := Tryd.isAgg182
  z70 := Tryd.sizeOf182
  v70 := Tryd.zeroValue182
  t72 := Tryd.underlying184
  a72 := Tryd.isAgg184
  z72 := Tryd.sizeOf184
  v72 := Tryd.zeroValue184
  t75 := Tryd.underlying85
  a75 := Tryd.isAgg85
  z75 := Tryd.sizeOf85
  v75 := Tryd.zeroValue85
  t164 := Tryd.underlying251
  a164 := Tryd.isAgg251
  z164 := Tryd.sizeOf251
  v164 := Tryd.zeroValue251 }
theorem Tryd.Builder_Extra_167 : Builder.Extra Tryd.prog Tryd.lays167_ren := {
  sizeBuilder := by kernel_rfl
  liesBuilder := by kernel_rfl
  t5 := Tryd.underlying5
  a5 := Tryd.isAgg5
  z5 := Tryd.sizeOf5
  v5 := Tryd.zeroValue5
  infoByte := by kernel_rfl
  cellsByte := by kernel_rfl
  sizeByte := by kernel_rfl
  neB5 := by decide }
open Go.RowKit in
/-- one byte behind what the builder holds; nothing but the builder and rows of bytes turns -/
theorem Tryd.Builder_WriteByte_k (B b : Nat) (bs : List Value) (c : Int) (w : World) (h : Lib.IsBuilderF 184 5 B b bs w) (hlen : bs.length + 1 ≤ 140737488355328) (hBw : B ≤ w.heap.size) :
    Calls Tryd.prog 131 #[.pointer (some ⟨b, 0, none⟩), .int .u8 c] w fun e w' => e = .returned .nilIface ∧ (Lib.BuilderAtF 184 5 B b (.pointer (some ⟨b, 0, none⟩)) (bs ++ [.int .u8 c]) w' ∧ Below B w w' ∧ Lib.OthersKept 5 (some b) w w') :=
  Any.Builder_WriteByte_k Tryd.lays167 Tryd.Builder_Extra_167 B b bs c w h hlen hBw
end Go.Proofs
end

section
/-
  writeOps: the letters that a row of letters' values stands for. Conditions: the row is the one of at most six letters that tell something.
-/
namespace Go.Proofs.YtngcmjfkeageiaaDoor
open Go.RowKit Go.Maps

theorem row_cell {w : World} {v : Value} {xs : List Value} (h : RowAt w v xs) {k : Nat} (hk : k < xs.length) : ∃ g cap, v = .slice (some ⟨g, 0, none⟩) xs.length cap ∧ g < w.heap.size ∧ w.cell? ⟨g, k, none⟩ = xs[k]? := by
  obtain ⟨h1, ⟨_, h0⟩ | ⟨g, cap, cur, e1, _, e3, _, _, e6, e7⟩⟩ := h
  · omega
  · refine ⟨g, cap, e1, (Array.getElem?_eq_some_iff.1 e3).1, ?_⟩
    have hx : (cur.toList.take (xs.length * 1))[k]? = xs[k]? := by rw [e7]
    rw [List.getElem?_take, if_pos (by omega)] at hx
    rw [← hx]
    simp [World.cell?, e3]
theorem row_len {w : World} {v : Value} {xs : List Value} (h : RowAt w v xs) : ∃ a cap, v = .slice a xs.length cap := by
  obtain ⟨h1, ⟨e, h0⟩ | ⟨g, cap, cur, e1, _⟩⟩ := h
  · exact ⟨none, 0, by rw [e, h0]⟩
  · exact ⟨_, cap, e1⟩
theorem opVals_at {s : ByteArray} {k : Nat} (hk : k < s.size) : (opVals s s.size)[k]? = some (opVal (byteAt s k)) := by simp [opVals, hk]

theorem Tryd.letterC (b : Int) (w : World) : (method 320 93 (.agg #[.int .u8 b]) "loop.example/onceways/impl.letter").run Tryd.prog w = .ok (264, .agg #[.int .u8 b]) w := by kernel_rfl
theorem Tryd.letterS (b : Int) (w : World) : (method 320 94 (.agg #[.int .u8 b]) "loop.example/onceways/impl.letter").run Tryd.prog w = .ok (265, .agg #[.int .u8 b]) w := by kernel_rfl

theorem letterC_any (b : Int) (w : World) : Calls Tryd.prog 264 #[.agg #[.int .u8 b]] w fun e w' => e = .returned (.int .u8 b) ∧ Below w.heap.size w w' := by
  go_enter Tryd.func264, Tryd.ntmps264
  go_wp2
  go_ret
  exact ⟨rfl, (Below.refl _ _).alloc (Nat.le_refl _) _⟩
theorem letterS_any (c : Int) (h1 : 88 ≤ c) (h2 : c ≤ 90) (w : World) : Calls Tryd.prog 265 #[.agg #[.int .u8 (c - 88 + 120)]] w fun e w' => e = .returned (.int .u8 c) ∧ Below w.heap.size w w' := by
  obtain rfl | rfl | rfl : c = 88 ∨ c = 89 ∨ c = 90 := by omega
  all_goals
    go_enter Tryd.func265, Tryd.ntmps265
    go_wp2
    go_ret
    exact ⟨rfl, (Below.refl _ _).alloc (Nat.le_refl _) _⟩
theorem bytes_step {s : ByteArray} {k : Nat} (h : k < s.size) : Lib.byteCells (s.data.toList.take (k + 1)) = Lib.byteCells (s.data.toList.take k) ++ [.int .u8 (byteAt s k : Int)] := by
  have hk : s.data.toList[k]? = some s[k] := by
    rw [Array.getElem?_toList]
    exact Array.getElem?_eq_getElem _
  rw [List.take_add_one, hk]
  simp only [Lib.byteCells, Option.toList_some, List.map_append, List.map_cons, List.map_nil]
  rw [← byteAt_get h]
theorem bytes_all {s : ByteArray} : (⟨(s.data.toList.take s.size).toArray⟩ : ByteArray) = s := by
  have : s.data.toList.take s.size = s.data.toList := List.take_of_length_le (Nat.le_of_eq (by rw [Array.length_toList]; rfl))
  rw [this]

/-- a builder stands where nothing older than the heap's end is written -/
theorem builder_at_below {T e : TypeId} {B b : Nat} {p : Value} {bs : List Value} {w w' : World} (h : Lib.BuilderAtF T e B b p bs w) (hb : Below w.heap.size w w') : Lib.BuilderAtF T e B b p bs w' := by
  obtain ⟨hB, v, hc, ⟨h1, ho⟩, hne⟩ := h
  refine ⟨hB, v, (hb.block b (Array.getElem?_eq_some_iff.1 hc).1).trans hc, ⟨h1, ?_⟩, hne⟩
  rcases ho with ho | ⟨g, cap, cur, fz, e1, e2, e3, e4⟩
  · exact .inl ho
  · exact .inr ⟨g, cap, cur, fz, e1, e2, (hb.block g (Array.getElem?_eq_some_iff.1 e3).1).trans e3, e4⟩
theorem builder_below {T e : TypeId} {B b : Nat} {bs : List Value} {w w' : World} (h : Lib.IsBuilderF T e B b bs w) (hb : Below w.heap.size w w') : Lib.IsBuilderF T e B b bs w' :=
  h.elim (fun x => .inl (builder_at_below x hb)) (fun x => .inr (builder_at_below x hb))
set_option maxRecDepth 100000 in
set_option maxHeartbeats 1600000 in
theorem writeOps_any (w : World) (v : Value) (s : ByteArray) (hs : s.size ≤ 1000 ∧ ∀ i, i < s.size → opB (byteAt s i) = true) (hr : RowAt w v (opVals s s.size)) :
    Calls Tryd.prog 71 #[v] w fun e w' => e = .returned (.string s) ∧ Below w.heap.size w w' := by
  obtain ⟨a, cap, rfl⟩ := row_len hr
  have hl := opVals_length s s.size
  rw [hl] at hr ⊢
  have h6 := hs.1
  have HS := Lib.hid hs; clear hs
  have HR := Lib.hid hr; clear hr
  go_enter Tryd.func71, Tryd.ntmps71
  go_wp2
  go_loopw [8] (fun i wr => ∃ k : Nat, k ≤ s.size ∧ i = .int .i64 k ∧ Lib.IsBuilderF 184 5 w.heap.size w.heap.size (Lib.byteCells (s.data.toList.take k)) wr ∧ Below w.heap.size w wr) (fun i _ => s.size - (intOf i).toNat)
  case atStart => exact ⟨0, Nat.zero_le _, rfl, Lib.IsBuilderF.of (Lib.fresh_isBuilder _ _ _), (Below.refl _ _).alloc (Nat.le_refl _) _⟩
  case round =>
    obtain ⟨k, hk, rfl, hB, hbl⟩ := hrel
    have hs1 := hbl.size
    by_cases hlt : k < s.size
    · obtain ⟨g, cap', e, hg, hc⟩ := row_cell HR.out (k := k) (by omega)
      rw [hl] at e
      simp only [Value.slice.injEq, true_and] at e
      obtain ⟨rfl, rfl⟩ := e
      rw [opVals_at hlt] at hc
      have d1 := (hbl.cell (p := ⟨g, k, none⟩) hg).trans hc
      clear hc
      by_cases hlow : lowB (byteAt s k) = true
      · unfold opVal at d1
        rw [if_pos hlow] at d1
        have m1 := fun w => Tryd.letterC (byteAt s k : Int) w
        go_wp2_with fail
        refine (letterC_any _ _).mono ?_
        rintro e x1 ⟨rfl, hx1⟩
        have HB' := builder_below hB hx1
        have hs2 := hx1.size
        go_wp2_with fail
        refine (Tryd.Builder_WriteByte_k _ _ _ _ _ HB' (by rw [Lib.byteCells_length]; simp; omega) (by omega)).mono ?_
        rintro e x2 ⟨rfl, hat, hx2, _⟩
        go_wp2
        go_roundw
        case rel => exact ⟨k + 1, by omega, by go_num, by rw [bytes_step hlt]; exact .inr hat, (hbl.trans (hx1.mono hs1)).trans hx2⟩
        case measure => simp [intOf]; omega
      · have hop := HS.out.2 k hlt
        have hup : upB (byteAt s k) = true := by
          unfold opB at hop
          simpa [hlow] using hop
        have hlow' : lowB (byteAt s k) = false := by simpa using hlow
        unfold opVal at d1
        rw [hlow'] at d1
        simp only [Bool.false_eq_true, if_false] at d1
        have hup2 : (88 : Int) ≤ byteAt s k ∧ (byteAt s k : Int) ≤ 90 := by unfold upB at hup; simp at hup; omega
        have HU := Lib.hid hup2
        have m1 := fun w => Tryd.letterS ((byteAt s k : Int) - 88 + 120) w
        clear hop hup hlow hlow' hup2
        go_wp2_with fail
        refine (letterS_any _ HU.out.1 HU.out.2 _).mono ?_
        rintro e x1 ⟨rfl, hx1⟩
        have HB' := builder_below hB hx1
        have hs2 := hx1.size
        go_wp2_with fail
        refine (Tryd.Builder_WriteByte_k _ _ _ _ _ HB' (by rw [Lib.byteCells_length]; simp; omega) (by omega)).mono ?_
        rintro e x2 ⟨rfl, hat, hx2, _⟩
        go_wp2
        go_roundw
        case rel => exact ⟨k + 1, by omega, by go_num, by rw [bytes_step hlt]; exact .inr hat, (hbl.trans (hx1.mono hs1)).trans hx2⟩
        case measure => simp [intOf]; omega
    · obtain rfl : k = s.size := by omega
      go_wp2_with fail
      refine (Tryd.Builder_String_any_f _ _ _ _ hB hs1).mono ?_
      rintro e x1 ⟨rfl, _, hx1⟩
      go_wp2
      go_ret
      exact ⟨congrArg (fun x => Ending.returned (.string x)) bytes_all, hbl.trans hx1⟩
end Go.Proofs.YtngcmjfkeageiaaDoor
end

section
/-
  OpsOf, the program's and the model's: what a block of a valid program does. Conditions: at most 1048576 blocks and edges, each text at most as many bytes; the errors' variables hold errors.
-/
namespace Go.Proofs.YtngcmjfkeageiaaDoor
open Go.RowKit Go.Maps

noncomputable def opsV (bs es : List Pr) (x : ByteArray) : Value := if hasB bs es x = true then .tuple #[.string (restAt bs (fnd bs x).toNat), .bool true] else .tuple #[.string e0, .bool false]
theorem opsV_yes {bs es : List Pr} {x : ByteArray} (h : hasB bs es x = true) : opsV bs es x = .tuple #[.string (restAt bs (fnd bs x).toNat), .bool true] := by unfold opsV; rw [if_pos h]
theorem opsV_no {bs es : List Pr} {x : ByteArray} (h : hasB bs es x = false) : opsV bs es x = .tuple #[.string e0, .bool false] := by unfold opsV; rw [if_neg (by rw [h]; simp)]
theorem opsV_form (bs es : List Pr) (x : ByteArray) : ∃ (r : ByteArray) (ok : Bool), opsV bs es x = .tuple #[.string r, .bool ok] := by
  cases h : hasB bs es x
  · exact ⟨_, _, opsV_no h⟩
  · exact ⟨_, _, opsV_yes h⟩

theorem l1Find_k (name : ByteArray) (w : World) (l : List Pr) (a : Option Addr) (cap : Nat) (ve : Value) (k : Nat) (hk : fnd l name = (k : Int)) (hp : PairsAt w a l) :
    Calls Tryd.prog 80 #[.agg #[.slice a l.length cap, ve], .string name] w fun e w' => e = .returned (.int .i64 (k : Int)) ∧ Below w.heap.size w w' :=
  (l1Find_any name w l a cap ve hp).mono fun e w' h => ⟨by rw [h.1, hk], h.2⟩
set_option maxRecDepth 100000 in
theorem OpsOf_spec (w : World) (bs es : List Pr) (ab ae : Option Addr) (cb ce : Nat) (x : ByteArray) (hpb : PairsAt w ab bs) (hpe : PairsAt w ae es) :
    Calls Tryd.prog 25 #[.agg #[.slice ab bs.length cb, .slice ae es.length ce], .string x] w fun e w' => e = .returned (opsV bs es x) ∧ Below w.heap.size w w' := by
  have h1 : Below w.heap.size w (w.alloc (.cells #[.slice ab bs.length cb, .slice ae es.length ce] 32)) := (Below.refl _ _).alloc (Nat.le_refl _) _
  have hpb1 := hpb.below h1
  have hpe1 := hpe.below h1
  have H1 := Lib.hid h1; clear h1
  go_enter Tryd.func25, Tryd.ntmps25
  go_wp2_with fail
  refine (l1Has_any _ bs es _ _ _ _ x hpb1 hpe1).mono ?_
  rintro e w1 ⟨rfl, hb1⟩
  have hall : Below w.heap.size w w1 := H1.out.trans (hb1.mono (by simp))
  have hpb2 := hpb1.below hb1
  have c0 := (hb1.cell (p := ⟨w.heap.size, 0, none⟩) (by simp)).trans (show _ = some (.slice ab bs.length cb) by go_simp)
  have c1 := (hb1.cell (p := ⟨w.heap.size, 1, none⟩) (by simp)).trans (show _ = some (.slice ae es.length ce) by go_simp)
  have hz := hall.size
  cases hv : hasB bs es x
  · have HV := Lib.hid (opsV_no hv)
    clear hv
    go_wp2
    go_ret2
    exact ⟨by rw [HV.out]; rfl, hall⟩
  · have HV := Lib.hid (opsV_yes hv)
    have HM := Lib.hid (hasB_iff.1 hv).2
    clear hv
    obtain ⟨k, hk, hf, hn⟩ := fnd_pos HM.out
    have HF := Lib.hid hf
    have HN := Lib.hid hn
    clear hf hn
    obtain ⟨b, off, rfl, hb, g1, g2⟩ := hpb2.cell k hk
    have hs : w.heap.size < w1.heap.size := by have := hb1.size; simp at this; omega
    have l1 : (k : Int) < (bs.length : Int) := by omega
    have l2 : (0 : Int) ≤ (k : Int) := by omega
    go_wp2
    go_region_held3 (fun w' => w'.cell? ⟨w.heap.size, 0, none⟩ = some (.slice (some ⟨b, off, none⟩) bs.length cb) ∧ w'.cell? ⟨w.heap.size, 1, none⟩ = some (.slice ae es.length ce) ∧ w'.cell? ⟨b, off + k * 2 + 1, none⟩ = some (.string (restAt bs k)) ∧ Below w1.heap.size w1 w')
      (first
        | exact ⟨c0, c1, g2, (Below.refl _ _).drew⟩
        | (have hq := below_new (‹_ ∧ _ ∧ _ ∧ Below w1.heap.size w1 _›).2.2.2 hbN; exact ⟨(hq.cell (p := ⟨w.heap.size, 0, none⟩) hs).trans c0, (hq.cell (p := ⟨w.heap.size, 1, none⟩) hs).trans c1, (hq.cell (p := ⟨b, off + k * 2 + 1, none⟩) hb).trans g2, hq⟩))
      (first
        | (go_at_call 80; refine (l1Find_k x _ bs _ cb _ k HF.out ?_).mono ?_; (exact hpb2.drew); rintro e wN ⟨rfl, hbN⟩))
    have hfin : Below w.heap.size w wN := hall.trans ((‹_ ∧ _ ∧ _ ∧ Below w1.heap.size w1 wN›).2.2.2.mono hz)
    go_wp2
    go_ret2
    exact ⟨by rw [HV.out, HF.out]; rfl, hfin⟩

set_option maxRecDepth 100000 in
theorem OpsOf_impl (w : World) (bs es : List Pr) (ab ae : Option Addr) (cb ce : Nat) (x : ByteArray) (hx : x.size ≤ 1048576) (hpb : PairsAt w ab bs) (hpe : PairsAt w ae es) (hg : Errs w) :
    Calls Tryd.prog 18 #[.agg #[.slice ab bs.length cb, .slice ae es.length ce], .string x] w fun e w' => e = .returned (opsV bs es x) ∧ Below w.heap.size w w' := by
  have h1 : Below w.heap.size w (w.alloc (.cells #[.slice ab bs.length cb, .slice ae es.length ce] 32)) := (Below.refl _ _).alloc (Nat.le_refl _) _
  have hpb1 := hpb.below h1
  have hpe1 := hpe.below h1
  have hg1 := hg.keep h1
  have H1 := Lib.hid h1; clear h1
  go_enter Tryd.func18, Tryd.ntmps18
  go_wp2_with fail
  refine (planWith_any _ bs es _ _ _ _ x hx hpb1 hpe1 hg1).mono ?_
  rintro e w1 ⟨hb1, hcase⟩
  have hall : Below w.heap.size w w1 := H1.out.trans (hb1.mono (by simp))
  have hz := hall.size
  rcases hcase with ⟨hv, o, lo, li, rfl, hp⟩ | ⟨hv, rfl⟩
  · have HV := Lib.hid (opsV_yes hv)
    have HM := Lib.hid (hasB_iff.1 hv)
    clear hv
    obtain ⟨F, hO⟩ := hp.ops
    obtain ⟨k, hk, hf, hn⟩ := fnd_pos HM.out.2
    have HF := Lib.hid hf
    have hwa : Below w1.heap.size w1 (w1.alloc (.cells #[.map (some o), .map (some lo), .map (some li)] 83)) := (Below.refl _ _).alloc (Nat.le_refl _) _
    obtain ⟨v, hFv, hrow⟩ := (hO.below hwa).row _ (pair_mem hk)
    rw [show (nameAt bs k, restAt bs k).1 = x from hn] at hFv
    have l1 := (hO.below hwa).map.look Tryd.underlying79 (zeroOps _) (mx hx)
    rw [hFv] at l1
    have HRow := Lib.hid hrow
    have HOK := Lib.hid (show opsOk (restAt bs k) from (show Valid bs es by simpa [validB] using HM.out.1).b.op _ (pair_mem hk))
    clear hf hn hrow
    go_wp2_with fail
    refine (writeOps_any _ v (restAt bs k) ⟨by have := HOK.out.1; omega, HOK.out.2⟩ HRow.out).mono ?_
    rintro e w2 ⟨rfl, hb2⟩
    go_wp2
    go_ret2
    exact ⟨by rw [HV.out, HF.out]; rfl, (hall.alloc hz _).trans (hb2.mono (by simp; omega))⟩
  · have HV := Lib.hid (opsV_no hv)
    clear hv
    go_wp2
    go_ret2
    exact ⟨by rw [HV.out]; rfl, hall.alloc hz _⟩
end Go.Proofs.YtngcmjfkeageiaaDoor
end

section
/-
  TermsIn and OpsOf at values known. Conditions: pairs that stand; the errors' variables hold errors.
-/
namespace Go.Proofs.YtngcmjfkeageiaaDoor
open Go.RowKit Go.Maps

section
variable (w : World) (bs es : List Pr) (ab ae : Option Addr) (cb ce : Nat) (x : ByteArray)
theorem TermsIn_implB (r : ByteArray) (b : Bool) (h : termV bs es = .tuple #[.string r, .bool b]) (hpb : PairsAt w ab bs) (hpe : PairsAt w ae es) (hg : Errs w) :
    Calls Tryd.prog 15 #[.agg #[.slice ab bs.length cb, .slice ae es.length ce]] w fun e w' => e = .returned (.tuple #[.string r, .bool b]) ∧ Below w.heap.size w w' :=
  (TermsIn_impl w bs es ab ae cb ce hpb hpe hg).mono fun e w' k => ⟨by rw [k.1, h], k.2⟩
theorem TermsIn_specB (r : ByteArray) (b : Bool) (h : termV bs es = .tuple #[.string r, .bool b]) (hpb : PairsAt w ab bs) (hpe : PairsAt w ae es) :
    Calls Tryd.prog 13 #[.agg #[.slice ab bs.length cb, .slice ae es.length ce]] w fun e w' => e = .returned (.tuple #[.string r, .bool b]) ∧ Below w.heap.size w w' :=
  (TermsIn_spec w bs es ab ae cb ce hpb hpe).mono fun e w' k => ⟨by rw [k.1, h], k.2⟩
theorem OpsOf_implT (r : ByteArray) (b : Bool) (h : opsV bs es x = .tuple #[.string r, .bool b]) (hx : x.size ≤ 1048576) (hpb : PairsAt w ab bs) (hpe : PairsAt w ae es) (hg : Errs w) :
    Calls Tryd.prog 18 #[.agg #[.slice ab bs.length cb, .slice ae es.length ce], .string x] w fun e w' => e = .returned (.tuple #[.string r, .bool b]) ∧ Below w.heap.size w w' :=
  (OpsOf_impl w bs es ab ae cb ce x hx hpb hpe hg).mono fun e w' k => ⟨by rw [k.1, h], k.2⟩
end
theorem opsV_here {bs es : List Pr} (hV : Valid bs es) {m : Nat} (hm : m < bs.length) : opsV bs es (nameAt bs m) = .tuple #[.string (restAt bs m), .bool true] := by
  have hmem : nameAt bs m ∈ names bs := List.mem_map.2 ⟨_, pair_mem hm, rfl⟩
  rw [opsV_yes (hasB_iff.2 ⟨by simpa [validB] using hV, hmem⟩)]
  obtain ⟨k, hk, hf, hn⟩ := fnd_pos hmem
  have := names_inj hV.b.nd hk hm hn
  subst this
  rw [hf]; rfl
end Go.Proofs.YtngcmjfkeageiaaDoor
end
