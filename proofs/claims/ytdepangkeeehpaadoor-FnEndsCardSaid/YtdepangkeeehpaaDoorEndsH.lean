import Derived.Shelf.Strings.Builder1
import Derived.Shelf.Strings.Builder2
import Derived.Shelf.Strings.OnBuilder
import Derived.Shelf.Small.Bits
import Derived.Shelf.Strings.BuilderF
import Derived.Shelf.Strings.BuilderK
import Derived.Shelf.Strconv.Itoa0
import Derived.Ground.SlsfProg
import Derived.Shelf.SlSortCmp.Insertion
import Derived.Shelf.SlSortCmp.Small
import Derived.Ground.SlgmProg
import Derived.Shelf.SortM.Plain
import Derived.Shelf.SlGeneric
import Derived.Shelf.SlIter.Nil
import Derived.Ground.GgzProg
import Derived.Test.YtdepangkeeehpaaDoorProg
import Derived.Test.YtdepangkeeehpaaDoorEndsG
section
/-
  DERIVED: THE SHELF's CONTRACTS AT THIS DUMP, IN PLAIN WORDS (tools/lay-plain.mjs out of 'TrydShelf.lean', which tools/lay-shelf.mjs wrote): THE SAME DECLARATIONS UNDER THE SAME NAMES: 'import', 'namespace', 'open', 'def', 'theorem' AND NOTHING ELSE: no command of the shelf's: FOR A HAND-IN. Each laying: the table of numbers ('.._ren') and one theorem, a field a fact of the dump's own or the kernel's comparison; each contract: ONE APPLICATION.
-/
namespace Go.Proofs
open Go.Shelf
def Tryd.keysS_ren : Go.Shelf.Ren := ⟨fun | 7 => 165 | 10 => 193 | n => n, fun | 23 => 132 | 26 => 9 | 3 => 3 | 28 => 207 | 0 => 0 | 27 => 206 | 33 => 41 | 4 => 4 | n => n, fun | n => n⟩
theorem Tryd.keysS : Go.Proofs.SlLaysZ.n7 Tryd.prog Tryd.keysS_ren := {
  mixed := by kernel_rfl
  f7 := ⟨Tryd.f165.name, by decide, Tryd.func165.trans (congrArg some (by kernel_rfl))⟩
  f10 := ⟨Tryd.f193.name, by decide, Tryd.func193.trans (congrArg some (by kernel_rfl))⟩
  t0 := Tryd.underlying0
  a0 := Tryd.isAgg0
  z0 := Tryd.sizeOf0
  v0 := Tryd.zeroValue0
  t4 := Tryd.underlying4
  a4 := Tryd.isAgg4
  z4 := Tryd.sizeOf4
  v4 := Tryd.zeroValue4
  t23 := Tryd.underlying132
  a23 := Tryd.isAgg132
  z23 := Tryd.sizeOf132
  v23 := Tryd.zeroValue132
  t26 := Tryd.underlying9
  a26 := Tryd.isAgg9
  z26 := Tryd.sizeOf9
  v26 := Tryd.zeroValue9
  t27 := Tryd.underlying206
  a27 := Tryd.isAgg206
  z27 := Tryd.sizeOf206
  v27 := Tryd.zeroValue206
  t28 := Tryd.underlying207
  a28 := Tryd.isAgg207
  z28 := Tryd.sizeOf207
  v28 := Tryd.zeroValue207
  t33 := Tryd.underlying41
  a33 := Tryd.isAgg41
  z33 := Tryd.sizeOf41
  v33 := Tryd.zeroValue41 }
def Tryd.collectS_ren : Go.Shelf.Ren := ⟨fun | 8 => 191 | 11 => 216 | n => n, fun | 26 => 9 | 28 => 207 | 24 => 70 | 0 => 0 | 33 => 41 | 4 => 4 | n => n, fun | n => n⟩
theorem Tryd.collectS : Go.Proofs.SlLaysZ.n8 Tryd.prog Tryd.collectS_ren := {
  mixed := by kernel_rfl
  f8 := ⟨Tryd.f191.name, by decide, Tryd.func191.trans (congrArg some (by kernel_rfl))⟩
  f11 := ⟨Tryd.f216.name, by decide, Tryd.func216.trans (congrArg some (by kernel_rfl))⟩
  t0 := Tryd.underlying0
  a0 := Tryd.isAgg0
  z0 := Tryd.sizeOf0
  v0 := Tryd.zeroValue0
  t24 := Tryd.underlying70
  a24 := Tryd.isAgg70
  z24 := Tryd.sizeOf70
  v24 := Tryd.zeroValue70
  t26 := Tryd.underlying9
  a26 := Tryd.isAgg9
  z26 := Tryd.sizeOf9
  v26 := Tryd.zeroValue9
  t28 := Tryd.underlying207
  a28 := Tryd.isAgg207
  z28 := Tryd.sizeOf207
  v28 := Tryd.zeroValue207
  i26 := by kernel_rfl }
def Tryd.lays170_ren : Go.Shelf.Ren := ⟨fun | 170 => 162 | n => n, fun | 70 => 176 | 3 => 3 | 0 => 0 | 72 => 178 | 37 => 51 | 5 => 5 | n => n, fun | n => n⟩
theorem Tryd.lays170 : Go.Proofs.Lays.n170 Tryd.prog Tryd.lays170_ren := {
  mixed := by kernel_rfl
  f170 := Tryd.func162.trans (congrArg some (by kernel_rfl))
  t0 := Tryd.underlying0
  a0 := Tryd.isAgg0
  z0 := Tryd.sizeOf0
  v0 := Tryd.zeroValue0
  t3 := Tryd.underlying3
  a3 := Tryd.isAgg3
  z3 := Tryd.sizeOf3
  v3 := Tryd.zeroValue3
  t37 := Tryd.underlying51
  a37 := Tryd.isAgg51
  z37 := Tryd.sizeOf51
  v37 := Tryd.zeroValue51
  t70 := Tryd.underlying176
  a70 := Tryd.isAgg176
  z70 := Tryd.sizeOf176
  v70 := Tryd.zeroValue176
  t72 := Tryd.underlying178
  a72 := Tryd.isAgg178
  z72 := Tryd.sizeOf178
  v72 := Tryd.zeroValue178 }
open Go.RowKit in
/-- (*strings.Builder).Len: "Len returns the number of accumulated bytes; b.Len() == len(b.String()).": the world is as it was. (LAID: no walk: one application.) -/
theorem Tryd.Builder_Len (B b : Nat) (bs : List Value) (w : World) (h : Lib.IsBuilder 178 5 B b bs w) :
    Calls Tryd.prog 162 #[.pointer (some ⟨b, 0, none⟩)] w fun e w' => e = .returned (.int .i64 bs.length) ∧ w' = w := Any.Builder_Len Tryd.lays170 B b bs w h
def Tryd.lays169_ren : Go.Shelf.Ren := ⟨fun | 169 => 148 | n => n, fun | 70 => 176 | 9 => 9 | 0 => 0 | 72 => 178 | 37 => 51 | 127 => 221 | 3 => 3 | 5 => 5 | n => n, fun | n => n⟩
theorem Tryd.lays169 : Go.Proofs.Lays.n169 Tryd.prog Tryd.lays169_ren := {
  mixed := by kernel_rfl
  f169 := Tryd.func148.trans (congrArg some (by kernel_rfl))
  t0 := Tryd.underlying0
  a0 := Tryd.isAgg0
  z0 := Tryd.sizeOf0
  v0 := Tryd.zeroValue0
  t3 := Tryd.underlying3
  a3 := Tryd.isAgg3
  z3 := Tryd.sizeOf3
  v3 := Tryd.zeroValue3
  t9 := Tryd.underlying9
  a9 := Tryd.isAgg9
  z9 := Tryd.sizeOf9
  v9 := Tryd.zeroValue9
  t37 := Tryd.underlying51
  a37 := Tryd.isAgg51
  z37 := Tryd.sizeOf51
  v37 := Tryd.zeroValue51
  t70 := Tryd.underlying176
  a70 := Tryd.isAgg176
  z70 := Tryd.sizeOf176
  v70 := Tryd.zeroValue176
  t72 := Tryd.underlying178
  a72 := Tryd.isAgg178
  z72 := Tryd.sizeOf178
  v72 := Tryd.zeroValue178
  t127 := Tryd.underlying221
  a127 := Tryd.isAgg221
  z127 := Tryd.sizeOf221
  v127 := Tryd.zeroValue221 }
theorem Tryd.Builder_Extra_169 : Builder.Extra Tryd.prog Tryd.lays169_ren := {
  sizeBuilder := by kernel_rfl
  liesBuilder := by kernel_rfl
  t5 := Tryd.underlying5
  a5 := Tryd.isAgg5
  z5 := Tryd.sizeOf5
  v5 := Tryd.zeroValue5
  infoByte := by kernel_rfl
  cellsByte := by kernel_rfl
  sizeByte := by kernel_rfl
  neB5 := by decide }
open Go.RowKit in
/-- (*strings.Builder).String: "String returns the accumulated string.": OF A BUILDER THAT HOLDS AT LEAST ONE BYTE. ✋ THE MODEL FREEZES THOSE BYTES IN THE BUFFER (unsafe.String): a later write INTO them ends the model's run without an answer; a later append BEHIND them goes on. The statement's order of evaluation is drawn: one draw. (LAID: no walk: one application.) -/
theorem Tryd.Builder_String (B b : Nat) (l : List UInt8) (w : World) (h : Lib.IsBuilder 178 5 B b (Lib.byteCells l) w) (h0 : l ≠ []) :
    Calls Tryd.prog 148 #[.pointer (some ⟨b, 0, none⟩)] w fun e w' => e = .returned (.string ⟨l.toArray⟩) ∧ Below B w w' := Any.Builder_String Tryd.lays169 Tryd.Builder_Extra_169 B b l w h h0
open Go.RowKit in
/-- (*strings.Builder).String OF A BUILDER THAT HOLDS NO BYTE: the empty string. (Its buffer is nil, or a row of which it has taken nothing yet; where that row has NO capacity the model lays one new block for unsafe.SliceData's 'some address'.) One draw. (LAID: no walk: one application.) -/
theorem Tryd.Builder_String_empty (B b : Nat) (w : World) (h : Lib.IsBuilder 178 5 B b [] w) (hBw : B ≤ w.heap.size) :
    Calls Tryd.prog 148 #[.pointer (some ⟨b, 0, none⟩)] w fun e w' => e = .returned (.string ⟨#[]⟩) ∧ Below B w w' := Any.Builder_String_empty Tryd.lays169 Tryd.Builder_Extra_169 B b w h hBw
open Go.RowKit in
/-- (*strings.Builder).String: "String returns the accumulated string.": WHATEVER THE BUILDER HOLDS. (LAID: no walk: one application.) -/
theorem Tryd.Builder_String_any (B b : Nat) (l : List UInt8) (w : World) (h : Lib.IsBuilder 178 5 B b (Lib.byteCells l) w) (hBw : B ≤ w.heap.size) :
    Calls Tryd.prog 148 #[.pointer (some ⟨b, 0, none⟩)] w fun e w' => e = .returned (.string ⟨l.toArray⟩) ∧ Below B w w' := Any.Builder_String_any Tryd.lays169 Tryd.Builder_Extra_169 B b l w h hBw
def Tryd.lays241_ren : Go.Shelf.Ren := ⟨fun | 241 => 198 | 277 => 222 | n => n, fun | 70 => 176 | 3 => 3 | 0 => 0 | 72 => 178 | 37 => 51 | 5 => 5 | n => n, fun | n => n⟩
theorem Tryd.lays241 : Go.Proofs.Lays.n241 Tryd.prog Tryd.lays241_ren := {
  mixed := by kernel_rfl
  f241 := Tryd.func198.trans (congrArg some (by kernel_rfl))
  f277 := Tryd.func222.trans (congrArg some (by kernel_rfl))
  t0 := Tryd.underlying0
  a0 := Tryd.isAgg0
  z0 := Tryd.sizeOf0
  v0 := Tryd.zeroValue0
  t3 := Tryd.underlying3
  a3 := Tryd.isAgg3
  z3 := Tryd.sizeOf3
  v3 := Tryd.zeroValue3
  t37 := Tryd.underlying51
  a37 := Tryd.isAgg51
  z37 := Tryd.sizeOf51
  v37 := Tryd.zeroValue51
  t70 := Tryd.underlying176
  a70 := Tryd.isAgg176
  z70 := Tryd.sizeOf176
  v70 := Tryd.zeroValue176
  t72 := Tryd.underlying178
  a72 := Tryd.isAgg178
  z72 := Tryd.sizeOf178
  v72 := Tryd.zeroValue178 }
theorem Tryd.Builder_Extra_241 : Builder.Extra Tryd.prog Tryd.lays241_ren := {
  sizeBuilder := by kernel_rfl
  liesBuilder := by kernel_rfl
  t5 := Tryd.underlying5
  a5 := Tryd.isAgg5
  z5 := Tryd.sizeOf5
  v5 := Tryd.zeroValue5
  infoByte := by kernel_rfl
  cellsByte := by kernel_rfl
  sizeByte := by kernel_rfl
  neB5 := by decide }
open Go.RowKit in
/-- (*strings.Builder).grow (no doc but "grow copies the buffer to a new, larger buffer so that there are at least n bytes of capacity beyond len(b.buf)."): AT A BUILDER WITHOUT A BUFFER: a new row of whatever bytes for its buffer, none of them its own yet. Three draws. (LAID: no walk: one application.) -/
theorem Tryd.Builder_grow_fresh (B b n : Nat) (w : World) (hB : B ≤ b) (hbk : w.heap[b]? = some (.cells #[.pointer (some ⟨b, 0, none⟩), .slice none 0 0] 178 (0, 0))) (hBw : B ≤ w.heap.size) (hn : n ≤ 281474976710656) :
    Calls Tryd.prog 198 #[.pointer (some ⟨b, 0, none⟩), .int .i64 n] w fun e w' => e = .returned (.tuple #[]) ∧ (Lib.BuilderAt 178 5 B b (.pointer (some ⟨b, 0, none⟩)) [] w' ∧ Below B w w') := Any.Builder_grow_fresh Tryd.lays241 Tryd.Builder_Extra_241 B b n w hB hbk hBw hn
def Tryd.lays165_ren : Go.Shelf.Ren := ⟨fun | 165 => 174 | 240 => 182 | 241 => 198 | 276 => 199 | 277 => 222 | n => n, fun | 70 => 176 | 3 => 3 | 0 => 0 | 4 => 4 | 9 => 9 | 20 => 20 | 72 => 178 | 37 => 51 | 164 => 235 | 5 => 5 | n => n, fun | n => n⟩
theorem Tryd.lays165 : Go.Proofs.Lays.n165 Tryd.prog Tryd.lays165_ren := {
  mixed := by kernel_rfl
  f165 := Tryd.func174.trans (congrArg some (by kernel_rfl))
  f240 := Tryd.func182.trans (congrArg some (by kernel_rfl))
  f241 := Tryd.func198.trans (congrArg some (by kernel_rfl))
  f276 := Tryd.func199.trans (congrArg some (by kernel_rfl))
  f277 := Tryd.func222.trans (congrArg some (by kernel_rfl))
  t0 := Tryd.underlying0
  a0 := Tryd.isAgg0
  z0 := Tryd.sizeOf0
  v0 := Tryd.zeroValue0
  t3 := Tryd.underlying3
  a3 := Tryd.isAgg3
  z3 := Tryd.sizeOf3
  v3 := Tryd.zeroValue3
  t4 := Tryd.underlying4
  a4 := Tryd.isAgg4
  z4 := Tryd.sizeOf4
  v4 := Tryd.zeroValue4
  t9 := Tryd.underlying9
  a9 := Tryd.isAgg9
  z9 := Tryd.sizeOf9
  v9 := Tryd.zeroValue9
  t20 := Tryd.underlying20
  a20 := Tryd.isAgg20
  z20 := Tryd.sizeOf20
  v20 := Tryd.zeroValue20
  t37 := Tryd.underlying51
  a37 := Tryd.isAgg51
  z37 := Tryd.sizeOf51
  v37 := Tryd.zeroValue51
  t70 := Tryd.underlying176
  a70 := Tryd.isAgg176
  z70 := Tryd.sizeOf176
  v70 := Tryd.zeroValue176
  t72 := Tryd.underlying178
  a72 := Tryd.isAgg178
  z72 := Tryd.sizeOf178
  v72 := Tryd.zeroValue178
  t164 := Tryd.underlying235
  a164 := Tryd.isAgg235
  z164 := Tryd.sizeOf235
  v164 := Tryd.zeroValue235 }
theorem Tryd.Builder_Extra_165 : Builder.Extra Tryd.prog Tryd.lays165_ren := {
  sizeBuilder := by kernel_rfl
  liesBuilder := by kernel_rfl
  t5 := Tryd.underlying5
  a5 := Tryd.isAgg5
  z5 := Tryd.sizeOf5
  v5 := Tryd.zeroValue5
  infoByte := by kernel_rfl
  cellsByte := by kernel_rfl
  sizeByte := by kernel_rfl
  neB5 := by decide }
open Go.RowKit in
/-- (*strings.Builder).Grow AT A BUILDER THAT HAS NOT BEEN WRITTEN ('var b strings.Builder; b.Grow(n)'): "Grow grows b's capacity, if necessary, to guarantee space for another n bytes.": it holds no byte behind it as before it. (LAID: no walk: one application.) -/
theorem Tryd.Builder_Grow_fresh (B b n : Nat) (w : World) (hB : B ≤ b) (hbk : w.heap[b]? = some (.cells #[.pointer none, .slice none 0 0] 178 (0, 0))) (hBw : B ≤ w.heap.size) (hn : n ≤ 281474976710656) :
    Calls Tryd.prog 174 #[.pointer (some ⟨b, 0, none⟩), .int .i64 n] w fun e w' => e = .returned (.tuple #[]) ∧ (Lib.BuilderAt 178 5 B b (.pointer (some ⟨b, 0, none⟩)) [] w' ∧ Below B w w') := Any.Builder_Grow_fresh Tryd.lays165 Tryd.Builder_Extra_165 B b n w hB hbk hBw hn
def Tryd.lays156_ren : Go.Shelf.Ren := ⟨fun | 156 => 131 | 165 => 174 | 166 => 163 | 169 => 148 | 240 => 182 | 241 => 198 | 276 => 199 | 277 => 222 | n => n, fun | 31 => 70 | 9 => 9 | 3 => 3 | 4 => 4 | 0 => 0 | 20 => 20 | 72 => 178 | 76 => 200 | 70 => 176 | 37 => 51 | 75 => 86 | 127 => 221 | 164 => 235 | 5 => 5 | 80 => 181 | n => n, fun | n => n⟩
theorem Tryd.lays156 : Go.Proofs.Lays.n156 Tryd.prog Tryd.lays156_ren := {
  mixed := by kernel_rfl
  f156 := Tryd.func131.trans (congrArg some (by kernel_rfl))
  f165 := Tryd.func174.trans (congrArg some (by kernel_rfl))
  f166 := Tryd.func163.trans (congrArg some (by kernel_rfl))
  f169 := Tryd.func148.trans (congrArg some (by kernel_rfl))
  f240 := Tryd.func182.trans (congrArg some (by kernel_rfl))
  f241 := Tryd.func198.trans (congrArg some (by kernel_rfl))
  f276 := Tryd.func199.trans (congrArg some (by kernel_rfl))
  f277 := Tryd.func222.trans (congrArg some (by kernel_rfl))
  t0 := Tryd.underlying0
  a0 := Tryd.isAgg0
  z0 := Tryd.sizeOf0
  v0 := Tryd.zeroValue0
  t3 := Tryd.underlying3
  a3 := Tryd.isAgg3
  z3 := Tryd.sizeOf3
  v3 := Tryd.zeroValue3
  t4 := Tryd.underlying4
  a4 := Tryd.isAgg4
  z4 := Tryd.sizeOf4
  v4 := Tryd.zeroValue4
  t9 := Tryd.underlying9
  a9 := Tryd.isAgg9
  z9 := Tryd.sizeOf9
  v9 := Tryd.zeroValue9
  t20 := Tryd.underlying20
  a20 := Tryd.isAgg20
  z20 := Tryd.sizeOf20
  v20 := Tryd.zeroValue20
  t31 := Tryd.underlying70
  a31 := Tryd.isAgg70
  z31 := Tryd.sizeOf70
  v31 := Tryd.zeroValue70
  t37 := Tryd.underlying51
  a37 := Tryd.isAgg51
  z37 := Tryd.sizeOf51
  v37 := Tryd.zeroValue51
  t70 := Tryd.underlying176
  a70 := Tryd.isAgg176
  z70 := Tryd.sizeOf176
  v70 := Tryd.zeroValue176
  t72 := Tryd.underlying178
  a72 := Tryd.isAgg178
  z72 := Tryd.sizeOf178
  v72 := Tryd.zeroValue178
  t75 := Tryd.underlying86
  a75 := Tryd.isAgg86
  z75 := Tryd.sizeOf86
  v75 := Tryd.zeroValue86
  t76 := Tryd.underlying200
  a76 := Tryd.isAgg200
  z76 := Tryd.sizeOf200
  v76 := Tryd.zeroValue200
  t127 := Tryd.underlying221
  a127 := Tryd.isAgg221
  z127 := Tryd.sizeOf221
  v127 := Tryd.zeroValue221
  t164 := Tryd.underlying235
  a164 := Tryd.isAgg235
  z164 := Tryd.sizeOf235
  v164 := Tryd.zeroValue235 }
theorem Tryd.Builder_Extra_156 : Builder.Extra Tryd.prog Tryd.lays156_ren := {
  sizeBuilder := by kernel_rfl
  liesBuilder := by kernel_rfl
  t5 := Tryd.underlying5
  a5 := Tryd.isAgg5
  z5 := Tryd.sizeOf5
  v5 := Tryd.zeroValue5
  infoByte := by kernel_rfl
  cellsByte := by kernel_rfl
  sizeByte := by kernel_rfl
  neB5 := by decide }
open Go.RowKit in
/-- No element: the empty string; the world is as it was. (Whatever the slice's address and capacity: a nil slice too.) (LAID: no walk: one application.) -/
theorem Tryd.strings_Join_none (a : Option Addr) (c : Nat) (sep : ByteArray) (w : World) :
    Calls Tryd.prog 131 #[.slice a 0 c, .string sep] w fun e w' => e = .returned (.string ⟨#[]⟩) ∧ w' = w := Any.strings_Join_none Tryd.lays156 Tryd.Builder_Extra_156 a c sep w
open Go.RowKit in
/-- strings.Join: "Join concatenates the elements of its first argument to create a single string. The separator string sep is placed between elements in the resulting string.": HOWEVER MANY ELEMENTS. Below the heap's end the world is as it was. (LAID: no walk: one application.) -/
theorem Tryd.strings_Join (bk o c : Nat) (xs : List ByteArray) (sep : ByteArray) (w : World) (hcells : ∀ (j : Nat) x, xs[j]? = some x → w.cell? ⟨bk, o + j, none⟩ = some (.string x)) (hbk : bk < w.heap.size) (hN : xs.length ≤ 140737488355328) (hcap : xs.length ≤ c) (hlen : (Lib.join (xs.map (·.data.toList)) sep.data.toList).length ≤ 140737488355328) :
    Calls Tryd.prog 131 #[.slice (some ⟨bk, o, none⟩) xs.length c, .string sep] w fun e w' => e = .returned (.string ⟨(Lib.join (xs.map (·.data.toList)) sep.data.toList).toArray⟩) ∧ Below w.heap.size w w' := Any.strings_Join Tryd.lays156 Tryd.Builder_Extra_156 bk o c xs sep w hcells hbk hN hcap hlen
def Tryd.lays128_ren : Go.Shelf.Ren := ⟨fun | 128 => 209 | n => n, fun | 51 => 246 | 3 => 3 | 4 => 4 | 46 => 225 | 5 => 5 | 9 => 9 | n => n, fun | n => n⟩
theorem Tryd.lays128 : Go.Proofs.Lays.n128 Tryd.prog Tryd.lays128_ren := {
  mixed := by kernel_rfl
  f128 := Tryd.func209.trans (congrArg some (by kernel_rfl))
  t3 := Tryd.underlying3
  a3 := Tryd.isAgg3
  z3 := Tryd.sizeOf3
  v3 := Tryd.zeroValue3
  t4 := Tryd.underlying4
  a4 := Tryd.isAgg4
  z4 := Tryd.sizeOf4
  v4 := Tryd.zeroValue4
  t5 := Tryd.underlying5
  a5 := Tryd.isAgg5
  z5 := Tryd.sizeOf5
  v5 := Tryd.zeroValue5
  t9 := Tryd.underlying9
  a9 := Tryd.isAgg9
  z9 := Tryd.sizeOf9
  v9 := Tryd.zeroValue9
  t46 := Tryd.underlying225
  a46 := Tryd.isAgg225
  z46 := Tryd.sizeOf225
  v46 := Tryd.zeroValue225
  t51 := Tryd.underlying246
  a51 := Tryd.isAgg246
  z51 := Tryd.sizeOf246
  v51 := Tryd.zeroValue246 }
/-- bits.Len32: "Len32 returns the minimum number of bits required to represent x; the result is 0 for x == 0.": IT RETURNS 'Lib.bitLen x'; the world is as it was. ('h0', 'h1': x is a uint32.) (LAID: no walk: one application.) -/
theorem Tryd.bits_Len32 (x : Int) (w : World) (h0 : 0 ≤ x) (h1 : x ≤ 4294967295) :
    Calls Tryd.prog 209 #[.int .u32 x] w fun e w' => e = .returned (.int .i64 (Lib.bitLen x.toNat)) ∧ w' = w := Any.bits_Len32 Tryd.lays128 x w h0 h1
def Tryd.lays125_ren : Go.Shelf.Ren := ⟨fun | 125 => 185 | 128 => 209 | 129 => 210 | n => n, fun | 46 => 225 | 3 => 3 | 51 => 246 | 53 => 248 | 4 => 4 | 5 => 5 | 9 => 9 | n => n, fun | n => n⟩
theorem Tryd.lays125 : Go.Proofs.Lays.n125 Tryd.prog Tryd.lays125_ren := {
  mixed := by kernel_rfl
  f125 := Tryd.func185.trans (congrArg some (by kernel_rfl))
  f128 := Tryd.func209.trans (congrArg some (by kernel_rfl))
  f129 := Tryd.func210.trans (congrArg some (by kernel_rfl))
  t3 := Tryd.underlying3
  a3 := Tryd.isAgg3
  z3 := Tryd.sizeOf3
  v3 := Tryd.zeroValue3
  t4 := Tryd.underlying4
  a4 := Tryd.isAgg4
  z4 := Tryd.sizeOf4
  v4 := Tryd.zeroValue4
  t5 := Tryd.underlying5
  a5 := Tryd.isAgg5
  z5 := Tryd.sizeOf5
  v5 := Tryd.zeroValue5
  t9 := Tryd.underlying9
  a9 := Tryd.isAgg9
  z9 := Tryd.sizeOf9
  v9 := Tryd.zeroValue9
  t46 := Tryd.underlying225
  a46 := Tryd.isAgg225
  z46 := Tryd.sizeOf225
  v46 := Tryd.zeroValue225
  t51 := Tryd.underlying246
  a51 := Tryd.isAgg246
  z51 := Tryd.sizeOf246
  v51 := Tryd.zeroValue246
  t53 := Tryd.underlying248
  a53 := Tryd.isAgg248
  z53 := Tryd.sizeOf248
  v53 := Tryd.zeroValue248 }
/-- bits.Len: "Len returns the minimum number of bits required to represent x; the result is 0 for x == 0.": IT RETURNS 'Lib.bitLen x'; the world is as it was. (A uint has 64 bits in the model.) ITS CALLEE bits.Len64 IS MET BY ITS OWN CONTRACT OFF THE SHELF (lay that first). (LAID: no walk: one application.) -/
theorem Tryd.bits_Len (x : Int) (w : World) (h0 : 0 ≤ x) (h1 : x ≤ 18446744073709551615) :
    Calls Tryd.prog 185 #[.int .u64 x] w fun e w' => e = .returned (.int .i64 (Lib.bitLen x.toNat)) ∧ w' = w := Any.bits_Len Tryd.lays125 x w h0 h1
open Go.RowKit in
/-- (*strings.Builder).Len: "Len returns the number of accumulated bytes; b.Len() == len(b.String()).": the world is as it was. (THE FORM '_f': 'Lib.IsBuilderF'.) (LAID: no walk: one application.) -/
theorem Tryd.Builder_Len_f (B b : Nat) (bs : List Value) (w : World) (h : Lib.IsBuilderF 178 5 B b bs w) :
    Calls Tryd.prog 162 #[.pointer (some ⟨b, 0, none⟩)] w fun e w' => e = .returned (.int .i64 bs.length) ∧ w' = w := Any.Builder_Len_f Tryd.lays170 B b bs w h
open Go.RowKit in
/-- (*strings.Builder).String: "String returns the accumulated string.": OF A BUILDER THAT HOLDS AT LEAST ONE BYTE. ✋ THE MODEL FREEZES THOSE BYTES IN THE BUFFER (unsafe.String): a later write INTO them ends the model's run without an answer; a later append BEHIND them goes on. The statement's order of evaluation is drawn: one draw. THE FORM '_f': IT SAYS BESIDES THAT THE BUILDER IS A BUILDER STILL ('Lib.IsBuilderF', the same bytes): SO IT CAN BE WRITTEN ON: 'b.WriteString(b.String()[:k])'. (LAID: no walk: one application.) -/
theorem Tryd.Builder_String_f (B b : Nat) (l : List UInt8) (w : World) (h : Lib.IsBuilderF 178 5 B b (Lib.byteCells l) w) (h0 : l ≠ []) :
    Calls Tryd.prog 148 #[.pointer (some ⟨b, 0, none⟩)] w fun e w' => e = .returned (.string ⟨l.toArray⟩) ∧ (Lib.IsBuilderF 178 5 B b (Lib.byteCells l) w' ∧ Below B w w') := Any.Builder_String_f Tryd.lays169 Tryd.Builder_Extra_169 B b l w h h0
open Go.RowKit in
/-- (*strings.Builder).String OF A BUILDER THAT HOLDS NO BYTE: the empty string; THE FORM '_f': a builder still. (LAID: no walk: one application.) -/
theorem Tryd.Builder_String_empty_f (B b : Nat) (w : World) (h : Lib.IsBuilderF 178 5 B b [] w) (hBw : B ≤ w.heap.size) :
    Calls Tryd.prog 148 #[.pointer (some ⟨b, 0, none⟩)] w fun e w' => e = .returned (.string ⟨#[]⟩) ∧ (Lib.IsBuilderF 178 5 B b [] w' ∧ Below B w w') := Any.Builder_String_empty_f Tryd.lays169 Tryd.Builder_Extra_169 B b w h hBw
open Go.RowKit in
/-- (*strings.Builder).String: "String returns the accumulated string.": WHATEVER THE BUILDER HOLDS; THE FORM '_f': OF A BUILDER THAT MAY HAVE BEEN READ BEFORE; AND IT IS A BUILDER STILL, holding the same bytes: it can be written on. (LAID: no walk: one application.) -/
theorem Tryd.Builder_String_any_f (B b : Nat) (l : List UInt8) (w : World) (h : Lib.IsBuilderF 178 5 B b (Lib.byteCells l) w) (hBw : B ≤ w.heap.size) :
    Calls Tryd.prog 148 #[.pointer (some ⟨b, 0, none⟩)] w fun e w' => e = .returned (.string ⟨l.toArray⟩) ∧ (Lib.IsBuilderF 178 5 B b (Lib.byteCells l) w' ∧ Below B w w') := Any.Builder_String_any_f Tryd.lays169 Tryd.Builder_Extra_169 B b l w h hBw
open Go.RowKit in
/-- (*strings.Builder).String: "String returns the accumulated string.": OF A BUILDER THAT HOLDS AT LEAST ONE BYTE. ✋ THE MODEL FREEZES THOSE BYTES IN THE BUFFER (unsafe.String): a later write INTO them ends the model's run without an answer; a later append BEHIND them goes on. The statement's order of evaluation is drawn: one draw. THE FORM '_k': OVER 'Lib.IsBuilderF' (a builder that 'String()' may have read), AND WITH THE FRAME THAT REACHES ABOVE THE BUILDER: 'Lib.OthersKept': every block that is not b and is no row of uint8's stands as it stood: the iterator of a range among them. (LAID: no walk: one application.) -/
theorem Tryd.Builder_String_k (B b : Nat) (l : List UInt8) (w : World) (h : Lib.IsBuilderF 178 5 B b (Lib.byteCells l) w) (h0 : l ≠ []) :
    Calls Tryd.prog 148 #[.pointer (some ⟨b, 0, none⟩)] w fun e w' => e = .returned (.string ⟨l.toArray⟩) ∧ (Lib.IsBuilderF 178 5 B b (Lib.byteCells l) w' ∧ Below B w w' ∧ Lib.OthersKept 5 (some b) w w') := Any.Builder_String_k Tryd.lays169 Tryd.Builder_Extra_169 B b l w h h0
open Go.RowKit in
/-- (*strings.Builder).String OF A BUILDER THAT HOLDS NO BYTE: the empty string; THE FORM '_k': OVER 'Lib.IsBuilderF' (a builder that 'String()' may have read), AND WITH THE FRAME THAT REACHES ABOVE THE BUILDER: 'Lib.OthersKept': every block that is not b and is no row of uint8's stands as it stood: the iterator of a range among them. (LAID: no walk: one application.) -/
theorem Tryd.Builder_String_empty_k (B b : Nat) (w : World) (h : Lib.IsBuilderF 178 5 B b [] w) (hBw : B ≤ w.heap.size) :
    Calls Tryd.prog 148 #[.pointer (some ⟨b, 0, none⟩)] w fun e w' => e = .returned (.string ⟨#[]⟩) ∧ (Lib.IsBuilderF 178 5 B b [] w' ∧ Below B w w' ∧ Lib.OthersKept 5 (some b) w w') := Any.Builder_String_empty_k Tryd.lays169 Tryd.Builder_Extra_169 B b w h hBw
open Go.RowKit in
/-- (*strings.Builder).String: "String returns the accumulated string.": WHATEVER THE BUILDER HOLDS; THE FORM '_k': OVER 'Lib.IsBuilderF' (a builder that 'String()' may have read), AND WITH THE FRAME THAT REACHES ABOVE THE BUILDER: 'Lib.OthersKept': every block that is not b and is no row of uint8's stands as it stood: the iterator of a range among them. (LAID: no walk: one application.) -/
theorem Tryd.Builder_String_any_k (B b : Nat) (l : List UInt8) (w : World) (h : Lib.IsBuilderF 178 5 B b (Lib.byteCells l) w) (hBw : B ≤ w.heap.size) :
    Calls Tryd.prog 148 #[.pointer (some ⟨b, 0, none⟩)] w fun e w' => e = .returned (.string ⟨l.toArray⟩) ∧ (Lib.IsBuilderF 178 5 B b (Lib.byteCells l) w' ∧ Below B w w' ∧ Lib.OthersKept 5 (some b) w w') := Any.Builder_String_any_k Tryd.lays169 Tryd.Builder_Extra_169 B b l w h hBw
def Tryd.lays129_ren : Go.Shelf.Ren := ⟨fun | 129 => 210 | n => n, fun | 53 => 248 | 3 => 3 | 4 => 4 | 46 => 225 | 5 => 5 | 9 => 9 | n => n, fun | n => n⟩
theorem Tryd.lays129 : Go.Proofs.Lays.n129 Tryd.prog Tryd.lays129_ren := {
  mixed := by kernel_rfl
  f129 := Tryd.func210.trans (congrArg some (by kernel_rfl))
  t3 := Tryd.underlying3
  a3 := Tryd.isAgg3
  z3 := Tryd.sizeOf3
  v3 := Tryd.zeroValue3
  t4 := Tryd.underlying4
  a4 := Tryd.isAgg4
  z4 := Tryd.sizeOf4
  v4 := Tryd.zeroValue4
  t5 := Tryd.underlying5
  a5 := Tryd.isAgg5
  z5 := Tryd.sizeOf5
  v5 := Tryd.zeroValue5
  t9 := Tryd.underlying9
  a9 := Tryd.isAgg9
  z9 := Tryd.sizeOf9
  v9 := Tryd.zeroValue9
  t46 := Tryd.underlying225
  a46 := Tryd.isAgg225
  z46 := Tryd.sizeOf225
  v46 := Tryd.zeroValue225
  t53 := Tryd.underlying248
  a53 := Tryd.isAgg248
  z53 := Tryd.sizeOf248
  v53 := Tryd.zeroValue248 }
/-- bits.Len64: "Len64 returns the minimum number of bits required to represent x; the result is 0 for x == 0.": IT RETURNS 'Lib.bitLen x'; the world is as it was. ('h0', 'h1': x is a uint64.) (LAID: no walk: one application.) -/
theorem Tryd.bits_Len64 (x : Int) (w : World) (h0 : 0 ≤ x) (h1 : x ≤ 18446744073709551615) :
    Calls Tryd.prog 210 #[.int .u64 x] w fun e w' => e = .returned (.int .i64 (Lib.bitLen x.toNat)) ∧ w' = w := Any.bits_Len64 Tryd.lays129 x w h0 h1
def Tryd.laysSlF20_f240_ren : Go.Shelf.Ren := ⟨fun | 20 => 240 | n => n, fun | 24 => 9 | 22 => 70 | 3 => 3 | 25 => 152 | 4 => 4 | 0 => 0 | n => n, fun | n => n⟩
theorem Tryd.laysSlF20_f240 : Go.Proofs.SlLaysF.n20 Tryd.prog Tryd.laysSlF20_f240_ren := {
  mixed := by kernel_rfl
  f20 := ⟨Tryd.f240.name, by decide, Tryd.func240.trans (congrArg some (by kernel_rfl))⟩
  t0 := Tryd.underlying0
  a0 := Tryd.isAgg0
  z0 := Tryd.sizeOf0
  v0 := Tryd.zeroValue0
  t3 := Tryd.underlying3
  a3 := Tryd.isAgg3
  z3 := Tryd.sizeOf3
  v3 := Tryd.zeroValue3
  t4 := Tryd.underlying4
  a4 := Tryd.isAgg4
  z4 := Tryd.sizeOf4
  v4 := Tryd.zeroValue4
  t22 := Tryd.underlying70
  a22 := Tryd.isAgg70
  z22 := Tryd.sizeOf70
  v22 := Tryd.zeroValue70
  a24 := Tryd.isAgg9
  z24 := Tryd.sizeOf9
  t25 := Tryd.underlying152
  a25 := Tryd.isAgg152
  z25 := Tryd.sizeOf152
  v25 := Tryd.zeroValue152 }
open Go.RowKit Go.Lib Go.Sort in
theorem Tryd.insertionSortCmpFunc_one {α : Type} [Inhabited α] (enc : α → Value) (hO : OneCell enc) (cf : α → α → Int) (g : Nat) (cb : Array Value) (blk off cap a b : Nat) (d : Array α) (w : World) (eg : ∀ args w, (callFunc g args).run Tryd.prog w = .ok (.enter g args) w) (hcmp : CmpReads Tryd.prog g cb enc cf blk off d.size w) (hH : Holds enc w blk off d) (hab : a ≤ b) (hb : b ≤ d.size) (hsz : d.size < 4611686018427387904) :
    Calls Tryd.prog 240 #[.slice (some ⟨blk, off, none⟩) d.size cap, .int .i64 a, .int .i64 b, .func (.func g) #[] cb] w fun e w' =>
      e = .returned (.tuple #[]) ∧ ∃ n, w' = (putRow enc w blk off (Sort.insertionSort (ltOf cf) d a b)).drewN n := Any.insertionSortCmpFunc_one Tryd.laysSlF20_f240 enc hO cf g cb blk off cap a b d w eg hcmp hH hab hb hsz
def Tryd.laysSlF14_f217_ren : Go.Shelf.Ren := ⟨fun | 14 => 217 | 20 => 240 | 21 => 241 | 22 => 242 | 23 => 243 | 24 => 244 | 25 => 245 | 26 => 246 | 27 => 247 | 46 => 257 | 47 => 224 | 48 => 225 | 49 => 258 | 50 => 259 | 15 => 185 | 57 => 271 | 28 => 209 | 29 => 210 | n => n, fun | 24 => 9 | 22 => 70 | 3 => 3 | 25 => 152 | 4 => 4 | 0 => 0 | 46 => 239 | 45 => 238 | 50 => 131 | 66 => 258 | 39 => 225 | 55 => 248 | 70 => 262 | 76 => 278 | 77 => 279 | 53 => 246 | 5 => 5 | 9 => 9 | n => n, fun | n => n⟩
theorem Tryd.laysSlF14_f217 : Go.Proofs.SlLaysF.n14 Tryd.prog Tryd.laysSlF14_f217_ren := {
  mixed := by kernel_rfl
  f14 := ⟨Tryd.f217.name, by decide, Tryd.func217.trans (congrArg some (by kernel_rfl))⟩
  f15 := Tryd.func185.trans (congrArg some (by kernel_rfl))
  f20 := ⟨Tryd.f240.name, by decide, Tryd.func240.trans (congrArg some (by kernel_rfl))⟩
  f21 := ⟨Tryd.f241.name, by decide, Tryd.func241.trans (congrArg some (by kernel_rfl))⟩
  f22 := ⟨Tryd.f242.name, by decide, Tryd.func242.trans (congrArg some (by kernel_rfl))⟩
  f23 := ⟨Tryd.f243.name, by decide, Tryd.func243.trans (congrArg some (by kernel_rfl))⟩
  f24 := ⟨Tryd.f244.name, by decide, Tryd.func244.trans (congrArg some (by kernel_rfl))⟩
  f25 := ⟨Tryd.f245.name, by decide, Tryd.func245.trans (congrArg some (by kernel_rfl))⟩
  f26 := ⟨Tryd.f246.name, by decide, Tryd.func246.trans (congrArg some (by kernel_rfl))⟩
  f27 := ⟨Tryd.f247.name, by decide, Tryd.func247.trans (congrArg some (by kernel_rfl))⟩
  f28 := Tryd.func209.trans (congrArg some (by kernel_rfl))
  f29 := Tryd.func210.trans (congrArg some (by kernel_rfl))
  f46 := ⟨Tryd.f257.name, by decide, Tryd.func257.trans (congrArg some (by kernel_rfl))⟩
  f47 := Tryd.func224.trans (congrArg some (by kernel_rfl))
  f48 := Tryd.func225.trans (congrArg some (by kernel_rfl))
  f49 := ⟨Tryd.f258.name, by decide, Tryd.func258.trans (congrArg some (by kernel_rfl))⟩
  f50 := ⟨Tryd.f259.name, by decide, Tryd.func259.trans (congrArg some (by kernel_rfl))⟩
  f57 := ⟨Tryd.f271.name, by decide, Tryd.func271.trans (congrArg some (by kernel_rfl))⟩
  t0 := Tryd.underlying0
  a0 := Tryd.isAgg0
  z0 := Tryd.sizeOf0
  v0 := Tryd.zeroValue0
  t3 := Tryd.underlying3
  a3 := Tryd.isAgg3
  z3 := Tryd.sizeOf3
  v3 := Tryd.zeroValue3
  t4 := Tryd.underlying4
  a4 := Tryd.isAgg4
  z4 := Tryd.sizeOf4
  v4 := Tryd.zeroValue4
  t5 := Tryd.underlying5
  a5 := Tryd.isAgg5
  z5 := Tryd.sizeOf5
  v5 := Tryd.zeroValue5
  t9 := Tryd.underlying9
  a9 := Tryd.isAgg9
  z9 := Tryd.sizeOf9
  v9 := Tryd.zeroValue9
  t22 := Tryd.underlying70
  a22 := Tryd.isAgg70
  z22 := Tryd.sizeOf70
  v22 := Tryd.zeroValue70
  a24 := Tryd.isAgg9
  z24 := Tryd.sizeOf9
  t25 := Tryd.underlying152
  a25 := Tryd.isAgg152
  z25 := Tryd.sizeOf152
  v25 := Tryd.zeroValue152
  t39 := Tryd.underlying225
  a39 := Tryd.isAgg225
  z39 := Tryd.sizeOf225
  v39 := Tryd.zeroValue225
  t45 := Tryd.underlying238
  a45 := Tryd.isAgg238
  z45 := Tryd.sizeOf238
  v45 := Tryd.zeroValue238
  t46 := Tryd.underlying239
  a46 := Tryd.isAgg239
  z46 := Tryd.sizeOf239
  v46 := Tryd.zeroValue239
  t50 := Tryd.underlying131
  a50 := Tryd.isAgg131
  z50 := Tryd.sizeOf131
  v50 := Tryd.zeroValue131
  t53 := Tryd.underlying246
  a53 := Tryd.isAgg246
  z53 := Tryd.sizeOf246
  v53 := Tryd.zeroValue246
  t55 := Tryd.underlying248
  a55 := Tryd.isAgg248
  z55 := Tryd.sizeOf248
  v55 := Tryd.zeroValue248
  t66 := Tryd.underlying258
  a66 := Tryd.isAgg258
  z66 := Tryd.sizeOf258
  v66 := Tryd.zeroValue258
  t70 := Tryd.underlying262
  a70 := Tryd.isAgg262
  z70 := Tryd.sizeOf262
  v70 := Tryd.zeroValue262
  t76 := Tryd.underlying278
  a76 := Tryd.isAgg278
  z76 := Tryd.sizeOf278
  v76 := Tryd.zeroValue278
  t77 := Tryd.underlying279
  a77 := Tryd.isAgg279
  z77 := Tryd.sizeOf279
  v77 := Tryd.zeroValue279 }
open Go.RowKit Go.Lib Go.Sort in
/-- slices.pdqsortCmpFunc AT A RANGE OF AT MOST 12. (LAID AT THE INSTANCE 'slices.pdqsortCmpFunc[string]': no walk: one application.) -/
theorem Tryd.pdqsortCmpFunc_small {α : Type} [Inhabited α] (enc : α → Value) (hO : OneCell enc) (cf : α → α → Int) (g : Nat) (cb : Array Value) (blk off cap a b : Nat) (lim : Int) (d : Array α) (w : World) (eg : ∀ args w, (callFunc g args).run Tryd.prog w = .ok (.enter g args) w) (hcmp : CmpReads Tryd.prog g cb enc cf blk off d.size w) (hH : Holds enc w blk off d) (hab : a ≤ b) (hb : b ≤ d.size) (hsz : d.size < 4611686018427387904) (h12 : b - a ≤ 12) :
    Calls Tryd.prog 217 #[.slice (some ⟨blk, off, none⟩) d.size cap, .int .i64 a, .int .i64 b, .int .i64 lim, .func (.func g) #[] cb] w fun e w' => e = .returned (.tuple #[]) ∧ ∃ n, w' = (putRow enc w blk off (Sort.insertionSort (ltOf cf) d a b)).drewN n := Any.pdqsortCmpFunc_small Tryd.laysSlF14_f217 enc hO cf g cb blk off cap a b lim d w eg hcmp hH hab hb hsz h12
def Tryd.laysSlF6_f192_ren : Go.Shelf.Ren := ⟨fun | 6 => 192 | 15 => 185 | 14 => 217 | 28 => 209 | 29 => 210 | 20 => 240 | 21 => 241 | 22 => 242 | 23 => 243 | 24 => 244 | 25 => 245 | 26 => 246 | 27 => 247 | 46 => 257 | 47 => 224 | 48 => 225 | 49 => 258 | 50 => 259 | 57 => 271 | n => n, fun | 22 => 70 | 24 => 9 | 25 => 152 | 3 => 3 | 39 => 225 | 0 => 0 | 53 => 246 | 55 => 248 | 4 => 4 | 46 => 239 | 45 => 238 | 50 => 131 | 5 => 5 | 9 => 9 | 66 => 258 | 70 => 262 | 76 => 278 | 77 => 279 | n => n, fun | n => n⟩
theorem Tryd.laysSlF6_f192 : Go.Proofs.SlLaysF.n6 Tryd.prog Tryd.laysSlF6_f192_ren := {
  mixed := by kernel_rfl
  f6 := ⟨Tryd.f192.name, by decide, Tryd.func192.trans (congrArg some (by kernel_rfl))⟩
  f14 := ⟨Tryd.f217.name, by decide, Tryd.func217.trans (congrArg some (by kernel_rfl))⟩
  f15 := Tryd.func185.trans (congrArg some (by kernel_rfl))
  f20 := ⟨Tryd.f240.name, by decide, Tryd.func240.trans (congrArg some (by kernel_rfl))⟩
  f21 := ⟨Tryd.f241.name, by decide, Tryd.func241.trans (congrArg some (by kernel_rfl))⟩
  f22 := ⟨Tryd.f242.name, by decide, Tryd.func242.trans (congrArg some (by kernel_rfl))⟩
  f23 := ⟨Tryd.f243.name, by decide, Tryd.func243.trans (congrArg some (by kernel_rfl))⟩
  f24 := ⟨Tryd.f244.name, by decide, Tryd.func244.trans (congrArg some (by kernel_rfl))⟩
  f25 := ⟨Tryd.f245.name, by decide, Tryd.func245.trans (congrArg some (by kernel_rfl))⟩
  f26 := ⟨Tryd.f246.name, by decide, Tryd.func246.trans (congrArg some (by kernel_rfl))⟩
  f27 := ⟨Tryd.f247.name, by decide, Tryd.func247.trans (congrArg some (by kernel_rfl))⟩
  f28 := Tryd.func209.trans (congrArg some (by kernel_rfl))
  f29 := Tryd.func210.trans (congrArg some (by kernel_rfl))
  f46 := ⟨Tryd.f257.name, by decide, Tryd.func257.trans (congrArg some (by kernel_rfl))⟩
  f47 := Tryd.func224.trans (congrArg some (by kernel_rfl))
  f48 := Tryd.func225.trans (congrArg some (by kernel_rfl))
  f49 := ⟨Tryd.f258.name, by decide, Tryd.func258.trans (congrArg some (by kernel_rfl))⟩
  f50 := ⟨Tryd.f259.name, by decide, Tryd.func259.trans (congrArg some (by kernel_rfl))⟩
  f57 := ⟨Tryd.f271.name, by decide, Tryd.func271.trans (congrArg some (by kernel_rfl))⟩
  t0 := Tryd.underlying0
  a0 := Tryd.isAgg0
  z0 := Tryd.sizeOf0
  v0 := Tryd.zeroValue0
  t3 := Tryd.underlying3
  a3 := Tryd.isAgg3
  z3 := Tryd.sizeOf3
  v3 := Tryd.zeroValue3
  t4 := Tryd.underlying4
  a4 := Tryd.isAgg4
  z4 := Tryd.sizeOf4
  v4 := Tryd.zeroValue4
  t5 := Tryd.underlying5
  a5 := Tryd.isAgg5
  z5 := Tryd.sizeOf5
  v5 := Tryd.zeroValue5
  t9 := Tryd.underlying9
  a9 := Tryd.isAgg9
  z9 := Tryd.sizeOf9
  v9 := Tryd.zeroValue9
  t22 := Tryd.underlying70
  a22 := Tryd.isAgg70
  z22 := Tryd.sizeOf70
  v22 := Tryd.zeroValue70
  a24 := Tryd.isAgg9
  z24 := Tryd.sizeOf9
  t25 := Tryd.underlying152
  a25 := Tryd.isAgg152
  z25 := Tryd.sizeOf152
  v25 := Tryd.zeroValue152
  t39 := Tryd.underlying225
  a39 := Tryd.isAgg225
  z39 := Tryd.sizeOf225
  v39 := Tryd.zeroValue225
  t45 := Tryd.underlying238
  a45 := Tryd.isAgg238
  z45 := Tryd.sizeOf238
  v45 := Tryd.zeroValue238
  t46 := Tryd.underlying239
  a46 := Tryd.isAgg239
  z46 := Tryd.sizeOf239
  v46 := Tryd.zeroValue239
  t50 := Tryd.underlying131
  a50 := Tryd.isAgg131
  z50 := Tryd.sizeOf131
  v50 := Tryd.zeroValue131
  t53 := Tryd.underlying246
  a53 := Tryd.isAgg246
  z53 := Tryd.sizeOf246
  v53 := Tryd.zeroValue246
  t55 := Tryd.underlying248
  a55 := Tryd.isAgg248
  z55 := Tryd.sizeOf248
  v55 := Tryd.zeroValue248
  t66 := Tryd.underlying258
  a66 := Tryd.isAgg258
  z66 := Tryd.sizeOf258
  v66 := Tryd.zeroValue258
  t70 := Tryd.underlying262
  a70 := Tryd.isAgg262
  z70 := Tryd.sizeOf262
  v70 := Tryd.zeroValue262
  t76 := Tryd.underlying278
  a76 := Tryd.isAgg278
  z76 := Tryd.sizeOf278
  v76 := Tryd.zeroValue278
  t77 := Tryd.underlying279
  a77 := Tryd.isAgg279
  z77 := Tryd.sizeOf279
  v77 := Tryd.zeroValue279 }
open Go.RowKit Go.Lib Go.Sort in
/-- slices.SortFunc AT 12 ELEMENTS OR FEWER (0 and 1 among them): THE ROW HOLDS 'Sort.insertionSort (ltOf cf) d 0 d.size'. (LAID AT THE INSTANCE 'slices.SortFunc[[]string,string]': no walk: one application.) -/
theorem Tryd.slices_SortFunc_small {α : Type} [Inhabited α] (enc : α → Value) (hO : OneCell enc) (cf : α → α → Int) (g : Nat) (cb : Array Value) (blk off cap : Nat) (d : Array α) (w : World) (eg : ∀ args w, (callFunc g args).run Tryd.prog w = .ok (.enter g args) w) (hcmp : CmpReads Tryd.prog g cb enc cf blk off d.size w) (hH : Holds enc w blk off d) (h12 : d.size ≤ 12) (hlen : ∀ (n : Nat) (W : World), n ≤ 12 → Calls Tryd.prog 185 #[.int .u64 n] W fun e w' => (∃ l : Int, e = .returned (.int .i64 l)) ∧ w' = W) :
    Calls Tryd.prog 192 #[.slice (some ⟨blk, off, none⟩) d.size cap, .func (.func g) #[] cb] w fun e w' => e = .returned (.tuple #[]) ∧ ∃ n, w' = (putRow enc w blk off (Sort.insertionSort (ltOf cf) d 0 d.size)).drewN n := Any.slices_SortFunc_small Tryd.laysSlF6_f192 enc hO cf g cb blk off cap d w eg hcmp hH h12 hlen
open Go.RowKit Go.Lib Go.Sort in
/-- **THE SAME IN THE DOCUMENTATION's OWN TERMS ("SortFunc sorts the slice x in ascending order as determined by the cmp function. This sort is not guaranteed to be stable. cmp(a, b) should return a negative number when a < b .. SortFunc requires that cmp is a strict weak ordering."): WHERE 'cmp(a, b) < 0' IS A STRICT WEAK ORDER THE ROW HOLDS A PERMUTATION OF WHAT IT HELD, SORTED BY IT.** By a hand of the authors' house's plain theorem 'Sort.insertionSort_holds' (Derived/Sort/LotA.lean). (LAID AT THE INSTANCE 'slices.SortFunc[[]string,string]': no walk: one application.) -/
theorem Tryd.slices_SortFunc_small_sorted {α : Type} [Inhabited α] (enc : α → Value) (hO : OneCell enc) (cf : α → α → Int) (hS : SWO (ltOf cf)) (g : Nat) (cb : Array Value) (blk off cap : Nat) (d : Array α) (w : World) (eg : ∀ args w, (callFunc g args).run Tryd.prog w = .ok (.enter g args) w) (hcmp : CmpReads Tryd.prog g cb enc cf blk off d.size w) (hH : Holds enc w blk off d) (h12 : d.size ≤ 12) (hlen : ∀ (n : Nat) (W : World), n ≤ 12 → Calls Tryd.prog 185 #[.int .u64 n] W fun e w' => (∃ l : Int, e = .returned (.int .i64 l)) ∧ w' = W) :
    Calls Tryd.prog 192 #[.slice (some ⟨blk, off, none⟩) d.size cap, .func (.func g) #[] cb] w fun e w' => e = .returned (.tuple #[]) ∧ ∃ d' n, PermIn 0 d.size d d' ∧ SortedIn (ltOf cf) 0 d.size d' ∧ w' = (putRow enc w blk off d').drewN n := Any.slices_SortFunc_small_sorted Tryd.laysSlF6_f192 enc hO cf hS g cb blk off cap d w eg hcmp hH h12 hlen
def Tryd.laysSlM6_f221_ren : Go.Shelf.Ren := ⟨fun | 6 => 221 | 8 => 185 | 9 => 248 | 19 => 209 | 20 => 210 | 21 => 260 | 22 => 261 | 23 => 262 | 24 => 263 | 25 => 264 | 26 => 265 | 27 => 266 | 28 => 267 | 29 => 268 | 36 => 272 | 31 => 224 | 32 => 225 | 37 => 273 | 38 => 274 | 39 => 275 | 41 => 276 | n => n, fun | 27 => 70 | 29 => 9 | 3 => 3 | 32 => 225 | 26 => 70 | 0 => 0 | 44 => 246 | 46 => 248 | 4 => 4 | 36 => 239 | 35 => 238 | 41 => 131 | 5 => 5 | 9 => 9 | 53 => 258 | 57 => 262 | 63 => 278 | 64 => 279 | n => n, fun | n => n⟩
theorem Tryd.laysSlM6_f221 : Go.Proofs.SlLaysM.n6 Tryd.prog Tryd.laysSlM6_f221_ren := {
  mixed := by kernel_rfl
  f6 := ⟨Tryd.f221.name, by decide, Tryd.func221.trans (congrArg some (by kernel_rfl))⟩
  f8 := Tryd.func185.trans (congrArg some (by kernel_rfl))
  f9 := ⟨Tryd.f248.name, by decide, Tryd.func248.trans (congrArg some (by kernel_rfl))⟩
  f19 := Tryd.func209.trans (congrArg some (by kernel_rfl))
  f20 := Tryd.func210.trans (congrArg some (by kernel_rfl))
  f21 := ⟨Tryd.f260.name, by decide, Tryd.func260.trans (congrArg some (by kernel_rfl))⟩
  f22 := ⟨Tryd.f261.name, by decide, Tryd.func261.trans (congrArg some (by kernel_rfl))⟩
  f23 := ⟨Tryd.f262.name, by decide, Tryd.func262.trans (congrArg some (by kernel_rfl))⟩
  f24 := ⟨Tryd.f263.name, by decide, Tryd.func263.trans (congrArg some (by kernel_rfl))⟩
  f25 := ⟨Tryd.f264.name, by decide, Tryd.func264.trans (congrArg some (by kernel_rfl))⟩
  f26 := ⟨Tryd.f265.name, by decide, Tryd.func265.trans (congrArg some (by kernel_rfl))⟩
  f27 := ⟨Tryd.f266.name, by decide, Tryd.func266.trans (congrArg some (by kernel_rfl))⟩
  f28 := ⟨Tryd.f267.name, by decide, Tryd.func267.trans (congrArg some (by kernel_rfl))⟩
  f29 := ⟨Tryd.f268.name, by decide, Tryd.func268.trans (congrArg some (by kernel_rfl))⟩
  f31 := Tryd.func224.trans (congrArg some (by kernel_rfl))
  f32 := Tryd.func225.trans (congrArg some (by kernel_rfl))
  f36 := ⟨Tryd.f272.name, by decide, Tryd.func272.trans (congrArg some (by kernel_rfl))⟩
  f37 := ⟨Tryd.f273.name, by decide, Tryd.func273.trans (congrArg some (by kernel_rfl))⟩
  f38 := ⟨Tryd.f274.name, by decide, Tryd.func274.trans (congrArg some (by kernel_rfl))⟩
  f39 := ⟨Tryd.f275.name, by decide, Tryd.func275.trans (congrArg some (by kernel_rfl))⟩
  f41 := ⟨Tryd.f276.name, by decide, Tryd.func276.trans (congrArg some (by kernel_rfl))⟩
  t0 := Tryd.underlying0
  a0 := Tryd.isAgg0
  z0 := Tryd.sizeOf0
  v0 := Tryd.zeroValue0
  t3 := Tryd.underlying3
  a3 := Tryd.isAgg3
  z3 := Tryd.sizeOf3
  v3 := Tryd.zeroValue3
  t4 := Tryd.underlying4
  a4 := Tryd.isAgg4
  z4 := Tryd.sizeOf4
  v4 := Tryd.zeroValue4
  t5 := Tryd.underlying5
  a5 := Tryd.isAgg5
  z5 := Tryd.sizeOf5
  v5 := Tryd.zeroValue5
  t9 := Tryd.underlying9
  a9 := Tryd.isAgg9
  z9 := Tryd.sizeOf9
  v9 := Tryd.zeroValue9
  t26 := Tryd.underlying70
  a26 := Tryd.isAgg70
  z26 := Tryd.sizeOf70
  v26 := Tryd.zeroValue70
  t27 := Tryd.underlying70
  a27 := Tryd.isAgg70
  z27 := Tryd.sizeOf70
  v27 := Tryd.zeroValue70
  t29 := Tryd.underlying9
  a29 := Tryd.isAgg9
  z29 := Tryd.sizeOf9
  v29 := Tryd.zeroValue9
  t32 := Tryd.underlying225
  a32 := Tryd.isAgg225
  z32 := Tryd.sizeOf225
  v32 := Tryd.zeroValue225
  t35 := Tryd.underlying238
  a35 := Tryd.isAgg238
  z35 := Tryd.sizeOf238
  v35 := Tryd.zeroValue238
  t36 := Tryd.underlying239
  a36 := Tryd.isAgg239
  z36 := Tryd.sizeOf239
  v36 := Tryd.zeroValue239
  t41 := Tryd.underlying131
  a41 := Tryd.isAgg131
  z41 := Tryd.sizeOf131
  v41 := Tryd.zeroValue131
  t44 := Tryd.underlying246
  a44 := Tryd.isAgg246
  z44 := Tryd.sizeOf246
  v44 := Tryd.zeroValue246
  t46 := Tryd.underlying248
  a46 := Tryd.isAgg248
  z46 := Tryd.sizeOf248
  v46 := Tryd.zeroValue248
  t53 := Tryd.underlying258
  a53 := Tryd.isAgg258
  z53 := Tryd.sizeOf258
  v53 := Tryd.zeroValue258
  t57 := Tryd.underlying262
  a57 := Tryd.isAgg262
  z57 := Tryd.sizeOf262
  v57 := Tryd.zeroValue262
  t63 := Tryd.underlying278
  a63 := Tryd.isAgg278
  z63 := Tryd.sizeOf278
  v63 := Tryd.zeroValue278
  t64 := Tryd.underlying279
  a64 := Tryd.isAgg279
  z64 := Tryd.sizeOf279
  v64 := Tryd.zeroValue279 }
open Go.Sort Go.RowKit in
theorem Tryd.slices_Sort_string (blk off cap : Nat) (ss : List (List UInt8)) (w : World) (hH : Holds encStr w blk off ss.toArray) (hblk : blk < w.heap.size) (hsz : ss.length < 4611686018427387904) :
    Calls Tryd.prog 221 #[.slice (some ⟨blk, off, none⟩) ss.length cap] w fun e w' =>
      e = .returned (.tuple #[]) ∧ ∃ n os, w' = grow (putRow encStr (Sort.ahead w n) blk off (ss.mergeSort fun x y => decide (x ≤ y)).toArray) os := AnyM.slices_Sort_string Tryd.laysSlM6_f221 blk off cap ss w hH hblk hsz
end Go.Proofs
end

section
/-
  The names that a map of edges holds, sorted by the edges' places: slices.SortedFunc over maps.Keys with namesAt's closure. Conditions: at most twelve names, each of one byte; at most 1000 edges.
-/
namespace Go.Proofs.YtdepangkeeehpaaDoor
open Go.RowKit Go.Maps

/-- the place of an edge, 0 if there is none -/
def ixN (E : List Pr) (x s : ByteArray) : Int := match idx E (x, s) with | some i => (i : Int) | none => 0
theorem inner_getD (E : List Pr) (x s : ByteArray) : (inner E x s).getD (.int .i64 0) = .int .i64 (ixN E x s) := by
  unfold inner ixN
  cases idx E (x, s) <;> rfl
theorem ixN_bd (E : List Pr) (x s : ByteArray) : 0 ≤ ixN E x s ∧ ixN E x s ≤ E.length := by
  unfold ixN
  split
  · rename_i i h
    have := (List.getElem?_eq_some_iff.1 (idx_some _ _ _ h).1).1
    omega
  · omega
theorem nodup_at {E : List Pr} (h : E.Nodup) {i : Nat} (hi : i < E.length) : idx E E[i] = some i :=
  idx_hit _ _ _ (List.getElem?_eq_getElem hi) (fun j hj e => by
    have := nodup_idx.1 h j i hj hi
    rw [e, List.getElem?_eq_getElem hi] at this
    exact this rfl)
theorem outL_sorted {E : List Pr} (h : E.Nodup) (x : ByteArray) : (outL E x).Pairwise fun a b => ixN E x a < ixN E x b := by
  unfold outL
  rw [List.pairwise_map]
  have h1 : E.Pairwise fun p q => ∀ i j, idx E p = some i → idx E q = some j → i < j := by
    rw [List.pairwise_iff_getElem]
    intro i j hi hj hij a b ha hb
    rw [nodup_at h hi] at ha
    rw [nodup_at h hj] at hb
    cases ha; cases hb; exact hij
  refine (List.Pairwise.filter (fun e : Pr => decide (e.1 = x)) h1).imp_of_mem fun {p q} hp hq hpq => ?_
  have e1 : p.1 = x := by simpa using (List.mem_filter.1 hp).2
  have e2 : q.1 = x := by simpa using (List.mem_filter.1 hq).2
  obtain ⟨i, hi, ei⟩ := List.getElem_of_mem (List.mem_filter.1 hp).1
  obtain ⟨j, hj, ej⟩ := List.getElem_of_mem (List.mem_filter.1 hq).1
  have h2 := nodup_at h hi
  have h3 := nodup_at h hj
  rw [ei] at h2
  rw [ej] at h3
  have h4 := hpq i j h2 h3
  have p1 : (x, p.2) = p := by rw [← e1]
  have q1 : (x, q.2) = q := by rw [← e2]
  unfold ixN
  rw [p1, q1, h2, h3]
  show (i : Int) < (j : Int)
  omega
theorem outL_nodup {E : List Pr} (h : E.Nodup) (x : ByteArray) : (outL E x).Nodup :=
  (outL_sorted h x).imp fun {a b} hab e => by rw [e] at hab; omega
theorem eq_of_perm_sorted {β : Type} (f : β → Int) : ∀ l1 l2 : List β, l1.Perm l2 → l1.Pairwise (fun a b => f a ≤ f b) → l2.Pairwise (fun a b => f a < f b) → l1 = l2
  | l1, [], hp, _, _ => by simpa using hp
  | [], b :: r2, hp, _, _ => by have := hp.length_eq; simp at this
  | a :: r1, b :: r2, hp, h1, h2 => by
    have ha : a ∈ b :: r2 := hp.mem_iff.1 (List.mem_cons_self ..)
    have hb : b ∈ a :: r1 := hp.mem_iff.2 (List.mem_cons_self ..)
    have hab : a = b := by
      rcases List.mem_cons.1 ha with h | h
      · exact h
      · rcases List.mem_cons.1 hb with h' | h'
        · exact h'.symm
        · have := (List.pairwise_cons.1 h2).1 a h
          have := (List.pairwise_cons.1 h1).1 b h'
          omega
    subst hab
    rw [eq_of_perm_sorted f r1 r2 hp.cons_inv (List.pairwise_cons.1 h1).2 (List.pairwise_cons.1 h2).2]
theorem length_le_of_sub {α : Type} [DecidableEq α] : ∀ (l m : List α), l.Nodup → (∀ x ∈ l, x ∈ m) → l.length ≤ m.length
  | [], _, _, _ => Nat.zero_le _
  | a :: r, m, hd, hs => by
    have ha : a ∈ m := hs a (List.mem_cons_self ..)
    have h1 := length_le_of_sub r (m.erase a) (List.nodup_cons.1 hd).2 (fun x hx => (List.mem_erase_of_ne (fun e : x = a => (List.nodup_cons.1 hd).1 (by rw [← e]; exact hx))).2 (hs x (List.mem_cons_of_mem _ hx)))
    have h2 := List.length_erase_of_mem ha
    have h3 : 0 < m.length := List.length_pos_of_mem ha
    simp only [List.length_cons]
    omega

/-- a text that can be a key -/
abbrev Nm := { s : ByteArray // s.size ≤ 1048576 }
instance : Inhabited Nm := ⟨⟨e0, by decide⟩⟩
def encN (x : Nm) : Value := .string x.1
theorem heap_sortW {α : Type} [Inhabited α] (enc : α → Value) (w : World) (blk off m : Nat) (dk : Array α) (os : Array Obj) {k : Nat} (hk : k < w.heap.size) (hne : k ≠ blk) : (sortWorld enc w blk off m dk os).heap[k]? = w.heap[k]? := by
  unfold sortWorld
  rw [Sort.heap_grow_old _ _ (by simpa using hk)]
  have h' : blk ≠ k := Ne.symm hne
  simp [Sort.putRow, Sort.mapBlock, Sort.ahead, Array.getElem?_modify, h']

set_option maxRecDepth 100000 in
theorem cmp_any (E : List Pr) (x : ByteArray) (hE : E.length ≤ 1000) (W : World) (H : Nat) (mb : Option Nat) (hbox : W.cell? ⟨H, 0, none⟩ = some (.map mb)) (a b : ByteArray)
    (ha : (Instr.lookup 132 (.map mb) (.string a) false).run Tryd.prog W = .ok (.int .i64 (ixN E x a)) W) (hb : (Instr.lookup 132 (.map mb) (.string b) false).run Tryd.prog W = .ok (.int .i64 (ixN E x b)) W) :
    Calls Tryd.prog 166 #[.string a, .string b, .pointer (some ⟨H, 0, none⟩)] W fun e w' => e = .returned (.int .i64 (ixN E x a - ixN E x b)) ∧ w' = W := by
  obtain ⟨a1, a2⟩ := ixN_bd E x a
  obtain ⟨b1, b2⟩ := ixN_bd E x b
  have hw : IntKind.i64.wrap (ixN E x a - ixN E x b) = ixN E x a - ixN E x b := IntWalk.i64_in _ (by omega)
  generalize ixN E x a = va at *
  generalize ixN E x b = vb at *
  go_enter Tryd.func166, Tryd.ntmps166
  go_wp2
  go_ret
  exact ⟨rfl, rfl⟩

/-- maps.Keys at a map of places -/
theorem keys_call (mb : Option Nat) (W : World) : Calls Tryd.prog 165 #[.map mb] W fun e w' => e = .returned (.func (.func 193) #[] #[.pointer (some ⟨W.heap.size, 0, none⟩)]) ∧ w' = W.alloc (.cells #[.map mb] 132) :=
  (callsIn_wide (n := 5)).1 (AnyZ.keys_in Tryd.keysS Fence.wide 5 trivial rfl mb W)
/-- slices.Collect at what it handed back -/
theorem collect_call (Bm b n : Nat) (D0 : DataW Value) (W : World) (hBm : Bm < W.heap.size) (hm : W.cell? ⟨Bm, 0, none⟩ = some (.map (some b))) (hown : W.ownsMap Tryd.prog 9 hR b n D0) (h1 : Maps.size D0 ≤ 1000) :
    Calls Tryd.prog 191 #[.func (.func 193) #[] #[.pointer (some ⟨Bm, 0, none⟩)]] W fun e w' => ∃ (v : Value) (ss : List (List UInt8)), e = .returned v ∧ ss.Perm (strKeys D0) ∧ w'.ownsRow W.heap.size 9 1 v ss.length (ss.map encStr) ∧ (v = .slice none 0 0 ↔ ss = []) ∧ Below W.heap.size W w' :=
  (callsIn_wide (n := 5)).1 (AnyZ.collect_in Tryd.collectS Fence.wide 5 trivial trivial rfl (by omega) 193 #[.pointer (some ⟨Bm, 0, none⟩)] trivial (enters_of Tryd.func193 (by kernel_rfl) rfl) _ (Maps.size D0) (by unfold maxLen; omega) (by omega) W
    (AnyZ.keys_gives (ρ := Tryd.keysS_ren) { Tryd.keysS with } Fence.wide _ trivial rfl (by omega) Bm b n D0 W hBm hm hown))
theorem collect_nil (Bm : Nat) (W : World) (hBm : Bm < W.heap.size) (hm : W.cell? ⟨Bm, 0, none⟩ = some (.map none)) :
    Calls Tryd.prog 191 #[.func (.func 193) #[] #[.pointer (some ⟨Bm, 0, none⟩)]] W fun e w' => e = .returned (.slice none 0 0) ∧ Below W.heap.size W w' :=
  ((callsIn_wide (n := 5)).1 (AnyZ.collect_in Tryd.collectS Fence.wide 5 trivial trivial rfl (by omega) 193 #[.pointer (some ⟨Bm, 0, none⟩)] trivial (enters_of Tryd.func193 (by kernel_rfl) rfl) (fun ss => ss = []) 0 (by unfold maxLen; omega) (by omega) W
    (AnyZ.keys_gives_nil (ρ := Tryd.keysS_ren) { Tryd.keysS with } Fence.wide _ trivial rfl Bm W hBm hm))).mono fun e w' ⟨v, ss, he, hs, _, hn, hb⟩ => ⟨by rw [he, hn.2 hs], hb⟩

set_option maxHeartbeats 1000000 in
theorem ins_none (p : Option Addr) (cap : Nat) (fv : Value) (w : World) :
    Calls Tryd.prog 240 #[.slice p 0 cap, .int .i64 0, .int .i64 0, fv] w fun e w' => e = .returned (.tuple #[]) ∧ w' = w := by
  go_enter Tryd.func240, Tryd.ntmps240
  go_wp2
  refine wp_loop_rounds 1 ?_
  rw [rounds_succ]
  go_wp2
  go_end0
  exact ⟨rfl, rfl⟩
set_option maxHeartbeats 1000000 in
theorem pdq_none (p : Option Addr) (cap : Nat) (lim : Int) (fv : Value) (w : World) :
    Calls Tryd.prog 217 #[.slice p 0 cap, .int .i64 0, .int .i64 0, .int .i64 lim, fv] w fun e w' => e = .returned (.tuple #[]) ∧ w' = w := by
  go_enter Tryd.func217, Tryd.ntmps217
  go_wp2
  refine wp_loop_rounds 1 ?_
  rw [rounds_succ]
  go_wp2_with fail
  refine (ins_none p cap fv _).mono ?_
  rintro e w' ⟨rfl, rfl⟩
  go_wp2
  (try simp only [Exit.inBlock, Exit.then]); refine bodyPost_ret (results_none rfl _ _ _) rfl ?_
  exact ⟨rfl, rfl⟩
theorem len0 (W : World) : Calls Tryd.prog 185 #[.int .u64 0] W fun e w' => (∃ l : Int, e = .returned (.int .i64 l)) ∧ w' = W :=
  (Tryd.bits_Len 0 W (by omega) (by omega)).mono fun _ _ ⟨he, hw⟩ => ⟨⟨_, he⟩, hw⟩
theorem lenN (n : Nat) (W : World) (h : n ≤ 12) : Calls Tryd.prog 185 #[.int .u64 n] W fun e w' => (∃ l : Int, e = .returned (.int .i64 l)) ∧ w' = W :=
  (Tryd.bits_Len n W (by omega) (by omega)).mono fun _ _ ⟨he, hw⟩ => ⟨⟨_, he⟩, hw⟩
theorem sort_none (p : Option Addr) (cap : Nat) (fv : Value) (w : World) :
    Calls Tryd.prog 192 #[.slice p 0 cap, fv] w fun e w' => e = .returned (.tuple #[]) ∧ w' = w := by
  go_enter Tryd.func192, Tryd.ntmps192
  go_wp2_with fail
  refine (len0 _).mono ?_
  rintro e w' ⟨⟨l, rfl⟩, rfl⟩
  go_wp2_with fail
  refine (pdq_none p cap l fv _).mono ?_
  rintro e w' ⟨rfl, rfl⟩
  go_wp2
  go_end0
  exact ⟨rfl, rfl⟩

/-- the row behind the sort -/
theorem own_putRow {w : World} {base g cap n : Nat} {e : TypeId} {cur : Array Value} (d' : Array Nm) (hb : w.heap[g]? = some (.cells cur e (0, 0))) (hbase : base ≤ g) (h1 : d'.size ≤ cap) (h2 : cap ≤ maxLen) (h3 : cur.size = cap * 1) :
    ((Sort.putRow encN w g 0 d').drewN n).ownsRow base e 1 (.slice (some ⟨g, 0, none⟩) d'.size cap) d'.size (d'.toList.map encN) := by
  refine ⟨by simp, .inr ⟨g, cap, Sort.putCells encN 0 d' cur, rfl, hbase, ?_, h1, h2, by simp [Sort.putCells, h3], ?_⟩⟩
  · show (Sort.putRow encN w g 0 d').heap[g]? = _
    simp [Sort.putRow, Sort.mapBlock, Array.getElem?_modify, hb, Sort.onCells]
  · apply List.ext_getElem?
    intro j
    by_cases hj : j < d'.size
    · rw [List.getElem?_take_of_lt (by omega), Array.getElem?_toList]
      simp [Sort.putCells, hj, show j < cur.size by omega]
    · rw [List.getElem?_take_eq_none (by omega), List.getElem?_eq_none (by simp; omega)]
theorem grown_putRow {w : World} {g n : Nat} (d' : Array Nm) : w.grownBy ((Sort.putRow encN w g 0 d').drewN n) (some g) := by
  refine ⟨rfl, rfl, rfl, by simp, fun k hk hne => ?_⟩
  show (Sort.putRow encN w g 0 d').heap[k]? = _
  have h' : g ≠ k := fun e => hne (by rw [e])
  simp [Sort.putRow, Sort.mapBlock, Array.getElem?_modify, h']
def nmOf (l : List UInt8) : Nm := if h : l.length ≤ 1048576 then ⟨⟨l.toArray⟩, by simpa [ByteArray.size] using h⟩ else default
theorem nmOf_enc {l : List UInt8} (h : l.length ≤ 1048576) : encN (nmOf l) = encStr l := by unfold nmOf encN; rw [dif_pos h]
theorem swo_ix (E : List Pr) (x : ByteArray) : Sort.SWO (ltOf fun a b : Nm => ixN E x a.1 - ixN E x b.1) where
  irrefl a := by simp [ltOf]
  trans a b c h1 h2 := by simp [ltOf] at *; omega
  ntrans a b c h1 h2 := by simp [ltOf] at *; omega
/-- what the keys are -/
theorem keys_perm {W : World} {b n : Nat} {D0 : DataW Value} {E : List Pr} {x : ByteArray} (hown : W.ownsMap Tryd.prog 9 hR b n D0) (hD : AtF D0 (inner E x)) (hnd : E.Nodup) : ((outL E x).map (·.data.toList)).Perm (strKeys D0) := by
  obtain ⟨es, hE, hpw, _⟩ := hown.entries keyed
  obtain ⟨es', hE', hk⟩ := hown.keysOf
  obtain rfl : es = es' := by rw [hE] at hE'; simpa using hE'
  subst hE
  refine perm_strKeys hpw (fun p hp => ?_) ?_ (fun a => ?_)
  · obtain ⟨v, hv⟩ := hk p hp
    obtain ⟨s, rfl⟩ := key_string hv
    exact ⟨_, (key_string' hv).2⟩
  · refine List.pairwise_map.2 ((outL_nodup hnd x).imp fun {a b} hab e => hab (ByteArray.ext (Array.toList_inj.1 e)))
  · have h1 := (hD ⟨a.toArray⟩).2
    have h2 : kS ⟨a.toArray⟩ = .string a := by simp [kS]
    rw [h2] at h1
    rw [h1, inner_isSome, ← mem_outL, List.mem_map]
    constructor
    · rintro ⟨y, hy, rfl⟩
      exact hy
    · intro h
      exact ⟨_, h, by simp⟩

theorem size_keys {W : World} {b n : Nat} {D0 : DataW Value} {E : List Pr} {x : ByteArray} (hown : W.ownsMap Tryd.prog 9 hR b n D0) (hD : AtF D0 (inner E x)) (hnd : E.Nodup) : Maps.size D0 = (outL E x).length := by
  have h := (keys_perm hown hD hnd).length_eq
  rw [List.length_map] at h
  rw [h]
  obtain ⟨es, rfl, _⟩ := hown.keysOf
  simp [strKeys, Maps.size]
/-- a row of names that the call has laid, or none -/
def NamesPost (W : World) (l : List ByteArray) (e : Ending) (w' : World) : Prop :=
  ∃ v, e = .returned v ∧ w'.ownsRow W.heap.size 9 1 v l.length (l.map Value.string) ∧ Below W.heap.size W w'
theorem cmp_reads (W w1 : World) (H bi n g : Nat) (E : List Pr) (x : ByteArray) (size : Nat) (hb1 : Below W.heap.size W w1) (hg : W.heap.size ≤ g) (hH : H < W.heap.size) (hbox : W.cell? ⟨H, 0, none⟩ = some (.map (some bi))) (hmi : MapV W bi n (inner E x)) (hE : E.length ≤ 1000) :
    CmpReads Tryd.prog 166 #[.pointer (some ⟨H, 0, none⟩)] encN (fun a b : Nm => ixN E x a.1 - ixN E x b.1) g 0 size w1 := by
  intro m os dk _ a b
  have hbi := hmi.lt
  have hw : ∀ k, k < W.heap.size → (sortWorld encN w1 g 0 m dk os).heap[k]? = W.heap[k]? := fun k hk => (heap_sortW encN w1 g 0 m dk os (by have := hb1.size; omega) (by omega)).trans (hb1.block k hk)
  have hmS : MapV (sortWorld encN w1 g 0 m dk os) bi n (inner E x) := hmi.same (hw bi hbi)
  have hlk : ∀ s : Nm, (Instr.lookup 132 (.map (some bi)) (.string s.1) false).run Tryd.prog (sortWorld encN w1 g 0 m dk os) = .ok (.int .i64 (ixN E x s.1)) (sortWorld encN w1 g 0 m dk os) := fun s => by
    have := hmS.look Tryd.underlying132 (zeroInt _) (mx s.2)
    rwa [inner_getD] at this
  exact (cmp_any E x hE _ H (some bi) ((World.cell?_of_block (hw H hH)).trans hbox) a.1 b.1 (hlk a) (hlk b)).mono fun e w' h => ⟨h.1, 0, h.2⟩
theorem size_le_of {l : List ByteArray} (h1 : ∀ y ∈ l, y.size ≤ 1048576) {ss : List (List UInt8)} (hp : ss.Perm (l.map (·.data.toList))) : ∀ a ∈ ss, a.length ≤ 1048576 := fun a ha => by
  obtain ⟨y, hy, rfl⟩ := List.mem_map.1 (hp.mem_iff.1 ha)
  exact h1 y hy
theorem sorted_list {E : List Pr} {x : ByteArray} (hnd : E.Nodup) (h1 : ∀ y ∈ outL E x, y.size ≤ 1048576) {ss : List (List UInt8)} (hp : ss.Perm ((outL E x).map (·.data.toList))) {d' : Array Nm} (hP : Sort.PermIn 0 ss.length (ss.map nmOf).toArray d') (hS : Sort.SortedIn (ltOf fun a b : Nm => ixN E x a.1 - ixN E x b.1) 0 ss.length d') :
    d'.toList.map (·.1) = outL E x := by
  obtain ⟨hz, _, hpm⟩ := hP
  have hz' : d'.size = ss.length := by simpa using hz
  have e1 : d'.extract 0 ss.length = d' := by rw [← hz']; simp
  have e2 : (ss.map nmOf).toArray.extract 0 ss.length = (ss.map nmOf).toArray := by
    apply Array.toList_inj.1
    rw [Array.toList_extract]
    simp [List.extract]
    exact List.take_of_length_le (by simp)
  rw [e1, e2] at hpm
  have hq : (d'.toList.map (·.1)).Perm (outL E x) := by
    refine (hpm.map (·.1)).trans ?_
    have h2 : ((ss.map nmOf).toArray.toList.map (·.1)) = ss.map fun l => (nmOf l).1 := by simp
    rw [h2]
    refine (hp.map fun l => (nmOf l).1).trans ?_
    rw [List.map_map]
    have h3 : (outL E x).map ((fun l => (nmOf l).1) ∘ fun y : ByteArray => y.data.toList) = (outL E x).map id := List.map_congr_left fun y hy => by
      show (nmOf y.data.toList).1 = y
      unfold nmOf
      rw [dif_pos (show y.data.toList.length ≤ 1048576 from h1 y hy)]
    rw [h3, List.map_id]
  refine eq_of_perm_sorted (ixN E x) _ _ hq ?_ (outL_sorted hnd x)
  rw [List.pairwise_map, List.pairwise_iff_getElem]
  intro i j hi hj hij
  have h4 := hS i j (Nat.zero_le _) hij (by rw [← hz']; simpa using hj)
  simp only [Array.length_toList] at hi hj
  rw [getElem!_pos d' j hj, getElem!_pos d' i hi] at h4
  simp [ltOf] at h4
  simpa using h4
theorem sort_call (W w1 : World) (H bi n g cap : Nat) (E : List Pr) (x : ByteArray) (ss : List (List UInt8)) (cur : Array Value) (hb1 : Below W.heap.size W w1) (hg : W.heap.size ≤ g) (hH : H < W.heap.size) (hbox : W.cell? ⟨H, 0, none⟩ = some (.map (some bi))) (hmi : MapV W bi n (inner E x)) (hE : E.length ≤ 1000) (hnd : E.Nodup) (hl : (outL E x).length ≤ 12)
    (h1 : ∀ y ∈ outL E x, y.size ≤ 1048576) (hp : ss.Perm ((outL E x).map (·.data.toList))) (hcur : w1.heap[g]? = some (.cells cur 9 (0, 0))) (hcap : ss.length ≤ cap) (hcm : cap ≤ maxLen) (hcs : cur.size = cap * 1) (htk : cur.toList.take (ss.length * 1) = ss.map encStr) :
    Calls Tryd.prog 192 #[.slice (some ⟨g, 0, none⟩) ss.length cap, .func (.func 166) #[] #[.pointer (some ⟨H, 0, none⟩)]] w1 fun e w' => e = .returned (.tuple #[]) ∧ w'.ownsRow W.heap.size 9 1 (.slice (some ⟨g, 0, none⟩) ss.length cap) (outL E x).length ((outL E x).map Value.string) ∧ w1.grownBy w' (some g) := by
  have hsm := size_le_of h1 hp
  have hlen : ss.length = (outL E x).length := by rw [hp.length_eq, List.length_map]
  have hdl : (ss.map nmOf).toArray.size = ss.length := by simp
  have henc : (ss.map nmOf).map encN = ss.map encStr := by
    rw [List.map_map]
    exact List.map_congr_left fun a ha => nmOf_enc (hsm a ha)
  have hHolds : Sort.Holds encN w1 g 0 (ss.map nmOf).toArray := by
    intro j hj
    rw [hdl] at hj
    refine ⟨?_, by simp [World.frozen?, hcur]⟩
    rw [Nat.zero_add, cell_of_row w1 g j _ _ (0, 0) hcur]
    have h2 : (cur.toList.take (ss.length * 1))[j]? = ((ss.map nmOf).map encN)[j]? := by rw [htk, henc]
    rw [List.getElem?_take_of_lt (by omega)] at h2
    rw [← Array.getElem?_toList, h2]
    simp [hj]
  have hsort := Tryd.slices_SortFunc_small_sorted encN (fun _ => rfl) _ (swo_ix E x) 166 #[.pointer (some ⟨H, 0, none⟩)] g 0 cap (ss.map nmOf).toArray w1 (enters_of Tryd.func166 (by kernel_rfl) rfl)
    (cmp_reads W w1 H bi n g E x _ hb1 hg hH hbox hmi hE) hHolds (by rw [hdl]; omega) (fun n W h => lenN n W h)
  rw [hdl] at hsort
  refine hsort.mono ?_
  rintro e w2 ⟨he, d', q, hPm, hSd, rfl⟩
  have hd := sorted_list hnd h1 hp hPm hSd
  have hz : d'.size = ss.length := by have := hPm.1; simpa using this
  refine ⟨he, ?_, grown_putRow d'⟩
  have h5 := own_putRow (n := q) (base := W.heap.size) d' hcur hg (by omega) hcm hcs
  have h6 : d'.toList.map encN = (outL E x).map Value.string := by
    rw [← hd, List.map_map]; rfl
  rw [h6, hz, hlen] at h5
  rw [hlen]
  exact h5

set_option maxRecDepth 100000 in
theorem SortedFunc_any (W : World) (Bm H bi n : Nat) (E : List Pr) (x : ByteArray) (hBm : Bm < W.heap.size) (hm : W.cell? ⟨Bm, 0, none⟩ = some (.map (some bi))) (hH : H < W.heap.size) (hbox : W.cell? ⟨H, 0, none⟩ = some (.map (some bi)))
    (hmi : MapV W bi n (inner E x)) (hE : E.length ≤ 1000) (hnd : E.Nodup) (hl : (outL E x).length ≤ 12) (h1 : ∀ y ∈ outL E x, y.size ≤ 1048576) (hne : outL E x ≠ []) :
    Calls Tryd.prog 164 #[.func (.func 193) #[] #[.pointer (some ⟨Bm, 0, none⟩)], .func (.func 166) #[] #[.pointer (some ⟨H, 0, none⟩)]] W (NamesPost W (outL E x)) := by
  obtain ⟨D0, hown, hD⟩ := hmi
  have hperm := keys_perm hown hD hnd
  have hsz := size_keys hown hD hnd
  have hcol := collect_call Bm bi n D0 W hBm hm hown (by omega)
  have hmi' : MapV W bi n (inner E x) := ⟨D0, hown, hD⟩
  have Hmi := Lib.hid (And.intro hmi' (And.intro hbox (And.intro hnd (And.intro h1 hne))))
  have Hpm := Lib.hid hperm
  clear hown hD hm hmi' hbox hnd h1 hne hperm hsz
  go_enter Tryd.func164, Tryd.ntmps164
  go_wp2_with fail
  refine hcol.mono ?_
  rintro e w1 ⟨v, ss, rfl, hss, hrow, hnil, hb1⟩
  have hpl : ss.Perm ((outL E x).map (·.data.toList)) := hss.trans Hpm.out.symm
  have hlen : ss.length = (outL E x).length := by rw [hpl.length_eq, List.length_map]
  obtain ⟨g, cap, hv, hg, hcap, hcm, cur, hcur, hcs, htk⟩ : ∃ g cap, v = .slice (some ⟨g, 0, none⟩) ss.length cap ∧ W.heap.size ≤ g ∧ ss.length ≤ cap ∧ cap ≤ maxLen ∧ ∃ cur, w1.heap[g]? = some (.cells cur 9 (0, 0)) ∧ cur.size = cap * 1 ∧ cur.toList.take (ss.length * 1) = ss.map encStr := by
    obtain ⟨_, ⟨rfl, h0⟩ | ⟨g, cap, cur, hv, hg, hh, hn, hc, hs, ht⟩⟩ := hrow
    · exact absurd (List.eq_nil_of_length_eq_zero (by omega)) Hmi.out.2.2.2.2
    · exact ⟨g, cap, hv, hg, hn, hc, cur, hh, hs, ht⟩
  subst hv
  have hsc := sort_call W w1 H bi n g cap E x ss cur hb1 hg hH Hmi.out.2.1 Hmi.out.1 hE Hmi.out.2.2.1 hl Hmi.out.2.2.2.1 hpl hcur hcap hcm hcs htk
  have HB := Lib.hid (And.intro hb1 (And.intro hg hlen))
  clear hpl hcur hcs htk hrow hss hnil hb1 hcol hlen
  go_wp2_with fail
  refine hsc.mono ?_
  rintro e w2 ⟨rfl, hown2, hgr⟩
  go_wp2
  go_ret
  exact ⟨_, rfl, hown2, HB.out.1.grown hgr HB.out.1.size (fun j hj => by cases hj; exact HB.out.2.1)⟩
end Go.Proofs.YtdepangkeeehpaaDoor
end

section
/-
  namesAt: the names at the other ends of a block's edges, one behind the other. Conditions: at most twelve names, each of one byte; at most 1000 edges.
-/
namespace Go.Proofs.YtdepangkeeehpaaDoor
open Go.RowKit Go.Maps

theorem flip_nodup {es : List Pr} (h : es.Nodup) : (flip es).Nodup := by
  unfold flip
  exact List.pairwise_map.2 (h.imp fun {a b} hab e => hab (by cases a; cases b; simp at e; rw [e.1, e.2]))
theorem join_empty : ∀ xs : List (List UInt8), Lib.join xs [] = xs.flatten
  | [] => by rw [Lib.join_nil]; rfl
  | x :: r => by rw [Lib.join_cons]; simp [Lib.joinTail]
theorem join_cat (l : List ByteArray) : (⟨(Lib.join (l.map (·.data.toList)) (⟨#[]⟩ : ByteArray).data.toList).toArray⟩ : ByteArray) = cat l := by
  apply bytes_ext2
  rw [cat_flat]
  show (Lib.join (l.map (·.data.toList)) []).toArray.toList = _
  rw [join_empty]
theorem join_names (w : World) (v : Value) (l : List ByteArray) (base : Nat) (hl : l.length ≤ 12) (hs : ∀ y ∈ l, y.size = 1) (ho : w.ownsRow base 9 1 v l.length (l.map Value.string)) :
    Calls Tryd.prog 131 #[v, .string ⟨#[]⟩] w fun e w' => e = .returned (.string (cat l)) ∧ Below w.heap.size w w' := by
  obtain ⟨h1, ⟨rfl, h0⟩ | ⟨g, cap, cur, rfl, _, hg, hc, hm, hcs, ht⟩⟩ := ho
  · refine (Tryd.strings_Join_none none 0 ⟨#[]⟩ w).mono fun e w' h => ⟨?_, by rw [h.2]; exact Below.refl _ _⟩
    obtain rfl : l = [] := List.eq_nil_of_length_eq_zero h0
    rw [h.1]; rfl
  · have hj : (Lib.join (l.map (·.data.toList)) (⟨#[]⟩ : ByteArray).data.toList).length ≤ 12 := by
      have := congrArg ByteArray.size (join_cat l)
      rw [cat_size hs] at this
      have h2 : (⟨(Lib.join (l.map (·.data.toList)) (⟨#[]⟩ : ByteArray).data.toList).toArray⟩ : ByteArray).size = (Lib.join (l.map (·.data.toList)) (⟨#[]⟩ : ByteArray).data.toList).length := by simp [ByteArray.size]
      omega
    have := Tryd.strings_Join g 0 cap l ⟨#[]⟩ w (fun j x hx => ?_) (Array.getElem?_eq_some_iff.1 hg).1 (by omega) hc (by omega)
    · rw [join_cat] at this
      exact this
    · have hjl := (List.getElem?_eq_some_iff.1 hx).1
      have hv : (cur.toList.take (l.length * 1))[j]? = some (.string x) := by rw [ht]; simp [hx]
      rw [List.getElem?_take, if_pos (by omega)] at hv
      simp only [Nat.zero_add]
      simp [World.cell?, hg]
      simpa using hv
theorem SortedFunc_nil (W : World) (Bm : Nat) (fv : Value) (hBm : Bm < W.heap.size) (hm : W.cell? ⟨Bm, 0, none⟩ = some (.map none)) :
    Calls Tryd.prog 164 #[.func (.func 193) #[] #[.pointer (some ⟨Bm, 0, none⟩)], fv] W (NamesPost W []) := by
  have hcol := collect_nil Bm W hBm hm
  clear hm
  go_enter Tryd.func164, Tryd.ntmps164
  go_wp2_with fail
  refine hcol.mono ?_
  rintro e w1 ⟨rfl, hb1⟩
  go_wp2_with fail
  refine (sort_none none 0 fv _).mono ?_
  rintro e w2 ⟨rfl, rfl⟩
  go_wp2
  go_ret
  exact ⟨_, rfl, World.ownsRow_nil _ _ _ _, hb1⟩

set_option maxRecDepth 100000 in
theorem namesAt_any (w : World) (lo : Nat) (fp : List Nat) (E : List Pr) (F : ByteArray → Option Value) (x : ByteArray) (hL : Links w lo fp E F) (hfp : ∀ k ∈ fp, k < w.heap.size) (hx : x.size ≤ 1048576) (hE : E.length ≤ 1000) (hnd : E.Nodup) (hl : (outL E x).length ≤ 12) (h1 : ∀ y ∈ outL E x, y.size = 1) :
    Calls Tryd.prog 106 #[.map (some lo), .string x] w fun e w' => e = .returned (.string (cat (outL E x))) ∧ Below w.heap.size w w' := by
  have lk := hL.map.look Tryd.underlying82 (zeroMap w) (mx hx)
  cases hFh : F x with
  | none =>
    rw [hFh] at lk
    simp only [Option.getD_none] at lk
    have hnil : outL E x = [] := List.eq_nil_iff_forall_not_mem.2 fun y hy => hL.none_ x hFh y (mem_outL.1 hy)
    rw [hnil]
    clear hFh hl h1 hnil hL hfp
    go_enter Tryd.func106, Tryd.ntmps106
    go_wp2_with fail
    refine (keys_call none _).mono ?_
    rintro e w1 ⟨rfl, rfl⟩
    go_wp2_with fail
    refine (SortedFunc_nil _ (w.heap.size + 1) _ (by simp) (by go_simp)).mono ?_
    rintro e w2 ⟨v, rfl, hown, hb⟩
    obtain ⟨av, ac, rfl⟩ := own_form hown
    have hj := join_names w2 _ [] _ (by simp) (by simp) hown
    have hz2 := hb.size
    have hbw : Below w.heap.size w w2 := (((Below.refl _ _).alloc (Nat.le_refl _) _).alloc (by simp) _).trans (hb.mono (by simp; omega))
    go_wp2_with fail
    refine hj.mono ?_
    rintro e w3 ⟨rfl, hb3⟩
    go_wp2
    go_ret
    exact ⟨rfl, hbw.trans (hb3.mono hbw.size)⟩
  | some v =>
    obtain ⟨bi, rfl, hbi, hmi, y, hy⟩ := hL.some_ x v hFh
    rw [hFh] at lk
    simp only [Option.getD_some] at lk
    have hbw := hfp bi hbi
    have hne : outL E x ≠ [] := fun e => by have := mem_outL.2 hy; rw [e] at this; cases this
    have hmA : MapV ((w.alloc (.cells #[.map (some bi)] 132)).alloc (.cells #[.map (some bi)] 132)) bi E.length (inner E x) := (hmi.alloc _).alloc _
    have hso := SortedFunc_any ((w.alloc (.cells #[.map (some bi)] 132)).alloc (.cells #[.map (some bi)] 132)) (w.heap.size + 1) w.heap.size bi E.length E x (by simp) (by go_simp) (by simp; omega) (by go_simp) hmA hE hnd hl (fun y hy => by rw [h1 y hy]; decide) hne
    have HL := Lib.hid (And.intro hl h1)
    clear hFh hl h1 hL hfp hmi hmA hne hy
    go_enter Tryd.func106, Tryd.ntmps106
    go_wp2_with fail
    refine (keys_call (some bi) _).mono ?_
    rintro e w1 ⟨rfl, rfl⟩
    go_wp2_with fail
    refine hso.mono ?_
    rintro e w2 ⟨v, rfl, hown, hb⟩
    obtain ⟨av, ac, rfl⟩ := own_form hown
    have hj := join_names w2 _ (outL E x) _ HL.out.1 HL.out.2 hown
    have hbw : Below w.heap.size w w2 := (((Below.refl _ _).alloc (Nat.le_refl _) _).alloc (by simp) _).trans (hb.mono (by simp; omega))
    clear hown
    go_wp2_with fail
    refine hj.mono ?_
    rintro e w3 ⟨rfl, hb3⟩
    go_wp2
    go_ret
    exact ⟨rfl, hbw.trans (hb3.mono hbw.size)⟩
end Go.Proofs.YtdepangkeeehpaaDoor
end

section
/-
  OutOf of the program: the names at the other ends of a block's edges. Conditions: at most 1048576 blocks and edges, each text at most as many bytes; the errors' variables hold errors.
-/
namespace Go.Proofs.YtdepangkeeehpaaDoor
open Go.RowKit Go.Maps

set_option maxRecDepth 100000 in
theorem OutOf_impl (w : World) (bs es : List Pr) (ab ae : Option Addr) (cb ce : Nat) (x : ByteArray) (hx : x.size ≤ 1048576) (hpb : PairsAt w ab bs) (hpe : PairsAt w ae es) (hg : Errs w) :
    Calls Tryd.prog 35 #[.agg #[.slice ab bs.length cb, .slice ae es.length ce], .string x] w fun e w' => e = .returned (outOfV bs es x) ∧ Below w.heap.size w w' := by
  have h1 : Below w.heap.size w (w.alloc (.cells #[.slice ab bs.length cb, .slice ae es.length ce] 30)) := (Below.refl _ _).alloc (Nat.le_refl _) _
  have hpb1 := hpb.below h1
  have hpe1 := hpe.below h1
  have hg1 := hg.keep h1
  have H1 := Lib.hid h1; clear h1
  go_enter Tryd.func35, Tryd.ntmps35
  go_wp2_with fail
  refine (planWith_any _ bs es _ _ _ _ x hx hpb1 hpe1 hg1).mono ?_
  rintro e w1 ⟨hb1, hcase⟩
  have hall : Below w.heap.size w w1 := H1.out.trans (hb1.mono (by simp))
  have hz := hall.size
  rcases hcase with ⟨hv, o, lo, li, rfl, hp⟩ | ⟨hv, rfl⟩
  · have HV := Lib.hid (outV_yes (E := es) hv)
    have HVV := Lib.hid (show Valid bs es by simpa [validB] using (hasB_iff.1 hv).1)
    clear hv
    have hwa : Below w1.heap.size w1 (w1.alloc (.cells #[.map (some o), .map (some lo), .map (some li)] 84)) := (Below.refl _ _).alloc (Nat.le_refl _) _
    obtain ⟨fp, F, hL, hfp⟩ := (hp.keep hwa).out
    have hmem : ∀ y ∈ outL es x, y ∈ names bs := fun y hy => HVV.out.e.to (x, y) (mem_outL.1 hy)
    have hnd : (es : List Pr).Nodup := HVV.out.e.nd
    have hl9 : (outL es x).length ≤ 12 := Nat.le_trans (length_le_of_sub _ (names bs) (outL_nodup hnd x) hmem) (by rw [names_length]; have := HVV.out.b.hi; omega)
    have hE : (es : List Pr).length ≤ 1000 := by have := HVV.out.e.hi; omega
    have hn := namesAt_any _ lo fp es F x hL hfp hx hE hnd hl9 (fun y hy => HVV.out.name_size (hmem y hy))
    clear hL hfp hmem hnd hl9 hE
    go_wp2_with fail
    refine hn.mono ?_
    rintro e w2 ⟨rfl, hb2⟩
    go_wp2
    go_ret2
    exact ⟨by unfold outOfV; rw [HV.out]; rfl, (hall.alloc hz _).trans (hb2.mono (by simp; omega))⟩
  · have HV := Lib.hid (outV_no (E := es) hv)
    clear hv
    go_wp2
    go_ret2
    exact ⟨by unfold outOfV; rw [HV.out]; rfl, hall.alloc hz _⟩
end Go.Proofs.YtdepangkeeehpaaDoor
end

section
/-
  InOf of the program: the names at the other ends of a block's edges. Conditions: at most 1048576 blocks and edges, each text at most as many bytes; the errors' variables hold errors.
-/
namespace Go.Proofs.YtdepangkeeehpaaDoor
open Go.RowKit Go.Maps

set_option maxRecDepth 100000 in
theorem InOf_impl (w : World) (bs es : List Pr) (ab ae : Option Addr) (cb ce : Nat) (x : ByteArray) (hx : x.size ≤ 1048576) (hpb : PairsAt w ab bs) (hpe : PairsAt w ae es) (hg : Errs w) :
    Calls Tryd.prog 36 #[.agg #[.slice ab bs.length cb, .slice ae es.length ce], .string x] w fun e w' => e = .returned (inOfV bs es x) ∧ Below w.heap.size w w' := by
  have h1 : Below w.heap.size w (w.alloc (.cells #[.slice ab bs.length cb, .slice ae es.length ce] 30)) := (Below.refl _ _).alloc (Nat.le_refl _) _
  have hpb1 := hpb.below h1
  have hpe1 := hpe.below h1
  have hg1 := hg.keep h1
  have H1 := Lib.hid h1; clear h1
  go_enter Tryd.func36, Tryd.ntmps36
  go_wp2_with fail
  refine (planWith_any _ bs es _ _ _ _ x hx hpb1 hpe1 hg1).mono ?_
  rintro e w1 ⟨hb1, hcase⟩
  have hall : Below w.heap.size w w1 := H1.out.trans (hb1.mono (by simp))
  have hz := hall.size
  rcases hcase with ⟨hv, o, lo, li, rfl, hp⟩ | ⟨hv, rfl⟩
  · have HV := Lib.hid (outV_yes (E := (flip es)) hv)
    have HVV := Lib.hid (show Valid bs es by simpa [validB] using (hasB_iff.1 hv).1)
    clear hv
    have hwa : Below w1.heap.size w1 (w1.alloc (.cells #[.map (some o), .map (some lo), .map (some li)] 84)) := (Below.refl _ _).alloc (Nat.le_refl _) _
    obtain ⟨fp, F, hL, hfp⟩ := (hp.keep hwa).in_
    have hmem : ∀ y ∈ outL (flip es) x, y ∈ names bs := fun y hy => HVV.out.e.fr (y, x) (mem_flip.1 (mem_outL.1 hy))
    have hnd : ((flip es) : List Pr).Nodup := flip_nodup HVV.out.e.nd
    have hl9 : (outL (flip es) x).length ≤ 12 := Nat.le_trans (length_le_of_sub _ (names bs) (outL_nodup hnd x) hmem) (by rw [names_length]; have := HVV.out.b.hi; omega)
    have hE : ((flip es) : List Pr).length ≤ 1000 := by rw [flip_length]; have := HVV.out.e.hi; omega
    have hn := namesAt_any _ li fp (flip es) F x hL hfp hx hE hnd hl9 (fun y hy => HVV.out.name_size (hmem y hy))
    clear hL hfp hmem hnd hl9 hE
    go_wp2_with fail
    refine hn.mono ?_
    rintro e w2 ⟨rfl, hb2⟩
    go_wp2
    go_ret2
    exact ⟨by unfold inOfV; rw [HV.out]; rfl, (hall.alloc hz _).trans (hb2.mono (by simp; omega))⟩
  · have HV := Lib.hid (outV_no (E := (flip es)) hv)
    clear hv
    go_wp2
    go_ret2
    exact ⟨by unfold inOfV; rw [HV.out]; rfl, hall.alloc hz _⟩
end Go.Proofs.YtdepangkeeehpaaDoor
end
