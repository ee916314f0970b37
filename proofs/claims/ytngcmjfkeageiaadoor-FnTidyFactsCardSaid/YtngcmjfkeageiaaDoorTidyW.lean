/-
  The strings.Builder that stands as the first field of the program's tidier: copyCheck, WriteByte and String. Conditions: the tidier lies in a block of its own, the bytes in a row of its own; at most 1000 bytes.
-/
import Derived.Test.YtngcmjfkeageiaaDoorBlkF
import Derived.Test.YtngcmjfkeageiaaDoorTidyM
import Derived.Test.YtngcmjfkeageiaaDoorShelf
import Derived.Shelf.Strings.BuilderK
import Derived.Deep.AppendLies
import Derived.Lib.OwnKind
namespace Go.Proofs.YtngcmjfkeageiaaDoor
open Go.RowKit Go.Maps

theorem Tryd.sizeBld : (Tryd.prog.info? 184).map (·.size) = some 2 := by kernel_rfl
theorem Tryd.liesBld : liesAt Tryd.prog Tryd.prog.depth 202 (3 / Tryd.prog.cellsOf 202) 0 184 1 = true := by kernel_rfl

/-- a tidier's block -/
abbrev TidH (w : World) (R : Nat) (p vb vt : Value) : Prop := w.heap[R]? = some (.cells #[p, vb, vt] 202 (0, 0))
theorem TidH.cells {w : World} {R : Nat} {p vb vt : Value} (h : TidH w R p vb vt) : w.cell? ⟨R, 0, none⟩ = some p ∧ w.cell? ⟨R, 1, none⟩ = some vb ∧ w.cell? ⟨R, 2, none⟩ = some vt ∧ w.frozen? ⟨R, 0, none⟩ = false ∧ w.frozen? ⟨R, 1, none⟩ = false ∧ w.frozen? ⟨R, 2, none⟩ = false ∧ w.shape? R = some (202, 3) ∧ R < w.heap.size :=
  ⟨by simp [World.cell?, h], by simp [World.cell?, h], by simp [World.cell?, h], by simp [World.frozen?, h], by simp [World.frozen?, h], by simp [World.frozen?, h], by simp [World.shape?, h], (Array.getElem?_eq_some_iff.1 h).1⟩
theorem TidH.set0 {w : World} {R : Nat} {p vb vt : Value} (h : TidH w R p vb vt) (q : Value) : TidH (w.setCell ⟨R, 0, none⟩ q) R q vb vt := heap_setCell_at4 h 0 q
theorem TidH.set1 {w : World} {R : Nat} {p vb vt : Value} (h : TidH w R p vb vt) (q : Value) : TidH (w.setCell ⟨R, 1, none⟩ q) R p q vt := heap_setCell_at4 h 1 q
theorem TidH.set2 {w : World} {R : Nat} {p vb vt : Value} (h : TidH w R p vb vt) (q : Value) : TidH (w.setCell ⟨R, 2, none⟩ q) R p vb q := heap_setCell_at4 h 2 q

set_option maxRecDepth 100000 in
set_option maxHeartbeats 1600000 in
theorem copyCheckT_fresh (R : Nat) (w : World) (vb vt : Value) (h : TidH w R (.pointer none) vb vt) :
    Calls Tryd.prog 169 #[.pointer (some ⟨R, 0, none⟩)] w fun e w' => e = .returned (.tuple #[]) ∧ w' = w.setCell ⟨R, 0, none⟩ (.pointer (some ⟨R, 0, none⟩)) := by
  obtain ⟨j, hj, hjs⟩ := Option.map_eq_some_iff.1 Tryd.sizeBld
  obtain ⟨c0, c1, c2, f0, f1, f2, hsh, hlt⟩ := h.cells
  clear h
  go_enter Tryd.func169, Tryd.ntmps169
  go_wp2
  rw [Lib.run_to_unsafe w ⟨R, 0, none⟩ Tryd.underlying182 Tryd.underlying251 hj (by rw [hjs]; decide) hsh (Nat.zero_lt_succ 2)]
  simp only [Result.andThen]
  rw [Oper.upon_value]
  go_wp2
  rw [run_callFunc_extern Tryd.func193 (by kernel_rfl) (by kernel_rfl) (by kernel_rfl) (e := Extern.AbiNoEscape.same) (by kernel_rfl)]
  rw [Lib.run_noEscape]
  simp only [Result.andThen]
  rw [Oper.upon_value]
  go_wp2
  rw [Lib.run_from_unsafe w ⟨R, 0, none⟩ Tryd.underlying251 Tryd.underlying182 hj hsh Tryd.liesBld]
  simp only [Result.andThen]
  rw [Oper.upon_value]
  go_wp2
  go_end0
  exact ⟨rfl, rfl⟩
set_option maxRecDepth 100000 in
theorem copyCheckT_used (R : Nat) (w : World) (vb vt : Value) (h : TidH w R (.pointer (some ⟨R, 0, none⟩)) vb vt) :
    Calls Tryd.prog 169 #[.pointer (some ⟨R, 0, none⟩)] w fun e w' => e = .returned (.tuple #[]) ∧ w' = w := by
  obtain ⟨j, hj, hjs⟩ := Option.map_eq_some_iff.1 Tryd.sizeBld
  obtain ⟨c0, c1, c2, f0, f1, f2, hsh, hlt⟩ := h.cells
  clear h
  go_enter Tryd.func169, Tryd.ntmps169
  go_wp2
  rw [Lib.run_neq_ptr_same w _ Tryd.underlying182 hj]
  go_wp2
  go_end0
  exact ⟨rfl, rfl⟩
/-- what the tidier's pointer to itself may hold -/
def PtrT (R : Nat) (p : Value) : Prop := p = .pointer none ∨ p = .pointer (some ⟨R, 0, none⟩)
theorem copyCheckT_any (R : Nat) (w : World) (p vb vt : Value) (hp : PtrT R p) (h : TidH w R p vb vt) :
    Calls Tryd.prog 169 #[.pointer (some ⟨R, 0, none⟩)] w fun e w' => e = .returned (.tuple #[]) ∧ TidH w' R (.pointer (some ⟨R, 0, none⟩)) vb vt ∧ (w' = w ∨ w' = w.setCell ⟨R, 0, none⟩ (.pointer (some ⟨R, 0, none⟩))) := by
  rcases hp with rfl | rfl
  · exact (copyCheckT_fresh R w vb vt h).mono fun e w' k => ⟨k.1, by rw [k.2]; exact h.set0 _, .inr k.2⟩
  · exact (copyCheckT_used R w vb vt h).mono fun e w' k => ⟨k.1, by rw [k.2]; exact h, .inl k.2⟩

theorem Tryd.infoByte1 : (Tryd.prog.info? 5).map (fun i => (i.zero, i.size, i.bytes)) = some (some (.int .u8 0), 1, 1) := by kernel_rfl
theorem Tryd.cellsByte1 : Tryd.prog.cellsOf 5 = 1 := by kernel_rfl
theorem cell_u8_new (w : World) (x : Value) : ∀ (j : Nat) u, ([x] : List Value)[j]? = some u → (w.alloc (.cells #[x] 5)).cell? ((⟨w.heap.size, 0, none⟩ : Addr).add j) = some u := by
  intro j u hj
  match j, hj with
  | 0, hj => simp at hj; subst hj; simp [Addr.add]
/-- the tidier behind a call: its block, and its bytes' row -/
structure TidB (base R : Nat) (o : ByteArray) (p vb vt : Value) (w : World) : Prop where
  lo : base ≤ R
  ptr : PtrT R p
  blk : TidH w R p vb vt
  row : w.ownsRow base 5 1 vb o.size (Lib.byteCells o.data.toList)
  nil : o.size = 0 → vb = .slice none 0 0

set_option maxRecDepth 100000 in
set_option maxHeartbeats 1600000 in
theorem WriteByteT_any (base R : Nat) (o : ByteArray) (c : UInt8) (i : Int) (hc : i = (c.toNat : Int)) (p vb vt : Value) (w : World) (h : TidB base R o p vb vt w) (hlen : o.size ≤ 1000) (hB : base ≤ w.heap.size) :
    Calls Tryd.prog 131 #[.pointer (some ⟨R, 0, none⟩), .int .u8 i] w fun e w' => e = .returned .nilIface ∧ (∃ p' vb', TidB base R (o ++ ⟨#[c]⟩) p' vb' vt w') ∧ Below base w w' ∧ Lib.OthersKept 5 (some R) w w' := by
  subst hc
  obtain ⟨i0, hi, hz0, hz1, hz2⟩ := info_parts Tryd.infoByte1
  go_enter Tryd.func131, Tryd.ntmps131
  go_wp2_with (go_at_call 169; refine (copyCheckT_any R _ p vb vt h.ptr h.blk).mono ?_)
  rintro e w1 ⟨rfl, h1, hw1⟩
  have hb1 : Below base w w1 := by
    rcases hw1 with rfl | rfl
    · exact Below.refl _ _
    · exact (Below.refl _ _).setCell (p := ⟨R, 0, none⟩) h.lo _
  have hk1 : Lib.OthersKept 5 (some R) w w1 := by
    rcases hw1 with rfl | rfl
    · exact Lib.OthersKept.refl _ _ _
    · exact (Lib.OthersKept.refl _ _ w).setCell ⟨R, 0, none⟩ rfl _
  have hneR : vb.ownBlock ≠ some R := by
    intro e
    obtain ⟨c', fz, hcc⟩ := Lib.ownsRow_kind h.row R e
    have := h.blk.symm.trans hcc
    simp only [Option.some.injEq, Obj.cells.injEq] at this
    exact absurd this.2.1 (by decide)
  have hown1 : w1.ownsRow base 5 1 vb o.size (Lib.byteCells o.data.toList) := by
    rcases hw1 with rfl | rfl
    · exact h.row
    · refine h.row.kept (row := some R) ⟨rfl, rfl, rfl, by simp [World.setCell], fun k _ hk => Below.heap_setCell _ _ _ _ (fun e => hk (by simp [e]))⟩ ?_
      exact Or.inr hneR
  obtain ⟨c0, c1, c2, f0, f1, f2, hsh, hlt⟩ := h1.cells
  have HK := Lib.hid (And.intro h1 (And.intro hb1 (And.intro hk1 (And.intro hneR (And.intro hown1 h)))))
  have hsz := hb1.size
  clear hw1 h1 hb1 hk1 h
  go_wp2_with (at_builtin; refine wpList_append_lies _ rfl _ _ 36 rfl base 5 i0 (.int .u8 0) 1 1 Tryd.underlying36 hi hz0 hz1 hz2 rfl (by decide) _ _ _ rfl (hown1.alloc _) ⟨w1.heap.size, 0, none⟩ 1 1 [.int .u8 (c.toNat : Int)] rfl rfl (cell_u8_new _ _) (by intro u hu; simp at hu; subst hu; rfl) (by decide) (by unfold maxLen; omega) (by omega) (by simp; omega) _ rfl ?_)
  intro g' cap' w3 hown3 hgrow3 _ _
  have hb2 : TidH w3 R (.pointer (some ⟨R, 0, none⟩)) vb vt := by
    show w3.heap[R]? = _
    rw [hgrow3.block R (by simp; omega) (fun e => hneR e.symm), Lib.alloc_old w1 _ R hlt]
    exact HK.out.1
  obtain ⟨d0, d1, d2, q0, q1, q2, _, _⟩ := hb2.cells
  go_wp2
  go_ret
  refine ⟨rfl, ⟨_, _, ⟨HK.out.2.2.2.2.2.lo, .inr rfl, hb2.set1 _, ?_, ?_⟩⟩, ?_, ?_⟩
  · have hne3 : (Value.slice (some ⟨g', 0, none⟩) (o.size + 1) cap').ownBlock ≠ some R := by
      intro e
      obtain ⟨c', fz, hcc⟩ := Lib.ownsRow_kind hown3 R e
      have := hb2.symm.trans hcc
      simp only [Option.some.injEq, Obj.cells.injEq] at this
      exact absurd this.2.1 (by decide)
    have hs2 : (o ++ (⟨#[c]⟩ : ByteArray)).size = o.size + 1 := by rw [ByteArray.size_append]; rfl
    have hx2 : Lib.byteCells (o ++ (⟨#[c]⟩ : ByteArray)).data.toList = Lib.byteCells o.data.toList ++ [.int .u8 (c.toNat : Int)] := by
      rw [ByteArray.data_append, Array.toList_append, Lib.byteCells_append]; rfl
    rw [hs2, hx2]
    exact hown3.kept (row := some R) ⟨rfl, rfl, rfl, by simp [World.setCell], fun k _ hk => Below.heap_setCell _ _ _ _ (fun e => hk (by simp [e]))⟩ (Or.inr hne3)
  · intro e
    rw [ByteArray.size_append] at e
    have : (⟨#[c]⟩ : ByteArray).size = 1 := rfl
    omega
  · exact ((HK.out.2.1.alloc (by omega) _).grown hgrow3 (by simp; omega) (fun k hk => (HK.out.2.2.2.2.1.lt k hk).1)).setCell (p := ⟨R, 1, none⟩) HK.out.2.2.2.2.2.lo _
  · exact ((HK.out.2.2.1.alloc _).grown hgrow3 (Lib.ownsRow_kind (HK.out.2.2.2.2.1.alloc _))).setCell ⟨R, 1, none⟩ rfl _
end Go.Proofs.YtngcmjfkeageiaaDoor
