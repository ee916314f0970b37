/-
  Maps keyed by texts, whatever their elements: what a block holds as a function of the key, and Go's operations on it. Conditions: a key has at most 2^63 - 1 bytes.
-/
import Derived.Test.YtfmhcjhcmoniaaaDoorWords
import Derived.Maps.RangeWalk
import Derived.Maps.OwnSet
import Derived.Maps.Ext
namespace Go.Proofs.YtfmhcjhcmoniaaaDoor
open Go.RowKit Go.Maps

/-- an element is read as itself -/
def hR (v : Value) : Option (DataW Value × List MemPlace) := some (.held v, [])
def kS (s : ByteArray) : Lit := .string s.data.toList
theorem kS_inj {a b : ByteArray} : kS a = kS b ↔ a = b := by
  unfold kS
  constructor
  · intro h
    simp only [Lit.string.injEq] at h
    exact ByteArray.ext (Array.toList_inj.1 h)
  · rintro rfl; rfl
theorem keyed : Keyed Tryd.prog 9 := string_keyed Tryd.underlying9
theorem keyOfS {s : ByteArray} (h : s.size ≤ maxLen) : keyOf Tryd.prog 9 (.string s) = some (kS s) := WideMaps.keyOf_string_mk Tryd.underlying9 h
theorem isKeyS (s : ByteArray) : WideAt.IsKeyLit (kS s) := by unfold kS; trivial

/-- the datum D holds at each text what f says -/
def AtF (D : DataW Value) (f : ByteArray → Option Value) : Prop := ∀ s, (∀ z, D.atKey (kS s) (.held z) = .held ((f s).getD z)) ∧ Maps.has D (kS s) = (f s).isSome
theorem AtF.empty : AtF (.map []) (fun _ => none) := fun _ => ⟨fun _ => rfl, rfl⟩
theorem AtF.put {D : DataW Value} {f : ByteArray → Option Value} (h : AtF D f) (hD : IsMap D) (s : ByteArray) (v : Value) : AtF (D.put (kS s) (.held v)) (fun x => if x = s then some v else f x) := by
  intro x
  by_cases e : x = s
  · subst e
    simp only [if_true]
    exact ⟨fun z => atKey_put_same hD (isKeyS x) _ _, has_put_same hD (isKeyS x) _⟩
  · have hne : kS x ≠ kS s := fun h' => e (kS_inj.1 h')
    simp only [if_neg e]
    exact ⟨fun z => by rw [atKey_put_other hne]; exact (h x).1 z, by rw [has_put_other hne]; exact (h x).2⟩

/-- block b is a map of at most n entries that holds at each text what f says -/
def MapV (w : World) (b n : Nat) (f : ByteArray → Option Value) : Prop :=
  ∃ D : DataW Value, w.ownsMap Tryd.prog 9 hR b n D ∧ AtF D f
section
variable {w w' : World} {b n : Nat} {f : ByteArray → Option Value}
theorem MapV.lt (h : MapV w b n f) : b < w.heap.size := by obtain ⟨D, h, _⟩ := h; exact h.lt
theorem MapV.mono {n' : Nat} (h : MapV w b n f) (hn : n ≤ n') : MapV w b n' f := by obtain ⟨D, h, k⟩ := h; exact ⟨D, h.mono hn, k⟩
theorem MapV.made (w : World) : MapV (w.alloc (.map #[] 0)) w.heap.size 0 (fun _ => none) := ⟨.map [], World.ownsMap_made _ _ _ _, .empty⟩
theorem MapV.kept {row : Option Nat} (h : MapV w b n f) (hg : w.grownBy w' row) (hne : some b ≠ row) : MapV w' b n f := by obtain ⟨D, h, k⟩ := h; exact ⟨D, h.kept hg hne, k⟩
theorem MapV.alloc (h : MapV w b n f) (o : Obj) : MapV (w.alloc o) b n f := h.kept (World.grownBy_alloc w o none) (by simp)
theorem MapV.drew (h : MapV w b n f) : MapV w.drew b n f := h
theorem MapV.same (h : MapV w b n f) (e : w'.heap[b]? = w.heap[b]?) : MapV w' b n f := by
  obtain ⟨D, ⟨es, clock, hb, r⟩, k⟩ := h
  exact ⟨D, ⟨es, clock, e.trans hb, r⟩, k⟩
theorem MapV.below {B : Nat} (h : MapV w b n f) (hb : Below B w w') (hB : b < B) : MapV w' b n f := h.same (hb.block b hB)
theorem MapV.setCell (h : MapV w b n f) {a : Addr} (ha : b ≠ a.block) (u : Value) : MapV (w.setCell a u) b n f := h.same (Below.heap_setCell _ _ _ _ ha)
/-- 'm[k]', with 'ok' and without -/
theorem MapV.look {t e : TypeId} (h : MapV w b n f) (ht : Tryd.prog.underlying t = some (.map 9 e)) {z : Value} (hz : (zeroValue e).run Tryd.prog w = .ok z w) {s : ByteArray} (hs : s.size ≤ maxLen) :
    (Instr.lookup t (.map (some b)) (.string s) false).run Tryd.prog w = .ok ((f s).getD z) w := by
  obtain ⟨D, h, k⟩ := h
  obtain ⟨v, ps, hrun, hv⟩ := h.lookup keyed ht hz (zd := .held z) rfl (keyOfS hs)
  rw [(k s).1] at hv
  simp only [hR, Option.some.injEq, Prod.mk.injEq, DataW.held.injEq] at hv
  rw [hrun, hv.1]
theorem MapV.look_ok {t e : TypeId} (h : MapV w b n f) (ht : Tryd.prog.underlying t = some (.map 9 e)) {z : Value} (hz : (zeroValue e).run Tryd.prog w = .ok z w) {s : ByteArray} (hs : s.size ≤ maxLen) :
    (Instr.lookup t (.map (some b)) (.string s) true).run Tryd.prog w = .ok (.tuple #[(f s).getD z, .bool (f s).isSome]) w := by
  obtain ⟨D, h, k⟩ := h
  obtain ⟨v, ps, hrun, hv⟩ := h.look_ok keyed ht hz (zd := .held z) rfl (keyOfS hs)
  rw [(k s).1] at hv
  simp only [hR, Option.some.injEq, Prod.mk.injEq, DataW.held.injEq] at hv
  rw [hrun, hv.1, (k s).2]
theorem look_nil {t e : TypeId} (ht : Tryd.prog.underlying t = some (.map 9 e)) {z : Value} (hz : (zeroValue e).run Tryd.prog w = .ok z w) {s : ByteArray} (hs : s.size ≤ maxLen) :
    (Instr.lookup t (.map none) (.string s) false).run Tryd.prog w = .ok z w := by
  simpa using Maps.look_nil false keyed ht hz (keyOfS hs)
theorem look_nil_ok {t e : TypeId} (ht : Tryd.prog.underlying t = some (.map 9 e)) {z : Value} (hz : (zeroValue e).run Tryd.prog w = .ok z w) {s : ByteArray} (hs : s.size ≤ maxLen) :
    (Instr.lookup t (.map none) (.string s) true).run Tryd.prog w = .ok (.tuple #[z, .bool false]) w := by
  simpa using Maps.look_nil true keyed ht hz (keyOfS hs)
/-- 'm[k] = v' -/
theorem MapV.put {t e : TypeId} (h : MapV w b n f) (ht : Tryd.prog.underlying t = some (.map 9 e)) (hn : n < maxLen) {s : ByteArray} (hs : s.size ≤ maxLen) (v : Value) :
    ∃ w', (Instr.mapUpdate t (.map (some b)) (.string s) v).run Tryd.prog w = .ok () w' ∧ MapV w' b (n + 1) (fun x => if x = s then some v else f x) ∧ w.grownBy w' (some b) ∧ w'.heap.size = w.heap.size := by
  obtain ⟨D, h, k⟩ := h
  obtain ⟨w', hrun, h', ht'⟩ := h.store keyed ht hn (keyOfS hs) (d := .held v) (ps := []) rfl
  refine ⟨w', hrun, ⟨_, h', k.put h.isMap s v⟩, ht'.grown, ?_⟩
  obtain ⟨es, clock, es', clock', _, rfl⟩ := ht'
  simp [ChangeMaps.setBlock]
theorem MapV.isMap (h : MapV w b n f) : ∃ D : DataW Value, w.ownsMap Tryd.prog 9 hR b n D ∧ AtF D f := h
end

section
variable (w : World) {ops : Array Oper} {rest : List Oper} {o : Oper} {a : Act} {Q : Exit → Act → World → Prop}
theorem wpList_lookV (hg : o.guard = none) (m x : Operand) (t : TypeId) (hop : o.op = Op.lookup t m x false) (e : TypeId) (ht : Tryd.prog.underlying t = some (.map 9 e)) {z : Value} (hz : (zeroValue e).run Tryd.prog w = .ok z w) (b n : Nat) (f : ByteArray → Option Value)
    (hm : a.eval m = .map (some b)) (h : MapV w b n f) (s : ByteArray) (hx : a.eval x = .string s) (hs : s.size ≤ maxLen) (hK : wpList Tryd.prog ops Q rest (a.put o.dst ((f s).getD z)) w) : wpList Tryd.prog ops Q (o :: rest) a w := by
  refine wpList_plain hg fun K' hK' => ?_
  have hrun := h.look ht hz hs
  unfold Oper.wp
  simp [execOp, hop, hm, hx, hrun, Result.andThen]
  exact hK' _ _ hK
theorem wpList_lookV_ok (hg : o.guard = none) (m x : Operand) (t : TypeId) (hop : o.op = Op.lookup t m x true) (e : TypeId) (ht : Tryd.prog.underlying t = some (.map 9 e)) {z : Value} (hz : (zeroValue e).run Tryd.prog w = .ok z w) (b n : Nat) (f : ByteArray → Option Value)
    (hm : a.eval m = .map (some b)) (h : MapV w b n f) (s : ByteArray) (hx : a.eval x = .string s) (hs : s.size ≤ maxLen) (hK : wpList Tryd.prog ops Q rest (a.put o.dst (.tuple #[(f s).getD z, .bool (f s).isSome])) w) : wpList Tryd.prog ops Q (o :: rest) a w := by
  refine wpList_plain hg fun K' hK' => ?_
  have hrun := h.look_ok ht hz hs
  unfold Oper.wp
  simp [execOp, hop, hm, hx, hrun, Result.andThen]
  exact hK' _ _ hK
theorem wpList_putV (hg : o.guard = none) (m x v : Operand) (t : TypeId) (hop : o.op = Op.mapUpdate t m x v) (e : TypeId) (ht : Tryd.prog.underlying t = some (.map 9 e)) (b n : Nat) (f : ByteArray → Option Value)
    (hm : a.eval m = .map (some b)) (h : MapV w b n f) (hn : n < maxLen) (s : ByteArray) (hx : a.eval x = .string s) (hs : s.size ≤ maxLen) (val : Value) (hv : a.eval v = val)
    (hK : ∀ w', MapV w' b (n + 1) (fun x => if x = s then some val else f x) → w.grownBy w' (some b) → w'.heap.size = w.heap.size → wpList Tryd.prog ops Q rest (a.put o.dst undef) w') : wpList Tryd.prog ops Q (o :: rest) a w := by
  refine wpList_plain hg fun K' hK' => ?_
  obtain ⟨w', hrun, h1, h2, h3⟩ := h.put ht hn hs val
  unfold Oper.wp
  simp [execOp, hop, hm, hx, hv, hrun, Result.andThen]
  exact hK' _ _ (hK w' h1 h2 h3)
end
end Go.Proofs.YtfmhcjhcmoniaaaDoor
