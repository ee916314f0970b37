/-
  What the rows of this seat share: the errors' variables read off the rows' lists, a world for the witness, arguments opened, results shut. Conditions: none.
-/
import Derived.Test.YtfmhcjhcmoniaaaDoorPlan
import Derived.Test.YtfmhcjhcmoniaaaDoorEq
import Derived.ProofKit
import Derived.OpenShut
import Derived.Deep.DeepHandedRow
import Derived.Deep.Slices
import Derived.Deep.Fields
import Derived.Lib.SmallJoins
import Derived.ChangeSame
import Derived.Stop.LaidErr
import Derived.LaidLaws
namespace Go.Proofs.YtfmhcjhcmoniaaaDoor
open Go.ChangeShapes Go.WideShapes Go.ChangeAt Go.RowKit Go.Joins Go.Deep
set_option maxRecDepth 100000

theorem Tryd.own : ownKnob Tryd.prog.godebug = none := by kernel_rfl
theorem Tryd.cellsStr : Tryd.prog.cellsOf 9 = 1 := by kernel_rfl
theorem Tryd.cellsES : Tryd.prog.cellsOf 194 = 1 := by kernel_rfl
theorem Tryd.star : "*" ++ "errors.errorString" = "*errors.errorString" := by decide
theorem Tryd.rowES (u : TypeId) (h : Tryd.prog.typeName? 3 u = some "*errors.errorString") : u = 176 :=
  typeName_ptr_named (nm := "errors.errorString") (by rw [Tryd.star]; kernel_rfl) (by kernel_rfl) (by decide) u (by rw [Tryd.star]; exact h)
theorem Tryd.errLt : 90 < Tryd.prog.types.size := of_decide_eq_true (by kernel_rfl)
theorem Tryd.laidOut : laidOutB Tryd.prog = true := by kernel_rfl

/-- one listed error, and the rest of the list -/
theorem err_of_laid {n : String} {text : List UInt8} {r : List (String × DataW Unit)} {W : World} {g : Nat}
    (h : laidMet Tryd.prog ((n, .iface "*errors.errorString" (.ptr (.agg [.lit (.string text)]))) :: r) W) (hg : Tryd.prog.globalNamed n = some g) (ht : (Tryd.prog.globals[g]?).map (·.type) = some 90) : ErrAt W g ∧ laidMet Tryd.prog r W := by
  obtain ⟨a, s, hv, _⟩ := laid_sentinel h hg ht Tryd.underlying90 Tryd.rowES Tryd.underlying176 Tryd.underlying194 rfl rfl Tryd.underlying9 Tryd.cellsES Tryd.cellsStr
  have hc : W.cell? ⟨g, 0, none⟩ = some (.iface 176 (.pointer (some a))) := by simpa using World.var?_cell hg hv 0
  exact ⟨⟨World.block_lt_of_cell? _ _ hc, _, _, hc⟩, laidMet.tail h⟩

/-- the named variables read as they did -/
theorem vars_below {H : Type} {enc : TypeId × Value → H} {W W' : World} {sp : Nat → Bool} (hb : Below W.heap.size W W') : ∀ {ns : List String} {gs : List (DataW H)} {ps : List MemPlace},
    (∀ n ∈ ns, ∀ g t, Tryd.prog.globalNamed n = some g → (Tryd.prog.globals[g]?).map (·.type) = some t → t = 90) → (∀ p ∈ ps, p.block < W.heap.size) → (∀ p ∈ ps, sp p.block = true) →
    DataW.TrodVars enc Tryd.prog W (fun _ => true) ns gs ps → DataW.TrodVars enc Tryd.prog W' sp ns gs ps
  | [], [], _, _, _, _, h => h
  | [], _ :: _, _, _, _, _, h => h.elim
  | _ :: _, [], _, _, _, _, h => h.elim
  | n :: ns, d :: ds, ps, hT, hlt, hsp, ⟨g, t, cs, fuel, p, q, hg, ht, hv, htr, hr, e⟩ => by
    subst e
    obtain rfl := hT n (by simp) g t hg ht
    have hgl : g < W.heap.size := by
      unfold World.var? at hv
      rw [hg] at hv
      simp only [Option.bind_some] at hv
      rcases Nat.lt_or_ge g W.heap.size with h | h
      · exact h
      · rw [Array.getElem?_eq_none h] at hv; cases hv
    have hv' : W'.var? Tryd.prog n = some cs := by
      unfold World.var? at hv ⊢
      rw [hg] at hv ⊢
      simp only [Option.bind_some] at hv ⊢
      rw [hb.block g hgl]; exact hv
    refine ⟨g, _, cs, fuel, p, q, hg, ht, hv', ?_, vars_below hb (fun m hm => hT m (List.mem_cons_of_mem _ hm)) (fun x hx => hlt x (by simp [hx])) (fun x hx => hsp x (by simp [hx])) hr, rfl⟩
    have hrr : Tryd.prog.readableRec 90 = true := by kernel_rfl
    exact DataW.trod_stays (Go.kids_book Tryd.laidOut hrr) (Go.book_sized hrr) (fun h => by cases h) ⟨Tryd.errLt, Go.book_self _⟩ htr (fun x hx => hb.same (hlt x (by simp [hx]))) (fun x hx => hsp x (by simp [hx]))

/-- an argument that is a slice of pairs of texts -/
theorem open_pairs {H : Type} {enc : TypeId × Value → H} {W : World} {t e : TypeId} {f0 f1 : Field} (ht : Tryd.prog.underlying t = some (.slice e)) (he : Tryd.prog.underlying e = some (.struct #[f0, f1])) (hone : oneCellFields Tryd.prog #[f0, f1] = true) (hC : Tryd.prog.cellsOf e = 2)
    (h0 : Tryd.prog.underlying f0.type = some .string) (h1 : Tryd.prog.underlying f1.type = some .string) {fuel : Nat} {cs : List Value} {x : DataW H × List MemPlace} (h : DataW.trod enc Tryd.prog W 0 (fun _ => true) true fuel t cs = some x) :
    ∃ (a : Option Addr) (l : List Pr) (cap' : Nat), cs = [.slice a l.length cap'] ∧ PairsRaw W a l := by
  rcases open_slice ht h with ⟨hc, _⟩ | ⟨a, len, cap', m, n, D, Pl, hcs, _, hlc, hcm, hm, _, hi⟩
  · exact ⟨none, [], 0, hc, ⟨by simp [maxLen], fun i hi => by simp at hi, fun i hi => by simp at hi⟩⟩
  · simp only [if_true] at hm
    subst hm
    have key : ∀ i, i < len → ∃ s u : ByteArray, W.cell? (a.add (i * 2)) = some (.string s) ∧ W.cell? (a.add (i * 2 + 1)) = some (.string u) ∧ s.size ≤ maxLen ∧ u.size ≤ maxLen := by
      intro i hil
      obtain ⟨cs', hcell, htr⟩ := hi i (by omega)
      rw [hC] at hcell
      obtain ⟨y0, y1, n', _, hlen, g0, g1⟩ := trod_struct2 he htr
      obtain ⟨_, hcl, hat⟩ := World.cells?_some hcell
      obtain ⟨o0, k0⟩ := hone_of hone 0 f0 rfl
      obtain ⟨o1, k1⟩ := hone_of hone 1 f1 rfl
      rw [o0, k0] at g0
      rw [o1, k1] at g1
      obtain ⟨c0, c1, rfl⟩ : ∃ c0 c1, cs' = [c0, c1] := by
        rcases cs' with _ | ⟨c0, _ | ⟨c1, _ | ⟨c2, r⟩⟩⟩
        · simp at hcl
        · simp at hcl
        · exact ⟨c0, c1, rfl⟩
        · simp at hcl
      simp only [List.drop_zero, List.take_succ_cons, List.take_zero, List.drop_succ_cons] at g0 g1
      obtain ⟨s, q0, _, hs⟩ := DataW.trod_string h0 g0
      obtain ⟨u, q1, _, hu⟩ := DataW.trod_string h1 g1
      simp only [List.cons.injEq, and_true] at q0 q1
      subst q0 q1
      exact ⟨s, u, by rw [show a.add (i * 2) = (a.add (i * 2)).add 0 from (by rw [Go.Deep.add_add, Nat.add_zero])]; simpa using hat 0 (by omega), by rw [← Go.Deep.add_add]; simpa using hat 1 (by omega), hs, hu⟩
    obtain ⟨f, hf⟩ : ∃ f : Nat → Pr, ∀ i, i < len → W.cell? (a.add (i * 2)) = some (.string (f i).1) ∧ W.cell? (a.add (i * 2 + 1)) = some (.string (f i).2) ∧ (f i).1.size ≤ maxLen ∧ (f i).2.size ≤ maxLen := by
      refine ⟨fun i => if h : i < len then (Classical.choose (key i h), Classical.choose (Classical.choose_spec (key i h))) else (e0, e0), fun i hi => ?_⟩
      simp only [dif_pos hi]
      exact Classical.choose_spec (Classical.choose_spec (key i hi))
    have hn : ∀ i, i < len → nameAt ((List.range len).map f) i = (f i).1 ∧ restAt ((List.range len).map f) i = (f i).2 := fun i hi => by
      unfold nameAt restAt
      simp [List.getD_eq_getElem?_getD, hi]
    refine ⟨some a, (List.range len).map f, m, by simpa using hcs, ⟨by simp; omega, fun i hi => ?_, fun i hi => ?_⟩⟩
    · have hi' : i < len := by simpa using hi
      rw [(hn i hi').1, (hn i hi').2]; exact (hf i hi').2.2
    · have hi' : i < len := by simpa using hi
      rw [(hn i hi').1, (hn i hi').2]
      obtain ⟨b, off, spot⟩ := a
      have hc0 := (hf 0 (by omega)).1
      have hc := (hf i hi').1
      have hspot : spot = none := by simpa [Addr.add] using World.cell?_spot hc0
      subst hspot
      refine ⟨b, off, rfl, ?_, ?_, ?_⟩
      · have := World.block_lt_of_cell? _ _ hc
        rwa [Go.WideShapes.add_plain] at this
      · rw [← Go.WideShapes.add_plain]; exact hc
      · rw [Nat.add_assoc, ← Go.WideShapes.add_plain]; exact (hf i hi').2.1
end Go.Proofs.YtfmhcjhcmoniaaaDoor
