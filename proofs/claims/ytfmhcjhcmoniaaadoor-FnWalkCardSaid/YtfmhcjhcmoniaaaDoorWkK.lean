import Derived.Test.YtfmhcjhcmoniaaaDoorPlan
import Derived.Test.YtfmhcjhcmoniaaaDoorEq
import Derived.ProofKit
import Derived.OpenShut
import Derived.Deep.DeepHandedRow
import Derived.Deep.Slices
import Derived.Deep.Fields
import Derived.Lib.SmallJoins
import Derived.ChangeSame
import Derived.Stop.LaidErr
import Derived.LaidLaws
import Derived.Test.YtfmhcjhcmoniaaaDoorCards
import Derived.Test.YtfmhcjhcmoniaaaDoorTie
import Derived.Test.YtfmhcjhcmoniaaaDoorOpen
import Derived.ChangeSlices
section
/-
  What the rows of this seat share: the errors' variables read off the rows' lists, a world for the witness, arguments opened, results shut. Conditions: none.
-/
namespace Go.Proofs.YtfmhcjhcmoniaaaDoor
open Go.ChangeShapes Go.WideShapes Go.ChangeAt Go.RowKit Go.Joins Go.Deep
set_option maxRecDepth 100000

theorem Tryd.own : ownKnob Tryd.prog.godebug = none := by kernel_rfl
theorem Tryd.cellsStr : Tryd.prog.cellsOf 9 = 1 := by kernel_rfl
theorem Tryd.cellsES : Tryd.prog.cellsOf 194 = 1 := by kernel_rfl
theorem Tryd.star : "*" ++ "errors.errorString" = "*errors.errorString" := by decide
theorem Tryd.rowES (u : TypeId) (h : Tryd.prog.typeName? 3 u = some "*errors.errorString") : u = 176 :=
  typeName_ptr_named (nm := "errors.errorString") (by rw [Tryd.star]; kernel_rfl) (by kernel_rfl) (by decide) u (by rw [Tryd.star]; exact h)
theorem Tryd.errLt : 90 < Tryd.prog.types.size := of_decide_eq_true (by kernel_rfl)
theorem Tryd.laidOut : laidOutB Tryd.prog = true := by kernel_rfl

/-- one listed error, and the rest of the list -/
theorem err_of_laid {n : String} {text : List UInt8} {r : List (String × DataW Unit)} {W : World} {g : Nat}
    (h : laidMet Tryd.prog ((n, .iface "*errors.errorString" (.ptr (.agg [.lit (.string text)]))) :: r) W) (hg : Tryd.prog.globalNamed n = some g) (ht : (Tryd.prog.globals[g]?).map (·.type) = some 90) : ErrAt W g ∧ laidMet Tryd.prog r W := by
  obtain ⟨a, s, hv, _⟩ := laid_sentinel h hg ht Tryd.underlying90 Tryd.rowES Tryd.underlying176 Tryd.underlying194 rfl rfl Tryd.underlying9 Tryd.cellsES Tryd.cellsStr
  have hc : W.cell? ⟨g, 0, none⟩ = some (.iface 176 (.pointer (some a))) := by simpa using World.var?_cell hg hv 0
  exact ⟨⟨World.block_lt_of_cell? _ _ hc, _, _, hc⟩, laidMet.tail h⟩

/-- the named variables read as they did -/
theorem vars_below {H : Type} {enc : TypeId × Value → H} {W W' : World} {sp : Nat → Bool} (hb : Below W.heap.size W W') : ∀ {ns : List String} {gs : List (DataW H)} {ps : List MemPlace},
    (∀ n ∈ ns, ∀ g t, Tryd.prog.globalNamed n = some g → (Tryd.prog.globals[g]?).map (·.type) = some t → t = 90) → (∀ p ∈ ps, p.block < W.heap.size) → (∀ p ∈ ps, sp p.block = true) →
    DataW.TrodVars enc Tryd.prog W (fun _ => true) ns gs ps → DataW.TrodVars enc Tryd.prog W' sp ns gs ps
  | [], [], _, _, _, _, h => h
  | [], _ :: _, _, _, _, _, h => h.elim
  | _ :: _, [], _, _, _, _, h => h.elim
  | n :: ns, d :: ds, ps, hT, hlt, hsp, ⟨g, t, cs, fuel, p, q, hg, ht, hv, htr, hr, e⟩ => by
    subst e
    obtain rfl := hT n (by simp) g t hg ht
    have hgl : g < W.heap.size := by
      unfold World.var? at hv
      rw [hg] at hv
      simp only [Option.bind_some] at hv
      rcases Nat.lt_or_ge g W.heap.size with h | h
      · exact h
      · rw [Array.getElem?_eq_none h] at hv; cases hv
    have hv' : W'.var? Tryd.prog n = some cs := by
      unfold World.var? at hv ⊢
      rw [hg] at hv ⊢
      simp only [Option.bind_some] at hv ⊢
      rw [hb.block g hgl]; exact hv
    refine ⟨g, _, cs, fuel, p, q, hg, ht, hv', ?_, vars_below hb (fun m hm => hT m (List.mem_cons_of_mem _ hm)) (fun x hx => hlt x (by simp [hx])) (fun x hx => hsp x (by simp [hx])) hr, rfl⟩
    have hrr : Tryd.prog.readableRec 90 = true := by kernel_rfl
    exact DataW.trod_stays (Go.kids_book Tryd.laidOut hrr) (Go.book_sized hrr) (fun h => by cases h) ⟨Tryd.errLt, Go.book_self _⟩ htr (fun x hx => hb.same (hlt x (by simp [hx]))) (fun x hx => hsp x (by simp [hx]))

/-- an argument that is a slice of pairs of texts -/
theorem open_pairs {H : Type} {enc : TypeId × Value → H} {W : World} {t e : TypeId} {f0 f1 : Field} (ht : Tryd.prog.underlying t = some (.slice e)) (he : Tryd.prog.underlying e = some (.struct #[f0, f1])) (hone : oneCellFields Tryd.prog #[f0, f1] = true) (hC : Tryd.prog.cellsOf e = 2)
    (h0 : Tryd.prog.underlying f0.type = some .string) (h1 : Tryd.prog.underlying f1.type = some .string) {fuel : Nat} {cs : List Value} {x : DataW H × List MemPlace} (h : DataW.trod enc Tryd.prog W 0 (fun _ => true) true fuel t cs = some x) :
    ∃ (a : Option Addr) (l : List Pr) (cap' : Nat), cs = [.slice a l.length cap'] ∧ PairsRaw W a l := by
  rcases open_slice ht h with ⟨hc, _⟩ | ⟨a, len, cap', m, n, D, Pl, hcs, _, hlc, hcm, hm, _, hi⟩
  · exact ⟨none, [], 0, hc, ⟨by simp [maxLen], fun i hi => by simp at hi, fun i hi => by simp at hi⟩⟩
  · simp only [if_true] at hm
    subst hm
    have key : ∀ i, i < len → ∃ s u : ByteArray, W.cell? (a.add (i * 2)) = some (.string s) ∧ W.cell? (a.add (i * 2 + 1)) = some (.string u) ∧ s.size ≤ maxLen ∧ u.size ≤ maxLen := by
      intro i hil
      obtain ⟨cs', hcell, htr⟩ := hi i (by omega)
      rw [hC] at hcell
      obtain ⟨y0, y1, n', _, hlen, g0, g1⟩ := trod_struct2 he htr
      obtain ⟨_, hcl, hat⟩ := World.cells?_some hcell
      obtain ⟨o0, k0⟩ := hone_of hone 0 f0 rfl
      obtain ⟨o1, k1⟩ := hone_of hone 1 f1 rfl
      rw [o0, k0] at g0
      rw [o1, k1] at g1
      obtain ⟨c0, c1, rfl⟩ : ∃ c0 c1, cs' = [c0, c1] := by
        rcases cs' with _ | ⟨c0, _ | ⟨c1, _ | ⟨c2, r⟩⟩⟩
        · simp at hcl
        · simp at hcl
        · exact ⟨c0, c1, rfl⟩
        · simp at hcl
      simp only [List.drop_zero, List.take_succ_cons, List.take_zero, List.drop_succ_cons] at g0 g1
      obtain ⟨s, q0, _, hs⟩ := DataW.trod_string h0 g0
      obtain ⟨u, q1, _, hu⟩ := DataW.trod_string h1 g1
      simp only [List.cons.injEq, and_true] at q0 q1
      subst q0 q1
      exact ⟨s, u, by rw [show a.add (i * 2) = (a.add (i * 2)).add 0 from (by rw [Go.Deep.add_add, Nat.add_zero])]; simpa using hat 0 (by omega), by rw [← Go.Deep.add_add]; simpa using hat 1 (by omega), hs, hu⟩
    obtain ⟨f, hf⟩ : ∃ f : Nat → Pr, ∀ i, i < len → W.cell? (a.add (i * 2)) = some (.string (f i).1) ∧ W.cell? (a.add (i * 2 + 1)) = some (.string (f i).2) ∧ (f i).1.size ≤ maxLen ∧ (f i).2.size ≤ maxLen := by
      refine ⟨fun i => if h : i < len then (Classical.choose (key i h), Classical.choose (Classical.choose_spec (key i h))) else (e0, e0), fun i hi => ?_⟩
      simp only [dif_pos hi]
      exact Classical.choose_spec (Classical.choose_spec (key i hi))
    have hn : ∀ i, i < len → nameAt ((List.range len).map f) i = (f i).1 ∧ restAt ((List.range len).map f) i = (f i).2 := fun i hi => by
      unfold nameAt restAt
      simp [List.getD_eq_getElem?_getD, hi]
    refine ⟨some a, (List.range len).map f, m, by simpa using hcs, ⟨by simp; omega, fun i hi => ?_, fun i hi => ?_⟩⟩
    · have hi' : i < len := by simpa using hi
      rw [(hn i hi').1, (hn i hi').2]; exact (hf i hi').2.2
    · have hi' : i < len := by simpa using hi
      rw [(hn i hi').1, (hn i hi').2]
      obtain ⟨b, off, spot⟩ := a
      have hc0 := (hf 0 (by omega)).1
      have hc := (hf i hi').1
      have hspot : spot = none := by simpa [Addr.add] using World.cell?_spot hc0
      subst hspot
      refine ⟨b, off, rfl, ?_, ?_, ?_⟩
      · have := World.block_lt_of_cell? _ _ hc
        rwa [Go.WideShapes.add_plain] at this
      · rw [← Go.WideShapes.add_plain]; exact hc
      · rw [Nat.add_assoc, ← Go.WideShapes.add_plain]; exact (hf i hi').2.1
end Go.Proofs.YtfmhcjhcmoniaaaDoor
end

section
/-
  What the rows of this seat share, continued: the seven errors' variables off the rows' list, the witness's world, the row's last step where the call froze something new. Conditions: none.
-/
namespace Go.Proofs.YtfmhcjhcmoniaaaDoor
open Go.ChangeShapes Go.WideShapes Go.ChangeAt Go.RowKit Go.Joins Go.Deep
set_option maxRecDepth 100000

section
variable {H : Type} {enc : TypeId × Value → H} {P : Program}
/-- the row's post where the world is known below its size alone -/
theorem post_below {f : Func} {s : ChangeSpec} {apart fresh handsOn again : Bool} {W W' : World} {args : Array Value} {v : Value} {ds gs : List (DataW H)} {before pa pv : List MemPlace}
    (hW : DataW.Whole enc P f.params.toList s.vars apart W args.toList ds gs before)
    (hres : ∀ (b : Nat) (sp : Nat → Bool) (hd : Bool), DataW.TrodAll enc P W' b sp hd f.resultTypes.toList (v.resultList f.resultTypes.size) (s.fn H (ds ++ gs)).results [])
    (hargs : ∀ sp : Nat → Bool, (∀ p ∈ before, sp p.block = true) → DataW.TrodAll enc P W' 0 sp true f.params.toList args.toList (s.fn H (ds ++ gs)).args pa)
    (hvars : ∀ sp : Nat → Bool, (∀ p ∈ before, sp p.block = true) → DataW.TrodVars enc P W' sp s.vars (s.fn H (ds ++ gs)).vars pv)
    (hps : before = pa ++ pv) (hb : Below W.heap.size W W')
    (hok : ∀ (j : Nat) (t : TypeId) (r : Value), f.resultTypes[j]? = some t → (v.resultList f.resultTypes.size)[j]? = some r → Value.okWide P W' .any 0 t r) :
    s.post enc P f apart fresh handsOn again W args v W' := by
  have hlt : ∀ p ∈ before, p.block < W.heap.size := fun p hp => hW.lt p hp
  have hold : ∀ p ∈ before, (fun b => decide (b < W.heap.size)) p.block = true := fun p hp => by simpa using hlt p hp
  refine ⟨ds, gs, before, [], pa, pv, hW, hres _ _ _, hargs _ hold, hvars _ hold, World.keptBut_mono (fun p hp => ⟨hp, ?_⟩) (hb.frame (· ∈ before)), fun _ => ?_⟩
  · rw [hps, List.mem_append] at hp
    exact Or.inr hp
  · obtain ⟨_, _, _, _, _, hz, hn⟩ := hW
    refine ⟨hok, _, _, ([] ++ pa) ++ pv, ⟨[] ++ pa, pv, trodAll_append (hargs _ (fun _ _ => rfl)) (hres _ _ _), hvars _ (fun _ _ => rfl), rfl, ?_, ?_⟩, ?_⟩
    · intro b off hp
      have hin : MemPlace.cell b off ∈ before := by rw [hps]; simpa using hp
      rw [hb.frozen (hlt _ hin)]
      exact hz b off hin
    · intro ha
      have := hn ha
      rw [hps] at this
      simpa using this
    · intro p hp _
      rw [hps]
      simpa using hp

/-- an argument reads as it did -/
theorem arg_below {t : TypeId} (hl : laidOutB P = true) (hr : P.readableRec t = true) (hrow : t < P.types.size) {W W' : World} {v : Value} {d : DataW H} {ps : List MemPlace} {sp : Nat → Bool}
    (h : DataW.Trod enc P W 0 (fun _ => true) true t v d ps) (hb : Below W.heap.size W W') (hlt : ∀ x ∈ ps, x.block < W.heap.size) (hsp : ∀ x ∈ ps, sp x.block = true) :
    DataW.Trod enc P W' 0 sp true t v d ps :=
  WideElems.Trod_stays hl hr hrow h (fun x hx => hb.same (hlt x hx)) (fun x hx => hsp x hx)
end

theorem Tryd.gOferrCount : Tryd.prog.globalNamed "loop.example/onceways/impl.errCount" = some 0 := by kernel_rfl
theorem Tryd.tOferrCount : (Tryd.prog.globals[0]?).map (·.type) = some 90 := by kernel_rfl
theorem Tryd.gOferrName : Tryd.prog.globalNamed "loop.example/onceways/impl.errName" = some 2 := by kernel_rfl
theorem Tryd.tOferrName : (Tryd.prog.globals[2]?).map (·.type) = some 90 := by kernel_rfl
theorem Tryd.gOferrOps : Tryd.prog.globalNamed "loop.example/onceways/impl.errOps" = some 6 := by kernel_rfl
theorem Tryd.tOferrOps : (Tryd.prog.globals[6]?).map (·.type) = some 90 := by kernel_rfl
theorem Tryd.gOferrEdge : Tryd.prog.globalNamed "loop.example/onceways/impl.errEdge" = some 1 := by kernel_rfl
theorem Tryd.tOferrEdge : (Tryd.prog.globals[1]?).map (·.type) = some 90 := by kernel_rfl
theorem Tryd.gOferrEntry : Tryd.prog.globalNamed "loop.example/onceways/impl.errEntry" = some 3 := by kernel_rfl
theorem Tryd.tOferrEntry : (Tryd.prog.globals[3]?).map (·.type) = some 90 := by kernel_rfl
theorem Tryd.gOferrExit : Tryd.prog.globalNamed "loop.example/onceways/impl.errExit" = some 4 := by kernel_rfl
theorem Tryd.tOferrExit : (Tryd.prog.globals[4]?).map (·.type) = some 90 := by kernel_rfl
theorem Tryd.gOferrLost : Tryd.prog.globalNamed "loop.example/onceways/impl.errLost" = some 5 := by kernel_rfl
theorem Tryd.tOferrLost : (Tryd.prog.globals[5]?).map (·.type) = some 90 := by kernel_rfl

theorem vars_len {H : Type} {enc : TypeId × Value → H} {P : Program} {w : World} {sp : Nat → Bool} : ∀ {ns : List String} {gs : List (DataW H)} {ps : List MemPlace}, DataW.TrodVars enc P w sp ns gs ps → gs.length = ns.length
  | [], [], _, _ => rfl
  | [], _ :: _, _, h => h.elim
  | _ :: _, [], _, h => h.elim
  | _ :: _, _ :: _, _, ⟨_, _, _, _, _, _, _, _, _, _, hr, _⟩ => by simp [vars_len hr]

abbrev seven : List String := ["loop.example/onceways/impl.errCount", "loop.example/onceways/impl.errEdge", "loop.example/onceways/impl.errName", "loop.example/onceways/impl.errOps", "loop.example/onceways/impl.errEntry", "loop.example/onceways/impl.errExit", "loop.example/onceways/impl.errLost"]
theorem seven_type : ∀ n ∈ seven, ∀ g t, Tryd.prog.globalNamed n = some g → (Tryd.prog.globals[g]?).map (·.type) = some t → t = 90 := by
  intro n hn g t hg ht
  simp only [seven, List.mem_cons, List.not_mem_nil, or_false] at hn
  rcases hn with rfl | rfl | rfl | rfl | rfl | rfl | rfl
  · rw [Tryd.gOferrCount] at hg; cases hg; rw [Tryd.tOferrCount] at ht; exact (Option.some.inj ht).symm
  · rw [Tryd.gOferrEdge] at hg; cases hg; rw [Tryd.tOferrEdge] at ht; exact (Option.some.inj ht).symm
  · rw [Tryd.gOferrName] at hg; cases hg; rw [Tryd.tOferrName] at ht; exact (Option.some.inj ht).symm
  · rw [Tryd.gOferrOps] at hg; cases hg; rw [Tryd.tOferrOps] at ht; exact (Option.some.inj ht).symm
  · rw [Tryd.gOferrEntry] at hg; cases hg; rw [Tryd.tOferrEntry] at ht; exact (Option.some.inj ht).symm
  · rw [Tryd.gOferrExit] at hg; cases hg; rw [Tryd.tOferrExit] at ht; exact (Option.some.inj ht).symm
  · rw [Tryd.gOferrLost] at hg; cases hg; rw [Tryd.tOferrLost] at ht; exact (Option.some.inj ht).symm

/-- the rows' list gives the seven errors -/
theorem errs_of_laid {W : World} (h : laidMetH Tryd.prog Rows.fnExactShortestRunRow.laid W) : Errs W := by
  have h0 : laidMet Tryd.prog Rows.fnExactShortestRunRow.laid W := h
  obtain ⟨e0, h1⟩ := err_of_laid h0 Tryd.gOferrCount Tryd.tOferrCount
  obtain ⟨e1, h2⟩ := err_of_laid h1 Tryd.gOferrName Tryd.tOferrName
  obtain ⟨e2, h3⟩ := err_of_laid h2 Tryd.gOferrOps Tryd.tOferrOps
  obtain ⟨e3, h4⟩ := err_of_laid h3 Tryd.gOferrEdge Tryd.tOferrEdge
  obtain ⟨e4, h5⟩ := err_of_laid h4 Tryd.gOferrEntry Tryd.tOferrEntry
  obtain ⟨e5, h6⟩ := err_of_laid h5 Tryd.gOferrExit Tryd.tOferrExit
  obtain ⟨e6, h7⟩ := err_of_laid h6 Tryd.gOferrLost Tryd.tOferrLost
  exact ⟨e0, e1, e2, e3, e4, e5, e6⟩

/-- a world for the witness: the settled one, the errors where the initialisers lay them -/
noncomputable def low : Nat := (World.holding Tryd.prog default ⟨#[], #[], []⟩).heap.size
abbrev texterrCount : ByteArray := { data := #[116, 111, 111, 32, 102, 101, 119, 32, 111, 114, 32, 116, 111, 111, 32, 109, 97, 110, 121, 32, 98, 108, 111, 99, 107, 115, 32, 111, 114, 32, 101, 100, 103, 101, 115] }
abbrev texterrName : ByteArray := { data := #[110, 111, 32, 110, 97, 109, 101, 32, 111, 102, 32, 97, 32, 98, 108, 111, 99, 107, 44, 32, 111, 114, 32, 111, 110, 101, 32, 116, 104, 97, 116, 32, 97, 110, 111, 116, 104, 101, 114, 32, 98, 108, 111, 99, 107, 32, 104, 97, 115] }
abbrev texterrOps : ByteArray := { data := #[116, 111, 111, 32, 109, 97, 110, 121, 32, 108, 101, 116, 116, 101, 114, 115, 44, 32, 111, 114, 32, 111, 110, 101, 32, 116, 104, 97, 116, 32, 116, 101, 108, 108, 115, 32, 110, 111, 116, 104, 105, 110, 103] }
abbrev texterrEdge : ByteArray := { data := #[110, 111, 32, 101, 100, 103, 101, 32, 98, 101, 116, 119, 101, 101, 110, 32, 116, 119, 111, 32, 98, 108, 111, 99, 107, 115, 44, 32, 111, 114, 32, 111, 110, 101, 32, 116, 104, 97, 116, 32, 105, 115, 32, 116, 104, 101, 114, 101, 32, 97, 108, 114, 101, 97, 100, 121] }
abbrev texterrEntry : ByteArray := { data := #[97, 110, 32, 101, 110, 116, 114, 121, 32, 116, 104, 97, 116, 32, 100, 111, 101, 115, 32, 115, 111, 109, 101, 116, 104, 105, 110, 103, 44, 32, 111, 114, 32, 116, 111, 32, 119, 104, 105, 99, 104, 32, 97, 110, 32, 101, 100, 103, 101, 32, 108, 101, 97, 100, 115] }
abbrev texterrExit : ByteArray := { data := #[97, 110, 32, 101, 120, 105, 116, 32, 102, 114, 111, 109, 32, 119, 104, 105, 99, 104, 32, 97, 110, 32, 101, 100, 103, 101, 32, 108, 101, 97, 100, 115] }
abbrev texterrLost : ByteArray := { data := #[97, 32, 98, 108, 111, 99, 107, 32, 119, 105, 116, 104, 111, 117, 116, 32, 97, 32, 119, 97, 121, 32, 102, 114, 111, 109, 32, 116, 104, 101, 32, 101, 110, 116, 114, 121, 32, 111, 114, 32, 116, 111, 32, 116, 104, 101, 32, 101, 120, 105, 116] }
def setErr (h : Array Obj) (g b : Nat) : Array Obj := h.modify g fun
  | .cells _ t frozen => .cells #[.iface 176 (.pointer (some ⟨b, 0, none⟩))] t frozen
  | o => o
noncomputable def laidWorld (os : Os) : World :=
  let w0 := World.holding Tryd.prog os ⟨#[.cells #[.string texterrCount] 194, .cells #[.string texterrName] 194, .cells #[.string texterrOps] 194, .cells #[.string texterrEdge] 194, .cells #[.string texterrEntry] 194, .cells #[.string texterrExit] 194, .cells #[.string texterrLost] 194], #[], []⟩
  { w0 with heap := setErr (setErr (setErr (setErr (setErr (setErr (setErr (w0.heap) 0 (low + 0)) 2 (low + 1)) 6 (low + 2)) 1 (low + 3)) 3 (low + 4)) 4 (low + 5)) 5 (low + 6) }
theorem laid_met (os : Os) (args : Array Value) : laidMet Tryd.prog Rows.fnExactShortestRunRow.laid ((laidWorld os).forCall (fun _ _ => 0) ⟨#[], args, []⟩).memory :=
  laidMet_of_run' 8 (by kernel_rfl) (by kernel_rfl)

theorem Tryd.enters : Tryd.prog.mayEnter = true := by kernel_rfl
theorem Tryd.lifts : (Rows.fnExactShortestRunRow.lifted == Tryd.prog.liftsFinal) = true := by kernel_rfl
theorem lifts_of {c : OpenClaim} (h : c.lifted = Rows.fnExactShortestRunRow.lifted) : (c.lifted == Tryd.prog.liftsFinal) = true := by rw [h]; exact Tryd.lifts
theorem and2 {a b : Bool} (ha : a = true) (hb : b = true) : (a && b) = true := by rw [ha, hb]; rfl
end Go.Proofs.YtfmhcjhcmoniaaaDoor
end

section
/-
  A card's argument that is a slice of bytes, opened. Conditions: none.
-/
namespace Go.Proofs.YtfmhcjhcmoniaaaDoor
open Go.ChangeShapes Go.WideShapes Go.ChangeAt Go.RowKit Go.Joins Go.Deep
set_option maxRecDepth 100000

theorem open_bytes {H : Type} {enc : TypeId × Value → H} {W : World} {t e : TypeId} (ht : Tryd.prog.underlying t = some (.slice e)) (he : Tryd.prog.underlying e = some (.int .u8)) (hC : Tryd.prog.cellsOf e = 1) {fuel : Nat} {cs : List Value} {x : DataW H × List MemPlace} (h : DataW.trod enc Tryd.prog W 0 (fun _ => true) true fuel t cs = some x) :
    ∃ (a : Option Addr) (n cap' : Nat), cs = [.slice a n cap'] ∧ BytesRaw W a n cap' := by
  rcases Go.ChangeShapes.open_ints ht he hC h with ⟨hc, _⟩ | ⟨a, len, cap', zs, hcs, _, hlc, hcm, hm, _, hcell, hwf⟩
  · exact ⟨none, 0, 0, hc, ⟨Nat.le_refl _, Nat.zero_le _, fun i hi => absurd hi (Nat.not_lt_zero _)⟩⟩
  · simp only [if_true] at hm
    refine ⟨some a, len, cap', hcs, ⟨hlc, hcm, fun i hi => ?_⟩⟩
    have h1 := hcell i (by omega)
    obtain ⟨b, off, spot⟩ := a
    have hc0 := hcell 0 (by omega)
    have hspot : spot = none := by simpa [Addr.add] using World.cell?_spot hc0
    subst hspot
    have hz : zs.getD i 0 ∈ zs := by
      rw [List.getD_eq_getElem?_getD, List.getElem?_eq_getElem (by omega : i < zs.length)]
      exact List.getElem_mem _
    have hb : 0 ≤ zs.getD i 0 ∧ zs.getD i 0 ≤ 255 := by
      have h2 := hwf _ hz
      have h3 : IntKind.u8.min = 0 := rfl
      have h4 : IntKind.u8.max = 255 := rfl
      simp only [Lit.wf, Bool.and_eq_true, decide_eq_true_eq] at h2
      omega
    refine ⟨b, off, zs.getD i 0, rfl, ?_, hb.1, hb.2, ?_⟩
    · have := World.block_lt_of_cell? _ _ h1
      rwa [Go.WideShapes.add_plain] at this
    · rw [← Go.WideShapes.add_plain]; exact h1
end Go.Proofs.YtfmhcjhcmoniaaaDoor
end
