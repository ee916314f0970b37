/-
  FnExactWalkRun answers true for every input, and the input reads as it did. Conditions: the row's own (what is read is finite and named, the seven errors hold what their initialisers lay).
-/
import Derived.Test.YtfmhcjhcmoniaaaDoorCards2
import Derived.Test.YtfmhcjhcmoniaaaDoorCardsI
import Derived.ChangeMaps5
namespace Go.Proofs.YtfmhcjhcmoniaaaDoor.fnExactWalkRun
open Go.ChangeShapes Go.WideShapes Go.ChangeAt Go.RowKit Go.Joins Go.Deep
set_option maxRecDepth 100000

theorem recT : Tryd.prog.readableRec 25 = true := by kernel_rfl
theorem ltT : 25 < Tryd.prog.types.size := of_decide_eq_true (by kernel_rfl)
theorem recI : Tryd.prog.readableRec 36 = true := by kernel_rfl
theorem ltI : 36 < Tryd.prog.types.size := of_decide_eq_true (by kernel_rfl)
theorem cellsP : Tryd.prog.cellsOf 25 = 2 := by kernel_rfl
theorem cellsB : Tryd.prog.cellsOf 77 = 2 := by kernel_rfl
theorem cellsE : Tryd.prog.cellsOf 80 = 2 := by kernel_rfl

/-- WHAT THE WALK GIVES, FOR EVERY ARGUMENT. -/
theorem contract (H : Type) (enc : TypeId × Value → H) (W : World) (base : Nat) (args : Array Value) (ds gs : List (DataW H)) (before : List MemPlace)
    (hval : ∀ (j : Nat) t v, Tryd.f4.params[j]? = some t → args[j]? = some v → Value.okWide Tryd.prog W .any base t v)
    (hW : DataW.Whole enc Tryd.prog Tryd.f4.params.toList Rows.fnExactWalkRunSpec.vars false W args.toList ds gs before) (hL : laidMetH Tryd.prog Rows.fnExactWalkRunRow.laid W) :
    Calls Tryd.prog 4 args W fun e W' => ∃ v, e = .returned v ∧ Rows.fnExactWalkRunSpec.post enc Tryd.prog Tryd.f4 false true false false W args v W' := by
  have hW' := hW
  have hlt : ∀ p ∈ before, p.block < W.heap.size := fun p hp => hW.lt p hp
  obtain ⟨p, q, hA0, hV, rfl, hfz, hnd⟩ := hW
  have hA : DataW.TrodAll enc Tryd.prog W 0 (fun _ => true) true Tryd.f4.params.toList args.toList ds p := hA0
  rw [Tryd.params4] at hA hval
  obtain ⟨v0, vs0, d0, ds0, p0, q0, hargs0, rfl, rfl, h0, r0⟩ := trodAll_cons hA
  obtain ⟨v1, vs1, d1, ds1, p1, q1, hargs1, rfl, rfl, h1, r1⟩ := trodAll_cons r0
  obtain ⟨rfl, rfl, rfl⟩ := trodAll_nil r1
  obtain rfl : args = #[v0, v1] := by cases args; simp_all
  obtain ⟨z0, z1, y0, y1, n, hv, _, _, g0, g1⟩ := open_agg2 Tryd.underlying25 (by kernel_rfl) cellsP (hval 0 25 v0 rfl rfl) h0
  obtain ⟨ab, bs, cb, hb, pb⟩ := open_pairs Tryd.underlying22 Tryd.underlying77 (by kernel_rfl) cellsB Tryd.underlying9 Tryd.underlying9 g0
  obtain ⟨ae, es, ce, he, pe⟩ := open_pairs Tryd.underlying23 Tryd.underlying80 (by kernel_rfl) cellsE Tryd.underlying9 Tryd.underlying9 g1
  simp only [List.cons.injEq, and_true] at hb he
  subst hb he
  subst hv
  obtain ⟨an1, ln1, cn1, rfl⟩ := Go.WideShapes.okWide_slice Tryd.underlying36 (hval 1 36 _ rfl rfl)
  obtain ⟨fn1, hfn1⟩ := id h1
  obtain ⟨an1', ns1, cn1', hcs1, pn1⟩ := open_nums Tryd.underlying36 Tryd.underlying3 (by kernel_rfl) hfn1
  simp [Value.cells] at hcs1
  obtain ⟨rfl, rfl, rfl⟩ := hcs1
  clear hfn1
  clear hA0
  simp only [List.append_nil] at hW' hlt
  obtain ⟨e1, e2, e3, e4, e5, e6, e7, rfl⟩ : ∃ e1 e2 e3 e4 e5 e6 e7, gs = [e1, e2, e3, e4, e5, e6, e7] := by
    have := vars_len hV
    rcases gs with _ | ⟨e1, _ | ⟨e2, _ | ⟨e3, _ | ⟨e4, _ | ⟨e5, _ | ⟨e6, _ | ⟨e7, _ | ⟨e8, r⟩⟩⟩⟩⟩⟩⟩⟩ <;> simp [Rows.fnExactWalkRunSpec] at this
    exact ⟨_, _, _, _, _, _, _, rfl⟩
  refine (LawWalkRun_any W bs es ab ae cb ce ns1 _ _ pb pe pn1 (errs_of_laid hL)).mono fun e W' ⟨he, hg⟩ => ?_
  subst he
  refine ⟨_, rfl, post_below (pa := p0 ++ p1) (pv := q) hW' (fun _ _ _ => trodAll_cons_mk (shut_bool Tryd.underlying4 _) trodAll_mk0) (fun sp hsp => ?_) (fun sp hsp => ?_) rfl hg (ok_one (by kernel_rfl) rfl (okWide_bool_mk Tryd.underlying4 _))⟩
  · have := trodAll_cons_mk (arg_below Tryd.laidOut recT ltT h0 hg (fun x hx => hlt x (by simp [hx])) (fun x hx => hsp x (by simp [hx]))) (trodAll_cons_mk (arg_below Tryd.laidOut recI ltI h1 hg (fun x hx => hlt x (by simp [hx])) (fun x hx => hsp x (by simp [hx]))) (trodAll_mk0))
    simp only [List.append_nil] at this
    exact this
  · exact vars_below hg seven_type (fun x hx => hlt x (by simp [hx])) (fun x hx => hsp x (by simp [hx])) hV

theorem reads (os : Os) {H : Type} (enc : TypeId × Value → H) : ∃ x, DataW.whole enc Tryd.prog ((laidWorld os).forCall (fun _ _ => 0) ⟨#[], #[.agg #[.slice none 0 0, .slice none 0 0], .slice none 0 0], []⟩).memory Tryd.f4.params.toList Rows.fnExactWalkRunSpec.vars false #[Value.agg #[.slice none 0 0, .slice none 0 0], .slice none 0 0].toList 8 = some x :=
  Option.isSome_iff_exists.mp (by kernel_rfl)

theorem lifted (os : Os) (started : os.Started) (H : Type) (enc : TypeId × Value → H) (F : Stop.Interp) :
    ReturnsInHanded {} Tryd.checked os 4 .any ((OpenSpec.ofChange Rows.fnExactWalkRunSpec).preRow enc Tryd.prog Tryd.f4 Rows.fnExactWalkRunRow.domain false Rows.fnExactWalkRunRow.laid) (((OpenSpec.ofChange Rows.fnExactWalkRunSpec).at F).post enc Tryd.prog Tryd.f4 false true false false) := by
  obtain ⟨x, hx⟩ := reads os enc
  refine returnsInHanded_of_row (C := Tryd.checked) (s := OpenSpec.ofChange Rows.fnExactWalkRunSpec) Tryd.own started (by kernel_rfl) Tryd.func4
    (witness_row_at (enc := enc) (C := Tryd.checked) false (laidWorld os) #[.agg #[.slice none 0 0, .slice none 0 0], .slice none 0 0] rfl (by kernel_rfl) (by kernel_rfl) (by kernel_rfl)
      (OpenSpec.preRow_of_cond 8 hx rfl (fun k hk => by cases hk) (by kernel_rfl) (laid_met os _))) ?_
  intro W base args ds gs before hval hW _ _ _ hL _ _
  exact contract H enc W base args ds gs before hval hW hL

theorem named : Tryd.prog.funcNamed "loop.example/onceways/laws.FnExactWalkRun" = some 4 := by kernel_rfl
theorem inst : Tryd.f4.isInstance Tryd.prog Rows.fnExactWalkRunRow.origin Rows.fnExactWalkRunRow.targs := of_decide_eq_true (by kernel_rfl)
theorem wrapped : Tryd.f4.isWrapper Tryd.prog Rows.fnExactWalkRunRow.wrapper Rows.fnExactWalkRunRow.mainSum := by
  unfold Func.isWrapper; rw [if_neg (of_decide_eq_false (by kernel_rfl))]; exact ⟨rfl, rfl⟩
set_option maxHeartbeats 4000000 in
theorem closed : joinedFacts Tryd.prog 4 Tryd.f4 (OpenSpec.ofChange Rows.fnExactWalkRunSpec).bare Rows.fnExactWalkRunRow = true := by
  unfold joinedFacts
  repeat' (with_reducible refine and2 ?_ ?_)
  all_goals first
    | with_reducible exact Tryd.enters
    | with_reducible exact lifts_of (c := Rows.fnExactWalkRunRow) rfl
    | (as_aux_lemma => kernel_rfl)
theorem said : Rows.FnExactWalkRunSaid :=
  OpenClaim.holds_of_cond 4 Tryd.f4 rfl rfl rfl rfl rfl rfl rfl ⟨rfl, rfl, rfl, rfl, rfl⟩ rfl rfl rfl rfl rfl named Tryd.func4 closed inst wrapped
    (fun os started H enc _ F => by rw [OpenClaim.pre_eq_preRow]; exact lifted os started H enc F)

theorem plain (f : FuncId) (fn : Func) (hf : Tryd.pinned.checked.prog.funcNamed "loop.example/onceways/laws.FnExactWalkRun" = some f) (hfn : Tryd.pinned.checked.prog.funcs[f]? = some fn) :
    false = Tryd.pinned.checked.prog.looks [] ∧ ∀ (j : Nat) t, fn.params[j]? = some t → Tryd.pinned.checked.prog.wantsStandIn t = false := by
  obtain rfl : f = 4 := Option.some.inj (named.symm.trans hf) |>.symm
  obtain rfl : fn = Tryd.f4 := (Option.some.inj (Tryd.func4.symm.trans hfn)).symm
  refine ⟨by as_aux_lemma => kernel_rfl, fun j t ht => ?_⟩
  rw [Tryd.params4] at ht
  have ht' : t = 25 ∨ t = 36 := by simpa using Array.mem_of_getElem? ht
  rcases ht' with rfl | rfl
  · exact (show Tryd.prog.wantsStandIn 25 = false by kernel_rfl)
  · exact (show Tryd.prog.wantsStandIn 36 = false by kernel_rfl)

/-- THE CARD. -/
theorem card : Rows.FnExactWalkRunCardSaid :=
  Claim7.holds_tied_plain_at .later [] _ _ _ _ said (fun _ h => by cases h) (by as_aux_lemma => kernel_rfl) (fun _ h => by cases h) fnExactWalkRun_row_tie rfl ⟨rfl, rfl⟩ (by as_aux_lemma => kernel_rfl) rfl plain (by as_aux_lemma => kernel_rfl)
end Go.Proofs.YtfmhcjhcmoniaaaDoor.fnExactWalkRun
