/-
  FnRunsUpTo answers true for every input, and the input reads as it did. Conditions: the row's own (what is read is finite and named, the seven errors hold what their initialisers lay).
-/
import Derived.Test.YtflnkahgmbndiaaGreatDoorUpK
import Derived.Test.YtflnkahgmbndiaaGreatDoorLawUpTo
import Derived.ChangeMaps5
namespace Go.Proofs.YtflnkahgmbndiaaGreatDoor.fnRunsUpTo
open Go.ChangeShapes Go.WideShapes Go.ChangeAt Go.RowKit Go.Joins Go.Deep
set_option maxRecDepth 100000


theorem recY : Tryz.prog.readableRec 22 = true := by kernel_rfl
theorem ltY : 22 < Tryz.prog.types.size := of_decide_eq_true (by kernel_rfl)

/-- WHAT THE WALK GIVES, FOR EVERY ARGUMENT. -/
theorem contract (H : Type) (enc : TypeId × Value → H) (W : World) (base : Nat) (args : Array Value) (ds gs : List (DataW H)) (before : List MemPlace)
    (hval : ∀ (j : Nat) t v, Tryz.f3.params[j]? = some t → args[j]? = some v → Value.okWide Tryz.prog W .any base t v)
    (hW : DataW.Whole enc Tryz.prog Tryz.f3.params.toList Rows.fnRunsUpToSpec.vars false W args.toList ds gs before) (hL : laidMetH Tryz.prog Rows.fnRunsUpToRow.laid W) :
    Calls Tryz.prog 3 args W fun e W' => ∃ v, e = .returned v ∧ Rows.fnRunsUpToSpec.post enc Tryz.prog Tryz.f3 false true false false W args v W' := by
  have hW' := hW
  have hlt : ∀ p ∈ before, p.block < W.heap.size := fun p hp => hW.lt p hp
  obtain ⟨p, q, hA0, hV, rfl, hfz, hnd⟩ := hW
  have hA : DataW.TrodAll enc Tryz.prog W 0 (fun _ => true) true Tryz.f3.params.toList args.toList ds p := hA0
  rw [Tryz.params3] at hA hval
  obtain ⟨v0, vs0, d0, ds0, p0, q0, hargs0, rfl, rfl, h0, r0⟩ := trodAll_cons hA
  obtain ⟨v1, vs1, d1, ds1, p1, q1, hargs1, rfl, rfl, h1, r1⟩ := trodAll_cons r0
  obtain ⟨rfl, rfl, rfl⟩ := trodAll_nil r1
  obtain rfl : args = #[v0, v1] := by cases args; simp_all
  obtain ⟨an0, ln0, cn0, rfl⟩ := Go.WideShapes.okWide_slice Tryz.underlying22 (hval 0 22 _ rfl rfl)
  obtain ⟨fn0, hfn0⟩ := id h0
  obtain ⟨an0', ln0', cn0', hcs0, pn0⟩ := open_bytes Tryz.underlying22 Tryz.underlying5 (by kernel_rfl) hfn0
  simp [Value.cells] at hcs0
  obtain ⟨rfl, rfl, rfl⟩ := hcs0
  clear hfn0
  obtain ⟨an1, ln1, cn1, rfl⟩ := Go.WideShapes.okWide_slice Tryz.underlying22 (hval 1 22 _ rfl rfl)
  obtain ⟨fn1, hfn1⟩ := id h1
  obtain ⟨an1', ln1', cn1', hcs1, pn1⟩ := open_bytes Tryz.underlying22 Tryz.underlying5 (by kernel_rfl) hfn1
  simp [Value.cells] at hcs1
  obtain ⟨rfl, rfl, rfl⟩ := hcs1
  clear hfn1
  clear hA0
  simp only [List.append_nil] at hW' hlt
  obtain ⟨e1, e2, e3, e4, e5, e6, e7, rfl⟩ : ∃ e1 e2 e3 e4 e5 e6 e7, gs = [e1, e2, e3, e4, e5, e6, e7] := by
    have := vars_len hV
    rcases gs with _ | ⟨e1, _ | ⟨e2, _ | ⟨e3, _ | ⟨e4, _ | ⟨e5, _ | ⟨e6, _ | ⟨e7, _ | ⟨e8, r⟩⟩⟩⟩⟩⟩⟩⟩ <;> simp [Rows.fnRunsUpToSpec] at this
    exact ⟨_, _, _, _, _, _, _, rfl⟩
  refine (LawFnRunsUpTo_any W an0 ln0 cn0 an1 ln1 cn1 pn0 pn1 (errs_of_laid hL)).mono fun e W' ⟨he, hg⟩ => ?_
  subst he
  refine ⟨_, rfl, post_below (pa := p0 ++ p1) (pv := q) hW' (fun _ _ _ => trodAll_cons_mk (shut_bool Tryz.underlying4 _) trodAll_mk0) (fun sp hsp => ?_) (fun sp hsp => ?_) rfl hg (ok_one (by kernel_rfl) rfl (okWide_bool_mk Tryz.underlying4 _))⟩
  · have := trodAll_cons_mk (arg_below Tryz.laidOut recY ltY h0 hg (fun x hx => hlt x (by simp [hx])) (fun x hx => hsp x (by simp [hx]))) (trodAll_cons_mk (arg_below Tryz.laidOut recY ltY h1 hg (fun x hx => hlt x (by simp [hx])) (fun x hx => hsp x (by simp [hx]))) (trodAll_mk0))
    simp only [List.append_nil] at this
    exact this
  · exact vars_below hg seven_type (fun x hx => hlt x (by simp [hx])) (fun x hx => hsp x (by simp [hx])) hV

theorem reads (os : Os) {H : Type} (enc : TypeId × Value → H) : ∃ x, DataW.whole enc Tryz.prog ((laidWorld os).forCall (fun _ _ => 0) ⟨#[], #[.slice none 0 0, .slice none 0 0], []⟩).memory Tryz.f3.params.toList Rows.fnRunsUpToSpec.vars false #[Value.slice none 0 0, .slice none 0 0].toList 8 = some x :=
  Option.isSome_iff_exists.mp (by kernel_rfl)

theorem lifted (os : Os) (started : os.Started) (H : Type) (enc : TypeId × Value → H) (F : Stop.Interp) :
    ReturnsInHanded {} Tryz.checked os 3 .any ((OpenSpec.ofChange Rows.fnRunsUpToSpec).preRow enc Tryz.prog Tryz.f3 Rows.fnRunsUpToRow.domain false Rows.fnRunsUpToRow.laid) (((OpenSpec.ofChange Rows.fnRunsUpToSpec).at F).post enc Tryz.prog Tryz.f3 false true false false) := by
  obtain ⟨x, hx⟩ := reads os enc
  refine returnsInHanded_of_row (C := Tryz.checked) (s := OpenSpec.ofChange Rows.fnRunsUpToSpec) Tryz.own started (by kernel_rfl) Tryz.func3
    (witness_row_at (enc := enc) (C := Tryz.checked) false (laidWorld os) #[.slice none 0 0, .slice none 0 0] rfl (by kernel_rfl) (by kernel_rfl) (by kernel_rfl)
      (OpenSpec.preRow_of_cond 8 hx rfl (fun k hk => by cases hk) (by kernel_rfl) (laid_met os _))) ?_
  intro W base args ds gs before hval hW _ _ _ hL _ _
  exact contract H enc W base args ds gs before hval hW hL

theorem named : Tryz.prog.funcNamed "loop.example/onceways/laws.FnRunsUpTo" = some 3 := by kernel_rfl
theorem inst : Tryz.f3.isInstance Tryz.prog Rows.fnRunsUpToRow.origin Rows.fnRunsUpToRow.targs := of_decide_eq_true (by kernel_rfl)
theorem wrapped : Tryz.f3.isWrapper Tryz.prog Rows.fnRunsUpToRow.wrapper Rows.fnRunsUpToRow.mainSum := by
  unfold Func.isWrapper; rw [if_neg (of_decide_eq_false (by kernel_rfl))]; exact ⟨rfl, rfl⟩
set_option maxHeartbeats 4000000 in
theorem closed : joinedFacts Tryz.prog 3 Tryz.f3 (OpenSpec.ofChange Rows.fnRunsUpToSpec).bare Rows.fnRunsUpToRow = true := by
  unfold joinedFacts
  repeat' (with_reducible refine and2 ?_ ?_)
  all_goals first
    | with_reducible exact Tryz.enters
    | with_reducible exact lifts_of (c := Rows.fnRunsUpToRow) rfl
    | (as_aux_lemma => kernel_rfl)
theorem said : Rows.FnRunsUpToSaid :=
  OpenClaim.holds_of_cond 3 Tryz.f3 rfl rfl rfl rfl rfl rfl rfl ⟨rfl, rfl, rfl, rfl, rfl⟩ rfl rfl rfl rfl rfl named Tryz.func3 closed inst wrapped
    (fun os started H enc _ F => by rw [OpenClaim.pre_eq_preRow]; exact lifted os started H enc F)

theorem plain (f : FuncId) (fn : Func) (hf : Tryz.pinned.checked.prog.funcNamed "loop.example/onceways/laws.FnRunsUpTo" = some f) (hfn : Tryz.pinned.checked.prog.funcs[f]? = some fn) :
    false = Tryz.pinned.checked.prog.looks [] ∧ ∀ (j : Nat) t, fn.params[j]? = some t → Tryz.pinned.checked.prog.wantsStandIn t = false := by
  obtain rfl : f = 3 := Option.some.inj (named.symm.trans hf) |>.symm
  obtain rfl : fn = Tryz.f3 := (Option.some.inj (Tryz.func3.symm.trans hfn)).symm
  refine ⟨by as_aux_lemma => kernel_rfl, fun j t ht => ?_⟩
  rw [Tryz.params3] at ht
  have ht' : t = 22 ∨ t = 22 := by simpa using Array.mem_of_getElem? ht
  rcases ht' with rfl | rfl
  · exact (show Tryz.prog.wantsStandIn 22 = false by kernel_rfl)
  · exact (show Tryz.prog.wantsStandIn 22 = false by kernel_rfl)

/-- THE CARD. -/
theorem card : Rows.FnRunsUpToCardSaid :=
  Claim7.holds_tied_plain_at .later [] _ _ _ _ said (fun _ h => by cases h) (by as_aux_lemma => kernel_rfl) (fun _ h => by cases h) fnRunsUpTo_row_tie rfl ⟨rfl, rfl⟩ (by as_aux_lemma => kernel_rfl) rfl plain (by as_aux_lemma => kernel_rfl)
end Go.Proofs.YtflnkahgmbndiaaGreatDoor.fnRunsUpTo
