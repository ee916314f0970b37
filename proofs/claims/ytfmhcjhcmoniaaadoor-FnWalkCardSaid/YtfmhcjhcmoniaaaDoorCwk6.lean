/-
  FnWalk answers true for every input, and the input reads as it did. Conditions: the row's own (what is read is finite and named, the seven errors hold what their initialisers lay).
-/
import Derived.Test.YtfmhcjhcmoniaaaDoorWkK
import Derived.Test.YtfmhcjhcmoniaaaDoorWkD
import Derived.ChangeMaps5
namespace Go.Proofs.YtfmhcjhcmoniaaaDoor.fnWalk
open Go.ChangeShapes Go.WideShapes Go.ChangeAt Go.RowKit Go.Joins Go.Deep
set_option maxRecDepth 100000


theorem recY : Tryd.prog.readableRec 41 = true := by kernel_rfl
theorem ltY : 41 < Tryd.prog.types.size := of_decide_eq_true (by kernel_rfl)

/-- WHAT THE WALK GIVES, FOR EVERY ARGUMENT. -/
theorem contract (H : Type) (enc : TypeId × Value → H) (W : World) (base : Nat) (args : Array Value) (ds gs : List (DataW H)) (before : List MemPlace)
    (hval : ∀ (j : Nat) t v, Tryd.f5.params[j]? = some t → args[j]? = some v → Value.okWide Tryd.prog W .any base t v)
    (hW : DataW.Whole enc Tryd.prog Tryd.f5.params.toList Rows.fnWalkSpec.vars false W args.toList ds gs before) (hL : laidMetH Tryd.prog Rows.fnWalkRow.laid W) :
    Calls Tryd.prog 5 args W fun e W' => ∃ v, e = .returned v ∧ Rows.fnWalkSpec.post enc Tryd.prog Tryd.f5 false true false false W args v W' := by
  have hW' := hW
  have hlt : ∀ p ∈ before, p.block < W.heap.size := fun p hp => hW.lt p hp
  obtain ⟨p, q, hA0, hV, rfl, hfz, hnd⟩ := hW
  have hA : DataW.TrodAll enc Tryd.prog W 0 (fun _ => true) true Tryd.f5.params.toList args.toList ds p := hA0
  rw [Tryd.params5] at hA hval
  obtain ⟨v0, vs0, d0, ds0, p0, q0, hargs0, rfl, rfl, h0, r0⟩ := trodAll_cons hA
  obtain ⟨rfl, rfl, rfl⟩ := trodAll_nil r0
  obtain rfl : args = #[v0] := by cases args; simp_all
  obtain ⟨an0, ln0, cn0, rfl⟩ := Go.WideShapes.okWide_slice Tryd.underlying41 (hval 0 41 _ rfl rfl)
  obtain ⟨fn0, hfn0⟩ := id h0
  obtain ⟨an0', ln0', cn0', hcs0, pn0⟩ := open_bytes Tryd.underlying41 Tryd.underlying5 (by kernel_rfl) hfn0
  simp [Value.cells] at hcs0
  obtain ⟨rfl, rfl, rfl⟩ := hcs0
  clear hfn0
  clear hA0
  simp only [List.append_nil] at hW' hlt
  obtain ⟨e1, e2, e3, e4, e5, e6, e7, rfl⟩ : ∃ e1 e2 e3 e4 e5 e6 e7, gs = [e1, e2, e3, e4, e5, e6, e7] := by
    have := vars_len hV
    rcases gs with _ | ⟨e1, _ | ⟨e2, _ | ⟨e3, _ | ⟨e4, _ | ⟨e5, _ | ⟨e6, _ | ⟨e7, _ | ⟨e8, r⟩⟩⟩⟩⟩⟩⟩⟩ <;> simp [Rows.fnWalkSpec] at this
    exact ⟨_, _, _, _, _, _, _, rfl⟩
  refine (LawFnWalk_any W an0 ln0 cn0 pn0 (errs_of_laid hL)).mono fun e W' ⟨he, hg⟩ => ?_
  subst he
  refine ⟨_, rfl, post_below (pa := p0) (pv := q) hW' (fun _ _ _ => trodAll_cons_mk (shut_bool Tryd.underlying4 _) trodAll_mk0) (fun sp hsp => ?_) (fun sp hsp => ?_) rfl hg (ok_one (by kernel_rfl) rfl (okWide_bool_mk Tryd.underlying4 _))⟩
  · have := trodAll_cons_mk (arg_below Tryd.laidOut recY ltY h0 hg (fun x hx => hlt x (by simp [hx])) (fun x hx => hsp x (by simp [hx]))) (trodAll_mk0)
    simp only [List.append_nil] at this
    exact this
  · exact vars_below hg seven_type (fun x hx => hlt x (by simp [hx])) (fun x hx => hsp x (by simp [hx])) hV

theorem reads (os : Os) {H : Type} (enc : TypeId × Value → H) : ∃ x, DataW.whole enc Tryd.prog ((laidWorld os).forCall (fun _ _ => 0) ⟨#[], #[.slice none 0 0], []⟩).memory Tryd.f5.params.toList Rows.fnWalkSpec.vars false #[Value.slice none 0 0].toList 8 = some x :=
  Option.isSome_iff_exists.mp (by kernel_rfl)

theorem lifted (os : Os) (started : os.Started) (H : Type) (enc : TypeId × Value → H) (F : Stop.Interp) :
    ReturnsInHanded {} Tryd.checked os 5 .any ((OpenSpec.ofChange Rows.fnWalkSpec).preRow enc Tryd.prog Tryd.f5 Rows.fnWalkRow.domain false Rows.fnWalkRow.laid) (((OpenSpec.ofChange Rows.fnWalkSpec).at F).post enc Tryd.prog Tryd.f5 false true false false) := by
  obtain ⟨x, hx⟩ := reads os enc
  refine returnsInHanded_of_row (C := Tryd.checked) (s := OpenSpec.ofChange Rows.fnWalkSpec) Tryd.own started (by kernel_rfl) Tryd.func5
    (witness_row_at (enc := enc) (C := Tryd.checked) false (laidWorld os) #[.slice none 0 0] rfl (by kernel_rfl) (by kernel_rfl) (by kernel_rfl)
      (OpenSpec.preRow_of_cond 8 hx rfl (fun k hk => by cases hk) (by kernel_rfl) (laid_met os _))) ?_
  intro W base args ds gs before hval hW _ _ _ hL _ _
  exact contract H enc W base args ds gs before hval hW hL

theorem named : Tryd.prog.funcNamed "loop.example/onceways/laws.FnWalk" = some 5 := by kernel_rfl
theorem inst : Tryd.f5.isInstance Tryd.prog Rows.fnWalkRow.origin Rows.fnWalkRow.targs := of_decide_eq_true (by kernel_rfl)
theorem wrapped : Tryd.f5.isWrapper Tryd.prog Rows.fnWalkRow.wrapper Rows.fnWalkRow.mainSum := by
  unfold Func.isWrapper; rw [if_neg (of_decide_eq_false (by kernel_rfl))]; exact ⟨rfl, rfl⟩
set_option maxHeartbeats 4000000 in
theorem closed : joinedFacts Tryd.prog 5 Tryd.f5 (OpenSpec.ofChange Rows.fnWalkSpec).bare Rows.fnWalkRow = true := by
  unfold joinedFacts
  repeat' (with_reducible refine and2 ?_ ?_)
  all_goals first
    | with_reducible exact Tryd.enters
    | with_reducible exact lifts_of (c := Rows.fnWalkRow) rfl
    | (as_aux_lemma => kernel_rfl)
theorem said : Rows.FnWalkSaid :=
  OpenClaim.holds_of_cond 5 Tryd.f5 rfl rfl rfl rfl rfl rfl rfl ⟨rfl, rfl, rfl, rfl, rfl⟩ rfl rfl rfl rfl rfl named Tryd.func5 closed inst wrapped
    (fun os started H enc _ F => by rw [OpenClaim.pre_eq_preRow]; exact lifted os started H enc F)

theorem plain (f : FuncId) (fn : Func) (hf : Tryd.pinned.checked.prog.funcNamed "loop.example/onceways/laws.FnWalk" = some f) (hfn : Tryd.pinned.checked.prog.funcs[f]? = some fn) :
    false = Tryd.pinned.checked.prog.looks [] ∧ ∀ (j : Nat) t, fn.params[j]? = some t → Tryd.pinned.checked.prog.wantsStandIn t = false := by
  obtain rfl : f = 5 := Option.some.inj (named.symm.trans hf) |>.symm
  obtain rfl : fn = Tryd.f5 := (Option.some.inj (Tryd.func5.symm.trans hfn)).symm
  refine ⟨by as_aux_lemma => kernel_rfl, fun j t ht => ?_⟩
  rw [Tryd.params5] at ht
  have ht' : t = 41 := by simpa using Array.mem_of_getElem? ht
  obtain rfl := ht'
  · exact (show Tryd.prog.wantsStandIn 41 = false by kernel_rfl)

/-- THE CARD. -/
theorem card : Rows.FnWalkCardSaid :=
  Claim7.holds_tied_plain_at .later [] _ _ _ _ said (fun _ h => by cases h) (by as_aux_lemma => kernel_rfl) (fun _ h => by cases h) fnWalk_row_tie rfl ⟨rfl, rfl⟩ (by as_aux_lemma => kernel_rfl) rfl plain (by as_aux_lemma => kernel_rfl)
end Go.Proofs.YtfmhcjhcmoniaaaDoor.fnWalk
