/-
  The program's opsAlong: what each block of a run does, as rows of letters. Conditions: at most 1048576 blocks and edges, each text at most as many bytes; the errors' variables hold errors.
-/
import Derived.Test.YtoppcppinjmjeaaDoorOpsM
import Derived.Test.YtoppcppinjmjeaaDoorBlkF
import Derived.Deep.RegionLaw
namespace Go.Proofs.YtoppcppinjmjeaaDoor
open Go.RowKit Go.Maps

/-- rows of letters, one for each block of a run -/
def AlongPost (w : World) (bs es : List Pr) (run : ByteArray) (e : Ending) (w' : World) : Prop :=
  Below w.heap.size w w' ∧ ((isRunB bs es run = true ∧ ∃ (b cap : Nat) (V : Nat → Value), e = .returned (.tuple #[.slice (some ⟨b, 0, none⟩) run.size cap, .bool true]) ∧ b < w'.heap.size ∧ (∀ i, i < run.size → w'.cell? ⟨b, i, none⟩ = some (V i)) ∧
      ∀ i, i < run.size → RowAt w' (V i) (opVals (opsAt bs (ch run i)) (opsAt bs (ch run i)).size)) ∨
    (isRunB bs es run = false ∧ e = .returned (.tuple #[.slice none 0 0, .bool false])))
theorem Tryd.infoRow : (Tryd.prog.info? 80).map (fun i => (i.zero, i.size, i.bytes)) = some (some (.slice none 0 0), 1, 24) := by kernel_rfl

theorem RowAt.below {w w' : World} {v : Value} {xs : List Value} (h : RowAt w v xs) (hb : Below w.heap.size w w') : RowAt w' v xs :=
  h.same fun k _ _ _ hk => hb.block k (Array.getElem?_eq_some_iff.1 hk).1
set_option maxRecDepth 100000 in
set_option maxHeartbeats 3200000 in
theorem opsAlong_any (w : World) (bs es : List Pr) (ab ae : Option Addr) (cb ce : Nat) (run : ByteArray) (hr : run.size ≤ 1048576) (hpb : PairsAt w ab bs) (hpe : PairsAt w ae es) (hg : Errs w) :
    Calls Tryd.prog 64 #[.agg #[.slice ab bs.length cb, .slice ae es.length ce], .string run] w (AlongPost w bs es run) := by
  have h1 : Below w.heap.size w (w.alloc (.cells #[.slice ab bs.length cb, .slice ae es.length ce] 31)) := (Below.refl _ _).alloc (Nat.le_refl _) _
  have hpb1 := hpb.below h1
  have hpe1 := hpe.below h1
  have hg1 := hg.keep h1
  have H1 := Lib.hid h1; clear h1
  go_enter Tryd.func64, Tryd.ntmps64
  go_wp2_with fail
  refine (courseOf_any _ bs es _ _ _ _ hpb1 hpe1 hg1).mono ?_
  rintro e w1 ⟨hb1, hcase⟩
  have hall : Below w.heap.size w w1 := H1.out.trans (hb1.mono (by simp))
  have hz := hall.size
  rcases hcase with ⟨hv, o, lo, li, vn, f, D, rfl, hp⟩ | ⟨hv, rfl⟩
  · have HV := Lib.hid (show validB bs es = true by simpa [validB] using hv)
    have HVV := Lib.hid hv
    have hwa : Below w1.heap.size w1 (w1.alloc (.cells #[.map (some o), .map (some lo), .map (some li), vn, .map (some f)] 100)) := (Below.refl _ _).alloc (Nat.le_refl _) _
    have hpA := hp.keep hwa
    obtain ⟨ga, gc, rfl⟩ := own_form hp.names
    have hkA : (w1.alloc (.cells #[.map (some o), .map (some lo), .map (some li), .slice ga bs.length gc, .map (some f)] 100)).heap[w1.heap.size]? = some (.cells #[.map (some o), .map (some lo), .map (some li), .slice ga bs.length gc, .map (some f)] 100 (0, 0)) := heap_alloc_new w1 _
    have HP := Lib.hid (And.intro hpA (And.intro hkA hwa)); clear hpA hp hv hkA hwa
    go_wp2_with fail
    refine (isRun_any _ o lo li f _ bs es D run hr HVV.out HP.out.1).mono ?_
    rintro e w2 ⟨rfl, hb2⟩
    have hall2 : Below w.heap.size w w2 := (hall.alloc hz _).trans (hb2.mono (by simp; omega))
    have hz2 := hall2.size
    cases hR : runB bs es run
    · have HN := Lib.hid (show isRunB bs es run = false by rw [isRunB_yes HV.out, hR])
      clear hR
      go_wp2
      go_ret2
      exact ⟨hall2, .inr ⟨HN.out, rfl⟩⟩
    · have HN := Lib.hid (show isRunB bs es run = true by rw [isRunB_yes HV.out, hR])
      have HRO := Lib.hid (show RunOk bs es run by simpa [runB] using hR)
      clear hR
      obtain ⟨i0, hi, hz0, hz1, hz2⟩ := info_parts Tryd.infoRow
      have hp2 := HP.out.1.keep hb2
      have hk2 := (hb2.block w1.heap.size (by simp)).trans HP.out.2.1
      obtain ⟨F, hO⟩ := hp2.plan.ops
      have hV : ∀ i, i < run.size → ∃ v, F (ch run i) = some v ∧ RowAt w2 v (opVals (opsAt bs (ch run i)) (opsAt bs (ch run i)).size) := fun i hi => by
        obtain ⟨kk, hkk, hf, hn⟩ := fnd_pos (HRO.out.mem HVV.out hi)
        obtain ⟨v, hv, hrow⟩ := hO.row _ (pair_mem hkk)
        refine ⟨v, by rw [← hv]; exact congrArg F hn.symm, ?_⟩
        unfold opsAt
        rw [hf]
        exact hrow
      obtain ⟨V, hVd⟩ : ∃ V : Nat → Value, V = fun i => (F (ch run i)).getD (.slice none 0 0) := ⟨_, rfl⟩
      have hVr : ∀ i, i < run.size → F (ch run i) = some (V i) ∧ RowAt w2 (V i) (opVals (opsAt bs (ch run i)) (opsAt bs (ch run i)).size) := fun i hi => by
        obtain ⟨v, h1, h2⟩ := hV i hi
        have : V i = v := by rw [hVd]; show (F (ch run i)).getD _ = v; rw [h1]; rfl
        rw [this]; exact ⟨h1, h2⟩
      have HVr := Lib.hid (And.intro hVr (And.intro hO hk2)); clear hV hVd hVr hO hk2 hp2
      have hr40 := HRO.out.hi
      have hr2 := HRO.out.lo
      go_wp2
      go_loopw [25, 8] (fun i v wr => ∃ k : Nat, k ≤ run.size ∧ i = .int .i64 k ∧ wr.ownsRow w2.heap.size 80 1 v k ((List.range k).map V) ∧ Below w2.heap.size w2 wr) (fun i _ _ => run.size - (intOf i).toNat)
      case atStart => exact ⟨0, Nat.zero_le _, rfl, World.ownsRow_nil _ _ _ _, Below.refl _ _⟩
      case round =>
        obtain ⟨k, hk, rfl, hown, hbl⟩ := hrel
        have hs3 := hbl.size
        by_cases hlt : k < run.size
        · obtain ⟨hF, hrow⟩ := HVr.out.1 k hlt
          obtain ⟨va, vc, hva⟩ := row_len3 hrow
          have hw1 : w1.heap.size < w2.heap.size := (Array.getElem?_eq_some_iff.1 HVr.out.2.2).1
          have hkr := (hbl.block w1.heap.size hw1).trans HVr.out.2.2
          obtain ⟨⟨x0, x1, x2, x3, x4⟩, _⟩ := block5 hkr
          have hch : (ch run k).size ≤ 1048576 := by rw [ch_size hlt]; decide
          have lk := (HVr.out.2.1.below hbl).map.look Tryd.underlying83 (zeroOps wr) (mx hch)
          rw [hF, Option.getD_some] at lk
          have lk1 : (Instr.lookup 83 (.map (some o)) (.string (run.extract k (k + 1))) false).run Tryd.prog wr.drew = .ok (V k) wr.drew := by
            have := ((HVr.out.2.1.below hbl).map.drew).look Tryd.underlying83 (zeroOps wr.drew) (mx hch)
            rw [hF, Option.getD_some] at this
            exact this
          have s3 := run_slice_str run ((k : Int)) ((k : Int) + 1) k (k + 1) rfl (by omega) (by omega) (by omega)
          have w3 : IntKind.i64.wrap ((k : Int) + 1) = (k : Int) + 1 := IntWalk.i64_in _ (by omega)
          rw [hva] at lk1
          generalize (opVals (opsAt bs (ch run k)) (opsAt bs (ch run k)).size).length = vl at hva lk1
          have hone : ∀ u ∈ [Value.slice va vl vc], u.oneCell' = true := one_one _ rfl
          have HR1 := Lib.hid (show (List.range (k + 1)).map V = (List.range k).map V ++ [Value.slice va vl vc] by rw [List.range_succ, List.map_append, List.map_cons, List.map_nil, hva])
          have hownd : wr.drew.ownsRow w2.heap.size 80 1 _ k ((List.range k).map V) := hown
          clear hva hrow hF lk hkr
          go_wp2
          go_region_law (refine step_append_lies _ rfl (.tmp 28) (.tmp 38) 77 rfl w2.heap.size 80 i0 (.slice none 0 0) 1 24 Tryd.underlying77 hi hz0 hz1 hz2 rfl (by decide) _ k ((List.range k).map V) rfl (hownd.alloc _) ⟨wr.heap.size, 0, none⟩ 1 1 [Value.slice va vl vc] rfl rfl (cell_one_new _ _ _) hone (by decide) (by unfold maxLen; omega) (by omega) (by simp; omega) _ rfl ?_; intro g' cap' w4 hown4 hgrow4 _ _)
          have hb4 : Below w2.heap.size w2 w4 := ((hbl.drew).alloc (by simpa using hs3) _).grown hgrow4 (by simp; omega) (fun j hj => (hown.lt j hj).1)
          go_wp2
          go_roundw
          case rel => exact ⟨k + 1, by omega, by go_num, by rw [HR1.out]; exact hown4, hb4⟩
          case measure => simp [intOf]; omega
        · obtain rfl : k = run.size := by omega
          obtain ⟨n, hn⟩ : ∃ n, run.size = n + 1 := ⟨run.size - 1, by omega⟩
          have hown' : wr.ownsRow w2.heap.size 80 1 u8 (n + 1) ((List.range run.size).map V) := by rw [← hn]; exact hown
          obtain ⟨g, cap, hu8, hgb, hgw, hcap, hcm, hcells⟩ := own_last hown'
          rw [← hn] at hu8
          have HC := Lib.hid hcells
          clear hown hown' hcells hn
          subst hu8
          go_wp2
          go_ret2
          refine ⟨hall2.trans (hbl.mono hall2.size), .inl ⟨HN.out, g, cap, V, rfl, hgw, fun i hi => HC.out i _ (by simp [hi]), fun i hi => ?_⟩⟩
          exact (HVr.out.1 i hi).2.below hbl
  · have HN := Lib.hid (isRunB_no1 (run := run) (show validB bs es = false by simpa [validB] using hv))
    clear hv
    go_wp2
    go_ret2
    exact ⟨hall.alloc hz _, .inr ⟨HN.out, rfl⟩⟩
end Go.Proofs.YtoppcppinjmjeaaDoor
