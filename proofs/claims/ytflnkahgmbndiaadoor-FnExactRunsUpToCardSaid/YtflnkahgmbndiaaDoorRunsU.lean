/-
  RunsUpTo of the program. Conditions: at most 1048576 blocks and edges, each text at most as many bytes; the errors' variables hold errors.
-/
import Derived.Test.YtflnkahgmbndiaaDoorRunsS
import Derived.Test.YtflnkahgmbndiaaDoorRunsI
namespace Go.Proofs.YtflnkahgmbndiaaDoor
open Go.RowKit Go.Maps Go.Shelf

attribute [local go_sem] Oper.semAt_some

theorem box_not_row {W : World} {B : Nat} {cs : Array Value} {t e : TypeId} {fr : Nat × Nat} (h : W.heap[B]? = some (.cells cs t fr)) (hte : t ≠ e) {base size k : Nat} {v : Value} {xs : List Value} (hr : W.ownsRow base e size v k xs) : some B ≠ v.ownBlock := by
  rcases hr.2 with ⟨rfl, _⟩ | ⟨g, cap, cur, rfl, _, hgb, _⟩
  · simp [Value.ownBlock]
  · intro e'
    obtain rfl : B = g := by simpa [Value.ownBlock] using e'
    have := h.symm.trans hgb
    simp at this
    exact hte this.2.1
theorem KpR.appended {W w1 : World} {n₀ B : Nat} {size : Nat} {v v' : Value} {k : Nat} {xs : List Value} {tmp : Obj} (hv : Boxed W B 27 v) (hrow : W.ownsRow n₀ 9 size v k xs) (hgrow : (W.alloc tmp).grownBy w1 v.ownBlock) (hb : Below n₀ W (w1.setCell ⟨B, 0, none⟩ v')) :
    KpR n₀ W (w1.setCell ⟨B, 0, none⟩ v') := ⟨hb, fun j cs fr hj => by
  have hlt := (Array.getElem?_eq_some_iff.1 hj).1
  have hne : j ≠ B := fun e => by
    subst e
    have := hj.symm.trans (show W.heap[j]? = _ from hv)
    simp at this
  rw [Below.heap_setCell _ _ _ _ (by simpa using hne), hgrow.block j (by simp; omega) (box_not_row hj (by decide) hrow), Below.heap_alloc _ _ _ hlt]
  exact hj⟩

/-- what a return gives whose two results lie in cells -/
theorem results43 (tmps : Array Value) (W : World) {a b : Nat} {v : Value} {r : Bool} (h4 : tmps[4]?.getD undef = .pointer (some ⟨a, 0, none⟩)) (h5 : tmps[5]?.getD undef = .pointer (some ⟨b, 0, none⟩)) {x : Option Addr} {m c : Nat} (hv : v = .slice x m c) (ha : Boxed W a 27 v) (hb : Boxed W b 4 (.bool r)) :
    (results Tryd.f9 tmps).run Tryd.prog W = .ok (.tuple #[v, .bool r]) W := by
  subst hv
  have c4 := ha.cell
  have c5 := hb.cell
  simp [results, Tryd.results9, h4, h5, go_sem, c4, c5]
variable (bs es : List Pr)
/-- a return without runs -/
theorem runs_no (w W : World) (k : Int) (b4 : Boxed W (w.heap.size + 1) 27 (.slice none 0 0)) (b5 : Boxed W (w.heap.size + 1 + 1) 4 (.bool false)) (hall : Below w.heap.size w W) (hr : runsR bs es k = ([], false)) (tmps : Array Value)
    (h4 : tmps[4]?.getD undef = .pointer (some ⟨w.heap.size + 1, 0, none⟩)) (h5 : tmps[5]?.getD undef = .pointer (some ⟨w.heap.size + 1 + 1, 0, none⟩)) :
    bodyPostM Fence.wide 6 Tryd.prog Tryd.f9 (RunsPost w (runsR bs es k)) Exit.ret { tmps := tmps, defers := [] } ((W.setCell ⟨w.heap.size + 1, 0, none⟩ (.slice none 0 0)).setCell ⟨w.heap.size + 1 + 1, 0, none⟩ (.bool false)) := by
  have hb : Below w.heap.size w ((W.setCell ⟨w.heap.size + 1, 0, none⟩ (.slice none 0 0)).setCell ⟨w.heap.size + 1 + 1, 0, none⟩ (.bool false)) := (hall.setCell (p := ⟨w.heap.size + 1, 0, none⟩) (by simp) _).setCell (p := ⟨w.heap.size + 1 + 1, 0, none⟩) (by simp; omega) _
  refine ⟨_, results43 tmps _ h4 h5 rfl ((b4.set _).other (by omega) _) ((b5.other (by omega) _).set _), _, by rw [hr], by rw [hr]; exact World.ownsRow_nil _ _ _ _, hb⟩
set_option maxRecDepth 100000 in
set_option maxHeartbeats 6400000 in
theorem RunsUpTo_impl (w : World) (ab ae : Option Addr) (cb ce : Nat) (k : Int) (hpb : PairsAt w ab bs) (hpe : PairsAt w ae es) (hg : Errs w) :
    Calls Tryd.prog 9 #[.agg #[.slice ab bs.length cb, .slice ae es.length ce], .int .i64 k] w (RunsPost w (runsR bs es k)) := by
  have h1 : Below w.heap.size w (((w.alloc (.cells #[.slice ab bs.length cb, .slice ae es.length ce] 33)).alloc (.cells #[.slice none 0 0] 27)).alloc (.cells #[.bool false] 4)) := (((Below.refl _ _).alloc (Nat.le_refl _) _).alloc (by simp) _).alloc (by simp; omega) _
  have hpb1 := hpb.below h1
  have hpe1 := hpe.below h1
  have hg1 := hg.keep h1
  have H1 := Lib.hid h1; clear h1
  refine (callsIn_wide (n := 6)).1 ?_
  refine callsIn_of_wp_marks Tryd.func9 rfl trivial ?_ rfl
  simp only [Tryd.ntmps9, List.size_toArray, List.length_cons, List.length_nil, Nat.reduceAdd, Nat.reduceSub, Array.replicate_succ, Array.replicate_zero, List.push_toArray, List.append_toArray, List.nil_append, List.cons_append]
  obtain ⟨i0, hi, hz0, hz1, hz2⟩ := info_parts Tryd.infoStr
  have HCO := Lib.hid (courseOf_any _ bs es _ _ cb ce hpb1 hpe1 hg1)
  clear hpb1 hpe1 hg1
  gi_wp2_with fail
  refine ⟨trivial, ?_⟩
  refine (callsIn_wide.2 HCO.out).mono ?_
  rintro e w1 ⟨hb1, hcase⟩
  have hall : Below w.heap.size w w1 := H1.out.trans (hb1.mono (by simp; omega))
  have hzw : w.heap.size + 1 + 1 < w1.heap.size := by have := hb1.size; simp at this; omega
  have b4 : Boxed w1 (w.heap.size + 1) 27 (.slice none 0 0) := (hb1.block (w.heap.size + 1) (by simp)).trans (by
    have h := Boxed.new (w.alloc (.cells #[.slice ab bs.length cb, .slice ae es.length ce] 33)) 27 (.slice none 0 0)
    rw [World.size_alloc] at h
    exact h.alloc _)
  have b5 : Boxed w1 (w.heap.size + 1 + 1) 4 (.bool false) := (hb1.block (w.heap.size + 1 + 1) (by simp)).trans (by
    have h := Boxed.new ((w.alloc (.cells #[.slice ab bs.length cb, .slice ae es.length ce] 33)).alloc (.cells #[.slice none 0 0] 27)) 4 (.bool false)
    rw [World.size_alloc, World.size_alloc] at h
    exact h)
  clear hb1 HCO H1
  rcases hcase with ⟨hv, o, lo, li, vn, f, D, rfl, hC⟩ | ⟨hv, rfl⟩
  · obtain ⟨ga, gc, rfl⟩ := own_form hC.names
    have hba : Below w1.heap.size w1 (w1.alloc (.cells #[.map (some o), .map (some lo), .map (some li), .slice ga bs.length gc, .map (some f)] 71)) := (Below.refl _ _).alloc (Nat.le_refl _) _
    have hC1 := hC.keep hba
    have b4' := b4.alloc (.cells #[.map (some o), .map (some lo), .map (some li), .slice ga bs.length gc, .map (some f)] 71)
    have b5' := b5.alloc (.cells #[.map (some o), .map (some lo), .map (some li), .slice ga bs.length gc, .map (some f)] 71)
    have hall' := hall.alloc hall.size (.cells #[.map (some o), .map (some lo), .map (some li), .slice ga bs.length gc, .map (some f)] 71)
    have hkc : (w1.alloc (.cells #[.map (some o), .map (some lo), .map (some li), .slice ga bs.length gc, .map (some f)] 71)).heap[w1.heap.size]? = some (.cells #[.map (some o), .map (some lo), .map (some li), .slice ga bs.length gc, .map (some f)] 71 (0, 0)) := heap_alloc_new w1 _
    obtain ⟨⟨x0, x1, x2, x3, x4⟩, xf⟩ := block5 hkc
    have hzv : w.heap.size + 1 + 1 < (w1.alloc (.cells #[.map (some o), .map (some lo), .map (some li), .slice ga bs.length gc, .map (some f)] 71)).heap.size := by simp; omega
    have HF := Lib.hid (And.intro b4' (And.intro b5' (And.intro hall' (And.intro hC1 (And.intro hkc hv)))))
    have c4 := b4'.cell
    have f4 := b4'.frozen
    have c5 := b5'.cell
    have f5 := b5'.frozen
    clear hall b4 b5 b4' b5' hall' hC hC1 hba hkc hv xf
    by_cases hk0 : k < 0
    · have HR := Lib.hid (runsR_no2 (bs := bs) (es := es) (show inB k 0 12 = false by simp [inB]; omega))
      gi_wp2
      exact runs_no bs es w _ k HF.out.1 HF.out.2.1 HF.out.2.2.1 HR.out _ rfl rfl
    by_cases hk12 : 12 < k
    · have HR := Lib.hid (runsR_no2 (bs := bs) (es := es) (show inB k 0 12 = false by simp [inB]; omega))
      gi_wp2
      exact runs_no bs es w _ k HF.out.1 HF.out.2.1 HF.out.2.2.1 HR.out _ rfl rfl
    obtain ⟨K, rfl⟩ : ∃ K : Nat, k = (K : Int) := ⟨k.toNat, by omega⟩
    have hK : K ≤ 12 := by omega
    have d1 : decide ((K : Int) < 0) = false := by simp
    have d2 : decide ((12 : Int) < (K : Int)) = false := by simp; omega
    gi_wp2_with fail
    refine ⟨trivial, ?_⟩
    refine (callsIn_wide.2 (runs_any o lo li f ga gc bs K _)).mono ?_
    rintro e w5 ⟨rfl, hw5⟩
    gi_wp2
    clear hw5
    have hzB : (w1.alloc (.cells #[.map (some o), .map (some lo), .map (some li), .slice ga bs.length gc, .map (some f)] 71)).heap.size = w1.heap.size + 1 := by simp
    obtain ⟨WB, hWB⟩ : ∃ WB, w1.alloc (.cells #[.map (some o), .map (some lo), .map (some li), .slice ga bs.length gc, .map (some f)] 71) = WB := ⟨_, rfl⟩
    rw [hWB] at HF hzB ⊢
    clear hWB x0 x1 x2 x3 x4 c4 f4 c5 f5
    obtain ⟨b4, b5, hall, hC, hkc, hV⟩ := HF.out
    have bL := Boxed.new WB 27 (.slice none 0 0)
    rw [hzB] at bL
    have hbL : Below WB.heap.size WB (((WB.alloc (.cells #[.slice none 0 0] 27)).alloc (.cells #[.map (some o), .map (some lo), .map (some li), .slice ga bs.length gc, .map (some f)] 71)).alloc (.cells #[.int .i64 (K : Int)] 3)) := (((Below.refl _ _).alloc (Nat.le_refl _) _).alloc (by simp) _).alloc (by simp; omega) _
    have hcb : (((WB.alloc (.cells #[.slice none 0 0] 27)).alloc (.cells #[.map (some o), .map (some lo), .map (some li), .slice ga bs.length gc, .map (some f)] 71)).alloc (.cells #[.int .i64 (K : Int)] 3)).heap[w1.heap.size + 1 + 1]? = some (.cells #[.map (some o), .map (some lo), .map (some li), .slice ga bs.length gc, .map (some f)] 71 (0, 0)) := by
      have h := heap_alloc_new (WB.alloc (.cells #[.slice none 0 0] 27)) (.cells #[.map (some o), .map (some lo), .map (some li), .slice ga bs.length gc, .map (some f)] 71)
      rw [World.size_alloc, hzB] at h
      exact (Below.heap_alloc _ _ _ (by simp; omega)).trans h
    have hkb : (((WB.alloc (.cells #[.slice none 0 0] 27)).alloc (.cells #[.map (some o), .map (some lo), .map (some li), .slice ga bs.length gc, .map (some f)] 71)).alloc (.cells #[.int .i64 (K : Int)] 3)).cell? ⟨w1.heap.size + 1 + 1 + 1, 0, none⟩ = some (.int .i64 (K : Int)) := by
      have h := Boxed.new ((WB.alloc (.cells #[.slice none 0 0] 27)).alloc (.cells #[.map (some o), .map (some lo), .map (some li), .slice ga bs.length gc, .map (some f)] 71)) 3 (.int .i64 (K : Int))
      rw [World.size_alloc, World.size_alloc, hzB] at h
      exact h.cell
    have bL5 := (bL.alloc (.cells #[.map (some o), .map (some lo), .map (some li), .slice ga bs.length gc, .map (some f)] 71)).alloc (.cells #[.int .i64 (K : Int)] 3)
    have b45 := ((b4.alloc (.cells #[.slice none 0 0] 27)).alloc (.cells #[.map (some o), .map (some lo), .map (some li), .slice ga bs.length gc, .map (some f)] 71)).alloc (.cells #[.int .i64 (K : Int)] 3)
    have b55 := ((b5.alloc (.cells #[.slice none 0 0] 27)).alloc (.cells #[.map (some o), .map (some lo), .map (some li), .slice ga bs.length gc, .map (some f)] 71)).alloc (.cells #[.int .i64 (K : Int)] 3)
    have hz5 : (((WB.alloc (.cells #[.slice none 0 0] 27)).alloc (.cells #[.map (some o), .map (some lo), .map (some li), .slice ga bs.length gc, .map (some f)] 71)).alloc (.cells #[.int .i64 (K : Int)] 3)).heap.size = w1.heap.size + 1 + 1 + 1 + 1 := by simp; omega
    have hall5 : Below w.heap.size w (((WB.alloc (.cells #[.slice none 0 0] 27)).alloc (.cells #[.map (some o), .map (some lo), .map (some li), .slice ga bs.length gc, .map (some f)] 71)).alloc (.cells #[.int .i64 (K : Int)] 3)) := hall.trans (hbL.mono (by have := hall.size; omega))
    obtain ⟨W5, hW5⟩ : ∃ W5, ((WB.alloc (.cells #[.slice none 0 0] 27)).alloc (.cells #[.map (some o), .map (some lo), .map (some li), .slice ga bs.length gc, .map (some f)] 71)).alloc (.cells #[.int .i64 (K : Int)] 3) = W5 := ⟨_, rfl⟩
    rw [hW5] at hbL hcb hkb bL5 b45 b55 hz5 hall5 ⊢
    clear hW5
    have hseq : SeqStopsK Fence.wide 5 Tryd.prog 60 #[.pointer (some ⟨w1.heap.size + 1 + 1, 0, none⟩), .pointer (some ⟨w1.heap.size + 1 + 1 + 1, 0, none⟩)] (fun x : ByteArray => #[Value.string x]) (KpR WB.heap.size) (fun ys => ys = allRuns bs es K) (fun pre => pre <+: allRuns bs es K) (allRuns bs es K).length W5 := fun l J Jx W hW hJ _ hY h0 =>
      runs1_in WB o lo li f ga gc bs es D hV hC K hK 5 l (w1.heap.size + 1 + 1) (w1.heap.size + 1 + 1 + 1) J Jx (fun s A B hs hg => hJ s A B none hs hg (fun r e => by cases e)) (fun m pre x W1 hj _ hl => anyDepth m (hY pre x W1 hj hl)) W
        (hbL.trans (hW.mono hbL.size)) ((hW.block _ (by omega)).trans hcb) ((hW.cell (p := ⟨w1.heap.size + 1 + 1 + 1, 0, none⟩) (by show w1.heap.size + 1 + 1 + 1 < W5.heap.size; omega)).trans hkb) h0
    have hInv : OwnFrom W5.heap.size (fun (pre : List ByteArray) W => (∃ v, Boxed W (w1.heap.size + 1) 27 v ∧ W.ownsRow (w1.heap.size + 1) 9 1 v pre.length (pre.map Value.string) ∧ True) ∧ (Boxed W (w.heap.size + 1) 27 (.slice none 0 0) ∧ (Boxed W (w.heap.size + 1 + 1) 4 (.bool false) ∧ (Below w.heap.size w W ∧ pre.length ≤ 300)))) :=
      OwnFrom.and (Own.from (holdsRow_own (w1.heap.size + 1) (w1.heap.size + 1) 27 9 1 (fun pre : List ByteArray => pre.length) (fun pre => pre.map Value.string) (fun _ _ => True)) _) (OwnFrom.and (Own.from (boxed_own (w.heap.size + 1) 27 (fun _ => .slice none 0 0)) _) (OwnFrom.and (Own.from (boxed_own (w.heap.size + 1 + 1) 4 (fun _ => .bool false)) _) (OwnFrom.and (ownFrom_below (Nat.le_refl _) (by have := hall5.size; omega)) (ownFrom_pure _ _))))
    have hInx : ∀ c : Code, OwnFrom W5.heap.size (fun (pre : List ByteArray) W => (c = .ret ∧ 300 < pre.length) ∧ (Boxed W (w.heap.size + 1) 27 (.slice none 0 0) ∧ (Boxed W (w.heap.size + 1 + 1) 4 (.bool false) ∧ Below w.heap.size w W))) := fun c =>
      OwnFrom.and (ownFrom_pure _ _) (OwnFrom.and (Own.from (boxed_own (w.heap.size + 1) 27 (fun _ => .slice none 0 0)) _) (OwnFrom.and (Own.from (boxed_own (w.heap.size + 1 + 1) 4 (fun _ => .bool false)) _) (ownFrom_below (Nat.le_refl _) (by have := hall5.size; omega))))
    refine wpIn_rangeFunc_ownG rfl (by omega) (gf := 60) rfl trivial (enters_of Tryd.func60 (by kernel_rfl) rfl)
      hseq (fun h k => h.trans k) (fun W l o₁ o' hl h hc _ => ?_) (Below.refl _ _) (fun _ => rfl) _ (fun c pre W => (c = .ret ∧ 300 < pre.length) ∧ (Boxed W (w.heap.size + 1) 27 (.slice none 0 0) ∧ (Boxed W (w.heap.size + 1 + 1) 4 (.bool false) ∧ Below w.heap.size w W))) hInv hInx
      ⟨⟨_, bL5, World.ownsRow_nil _ _ _ _, trivial⟩, b45, b55, hall5, Nat.zero_le _⟩
      (fun x => { tmps := #[.agg #[.slice ab bs.length cb, .slice ae es.length ce], .int .i64 (K : Int), .pointer (some ⟨w.heap.size, 0, none⟩), undef, .pointer (some ⟨w.heap.size + 1, 0, none⟩), .pointer (some ⟨w.heap.size + 1 + 1, 0, none⟩), .pointer (some ⟨w1.heap.size, 0, none⟩), .bool true, .pointer (some ⟨w1.heap.size + 1, 0, none⟩), .string x, .tuple #[.agg #[.map (some o), .map (some lo), .map (some li), .slice ga bs.length gc, .map (some f)], .bool true], .agg #[.slice ab bs.length cb, .slice ae es.length ce], .tuple #[.agg #[.map (some o), .map (some lo), .map (some li), .slice ga bs.length gc, .map (some f)], .bool true], .agg #[.map (some o), .map (some lo), .map (some li), .slice ga bs.length gc, .map (some f)], .bool true, .bool true, .bool false, .bool false, .int .i64 (K : Int), .bool false, .bool false, .bool false, .int .i64 (K : Int), .bool false, .bool false, .agg #[.map (some o), .map (some lo), .map (some li), .slice ga bs.length gc, .map (some f)], .int .i64 (K : Int), .func (.func 60) #[] #[.pointer (some ⟨w1.heap.size + 1 + 1, 0, none⟩), .pointer (some ⟨w1.heap.size + 1 + 1 + 1, 0, none⟩)], .string x, undef, undef, undef, undef, undef, undef, undef, undef], defers := [] }) ?assign ?body ?done ?stop
    · refine ⟨(Below.refl _ _).trans ⟨rfl, rfl, rfl, by simp [World.putObj], fun k hk => World.putObj_heap_other (by omega)⟩, fun j cs fr hj => (World.putObj_heap_other (fun e => ?_)).trans hj⟩
      subst e
      rw [hj] at h; cases h; cases hc
    case assign =>
      intro l x W K' hK'
      gi_wp2
      exact hK'
    case body =>
      rintro l pre x W ⟨⟨v, hv, hrow, _⟩, hb4, hb5, hB, hlen⟩ hlt
      obtain ⟨va, vc, rfl⟩ := own_form hrow
      have q0 := hv.cell
      have q4 := hb4.cell
      have g4 := hb4.frozen
      have q5 := hb5.cell
      have g5 := hb5.frozen
      have hn0 : w1.heap.size + 1 ≤ W.heap.size := by have := hv.lt; omega
      by_cases h300 : pre.length = 300
      · have e1 : (((pre.length : Nat) : Int) == 300) = true := by simp; omega
        have HW := Lib.hid (And.intro hb4 (And.intro hb5 (And.intro hB h300)))
        clear hv hrow hb4 hb5 hB hlen h300
        gi_wp2
        exact ⟨((KeepsOthers.setCell W _ _).trans (KeepsOthers.setCell _ _ _)).from _, ⟨rfl, by simp; have := HW.out.2.2.2; omega⟩, (HW.out.1.set _).other (by omega) _, (HW.out.2.1.other (by omega) _).set _, (HW.out.2.2.1.setCell (p := ⟨w.heap.size + 1, 0, none⟩) (by simp) _).setCell (p := ⟨w.heap.size + 1 + 1, 0, none⟩) (by simp; omega) _⟩
      · have e1 : (((pre.length : Nat) : Int) == 300) = false := by simp; omega
        gi_wp2_with (gi_at_builtin; refine wpListIn_append_own _ rfl _ _ 27 rfl (w1.heap.size + 1) 9 i0 (.string ⟨#[]⟩) 1 16 Tryd.underlying27 hi hz0 hz1 hz2 rfl (by decide) _ _ _ rfl (hrow.alloc _) ⟨W.heap.size, 0, none⟩ 1 1 [.string x] rfl rfl (cell_one_new _ _ _) (one_one _ rfl) (by unfold maxLen; omega) (by omega) (by simp; omega) ?_; intro v' w9 hown' hgrow _; obtain ⟨g', cap', rfl⟩ := ownsRow_succ hown'; obtain ⟨hv1, hv2, hr2, hk2, hb2⟩ := hv.appended (by decide) hrow hn0 (Nat.le_refl _) hown' hgrow; have hc1 := hv1.cell; have hf1 := hv1.frozen)
        have hb4' := ((hb4.alloc (.cells #[.string x] 9)).kept hgrow (hb4.not_row (by decide) hrow)).other (show w.heap.size + 1 ≠ w1.heap.size + 1 by omega) (.slice (some ⟨g', 0, none⟩) (pre.length + 1) cap')
        have hb5' := ((hb5.alloc (.cells #[.string x] 9)).kept hgrow (hb5.not_row (by decide) hrow)).other (show w.heap.size + 1 + 1 ≠ w1.heap.size + 1 by omega) (.slice (some ⟨g', 0, none⟩) (pre.length + 1) cap')
        exact ⟨hk2.from _, by rw [hzB]; exact KpR.appended hv hrow hgrow hb2, ⟨_, hv2, by simpa using hr2, trivial⟩, hb4', hb5', hB.trans (hb2.mono (by omega)), by simp; omega⟩
    case done =>
      rintro D' ys W hD rfl ⟨⟨v, hv, hrow, _⟩, hb4, hb5, hB, hlen⟩ hK'
      obtain ⟨va, vc, rfl⟩ := own_form hrow
      have q0 := hv.cell
      have q4 := hb4.cell
      have g4 := hb4.frozen
      have q5 := hb5.cell
      have g5 := hb5.frozen
      have HR := Lib.hid (runsR_yes (bs := bs) (es := es) (k := K) (show validB bs es = true by simpa [validB] using hV) (show inB (K : Int) 0 12 = true by simp [inB]; omega) hlen)
      have HW := Lib.hid (And.intro hv (And.intro hrow (And.intro hb4 (And.intro hb5 (And.intro hB (And.intro hlen hK'))))))
      clear hv hrow hb4 hb5 hB hlen
      gi_wp2
      obtain ⟨hv, hrow, hb4, hb5, hB, hlen, hK'⟩ := HW.out
      have hKs : ((W.setCell ⟨w.heap.size + 1, 0, none⟩ (.slice va (allRuns bs es K).length vc)).setCell ⟨w.heap.size + 1 + 1, 0, none⟩ (.bool true)).heap[D']? = some (.deferred (some [])) :=
        (Below.heap_setCell _ _ _ _ (by show D' ≠ w.heap.size + 1 + 1; omega)).trans ((Below.heap_setCell _ _ _ _ (by show D' ≠ w.heap.size + 1; omega)).trans hK')
      refine ⟨by simp, .inl ⟨_, _, rfl, run_takeDeferred hKs, ?_⟩⟩
      have hr1 := (hrow.kept (grownBy_setCell' W (w.heap.size + 1) (.slice va (allRuns bs es K).length vc)) (.inr (hb4.not_row (by decide) hrow).symm))
      have hr2 := hr1.kept (grownBy_setCell' _ (w.heap.size + 1 + 1) (.bool true)) (.inr ((hb5.other (by omega) _).not_row (by decide) hr1).symm)
      exact ⟨_, results43 _ _ rfl rfl rfl (((hb4.set _).other (by omega) _).kept (grownBy_putObj' _ _ _) (fun e => by have := Option.some.inj e; omega)) (((hb5.other (by omega) _).set _).kept (grownBy_putObj' _ _ _) (fun e => by have := Option.some.inj e; omega)), _, by rw [HR.out],
        by rw [HR.out]; exact own_base (ownsRow_putObj hr2 _ hKs rfl) (by omega), ((hB.setCell (p := ⟨w.heap.size + 1, 0, none⟩) (by simp) _).setCell (p := ⟨w.heap.size + 1 + 1, 0, none⟩) (by simp; omega) _).trans (belowK_b (w := w) (Nat.le_refl _) _ D' _ _ (by omega) hKs rfl rfl)⟩
    case stop =>
      rintro D' c pre W hD hpre ⟨⟨rfl, hlen⟩, hb4, hb5, hB⟩ hK'
      have hle := hpre.length_le
      have HR := runsR_no3 (bs := bs) (es := es) (k := K) (by omega)
      gi_wp2
      refine ⟨by simp, .inl ⟨_, _, rfl, run_takeDeferred hK', ?_⟩⟩
      exact ⟨_, results43 _ _ rfl rfl rfl (hb4.kept (grownBy_putObj' _ _ _) (fun e => by have := Option.some.inj e; omega)) (hb5.kept (grownBy_putObj' _ _ _) (fun e => by have := Option.some.inj e; omega)), _, by rw [HR], by rw [HR]; exact World.ownsRow_nil _ _ _ _, hB.trans (belowK_b (w := w) (Nat.le_refl _) W D' _ _ (by omega) hK' rfl rfl)⟩
  · have HR := Lib.hid (runsR_no1 (bs := bs) (es := es) (k := k) (show validB bs es = false by simpa [validB] using hv))
    clear hv
    have b4' := b4.alloc (.cells #[.map none, .map none, .map none, .slice none 0 0, .map none] 71)
    have b5' := b5.alloc (.cells #[.map none, .map none, .map none, .slice none 0 0, .map none] 71)
    have hall' := hall.alloc hall.size (.cells #[.map none, .map none, .map none, .slice none 0 0, .map none] 71)
    have HF := Lib.hid (And.intro b4' (And.intro b5' hall'))
    have c4 := b4'.cell
    have f4 := b4'.frozen
    have c5 := b5'.cell
    have f5 := b5'.frozen
    clear hall b4 b5 b4' b5' hall'
    gi_wp2
    exact runs_no bs es w _ k HF.out.1 HF.out.2.1 HF.out.2.2 HR.out _ rfl rfl
end Go.Proofs.YtflnkahgmbndiaaDoor
