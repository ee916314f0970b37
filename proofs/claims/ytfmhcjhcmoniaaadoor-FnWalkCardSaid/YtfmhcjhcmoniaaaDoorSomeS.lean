/-
  The model's l1Some: a program that is mostly valid, drawn. Conditions: at most 800000 numbers drawn before.
-/
import Derived.Test.YtfmhcjhcmoniaaaDoorGoodS
import Derived.Test.YtfmhcjhcmoniaaaDoorSomeM
import Derived.Deep.RegionLawGrows
import Derived.Deep.RegionHeldLaw
import Derived.Deep.CutRange
namespace Go.Proofs.YtfmhcjhcmoniaaaDoor
open Go.RowKit Go.Maps

theorem Valid.es_ne {bs es : List Pr} (h : Valid bs es) : 0 < es.length := by
  rcases Nat.eq_zero_or_pos es.length with h0 | h0
  · have he := List.length_eq_zero_iff.1 h0
    subst he
    exfalso
    have h2 := h.b.lo
    have h3 := h.ra _ (pair_mem (show bs.length - 1 < bs.length by omega))
    have h4 : nameAt bs 0 ≠ nameAt bs (bs.length - 1) := fun e => by have := names_inj h.b.nd (by omega) (by omega) e; omega
    exact h4 (h3.closed (S := fun x => x = nameAt bs 0) rfl (fun x y hm _ => by cases hm)).symm
  · exact h0
theorem PairsAt.news {w : World} {ad : Addr} {l : List Pr} (h : PairsAt w (some ad) l) : ∀ j u, (cellsOf l)[j]? = some u → w.cell? (ad.add j) = some u := by
  intro j u hj
  obtain ⟨i, hi, ⟨rfl, rfl⟩ | ⟨rfl, rfl⟩⟩ := cellsOf_at hj
  · obtain ⟨b, off, e, hb, g1, g2⟩ := h.cell i hi
    cases e
    rw [Addr.add_lit]; exact g1
  · obtain ⟨b, off, e, hb, g1, g2⟩ := h.cell i hi
    cases e
    rw [Addr.add_lit]; exact g2

/-- a program's two rows copied into new memory, and a block that holds them -/
def CopyRel (wP wx : World) (bs es : List Pr) (s4 : Value) : Prop := ∃ Q a c a' c', s4 = .pointer (some ⟨Q, 0, none⟩) ∧ wP.heap.size ≤ Q ∧ Two wx Q (.slice a bs.length c) (.slice a' es.length c') ∧ wx.ownsRow wP.heap.size 51 2 (.slice a bs.length c) bs.length (cellsOf bs) ∧ wx.ownsRow wP.heap.size 81 2 (.slice a' es.length c') es.length (cellsOf es) ∧ Below wP.heap.size wP wx
theorem Below.allocS {w wx : World} (h : Below w.heap.size w wx) (o : Obj) : Below w.heap.size w (wx.alloc o) := h.alloc h.size o
theorem Below.grownN {w wx wy : World} (h : Below w.heap.size w wx) (hg : wx.grownBy wy none) : Below w.heap.size w wy := h.grown hg h.size (fun k hk => by cases hk)
theorem own_grownN {w w' : World} {base : Nat} {e : TypeId} {size n : Nat} {v : Value} {xs : List Value} (h : w.ownsRow base e size v n xs) (hg : w.grownBy w' none) : w'.ownsRow base e size v n xs := h.kept hg (by cases v.ownBlock <;> simp)
theorem Two.allocS {w : World} {R : Nat} {x y : Value} (h : Two w R x y) (o : Obj) : Two (w.alloc o) R x y := (Below.heap_alloc _ _ _ h.cells.2.2.2.2).trans h
theorem Two.grownN {w w' : World} {R : Nat} {x y : Value} (h : Two w R x y) (hg : w.grownBy w' none) : Two w' R x y := (hg.block R h.cells.2.2.2.2 (by simp)).trans h

theorem copy_done_new {wP X : World} {bs es : List Pr} {Q c c' : Nat} {a a' : Option Addr} (hQ : Q = X.heap.size) (h4 : X.ownsRow wP.heap.size 51 2 (.slice a bs.length c) bs.length (cellsOf bs)) (h5 : X.ownsRow wP.heap.size 81 2 (.slice a' es.length c') es.length (cellsOf es)) (hb : Below wP.heap.size wP X) :
    CopyRel wP (X.alloc (.cells #[.slice a bs.length c, .slice a' es.length c'] 32)) bs es (.pointer (some ⟨Q, 0, none⟩)) :=
  ⟨Q, a, c, a', c', rfl, by rw [hQ]; exact hb.size, by subst hQ; exact heap_alloc_new _ _, h4.alloc _, h5.alloc _, Below.allocS hb _⟩
theorem copy_done_set {wP X : World} {bs es : List Pr} {Q c c' : Nat} {a a' : Option Addr} {x y : Value} (hQ : Two X Q x y) (hl : wP.heap.size ≤ Q) (h4 : X.ownsRow wP.heap.size 51 2 (.slice a bs.length c) bs.length (cellsOf bs)) (h5 : X.ownsRow wP.heap.size 81 2 (.slice a' es.length c') es.length (cellsOf es)) (hb : Below wP.heap.size wP X) :
    CopyRel wP ((X.setCell ⟨Q, 0, none⟩ (.slice a bs.length c)).setCell ⟨Q, 1, none⟩ (.slice a' es.length c')) bs es (.pointer (some ⟨Q, 0, none⟩)) :=
  ⟨Q, a, c, a', c', rfl, hl, (hQ.set0 _).set1 _, own_far (own_far h4 (own_neK h4 hQ (by decide)) _) (own_neK h4 hQ (by decide)) _, own_far (own_far h5 (own_neK h5 hQ (by decide)) _) (own_neK h5 hQ (by decide)) _, (hb.setCell hl _).setCell hl _⟩
theorem gcells {w w' : World} (h : w.grownBy w' none) : (∀ b o, b < w.heap.size → w'.cell? ⟨b, o, none⟩ = w.cell? ⟨b, o, none⟩) ∧ (∀ b o, b < w.heap.size → w'.frozen? ⟨b, o, none⟩ = w.frozen? ⟨b, o, none⟩) ∧ (∀ b, b < w.heap.size → b < w'.heap.size) :=
  ⟨fun b o hb => World.cell?_of_block (h.block b hb (by simp)), fun b o hb => World.frozen?_of_block (h.block b hb (by simp)), fun b hb => Nat.lt_of_lt_of_le hb h.size⟩
theorem own_grew {w : World} {B n : Nat} {e : TypeId} {size : Nat} {v : Value} {xs : List Value} (h : w.ownsRow B e size v n xs) (hn : 0 < n) : B < w.heap.size := by
  rcases h.2 with ⟨_, h0⟩ | ⟨g, cap, cur, _, hg, hh, _⟩
  · omega
  · have := (Array.getElem?_eq_some_iff.1 hh).1; omega
theorem Two_new (w : World) (x y : Value) (b : Nat) (h : b = w.heap.size) : Two (w.alloc (.cells #[x, y] 32)) b x y := by subst h; exact heap_alloc_new _ _
theorem Two.drewS {w : World} {R : Nat} {x y : Value} (h : Two w R x y) : Two w.drew R x y := h

set_option maxRecDepth 100000 in
set_option maxHeartbeats 0 in
theorem l1Some_any (w : World) (g : Nat) (a : Option Addr) (n cap p : Nat) (hp : p ≤ 800000) (h : RdAt w g a n cap p) :
    Calls Tryd.prog 32 #[.pointer (some ⟨g, 0, none⟩)] w (SomeDraw w g a n cap p) := by
  have hA : Below w.heap.size w (w.alloc (.cells #[.slice none 0 0, .slice none 0 0] 32)) := (Below.refl _ _).alloc (Nat.le_refl _) _
  have hR : Two (w.alloc (.cells #[.slice none 0 0, .slice none 0 0] 32)) w.heap.size (.slice none 0 0) (.slice none 0 0) := heap_alloc_new _ _
  have hgl := h.lt
  have hrA := h.below hA
  have H0 := Lib.hid (And.intro h (And.intro (Turns.of_below (S := fun k => k = g) hA) hR))
  clear h hA hR
  obtain ⟨i0, hi, hz0, hz1, hz2⟩ := info_parts Tryd.infoBlock
  obtain ⟨j0, hj, yz0, yz1, yz2⟩ := info_parts Tryd.infoEdge
  go_enter Tryd.func32, Tryd.ntmps32
  go_wp2_with fail
  refine (l1Good_any _ g a n cap p (by omega) hrA).mono ?_
  rintro e w1 ⟨bs, es, ab, ae, cb, ce, rfl, hV, hPb, hPe, p1, hp1, hrd, htu⟩
  have hs1 := htu.size
  simp at hs1
  have hb2 := hV.b.lo
  have hb9 := hV.b.hi
  have he1 := hV.es_ne
  have he14 := hV.e.hi
  obtain ⟨b0, o0, rfl, _⟩ := hPb.cell 0 (by omega)
  obtain ⟨b1, o1, rfl, _⟩ := hPe.cell 0 he1
  have hW : Below w1.heap.size w1 (w1.alloc (.cells #[.slice (some ⟨b0, o0, none⟩) bs.length cb, .slice (some ⟨b1, o1, none⟩) es.length ce] 32)) := (Below.refl _ _).alloc (Nat.le_refl _) _
  have hP : Two (w1.alloc (.cells #[.slice (some ⟨b0, o0, none⟩) bs.length cb, .slice (some ⟨b1, o1, none⟩) es.length ce] 32)) w1.heap.size _ _ := heap_alloc_new _ _
  have H1 := Lib.hid (And.intro hV (And.intro (hPb.below hW) (And.intro (hPe.below hW) (And.intro (hrd.below hW) (And.intro (H0.out.2.1.trans (htu.trans (.of_below hW))) (And.intro (show Two _ w.heap.size _ _ from (hW.block _ (by omega)).trans (htu.rd H0.out.2.2 (by omega))) hP))))))
  obtain ⟨c0, c1, _, _, hPl⟩ := hP.cells
  have hs2 : (w1.alloc (.cells #[.slice (some ⟨b0, o0, none⟩) bs.length cb, .slice (some ⟨b1, o1, none⟩) es.length ce] 32)).heap.size = w1.heap.size + 1 := by simp
  have HS2 := Lib.hid hs2
  have hnz : ¬ bs.length = 0 := by omega
  have hnz' : ¬ es.length = 0 := by omega
  clear hV hPb hPe hrd htu hW hP hs2
  go_upto_region 2 with fail
  generalize w1.alloc (.cells #[.slice (some ⟨b0, o0, none⟩) bs.length cb, .slice (some ⟨b1, o1, none⟩) es.length ce] 32) = wP at *
  have hSm : ∀ W', Below wP.heap.size wP W' → (W'.cell? ⟨w1.heap.size, 0, none⟩ = some (.slice (some ⟨b0, o0, none⟩) bs.length cb) ∧ W'.cell? ⟨w1.heap.size, 1, none⟩ = some (.slice (some ⟨b1, o1, none⟩) es.length ce) ∧ Below wP.heap.size wP W') := fun W' hB => ⟨(hB.cell (p := ⟨w1.heap.size, 0, none⟩) hPl).trans c0, (hB.cell (p := ⟨w1.heap.size, 1, none⟩) hPl).trans c1, hB⟩
  have HSm := Lib.hid hSm
  clear hSm
  go_cut [4] from 7 to 15 (fun s4 wx => CopyRel wP wx bs es s4)
  case first =>
    have HW := Lib.hid (And.intro H1.out.2.1 H1.out.2.2.1)
    clear H0 H1 HS2
    go_region_held_law (fun w' => w'.cell? ⟨w1.heap.size, 0, none⟩ = some (.slice (some ⟨b0, o0, none⟩) bs.length cb) ∧ w'.cell? ⟨w1.heap.size, 1, none⟩ = some (.slice (some ⟨b1, o1, none⟩) es.length ce) ∧ Below wP.heap.size wP w')
      (first
        | with_reducible exact HSm.out _ (Below.refl _ _).drew
        | (with_reducible refine HSm.out _ ?_; repeat (with_reducible first | exact Below.refl _ _ | assumption | refine Below.drew ?_ | refine Below.allocS ?_ _ | refine Below.setCell ?_ (by (try dsimp only); omega) _)))
      (first
        | (refine step_append_grows rfl (.tmp 7) (.tmp 9) 29 rfl 51 i0 (.agg #[.string ⟨#[]⟩, .string ⟨#[]⟩]) 2 32 Tryd.underlying29 hi hz0 hz1 hz2 rfl (by decide) _ 0 0 [] rfl (fun _ => ⟨rfl, rfl⟩) rfl (fun _ _ j u h => by cases h) ⟨b0, o0, none⟩ bs.length cb (cellsOf bs) rfl (cellsOf_length bs) (PairsAt.news (HW.out.1.below (‹_ ∧ _ ∧ Below wP.heap.size wP _›).2.2)) (cellsOf_one bs) (by omega) (by unfold maxLen; omega) (by omega) ?_; intro v4 w4 hown4 hgrow4; obtain ⟨a4, c4, rfl⟩ := own_form hown4; have ho4 : w4.ownsRow wP.heap.size 51 2 (.slice a4 bs.length c4) bs.length (cellsOf bs) := (by have h9 := own_base hown4 (‹_ ∧ _ ∧ Below wP.heap.size wP _›).2.2.size; simp only [Nat.zero_add, List.nil_append] at h9; exact h9); have hb4 := Below.grownN (‹_ ∧ _ ∧ Below wP.heap.size wP _›).2.2 hgrow4; have hz4' := hb4.size; have u4 := own_grew hown4 (by omega); (try simp at u4); have u4a : wP.heap.size < w4.heap.size := (by omega); have u4b : wP.heap.size + 1 < w4.heap.size := (by omega); obtain ⟨p4, z4, l4⟩ := gcells hgrow4)
        | (refine step_append_grows rfl (.tmp 11) (.tmp 13) 30 rfl 81 j0 (.agg #[.string ⟨#[]⟩, .string ⟨#[]⟩]) 2 32 Tryd.underlying30 hj yz0 yz1 yz2 rfl (by decide) _ 0 0 [] rfl (fun _ => ⟨rfl, rfl⟩) rfl (fun _ _ j u h => by cases h) ⟨b1, o1, none⟩ es.length ce (cellsOf es) rfl (cellsOf_length es) (PairsAt.news (HW.out.2.below (‹_ ∧ _ ∧ Below wP.heap.size wP _›).2.2)) (cellsOf_one es) (by omega) (by unfold maxLen; omega) (by omega) ?_; intro v5 w5 hown5 hgrow5; obtain ⟨a5, c5, rfl⟩ := own_form hown5; have ho5 : w5.ownsRow wP.heap.size 81 2 (.slice a5 es.length c5) es.length (cellsOf es) := (by have h9 := own_base hown5 (‹_ ∧ _ ∧ Below wP.heap.size wP _›).2.2.size; simp only [Nat.zero_add, List.nil_append] at h9; exact h9); have hb5 := Below.grownN (‹_ ∧ _ ∧ Below wP.heap.size wP _›).2.2 hgrow5; have hz5' := hb5.size; have u5 := own_grew hown5 (by omega); (try simp at u5); have u5a : wP.heap.size < w5.heap.size := (by omega); have u5b : wP.heap.size + 1 < w5.heap.size := (by omega); obtain ⟨p5, z5, l5⟩ := gcells hgrow5))
    all_goals
      go_wp2_with fail
      go_meet
      first
        | with_reducible refine copy_done_new (by simp) ?_ ?_ ?_
        | with_reducible refine copy_done_set (x := .slice none 0 0) (y := .slice none 0 0) ?_ (by omega) ?_ ?_ ?_
      all_goals repeat (with_reducible first | assumption | exact Two_new _ _ _ _ (by simp) | refine Two.drewS ?_ | refine Below.allocS ?_ _ | refine World.ownsRow.alloc ?_ _ | refine Two.allocS ?_ _ | refine own_grownN ?_ (by assumption) | refine Two.grownN ?_ (by assumption))
  case rest =>
    obtain ⟨Q, xa, xc, ya, yc, rfl, hQ, hT, hob, hoe, hbl⟩ := hcut
    have hzz : w.heap.size ≤ wP.heap.size := by have := HS2.out; omega
    have hG : GS w wc g a n cap p1 w.heap.size Q (.slice xa bs.length xc) (.slice ya es.length yc) bs es :=
      ⟨⟨p, H0.out.1⟩, H1.out.2.2.2.1.below hbl, Two.of_cells H1.out.2.2.2.2.2.1 (hbl.block _ (Two.cells H1.out.2.2.2.2.2.1).2.2.2.2), hT, own_base hob hzz, own_base hoe hzz, H1.out.2.2.2.2.1.trans (Turns.of_below hbl)⟩
    have HV := Lib.hid H1.out.1
    have hQw : w.heap.size ≤ Q := by omega
    have hRQ : w.heap.size ≠ Q := by have := (Two.cells H1.out.2.2.2.2.2.1).2.2.2.2; omega
    clear hob hoe hbl hT H1 HSm HS2 hQ hzz hs1 hPl c0 c1
    obtain ⟨gb, cb', hvb, hgb0, _, _, _, _⟩ := own_head hG.ob (by omega)
    obtain ⟨ge, ce', hve, hge0, _, _, _, _⟩ := own_head hG.oe (by omega)
    simp only [Value.slice.injEq, true_and] at hvb hve
    obtain ⟨rfl, rfl⟩ := hvb
    obtain ⟨rfl, rfl⟩ := hve
    have hrdc := hG.rd
    have HG := Lib.hid hG
    clear hG
    go_wp2_with fail
    refine (pick_any _ g a n cap p1 30 (by decide) (by decide) (by omega) hrdc).mono ?_
    rintro e w5 ⟨r, rfl, hr0, hr1, hrd5, htu5⟩
    have hr30 := hr1 (by decide)
    have HG5 := Lib.hid (HG.out.draw htu5 hrd5)
    obtain ⟨q0, q1, f0, f1, hQl⟩ := HG5.out.two.cells
    clear htu5 hrd5 hrdc hr1 HG
    have hbi : (1 : Int) ≤ (bs.length : Int) := by omega
    have hbj : (bs.length : Int) ≤ 1000 := by omega
    have hmm := True.intro
    by_cases e0 : r = 0
    · subst e0
      have HD := Lib.hid (HG5.out.below (Below.refl _ _).drew)
      have hg5 := HG5.out.rd.lt
      clear hmm
      go_wp2
      go_region_held_law (fun w' => w'.cell? ⟨Q, 0, none⟩ = some (.slice (some ⟨gb, 0, none⟩) bs.length xc) ∧ w'.cell? ⟨Q, 1, none⟩ = some (.slice (some ⟨ge, 0, none⟩) es.length yc))
        (first
          | with_reducible exact ⟨HD.out.two.cells.1, HD.out.two.cells.2.1⟩
          | with_reducible exact ⟨(HG5.out.alloc _).drewG.two.cells.1, (HG5.out.alloc _).drewG.two.cells.2.1⟩
          | with_reducible exact ⟨m0, m1⟩
          | with_reducible exact ⟨(HM.out.alloc _).two.cells.1, (HM.out.alloc _).two.cells.2.1⟩
          | with_reducible exact ⟨o0, o1⟩
          | with_reducible exact ⟨(HO.out.set1 rfl hj2 x).two.cells.1, (HO.out.set1 rfl hj2 x).two.cells.2.1⟩)
        (first
          | (go_at_call 34; refine (pick_any _ g a n cap (p1 + 1) _ hbj (by omega) (by omega) ?_).mono ?_; (first | with_reducible exact HD.out.rd | with_reducible exact (HG5.out.alloc _).drewG.rd); rintro e wM ⟨r2, rfl, hr20, hr21, hrdM, htuM⟩; have hr22 := hr21 hbi; obtain ⟨j2, rfl⟩ := Int.eq_ofNat_of_zero_le hr20; have hj2 : j2 < bs.length := (by omega); have HM := Lib.hid (GS.draw (by first | with_reducible exact HD.out | with_reducible exact (HG5.out.alloc _).drewG) htuM hrdM); have m0 := HM.out.two.cells.1; have m1 := HM.out.two.cells.2.1)
          | (go_at_call 56; (with_reducible show Calls _ _ _ (World.alloc wM _) _); refine (of_new wM g a n cap (p1 + 1 + 1) opsS (by omega) HM.out.rd (by decide) (by decide)).mono ?_; rintro e wO ⟨x, hx, rfl, hrdO, htuO⟩; have hxs := opsS_sh hx; have HO := Lib.hid (GS.draw HM.out htuO hrdO); have o0 := HO.out.two.cells.1; have o1 := HO.out.two.cells.2.1; obtain ⟨s0, s1, u0, u1⟩ := HO.out.cellB rfl hj2)
          | (go_at_call 56; (with_reducible show Calls _ _ _ wM _); refine (of_kept w5 wM g a n cap (p1 + 1 + 1) opsS _ (by rfl) htuM hg5 (by omega) HM.out.rd (by decide) (by decide)).mono ?_; rintro e wO ⟨x, hx, rfl, hrdO, htuO⟩; have hxs := opsS_sh hx; have HO := Lib.hid (GS.draw HM.out htuO hrdO); have o0 := HO.out.two.cells.1; have o1 := HO.out.two.cells.2.1; obtain ⟨s0, s1, u0, u1⟩ := HO.out.cellB rfl hj2))
      all_goals
        have HF := Lib.hid (HO.out.set1 rfl hj2 x)
        have HS := Lib.hid (show Sh (bs.set j2 (nameAt bs j2, x)) from HV.out.shb.set (HV.out.shb.2 j2 hj2).1 hxs)
        obtain ⟨z0, z1, _, _, _⟩ := HF.out.two.cells
        obtain ⟨r0, r1, t0, t1, _⟩ := HF.out.res.cells
        clear hrdM htuM hrdO htuO hx s0 s1 u0 u1 m0 m1 o0 o1 q0 q1 f0 f1
        go_wp2
        refine bodyPost_ret (v := .agg #[.slice (some ⟨gb, 0, none⟩) bs.length xc, .slice (some ⟨ge, 0, none⟩) es.length yc]) (by simp [results, Tryd.results32, go_sem, r0, r1]) rfl ?_
        exact HF.out.some H0.out.1 (Nat.le_refl _) (by omega) (by simp) rfl HS.out HV.out.she
    by_cases e1 : r = 1
    · subst e1
      have HD := Lib.hid (HG5.out.below (Below.refl _ _).drew)
      have hg5 := HG5.out.rd.lt
      have HE := Lib.hid (show (∀ o, ((w5.alloc o).drew).heap[w5.heap.size]? = some o) ∧ (∀ o o', (((w5.alloc o).alloc o').drew).heap[w5.heap.size]? = some o) ∧ (∀ o o', (((w5.alloc o).alloc o').drew).heap[w5.heap.size + 1]? = some o') from
        ⟨fun o => heap_alloc_new w5 o, fun o o' => (show ((w5.alloc o).alloc o').heap[w5.heap.size]? = some o from (Below.heap_alloc _ _ _ (by simp)).trans (heap_alloc_new w5 o)), fun o o' => (show ((w5.alloc o).alloc o').heap[w5.heap.size + 1]? = some o' from by rw [show w5.heap.size + 1 = (w5.alloc o).heap.size by simp]; exact heap_alloc_new _ _)⟩)
      clear f0 hmm
      go_wp2
      go_region_law (first
        | (go_simp; go_at_call 56; refine (of_at _ g a n cap (p1 + 1) _ fromS _ (by with_reducible first | exact HE.out.1 _ | exact HE.out.2.1 _ _ | exact HE.out.2.2 _ _) (by rfl) (by omega) (by omega) (GS.rd (by with_reducible first | exact (HG5.out.alloc _).drewG | exact ((HG5.out.alloc _).alloc _).drewG)) (by decide) (by decide)).mono ?_; rintro e wN ⟨x, hx, rfl, hrdN, htuN⟩; have hxs := fromS_sh hx; have HN := Lib.hid (GS.draw (by with_reducible first | exact (HG5.out.alloc _).drewG | exact ((HG5.out.alloc _).alloc _).drewG) htuN hrdN); have n1 := HN.out.two.cells.2.1; have hnl := HN.out.two.cells.2.2.2.2)
        | (go_simp; go_at_call 56; (with_reducible show Calls _ _ _ (World.alloc wN _) _); refine (of_new wN g a n cap (p1 + 1 + 1) toS (by omega) HN.out.rd (by decide) (by decide)).mono ?_; rintro e wO ⟨y, hy, rfl, hrdO, htuO⟩; have hys := toS_sh hy; have HO := Lib.hid (GS.draw HN.out htuO hrdO); have o1 := HO.out.two.cells.2.1; have hol := HO.out.two.cells.2.2.2.2)
        | (go_simp; go_at_call 56; (with_reducible show Calls _ _ _ wN _); refine (of_at wN g a n cap (p1 + 1 + 1) _ toS _ ((htuN.block _ (by show _ < (World.alloc _ _).heap.size; simp only [World.size_alloc]; omega) (by omega)).trans (by with_reducible first | exact HE.out.2.1 _ _ | exact HE.out.2.2 _ _)) (by rfl) (by omega) (by omega) HN.out.rd (by decide) (by decide)).mono ?_; rintro e wO ⟨y, hy, rfl, hrdO, htuO⟩; have hys := toS_sh hy; have HO := Lib.hid (GS.draw HN.out htuO hrdO); have o1 := HO.out.two.cells.2.1; have hol := HO.out.two.cells.2.2.2.2)
        | (refine step_append_lies _ rfl (.tmp 35) (.tmp 43) 30 rfl w.heap.size 81 j0 (.agg #[.string ⟨#[]⟩, .string ⟨#[]⟩]) 2 32 Tryd.underlying30 hj yz0 yz1 yz2 rfl (by decide) _ es.length (cellsOf es) rfl (HO.out.oe.alloc _) ⟨wO.heap.size, 0, none⟩ 1 1 [.string x, .string y] rfl rfl (cell_two_new _ _ _ _) (two_one _ _ rfl rfl) (by decide) (by unfold maxLen; omega) (by omega) (by have h9 := HO.out.tu.size; simp; omega) _ rfl ?_
           intro g' cap' w6 hown6 hgrow6 hlies6 _
           have hT6 : Two w6 Q _ _ := HO.out.two.of_cells ((hgrow6.block _ (by simp; omega) (fun e => own_neK HO.out.oe HO.out.two (by decide) e.symm)).trans (Lib.alloc_old wO _ _ hol))
           have e6 := hT6.cells.2.1
           have f6 := hT6.cells.2.2.2.1))
      all_goals
        have HGN := Lib.hid (HO.out.growE (v' := .slice (some ⟨g', 0, none⟩) (es.length + 1) cap') (E' := es ++ [(x, y)]) ((Below.refl _ _).alloc (Nat.le_refl _) _) hgrow6 (by rw [cellsOf_snoc, List.length_append]; exact hown6) hRQ hQw)
        have HS := Lib.hid (show Sh (es ++ [(x, y)]) from HV.out.she.snoc (by omega) hxs hys)
        obtain ⟨z0, z1, _, _, _⟩ := HGN.out.two.cells
        obtain ⟨r0, r1, t0, t1, _⟩ := HGN.out.res.cells
        clear hrdN htuN hrdO htuO hx hy hown6 hgrow6 hlies6 hT6 e6 f6 n1 o1 q0 q1 f1
        go_wp2
        refine bodyPost_ret (v := .agg #[.slice (some ⟨gb, 0, none⟩) bs.length xc, .slice (some ⟨g', 0, none⟩) (es.length + 1) cap']) (by simp [results, Tryd.results32, go_sem, r0, r1]) rfl ?_
        exact HGN.out.some H0.out.1 (Nat.le_refl _) (by omega) rfl (by simp) HV.out.shb HS.out
    by_cases e2 : r = 2
    · subst e2
      have hw1 : IntKind.i64.wrap ((es.length : Int) - 1) = ((es.length - 1 : Nat) : Int) := by rw [show (es.length : Int) - 1 = ((es.length - 1 : Nat) : Int) by omega]; exact IntWalk.i64_in _ (by omega)
      have x1 : (0 : Int) ≤ ((es.length - 1 : Nat) : Int) := by omega
      have x2 : ((es.length - 1 : Nat) : Int) ≤ (es.length : Int) := by omega
      have x3 : ((es.length - 1 : Nat) : Int) ≤ (yc : Int) := by omega
      have hG6 := HG5.out.res.far hRQ (p := ⟨Q, 1, none⟩) (.slice (some ⟨ge, 0, none⟩) (es.length - 1) yc)
      obtain ⟨r0, r1, t0, t1, _⟩ := Two.cells hG6
      have hQ6 := HG5.out.two.set1 (.slice (some ⟨ge, 0, none⟩) (es.length - 1) yc)
      obtain ⟨z0, z1, _, _, _⟩ := Two.cells hQ6
      clear hG6 hQ6
      go_wp2
      refine bodyPost_ret (v := .agg #[.slice (some ⟨gb, 0, none⟩) bs.length xc, .slice (some ⟨ge, 0, none⟩) (es.length - 1) yc]) (by simp [results, Tryd.results32, go_sem, r0, r1]) rfl ?_
      exact HG5.out.someT H0.out.1 (Nat.le_refl _) hQw hRQ (by omega) rfl rfl (by omega) HV.out.shb HV.out.she
    by_cases e3 : r = 3
    · subst e3
      have HD := Lib.hid (HG5.out.below (Below.refl _ _).drew)
      have hg5 := HG5.out.rd.lt
      clear hmm
      go_wp2
      go_region_held_law (fun w' => w'.cell? ⟨Q, 0, none⟩ = some (.slice (some ⟨gb, 0, none⟩) bs.length xc) ∧ w'.cell? ⟨Q, 1, none⟩ = some (.slice (some ⟨ge, 0, none⟩) es.length yc))
        (first
          | with_reducible exact ⟨HD.out.two.cells.1, HD.out.two.cells.2.1⟩
          | with_reducible exact ⟨(HG5.out.alloc _).drewG.two.cells.1, (HG5.out.alloc _).drewG.two.cells.2.1⟩
          | with_reducible exact ⟨m0, m1⟩
          | with_reducible exact ⟨(HM.out.alloc _).two.cells.1, (HM.out.alloc _).two.cells.2.1⟩
          | with_reducible exact ⟨o0, o1⟩
          | with_reducible exact ⟨(HO.out.set0 rfl hj2 x).two.cells.1, (HO.out.set0 rfl hj2 x).two.cells.2.1⟩)
        (first
          | (go_at_call 34; refine (pick_any _ g a n cap (p1 + 1) _ hbj (by omega) (by omega) ?_).mono ?_; (first | with_reducible exact HD.out.rd | with_reducible exact (HG5.out.alloc _).drewG.rd); rintro e wM ⟨r2, rfl, hr20, hr21, hrdM, htuM⟩; have hr22 := hr21 hbi; obtain ⟨j2, rfl⟩ := Int.eq_ofNat_of_zero_le hr20; have hj2 : j2 < bs.length := (by omega); have HM := Lib.hid (GS.draw (by first | with_reducible exact HD.out | with_reducible exact (HG5.out.alloc _).drewG) htuM hrdM); have m0 := HM.out.two.cells.1; have m1 := HM.out.two.cells.2.1)
          | (go_at_call 56; (with_reducible show Calls _ _ _ (World.alloc wM _) _); refine (of_new wM g a n cap (p1 + 1 + 1) nameS (by omega) HM.out.rd (by decide) (by decide)).mono ?_; rintro e wO ⟨x, hx, rfl, hrdO, htuO⟩; have hxs := nameS_sh hx; have HO := Lib.hid (GS.draw HM.out htuO hrdO); have o0 := HO.out.two.cells.1; have o1 := HO.out.two.cells.2.1; obtain ⟨s0, s1, u0, u1⟩ := HO.out.cellB rfl hj2)
          | (go_at_call 56; (with_reducible show Calls _ _ _ wM _); refine (of_kept w5 wM g a n cap (p1 + 1 + 1) nameS _ (by rfl) htuM hg5 (by omega) HM.out.rd (by decide) (by decide)).mono ?_; rintro e wO ⟨x, hx, rfl, hrdO, htuO⟩; have hxs := nameS_sh hx; have HO := Lib.hid (GS.draw HM.out htuO hrdO); have o0 := HO.out.two.cells.1; have o1 := HO.out.two.cells.2.1; obtain ⟨s0, s1, u0, u1⟩ := HO.out.cellB rfl hj2))
      all_goals
        have HF := Lib.hid (HO.out.set0 rfl hj2 x)
        have HS := Lib.hid (show Sh (bs.set j2 (x, restAt bs j2)) from HV.out.shb.set hxs (HV.out.shb.2 j2 hj2).2)
        obtain ⟨z0, z1, _, _, _⟩ := HF.out.two.cells
        obtain ⟨r0, r1, t0, t1, _⟩ := HF.out.res.cells
        clear hrdM htuM hrdO htuO hx s0 s1 u0 u1 m0 m1 o0 o1 q0 q1 f0 f1
        go_wp2
        refine bodyPost_ret (v := .agg #[.slice (some ⟨gb, 0, none⟩) bs.length xc, .slice (some ⟨ge, 0, none⟩) es.length yc]) (by simp [results, Tryd.results32, go_sem, r0, r1]) rfl ?_
        exact HF.out.some H0.out.1 (Nat.le_refl _) (by omega) (by simp) rfl HS.out HV.out.she
    · have d0 : (r == 0) = false := by simpa using e0
      have d1 : (r == 1) = false := by simpa using e1
      have d2 : (r == 2) = false := by simpa using e2
      have d3 : (r == 3) = false := by simpa using e3
      clear e0 e1 e2 e3
      have HS := Lib.hid HV.out.shb
      obtain ⟨r0, r1, t0, t1, _⟩ := HG5.out.res.cells
      go_wp2
      refine bodyPost_ret (v := .agg #[.slice (some ⟨gb, 0, none⟩) bs.length xc, .slice (some ⟨ge, 0, none⟩) es.length yc]) (by simp [results, Tryd.results32, go_sem, r0, r1]) rfl ?_
      exact HG5.out.some H0.out.1 (Nat.le_refl _) (by omega) rfl rfl HS.out HV.out.she
end Go.Proofs.YtfmhcjhcmoniaaaDoor
