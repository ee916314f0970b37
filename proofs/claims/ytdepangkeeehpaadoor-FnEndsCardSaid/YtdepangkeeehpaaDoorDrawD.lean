/-
  The model's draws of a program and a name, of a program and two names, off bytes. Conditions: none but what bytes that came in are.
-/
import Derived.Test.YtdepangkeeehpaaDoorDrawC
import Derived.Deep.CutRange
namespace Go.Proofs.YtdepangkeeehpaaDoor
open Go.RowKit Go.Maps

section
variable {w wr w' : World} {g : Nat} {a : Option Addr} {n cap p p' R q : Nat} {ab ae : Option Addr} {cb ce : Nat} {bs es : List Pr}
theorem DS.far2 (h : DS w wr g a n cap p R q ab ae cb ce bs es) {b : Nat} (hb : q ≠ b) : ∀ u v, ((wr.setCell ⟨b, 0, none⟩ u).setCell ⟨b, 1, none⟩ v).cell? ⟨q, 0, none⟩ = some (.slice ab bs.length cb) ∧ ((wr.setCell ⟨b, 0, none⟩ u).setCell ⟨b, 1, none⟩ v).cell? ⟨q, 1, none⟩ = some (.slice ae es.length ce) := fun u v => by
  have := ((h.at_.two.far (p := ⟨b, 0, none⟩) hb u).far (p := ⟨b, 1, none⟩) hb v).cells
  exact ⟨this.1, this.2.1⟩
theorem edge_kept {w3 w4 : World} {g : Nat} (ht : Turns (fun k => k = g) ((w3.alloc (.cells #[.string ⟨#[]⟩, .string ⟨#[]⟩] 56)).drew) w4) (hg : g < w3.heap.size) :
    w4.heap[w3.heap.size]? = some (.cells #[.string ⟨#[]⟩, .string ⟨#[]⟩] 56) ∧ w4.cell? ⟨w3.heap.size, 0, none⟩ = some (.string ⟨#[]⟩) ∧ w4.cell? ⟨w3.heap.size, 1, none⟩ = some (.string ⟨#[]⟩) ∧ w4.frozen? ⟨w3.heap.size, 0, none⟩ = false ∧ w4.frozen? ⟨w3.heap.size, 1, none⟩ = false := by
  have h1 : w4.heap[w3.heap.size]? = (w3.alloc (.cells #[.string ⟨#[]⟩, .string ⟨#[]⟩] 56)).heap[w3.heap.size]? := ht.block w3.heap.size (show w3.heap.size < (w3.alloc _).heap.size by simp) (by omega)
  have h2 := h1.trans (heap_alloc_new _ _)
  exact ⟨h2, by simp [World.cell?, h2], by simp [World.cell?, h2], by simp [World.frozen?, h2], by simp [World.frozen?, h2]⟩
theorem cell_far2 {w : World} {b R i : Nat} (hb : b ≠ R) (u v : Value) : ((w.setCell ⟨R, 0, none⟩ u).setCell ⟨R, 1, none⟩ v).cell? ⟨b, i, none⟩ = w.cell? ⟨b, i, none⟩ :=
  World.cell?_of_block ((Below.heap_setCell _ _ _ _ hb).trans (Below.heap_setCell _ _ _ _ hb))
theorem cell_far2D {w : World} {b R i : Nat} (hb : b ≠ R) (u v : Value) : (((w.setCell ⟨R, 0, none⟩ u).setCell ⟨R, 1, none⟩ v).drew).cell? ⟨b, i, none⟩ = w.drew.cell? ⟨b, i, none⟩ := cell_far2 (w := w) hb u v
theorem DS.afterD {w wr : World} {g : Nat} {a : Option Addr} {n cap p R q : Nat} {ab ae : Option Addr} {cb ce : Nat} {bs es : List Pr} (h : DS w wr g a n cap p R q ab ae cb ce bs es) (hRq : q ≠ R) : ∀ u v, (((wr.setCell ⟨R, 0, none⟩ u).setCell ⟨R, 1, none⟩ v).drew).cell? ⟨q, 0, none⟩ = some (.slice ab bs.length cb) ∧ (((wr.setCell ⟨R, 0, none⟩ u).setCell ⟨R, 1, none⟩ v).drew).cell? ⟨q, 1, none⟩ = some (.slice ae es.length ce) := fun u v => h.after hRq u v
/-- a block that is newer than w3 written -/
theorem DS.setNew2 {w3 : World} (h : DS w w3 g a n cap p' R q ab ae cb ce bs es) (ht : Turns (fun k => k = g) w3 wr) (hr : RdAt wr g a n cap p) {b : Nat} (hb : w3.heap.size ≤ b) (u v : Value) : DS w ((wr.setCell ⟨b, 0, none⟩ u).setCell ⟨b, 1, none⟩ v) g a n cap p R q ab ae cb ce bs es := by
  have h1 := (ht.setNew (p := ⟨b, 0, none⟩) hb u).setNew (p := ⟨b, 1, none⟩) hb v
  have hg : g ≠ b := by have := h.rd.lt; omega
  exact h.draw h1 (h.rd.turns h1 (((Below.heap_setCell _ _ _ _ hg).trans (Below.heap_setCell _ _ _ _ hg)).trans hr.here))
end
/-- what a draw of a program and a text off bytes leaves -/
def DrawB1 (w : World) (e : Ending) (w' : World) : Prop := ∃ bs es ab ae cb ce x, e = .returned (.tuple #[.agg #[.slice ab (List.length bs) cb, .slice ae (List.length es) ce], .string x]) ∧ Sh bs ∧ Sh es ∧ x.size ≤ 1000 ∧ PairsAt w' ab bs ∧ PairsAt w' ae es ∧ Below w.heap.size w w'

set_option maxRecDepth 100000 in
set_option maxHeartbeats 1600000 in
theorem DrawOutOf_any (w : World) (a : Option Addr) (n cap : Nat) (h : BytesRaw w a n cap) :
    Calls Tryd.prog 34 #[.slice a n cap] w (DrawB1 w) := by
  have hA : Below w.heap.size w (w.alloc (.cells #[.slice none 0 0, .slice none 0 0] 30)) := (Below.refl _ _).alloc (Nat.le_refl _) _
  have hR : Two (w.alloc (.cells #[.slice none 0 0, .slice none 0 0] 30)) w.heap.size (.slice none 0 0) (.slice none 0 0) := heap_alloc_new _ _
  have hbA := h.below hA
  have H0 := Lib.hid (And.intro hA hR)
  clear h hA hR
  go_enter Tryd.func34, Tryd.ntmps34
  go_wp2_with fail
  refine (l15Open_any _ a n cap hbA).mono ?_
  rintro e w1 ⟨m, rfl, hrd, hb1⟩
  have hz : (w.alloc (.cells #[.slice none 0 0, .slice none 0 0] 30)).heap.size = w.heap.size + 1 := by simp
  rw [hz] at hrd ⊢
  have hR1 : Two w1 w.heap.size _ _ := H0.out.2.of_cells (hb1.block _ (by omega))
  have hall : Below w.heap.size w w1 := H0.out.1.trans (hb1.mono (by omega))
  have hg1 := hrd.lt
  have H1 := Lib.hid (And.intro hR1 (And.intro hall hrd))
  clear hR1 hall hb1 hbA hz
  go_wp2_with fail
  refine (l1Some_any w1 (w.heap.size + 1) a m cap 0 (by omega) hrd).mono ?_
  rintro e w2 ⟨bs, es, ab, ae, cb, ce, rfl, hSb, hSe, hPb, hPe, p1, hp1, hrd2, htu⟩
  have hs2 := htu.size
  have hW : Below w2.heap.size w2 (w2.alloc (.cells #[.slice ab bs.length cb, .slice ae es.length ce] 30)) := (Below.refl _ _).alloc (Nat.le_refl _) _
  have hDS : DS w1 (w2.alloc (.cells #[.slice ab bs.length cb, .slice ae es.length ce] 30)) (w.heap.size + 1) a m cap p1 w.heap.size w2.heap.size ab ae cb ce bs es :=
    ⟨⟨0, H1.out.2.2⟩, hrd2.below hW, (hW.block _ (by omega)).trans (htu.two H1.out.1 (by omega)), PAt.new ab ae cb ce hPb hPe, htu.trans (.of_below hW)⟩
  have H2 := Lib.hid hDS
  have HS := Lib.hid (And.intro hSb hSe)
  have hqR : w2.heap.size ≠ w.heap.size := by omega
  clear hDS hPb hPe hrd htu hW hSb hSe hrd2
  go_upto_region 3 with fail
  generalize w2.alloc (.cells #[.slice ab bs.length cb, .slice ae es.length ce] 30) = wP at *
  generalize w2.heap.size = q at *
  go_wp2
  go_region_held_law (fun w' => w'.cell? ⟨q, 0, none⟩ = some (.slice ab bs.length cb) ∧ w'.cell? ⟨q, 1, none⟩ = some (.slice ae es.length ce))
    (first
      | with_reducible exact ⟨H2.out.drewD.at_.c0, H2.out.drewD.at_.c1⟩
      | with_reducible exact ⟨m0, m1⟩
      | with_reducible exact H3.out.after hqR _ _)
    (first
      | (go_at_call 103; refine (l1Word_any wP.drew (w.heap.size + 1) a m cap p1 (by omega) H2.out.drewD.rd).mono ?_; rintro e w3 ⟨x, hx, rfl, hrd3, htu3⟩; have hxs := wordL_sh hx; have H3 := Lib.hid (H2.out.drewD.draw htu3 hrd3); obtain ⟨m0, m1⟩ := And.intro H3.out.at_.c0 H3.out.at_.c1; obtain ⟨r0, r1, t0, t1, _⟩ := H3.out.res.cells))
  all_goals
    have hn : ∀ s, Value.slice none 0 0 ≠ .string s := fun s h => by cases h
    have hb := (H3.out.at_.b.setZ r0 hn (u := .slice ab bs.length cb)).setZ (p := ⟨w.heap.size, 1, none⟩) (u := .slice ae es.length ce) (Two.set0 H3.out.res (.slice ab bs.length cb)).cells.2.1 hn
    have he := (H3.out.at_.e.setZ r0 hn (u := .slice ab bs.length cb)).setZ (p := ⟨w.heap.size, 1, none⟩) (u := .slice ae es.length ce) (Two.set0 H3.out.res (.slice ab bs.length cb)).cells.2.1 hn
    have hbw : Below w.heap.size w w3 := H1.out.2.1.trans (H3.out.tu.below H1.out.2.1.size (fun k hk => by omega))
    have hfin := (hbw.setCell (p := ⟨w.heap.size, 0, none⟩) (Nat.le_refl _) (.slice ab bs.length cb)).setCell (p := ⟨w.heap.size, 1, none⟩) (Nat.le_refl _) (.slice ae es.length ce)
    have HX := Lib.hid (And.intro hb (And.intro he hfin))
    clear hb he hbw hfin hn hrd3 htu3 hx m0 m1
    go_wp2
    refine bodyPost_ret (v := .tuple #[.agg #[.slice ab bs.length cb, .slice ae es.length ce], .string x]) (by simp [results, Tryd.results34, go_sem, r0, r1]) rfl ?_
    exact ⟨bs, es, ab, ae, cb, ce, x, rfl, HS.out.1, HS.out.2, hxs, HX.out.1, HX.out.2.1, HX.out.2.2⟩

set_option maxRecDepth 100000 in
set_option maxHeartbeats 3200000 in
theorem DrawEdgeOf_any (w : World) (a : Option Addr) (n cap : Nat) (h : BytesRaw w a n cap) :
    Calls Tryd.prog 31 #[.slice a n cap] w (DrawB2 w) := by
  have hA : Below w.heap.size w (w.alloc (.cells #[.slice none 0 0, .slice none 0 0] 30)) := (Below.refl _ _).alloc (Nat.le_refl _) _
  have hR : Two (w.alloc (.cells #[.slice none 0 0, .slice none 0 0] 30)) w.heap.size (.slice none 0 0) (.slice none 0 0) := heap_alloc_new _ _
  have hbA := h.below hA
  have H0 := Lib.hid (And.intro hA hR)
  clear h hA hR
  go_enter Tryd.func31, Tryd.ntmps31
  go_wp2_with fail
  refine (l15Open_any _ a n cap hbA).mono ?_
  rintro e w1 ⟨m, rfl, hrd, hb1⟩
  have hz : (w.alloc (.cells #[.slice none 0 0, .slice none 0 0] 30)).heap.size = w.heap.size + 1 := by simp
  rw [hz] at hrd ⊢
  have hR1 : Two w1 w.heap.size _ _ := H0.out.2.of_cells (hb1.block _ (by omega))
  have hall : Below w.heap.size w w1 := H0.out.1.trans (hb1.mono (by omega))
  have hg1 := hrd.lt
  have H1 := Lib.hid (And.intro hR1 (And.intro hall hrd))
  clear hR1 hall hb1 hbA hz
  go_wp2_with fail
  refine (l1Some_any w1 (w.heap.size + 1) a m cap 0 (by omega) hrd).mono ?_
  rintro e w2 ⟨bs, es, ab, ae, cb, ce, rfl, hSb, hSe, hPb, hPe, p1, hp1, hrd2, htu⟩
  have hs2 := htu.size
  have hW : Below w2.heap.size w2 (w2.alloc (.cells #[.slice ab bs.length cb, .slice ae es.length ce] 30)) := (Below.refl _ _).alloc (Nat.le_refl _) _
  have hDS : DS w1 (w2.alloc (.cells #[.slice ab bs.length cb, .slice ae es.length ce] 30)) (w.heap.size + 1) a m cap p1 w.heap.size w2.heap.size ab ae cb ce bs es :=
    ⟨⟨0, H1.out.2.2⟩, hrd2.below hW, (hW.block _ (by omega)).trans (htu.two H1.out.1 (by omega)), PAt.new ab ae cb ce hPb hPe, htu.trans (.of_below hW)⟩
  have H2 := Lib.hid hDS
  have HS := Lib.hid (And.intro hSb hSe)
  have hqR : w2.heap.size ≠ w.heap.size := by omega
  clear hDS hPb hPe hrd htu hW hSb hSe hrd2
  go_upto_region 3 with fail
  generalize w2.alloc (.cells #[.slice ab bs.length cb, .slice ae es.length ce] 30) = wP at *
  generalize w2.heap.size = q at *
  obtain ⟨c0, c1⟩ := And.intro H2.out.at_.c0 H2.out.at_.c1
  rcases Nat.eq_zero_or_pos es.length with he0 | he0
  · have hne : ¬ (0 : Int) < (es.length : Int) := by omega
    have d0 : decide ((0 : Int) < (es.length : Int)) = false := by simpa using hne
    clear he0
    go_wp2_with fail
    refine (l1Word_any wP (w.heap.size + 1) a m cap p1 (by omega) H2.out.rd).mono ?_
    rintro e w4 ⟨x, hx, rfl, hrd4, htu4⟩
    have hxs := wordL_sh hx
    have H4 := Lib.hid (H2.out.draw htu4 hrd4)
    obtain ⟨q0, q1⟩ := And.intro H4.out.at_.c0 H4.out.at_.c1
    clear hx htu4 hrd4
    go_wp2
    go_region_held_law (fun w' => w'.cell? ⟨q, 0, none⟩ = some (.slice ab bs.length cb) ∧ w'.cell? ⟨q, 1, none⟩ = some (.slice ae es.length ce))
      (first
        | with_reducible exact ⟨H4.out.drewD.at_.c0, H4.out.drewD.at_.c1⟩
        | with_reducible exact ⟨m0, m1⟩
        | with_reducible exact H5.out.after hqR _ _)
      (first
        | (go_at_call 103; refine (l1Word_any w4.drew (w.heap.size + 1) a m cap (p1 + 1) (by omega) H4.out.drewD.rd).mono ?_; rintro e w5 ⟨y, hy, rfl, hrd5, htu5⟩; have hys := wordL_sh hy; have H5 := Lib.hid (H4.out.drewD.draw htu5 hrd5); obtain ⟨m0, m1⟩ := And.intro H5.out.at_.c0 H5.out.at_.c1; obtain ⟨r0, r1, t0, t1, _⟩ := H5.out.res.cells))
    all_goals
      have hn : ∀ s, Value.slice none 0 0 ≠ .string s := fun s h => by cases h
      have hb := (H5.out.at_.b.setZ r0 hn (u := .slice ab bs.length cb)).setZ (p := ⟨w.heap.size, 1, none⟩) (u := .slice ae es.length ce) (Two.set0 H5.out.res (.slice ab bs.length cb)).cells.2.1 hn
      have he := (H5.out.at_.e.setZ r0 hn (u := .slice ab bs.length cb)).setZ (p := ⟨w.heap.size, 1, none⟩) (u := .slice ae es.length ce) (Two.set0 H5.out.res (.slice ab bs.length cb)).cells.2.1 hn
      have hbw := H1.out.2.1.trans (H5.out.tu.below H1.out.2.1.size (fun k hk => by omega))
      have hfin := (hbw.setCell (p := ⟨w.heap.size, 0, none⟩) (Nat.le_refl _) (.slice ab bs.length cb)).setCell (p := ⟨w.heap.size, 1, none⟩) (Nat.le_refl _) (.slice ae es.length ce)
      have HX := Lib.hid (And.intro hb (And.intro he hfin))
      clear hb he hbw hfin hn hrd5 htu5 hy m0 m1 q0 q1
      go_wp2
      refine bodyPost_ret (v := .tuple #[.agg #[.slice ab bs.length cb, .slice ae es.length ce], .string x, .string y]) (by simp [results, Tryd.results31, go_sem, r0, r1]) rfl ?_
      exact ⟨bs, es, ab, ae, cb, ce, x, y, rfl, HS.out.1, HS.out.2, hxs, hys, HX.out.1, HX.out.2.1, HX.out.2.2⟩
  · have hpos : (0 : Int) < (es.length : Int) := by omega
    obtain ⟨b1, o1, rfl, _⟩ := H2.out.at_.e.cell 0 he0
    go_wp2_with fail
    refine (pick_any wP (w.heap.size + 1) a m cap p1 2 (by decide) (by decide) (by omega) H2.out.rd).mono ?_
    rintro e w3 ⟨r, rfl, hr0, hr1, hrd3, htu3⟩
    have H3 := Lib.hid (H2.out.draw htu3 hrd3)
    obtain ⟨c0, c1⟩ := And.intro H3.out.at_.c0 H3.out.at_.c1
    clear hr0 hr1 hrd3 htu3
    by_cases hr : r = 0
    · subst hr
      have hli : (1 : Int) ≤ (es.length : Int) := by omega
      have hlj : (es.length : Int) ≤ 1000 := by have := HS.out.2.1; omega
      have hg3 := H3.out.rd.lt
      have hq3 := H3.out.at_.lt
      have hR3 : w.heap.size < w3.heap.size := H3.out.res.cells.2.2.2.2
      go_wp2
      go_region_law (first
          | (go_simp; go_at_call 102; refine (pick_any _ (w.heap.size + 1) a m cap (p1 + 1) _ hlj (by omega) (by omega) ?_).mono ?_; (first | with_reducible exact H3.out.drewD.rd | with_reducible exact (H3.out.alloc _).drewD.rd); rintro e w4 ⟨r2, rfl, hr20, hr21, hrd4, htu4⟩; have hr22 := hr21 hli; obtain ⟨j2, rfl⟩ := Int.eq_ofNat_of_zero_le hr20; have hj2 : j2 < es.length := (by omega); have H4 := Lib.hid (DS.draw (by with_reducible first | exact H3.out.drewD | exact (H3.out.alloc _).drewD) htu4 hrd4); have HT4 := Lib.hid (show Turns (fun k => k = w.heap.size + 1) w3 w4 from by with_reducible first | exact (Turns.of_below (Below.refl _ _).drew).trans htu4 | exact (Turns.of_below (((Below.refl _ _).alloc (Nat.le_refl _) _).drew)).trans htu4); have HR4 := Lib.hid hrd4; obtain ⟨m0, m1⟩ := And.intro H4.out.at_.c0 H4.out.at_.c1; have hq4 := H4.out.at_.lt; obtain ⟨b', o', e', hb', g1, g2⟩ := H4.out.at_.e.cell j2 hj2; cases e'; (first | (obtain ⟨hE4, k0, k1, z0, z1⟩ := edge_kept htu4 hg3) | skip)))
      all_goals
        first
        | (with_reducible show Exit.then _ _ _ _ (World.alloc w4 _))
          have H5 := Lib.hid (H4.out.alloc (.cells #[.string (nameAt es j2), .string (restAt es j2)] 56))
          have y0 : (w4.alloc (.cells #[.string (nameAt es j2), .string (restAt es j2)] 56)).drew.cell? ⟨w4.heap.size, 0, none⟩ = some (.string (nameAt es j2)) := by go_simp
          have y1 : (w4.alloc (.cells #[.string (nameAt es j2), .string (restAt es j2)] 56)).drew.cell? ⟨w4.heap.size, 1, none⟩ = some (.string (restAt es j2)) := by go_simp
          have hER : w4.heap.size ≠ w.heap.size := by have := HT4.out.size; omega
          clear hrd4 htu4 m0 m1 g1 g2
          generalize w4.alloc (.cells #[.string (nameAt es j2), .string (restAt es j2)] 56) = W5 at *
          generalize w4.heap.size = E at *
          have hre := H5.out.rd.lt
          have H6 := Lib.hid H5.out.drewD
          obtain ⟨r0, r1, t0, t1, _⟩ := H5.out.res.cells
          go_wp2
          go_region_held_law (fun w' => w'.cell? ⟨q, 0, none⟩ = some (.slice ab bs.length cb) ∧ w'.cell? ⟨q, 1, none⟩ = some (.slice (some ⟨b1, o1, none⟩) es.length ce) ∧ w'.cell? ⟨E, 0, none⟩ = some (.string (nameAt es j2)) ∧ w'.cell? ⟨E, 1, none⟩ = some (.string (restAt es j2)))
            (first
              | with_reducible exact ⟨H6.out.at_.c0, H6.out.at_.c1, y0, y1⟩
              | with_reducible exact ⟨(H6.out.after hqR _ _).1, (H6.out.after hqR _ _).2, (cell_far2 hER _ _).trans y0, (cell_far2 hER _ _).trans y1⟩
              | with_reducible exact ⟨(H5.out.afterD hqR _ _).1, (H5.out.afterD hqR _ _).2, (cell_far2D hER _ _).trans y0, (cell_far2D hER _ _).trans y1⟩)
            (fail)
          all_goals
            have hn : ∀ s, Value.slice none 0 0 ≠ .string s := fun s h => by cases h
            have hb := (H5.out.at_.b.setZ r0 hn (u := .slice ab bs.length cb)).setZ (p := ⟨w.heap.size, 1, none⟩) (u := .slice (some ⟨b1, o1, none⟩) es.length ce) (Two.set0 H5.out.res (.slice ab bs.length cb)).cells.2.1 hn
            have he := (H5.out.at_.e.setZ r0 hn (u := .slice ab bs.length cb)).setZ (p := ⟨w.heap.size, 1, none⟩) (u := .slice (some ⟨b1, o1, none⟩) es.length ce) (Two.set0 H5.out.res (.slice ab bs.length cb)).cells.2.1 hn
            have hbw := H1.out.2.1.trans (H5.out.tu.below H1.out.2.1.size (fun k hk => by omega))
            have hfin := (hbw.setCell (p := ⟨w.heap.size, 0, none⟩) (Nat.le_refl _) (.slice ab bs.length cb)).setCell (p := ⟨w.heap.size, 1, none⟩) (Nat.le_refl _) (.slice (some ⟨b1, o1, none⟩) es.length ce)
            have HX := Lib.hid (And.intro hb (And.intro he hfin))
            clear hb he hbw hfin hn y0 y1
            go_wp2
            refine bodyPost_ret (v := .tuple #[.agg #[.slice ab bs.length cb, .slice (some ⟨b1, o1, none⟩) es.length ce], .string (nameAt es j2), .string (restAt es j2)]) (by simp [results, Tryd.results31, go_sem, r0, r1]) rfl ?_
            first | exact ⟨bs, es, ab, (some ⟨b1, o1, none⟩), cb, ce, (nameAt es j2), (restAt es j2), rfl, HS.out.1, HS.out.2, (HS.out.2.2 j2 hj2).1, (HS.out.2.2 j2 hj2).2, HX.out.1.drew, HX.out.2.1.drew, HX.out.2.2.drew⟩ | exact ⟨bs, es, ab, (some ⟨b1, o1, none⟩), cb, ce, (nameAt es j2), (restAt es j2), rfl, HS.out.1, HS.out.2, (HS.out.2.2 j2 hj2).1, (HS.out.2.2 j2 hj2).2, HX.out.1, HX.out.2.1, HX.out.2.2⟩
        | have H5 := Lib.hid (H3.out.setNew2 HT4.out HR4.out (Nat.le_refl _) (.string (nameAt es j2)) (.string (restAt es j2)))
          have hE5 := heap_setAtS (i := 1) (heap_setAtS (i := 0) hE4 (.string (nameAt es j2))) (.string (restAt es j2))
          have y0 : ((w4.setCell ⟨w3.heap.size, 0, none⟩ (.string (nameAt es j2))).setCell ⟨w3.heap.size, 1, none⟩ (.string (restAt es j2))).drew.cell? ⟨w3.heap.size, 0, none⟩ = some (.string (nameAt es j2)) := by
            show ((w4.setCell ⟨w3.heap.size, 0, none⟩ (.string (nameAt es j2))).setCell ⟨w3.heap.size, 1, none⟩ (.string (restAt es j2))).cell? _ = _
            simp [World.cell?, hE5]
          have y1 : ((w4.setCell ⟨w3.heap.size, 0, none⟩ (.string (nameAt es j2))).setCell ⟨w3.heap.size, 1, none⟩ (.string (restAt es j2))).drew.cell? ⟨w3.heap.size, 1, none⟩ = some (.string (restAt es j2)) := by
            show ((w4.setCell ⟨w3.heap.size, 0, none⟩ (.string (nameAt es j2))).setCell ⟨w3.heap.size, 1, none⟩ (.string (restAt es j2))).cell? _ = _
            simp [World.cell?, hE5]
          have hER : w3.heap.size ≠ w.heap.size := by omega
          clear hrd4 htu4 m0 m1 g1 g2 hE4 hE5 k0 k1 z0 z1
          generalize (w4.setCell ⟨w3.heap.size, 0, none⟩ (.string (nameAt es j2))).setCell ⟨w3.heap.size, 1, none⟩ (.string (restAt es j2)) = W5 at *
          generalize w3.heap.size = E at *
          have hre := H5.out.rd.lt
          have H6 := Lib.hid H5.out.drewD
          obtain ⟨r0, r1, t0, t1, _⟩ := H5.out.res.cells
          go_wp2
          go_region_held_law (fun w' => w'.cell? ⟨q, 0, none⟩ = some (.slice ab bs.length cb) ∧ w'.cell? ⟨q, 1, none⟩ = some (.slice (some ⟨b1, o1, none⟩) es.length ce) ∧ w'.cell? ⟨E, 0, none⟩ = some (.string (nameAt es j2)) ∧ w'.cell? ⟨E, 1, none⟩ = some (.string (restAt es j2)))
            (first
              | with_reducible exact ⟨H6.out.at_.c0, H6.out.at_.c1, y0, y1⟩
              | with_reducible exact ⟨(H6.out.after hqR _ _).1, (H6.out.after hqR _ _).2, (cell_far2 hER _ _).trans y0, (cell_far2 hER _ _).trans y1⟩
              | with_reducible exact ⟨(H5.out.afterD hqR _ _).1, (H5.out.afterD hqR _ _).2, (cell_far2D hER _ _).trans y0, (cell_far2D hER _ _).trans y1⟩)
            (fail)
          all_goals
            have hn : ∀ s, Value.slice none 0 0 ≠ .string s := fun s h => by cases h
            have hb := (H5.out.at_.b.setZ r0 hn (u := .slice ab bs.length cb)).setZ (p := ⟨w.heap.size, 1, none⟩) (u := .slice (some ⟨b1, o1, none⟩) es.length ce) (Two.set0 H5.out.res (.slice ab bs.length cb)).cells.2.1 hn
            have he := (H5.out.at_.e.setZ r0 hn (u := .slice ab bs.length cb)).setZ (p := ⟨w.heap.size, 1, none⟩) (u := .slice (some ⟨b1, o1, none⟩) es.length ce) (Two.set0 H5.out.res (.slice ab bs.length cb)).cells.2.1 hn
            have hbw := H1.out.2.1.trans (H5.out.tu.below H1.out.2.1.size (fun k hk => by omega))
            have hfin := (hbw.setCell (p := ⟨w.heap.size, 0, none⟩) (Nat.le_refl _) (.slice ab bs.length cb)).setCell (p := ⟨w.heap.size, 1, none⟩) (Nat.le_refl _) (.slice (some ⟨b1, o1, none⟩) es.length ce)
            have HX := Lib.hid (And.intro hb (And.intro he hfin))
            clear hb he hbw hfin hn y0 y1
            go_wp2
            refine bodyPost_ret (v := .tuple #[.agg #[.slice ab bs.length cb, .slice (some ⟨b1, o1, none⟩) es.length ce], .string (nameAt es j2), .string (restAt es j2)]) (by simp [results, Tryd.results31, go_sem, r0, r1]) rfl ?_
            first | exact ⟨bs, es, ab, (some ⟨b1, o1, none⟩), cb, ce, (nameAt es j2), (restAt es j2), rfl, HS.out.1, HS.out.2, (HS.out.2.2 j2 hj2).1, (HS.out.2.2 j2 hj2).2, HX.out.1.drew, HX.out.2.1.drew, HX.out.2.2.drew⟩ | exact ⟨bs, es, ab, (some ⟨b1, o1, none⟩), cb, ce, (nameAt es j2), (restAt es j2), rfl, HS.out.1, HS.out.2, (HS.out.2.2 j2 hj2).1, (HS.out.2.2 j2 hj2).2, HX.out.1, HX.out.2.1, HX.out.2.2⟩
    · have dr : (r == 0) = false := by simpa using hr
      clear hr
      go_wp2_with fail
      refine (l1Word_any w3 (w.heap.size + 1) a m cap (p1 + 1) (by omega) H3.out.rd).mono ?_
      rintro e w4 ⟨x, hx, rfl, hrd4, htu4⟩
      have hxs := wordL_sh hx
      have H4 := Lib.hid (H3.out.draw htu4 hrd4)
      obtain ⟨q0, q1⟩ := And.intro H4.out.at_.c0 H4.out.at_.c1
      clear hx htu4 hrd4
      go_wp2
      go_region_held_law (fun w' => w'.cell? ⟨q, 0, none⟩ = some (.slice ab bs.length cb) ∧ w'.cell? ⟨q, 1, none⟩ = some (.slice (some ⟨b1, o1, none⟩) es.length ce))
        (first
          | with_reducible exact ⟨H4.out.drewD.at_.c0, H4.out.drewD.at_.c1⟩
          | with_reducible exact ⟨m0, m1⟩
          | with_reducible exact H5.out.after hqR _ _)
        (first
          | (go_at_call 103; refine (l1Word_any w4.drew (w.heap.size + 1) a m cap ((p1 + 1) + 1) (by omega) H4.out.drewD.rd).mono ?_; rintro e w5 ⟨y, hy, rfl, hrd5, htu5⟩; have hys := wordL_sh hy; have H5 := Lib.hid (H4.out.drewD.draw htu5 hrd5); obtain ⟨m0, m1⟩ := And.intro H5.out.at_.c0 H5.out.at_.c1; obtain ⟨r0, r1, t0, t1, _⟩ := H5.out.res.cells))
      all_goals
        have hn : ∀ s, Value.slice none 0 0 ≠ .string s := fun s h => by cases h
        have hb := (H5.out.at_.b.setZ r0 hn (u := .slice ab bs.length cb)).setZ (p := ⟨w.heap.size, 1, none⟩) (u := .slice (some ⟨b1, o1, none⟩) es.length ce) (Two.set0 H5.out.res (.slice ab bs.length cb)).cells.2.1 hn
        have he := (H5.out.at_.e.setZ r0 hn (u := .slice ab bs.length cb)).setZ (p := ⟨w.heap.size, 1, none⟩) (u := .slice (some ⟨b1, o1, none⟩) es.length ce) (Two.set0 H5.out.res (.slice ab bs.length cb)).cells.2.1 hn
        have hbw := H1.out.2.1.trans (H5.out.tu.below H1.out.2.1.size (fun k hk => by omega))
        have hfin := (hbw.setCell (p := ⟨w.heap.size, 0, none⟩) (Nat.le_refl _) (.slice ab bs.length cb)).setCell (p := ⟨w.heap.size, 1, none⟩) (Nat.le_refl _) (.slice (some ⟨b1, o1, none⟩) es.length ce)
        have HX := Lib.hid (And.intro hb (And.intro he hfin))
        clear hb he hbw hfin hn hrd5 htu5 hy m0 m1 q0 q1
        go_wp2
        refine bodyPost_ret (v := .tuple #[.agg #[.slice ab bs.length cb, .slice (some ⟨b1, o1, none⟩) es.length ce], .string x, .string y]) (by simp [results, Tryd.results31, go_sem, r0, r1]) rfl ?_
        exact ⟨bs, es, ab, (some ⟨b1, o1, none⟩), cb, ce, x, y, rfl, HS.out.1, HS.out.2, hxs, hys, HX.out.1, HX.out.2.1, HX.out.2.2⟩
end Go.Proofs.YtdepangkeeehpaaDoor
