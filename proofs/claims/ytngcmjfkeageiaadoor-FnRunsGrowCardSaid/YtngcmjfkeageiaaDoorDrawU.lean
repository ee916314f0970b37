/-
  The model's draw of a program and a bound for RunsUpTo, off bytes. Conditions: none but what bytes that came in are.
-/
import Derived.Test.YtngcmjfkeageiaaDoorFsC
namespace Go.Proofs.YtngcmjfkeageiaaDoor
open Go.RowKit Go.Maps

/-- what a draw of a program and a number off bytes leaves -/
def DrawBI (w : World) (e : Ending) (w' : World) : Prop := ∃ bs es ab ae cb ce, ∃ x : Int, e = .returned (.tuple #[.agg #[.slice ab (List.length bs) cb, .slice ae (List.length es) ce], .int .i64 x]) ∧ Sh bs ∧ Sh es ∧ (-1 ≤ x ∧ x ≤ 13) ∧ PairsAt w' ab bs ∧ PairsAt w' ae es ∧ Below w.heap.size w w'

set_option maxRecDepth 100000 in
set_option maxHeartbeats 1600000 in
theorem DrawRunsUpTo_any (w : World) (a : Option Addr) (n cap : Nat) (h : BytesRaw w a n cap) :
    Calls Tryd.prog 57 #[.slice a n cap] w (DrawBI w) := by
  have hA : Below w.heap.size w (w.alloc (.cells #[.slice none 0 0, .slice none 0 0] 32)) := (Below.refl _ _).alloc (Nat.le_refl _) _
  have hR : Two (w.alloc (.cells #[.slice none 0 0, .slice none 0 0] 32)) w.heap.size (.slice none 0 0) (.slice none 0 0) := heap_alloc_new _ _
  have hbA := h.below hA
  have H0 := Lib.hid (And.intro hA hR)
  clear h hA hR
  go_enter Tryd.func57, Tryd.ntmps57
  go_wp2_with fail
  refine (l15Open_any _ a n cap hbA).mono ?_
  rintro e w1 ⟨m, rfl, hrd, hb1⟩
  have hz : (w.alloc (.cells #[.slice none 0 0, .slice none 0 0] 32)).heap.size = w.heap.size + 1 := by simp
  rw [hz] at hrd ⊢
  have hR1 : Two w1 w.heap.size _ _ := H0.out.2.of_cells (hb1.block _ (by omega))
  have hall : Below w.heap.size w w1 := H0.out.1.trans (hb1.mono (by omega))
  have hg1 := hrd.lt
  have H1 := Lib.hid (And.intro hR1 (And.intro hall hrd))
  clear hR1 hall hb1 hbA hz
  go_wp2_with fail
  refine (l1Some_any w1 (w.heap.size + 1) a m cap 0 (by omega) hrd).mono ?_
  rintro e w2 ⟨bs, es, ab, ae, cb, ce, rfl, hSb, hSe, hPb, hPe, p1, hp1, hrd2, htu⟩
  have hs2 := htu.size
  have hW : Below w2.heap.size w2 (w2.alloc (.cells #[.slice ab bs.length cb, .slice ae es.length ce] 32)) := (Below.refl _ _).alloc (Nat.le_refl _) _
  have hDS : DS w1 (w2.alloc (.cells #[.slice ab bs.length cb, .slice ae es.length ce] 32)) (w.heap.size + 1) a m cap p1 w.heap.size w2.heap.size ab ae cb ce bs es :=
    ⟨⟨0, H1.out.2.2⟩, hrd2.below hW, (hW.block _ (by omega)).trans (htu.two H1.out.1 (by omega)), PAt.new ab ae cb ce hPb hPe, htu.trans (.of_below hW)⟩
  have H2 := Lib.hid hDS
  have HS := Lib.hid (And.intro hSb hSe)
  have hqR : w2.heap.size ≠ w.heap.size := by omega
  clear hDS hPb hPe hrd htu hW hSb hSe hrd2
  go_upto_region 3 with fail
  generalize w2.alloc (.cells #[.slice ab bs.length cb, .slice ae es.length ce] 32) = wP at *
  generalize w2.heap.size = q at *
  go_wp2
  go_region_held_law (fun w' => w'.cell? ⟨q, 0, none⟩ = some (.slice ab bs.length cb) ∧ w'.cell? ⟨q, 1, none⟩ = some (.slice ae es.length ce))
    (first
      | with_reducible exact ⟨H2.out.drewD.at_.c0, H2.out.drewD.at_.c1⟩
      | with_reducible exact ⟨(H2.out.drewD.alloc _).at_.c0, (H2.out.drewD.alloc _).at_.c1⟩
      | with_reducible exact ⟨m0, m1⟩
      | with_reducible exact H3.out.after hqR _ _
      | exact ⟨(H2.out.drewD.alloc _).at_.c0, (H2.out.drewD.alloc _).at_.c1⟩)
    (first
      | (go_at_call 117; refine (num_new wP.drew (w.heap.size + 1) a m cap p1 [6, 7, 5, 8, 3, 2, 1, 0, 12, 13, -1] (by omega) H2.out.drewD.rd (by decide) (by decide)).mono ?_; rintro e w3 ⟨x, hx, rfl, hrd3, htu3⟩; have H3 := Lib.hid (H2.out.drewD.draw htu3 hrd3); obtain ⟨m0, m1⟩ := And.intro H3.out.at_.c0 H3.out.at_.c1; obtain ⟨r0, r1, t0, t1, _⟩ := H3.out.res.cells))

  all_goals
    have hxs : -1 ≤ x ∧ x ≤ 13 := by simp at hx; omega
    have hn : ∀ s, Value.slice none 0 0 ≠ .string s := fun s h => by cases h
    have hb := (H3.out.at_.b.setZ r0 hn (u := .slice ab bs.length cb)).setZ (p := ⟨w.heap.size, 1, none⟩) (u := .slice ae es.length ce) (Two.set0 H3.out.res (.slice ab bs.length cb)).cells.2.1 hn
    have he := (H3.out.at_.e.setZ r0 hn (u := .slice ab bs.length cb)).setZ (p := ⟨w.heap.size, 1, none⟩) (u := .slice ae es.length ce) (Two.set0 H3.out.res (.slice ab bs.length cb)).cells.2.1 hn
    have hbw : Below w.heap.size w w3 := H1.out.2.1.trans (H3.out.tu.below H1.out.2.1.size (fun k hk => by omega))
    have hfin := (hbw.setCell (p := ⟨w.heap.size, 0, none⟩) (Nat.le_refl _) (.slice ab bs.length cb)).setCell (p := ⟨w.heap.size, 1, none⟩) (Nat.le_refl _) (.slice ae es.length ce)
    have HX := Lib.hid (And.intro hb (And.intro he hfin))
    clear hb he hbw hfin hn hrd3 htu3 hx m0 m1
    go_wp2
    refine bodyPost_ret (v := .tuple #[.agg #[.slice ab bs.length cb, .slice ae es.length ce], .int .i64 x]) (by simp [results, Tryd.results57, go_sem, r0, r1]) rfl ?_
    exact ⟨bs, es, ab, ae, cb, ce, x, rfl, HS.out.1, HS.out.2, hxs, HX.out.1, HX.out.2.1, HX.out.2.2⟩
end Go.Proofs.YtngcmjfkeageiaaDoor
