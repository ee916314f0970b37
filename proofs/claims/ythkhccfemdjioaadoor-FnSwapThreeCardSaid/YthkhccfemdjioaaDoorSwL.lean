import Derived.Test.YthkhccfemdjioaaDoorPlan
import Derived.Test.YthkhccfemdjioaaDoorEq
import Derived.Deep.CutRange
import Derived.Test.YthkhccfemdjioaaDoorSomeS
import Derived.Test.YthkhccfemdjioaaDoorOpen
import Derived.Test.YthkhccfemdjioaaDoorSwG
import Derived.Test.YthkhccfemdjioaaDoorSwH
section
/-
  eqProg of a program with itself: what LawValid (P1) holds ahead of its law, for seats without that law. Conditions: none.
-/
namespace Go.Proofs.YthkhccfemdjioaaDoor
open Go.RowKit

theorem eqProg_same (w : World) (bs es : List Pr) (ab ae ab' ae' : Option Addr) (cb ce cb' ce' : Nat) (hb : PairsAt w ab bs) (he : PairsAt w ae es) (hb' : PairsAt w ab' bs) (he' : PairsAt w ae' es) :
    Calls Tryd.prog 17 #[.agg #[.slice ab bs.length cb, .slice ae es.length ce], .agg #[.slice ab' bs.length cb', .slice ae' es.length ce']] w fun e w' => e = .returned (.bool true) ∧ Below w.heap.size w w' :=
  (eqProg_any w bs es bs es ab ae ab' ae' cb ce cb' ce' hb he hb' he').mono fun e w' h => ⟨by rw [h.1]; simp [sameL], h.2⟩

end Go.Proofs.YthkhccfemdjioaaDoor
end

section
/-
  The laws' owProg: whether two programs are the same. Conditions: at most 1048576 blocks and edges, each text at most as many bytes.
-/
namespace Go.Proofs.YthkhccfemdjioaaDoor
open Go.RowKit

theorem sameL_no {a b : List Pr} (h : a ≠ b) : sameL a b = false := by simpa [sameL] using h
theorem sameL_yes {a b : List Pr} (h : a = b) : sameL a b = true := by simpa [sameL] using h
theorem eql_len (n m : Nat) : ((n : Int) == (m : Int)) = decide (n = m) := by
  by_cases h : n = m
  · subst h; simp
  · rw [decide_eq_false h]; simp; omega
set_option maxRecDepth 100000 in
set_option maxHeartbeats 3200000 in
theorem owProg_any (w : World) (bs es bs' es' : List Pr) (ab ae ab' ae' : Option Addr) (cb ce cb' ce' : Nat) (hb : PairsAt w ab bs) (he : PairsAt w ae es) (hb' : PairsAt w ab' bs') (he' : PairsAt w ae' es') :
    Calls Tryd.prog 26 #[.agg #[.slice ab bs.length cb, .slice ae es.length ce], .agg #[.slice ab' bs'.length cb', .slice ae' es'.length ce']] w fun e w' => e = .returned (.bool (sameL bs bs' && sameL es es')) ∧ Below w.heap.size w w' := by
  have h2 : Below w.heap.size w ((w.alloc (.cells #[.slice ab bs.length cb, .slice ae es.length ce] 32)).alloc (.cells #[.slice ab' bs'.length cb', .slice ae' es'.length ce'] 32)) := ((Below.refl _ _).alloc (Nat.le_refl _) _).alloc (by simp) _
  have q0 : ((w.alloc (.cells #[.slice ab bs.length cb, .slice ae es.length ce] 32)).alloc (.cells #[.slice ab' bs'.length cb', .slice ae' es'.length ce'] 32)).cell? ⟨w.heap.size, 0, none⟩ = some (.slice ab bs.length cb) := by go_simp
  have q1 : ((w.alloc (.cells #[.slice ab bs.length cb, .slice ae es.length ce] 32)).alloc (.cells #[.slice ab' bs'.length cb', .slice ae' es'.length ce'] 32)).cell? ⟨w.heap.size, 1, none⟩ = some (.slice ae es.length ce) := by go_simp
  have q2 : ((w.alloc (.cells #[.slice ab bs.length cb, .slice ae es.length ce] 32)).alloc (.cells #[.slice ab' bs'.length cb', .slice ae' es'.length ce'] 32)).cell? ⟨w.heap.size + 1, 0, none⟩ = some (.slice ab' bs'.length cb') := by go_simp
  have q3 : ((w.alloc (.cells #[.slice ab bs.length cb, .slice ae es.length ce] 32)).alloc (.cells #[.slice ab' bs'.length cb', .slice ae' es'.length ce'] 32)).cell? ⟨w.heap.size + 1, 1, none⟩ = some (.slice ae' es'.length ce') := by go_simp
  have hz : ((w.alloc (.cells #[.slice ab bs.length cb, .slice ae es.length ce] 32)).alloc (.cells #[.slice ab' bs'.length cb', .slice ae' es'.length ce'] 32)).heap.size = w.heap.size + 2 := by simp
  have l1 := hb.len
  have l2 := hb'.len
  have l3 := he.len
  have l4 := he'.len
  go_enter Tryd.func26, Tryd.ntmps26
  go_upto_region 1 with fail
  generalize (w.alloc (.cells #[.slice ab bs.length cb, .slice ae es.length ce] 32)).alloc (.cells #[.slice ab' bs'.length cb', .slice ae' es'.length ce'] 32) = wA at *
  have HA := Lib.hid (And.intro h2 (And.intro (hb.below h2) (And.intro (he.below h2) (And.intro (hb'.below h2) (he'.below h2)))))
  have hs0 : w.heap.size < wA.heap.size := by omega
  have hs1 : w.heap.size + 1 < wA.heap.size := by omega
  clear h2 hb he hb' he' hz
  rcases Nat.lt_or_ge bs'.length bs.length with hm | hm
  all_goals
    (try have hm' : ¬ bs'.length < bs.length := by omega)
    go_wp2
    go_loopw [14] (fun i wr => ∃ k : Nat, k ≤ bs.length ∧ k ≤ bs'.length ∧ i = .int .i64 k ∧ Below wA.heap.size wA wr ∧ ∀ j, j < k → nameAt bs j = nameAt bs' j ∧ restAt bs j = restAt bs' j) (fun i _ => bs.length - (intOf i).toNat)
    case atStart => exact ⟨0, Nat.zero_le _, Nat.zero_le _, rfl, Below.refl _ _, all_zero⟩
    case round =>
      obtain ⟨k, hk1, hk2, rfl, hbl, hno⟩ := hrel
      have Hno := Lib.hid hno; clear hno
      have y0 := (hbl.cell (p := ⟨w.heap.size, 0, none⟩) hs0).trans q0
      have y1 := (hbl.cell (p := ⟨w.heap.size, 1, none⟩) hs0).trans q1
      have y2 := (hbl.cell (p := ⟨w.heap.size + 1, 0, none⟩) hs1).trans q2
      have y3 := (hbl.cell (p := ⟨w.heap.size + 1, 1, none⟩) hs1).trans q3
      have hbw : Below w.heap.size w wr := HA.out.1.trans (hbl.mono (by omega))
      by_cases hlt : k < bs.length ∧ k < bs'.length
      · obtain ⟨t1, t2⟩ := hlt
        obtain ⟨b, off, rfl, hb0, g1, g2⟩ := HA.out.2.1.cell k t1
        obtain ⟨b', off', rfl, hb0', g3, g4⟩ := HA.out.2.2.2.1.cell k t2
        have d1 := (hbl.cell (p := ⟨b, off + k * 2, none⟩) hb0).trans g1
        have d2 := (hbl.cell (p := ⟨b, off + k * 2 + 1, none⟩) hb0).trans g2
        have d3 := (hbl.cell (p := ⟨b', off' + k * 2, none⟩) hb0').trans g3
        have d4 := (hbl.cell (p := ⟨b', off' + k * 2 + 1, none⟩) hb0').trans g4
        clear g1 g2 g3 g4
        have i1 : (k : Int) < (bs.length : Int) := by omega
        have i2 : (k : Int) < (bs'.length : Int) := by omega
        have i3 : (0 : Int) ≤ (k : Int) := by omega
        have HB := Lib.hid (And.intro hbl hbw)
        clear hbl hbw
        by_cases n1 : nameAt bs k = nameAt bs' k
        · have e1 : ((nameAt bs k).toList == (nameAt bs' k).toList) = true := by rw [toList_eq_iff]; exact decide_eq_true n1
          by_cases n2 : restAt bs k = restAt bs' k
          · have e2 : ((restAt bs k).toList == (restAt bs' k).toList) = true := by rw [toList_eq_iff]; exact decide_eq_true n2
            have HN := Lib.hid (And.intro n1 n2)
            clear n1 n2
            go_wp2
            go_region
            all_goals
              go_wp2
              go_roundw
              case rel => exact ⟨k + 1, by omega, by omega, by go_num, HB.out.1.drew, all_step Hno.out HN.out⟩
              case measure => simp [intOf]; omega
          · have e2 : ((restAt bs k).toList == (restAt bs' k).toList) = false := by rw [toList_eq_iff]; exact decide_eq_false n2
            have HN := Lib.hid (sameL_no (a := bs) (b := bs') fun e => n2 (by rw [e]))
            clear n1 n2
            go_wp2
            go_region
            all_goals
              go_wp2
              go_ret
              exact ⟨ret_bool (by rw [HN.out]; rfl), HB.out.2.drew⟩
        · have e1 : ((nameAt bs k).toList == (nameAt bs' k).toList) = false := by rw [toList_eq_iff]; exact decide_eq_false n1
          have HN := Lib.hid (sameL_no (a := bs) (b := bs') fun e => n1 (by rw [e]))
          clear n1
          go_wp2
          go_region
          all_goals
            go_wp2
            go_ret
            exact ⟨ret_bool (by rw [HN.out]; rfl), HB.out.2.drew⟩
      · (first | (have t : ¬ k < bs'.length := by omega) | (have t : ¬ k < bs.length := by omega))
        have Hb := Lib.hid (show bs.length = bs'.length → bs = bs' from fun e => ext_at e (fun i hi => Hno.out i (by omega)))
        have HB := Lib.hid hbl
        have hsr := hbl.size
        obtain ⟨wB, rfl⟩ : ∃ wB, wB = wr := ⟨_, rfl⟩
        clear hlt hbl hbw hk1 hk2
        rcases Nat.lt_or_ge es'.length es.length with hx | hx
        all_goals
          (try have hx' : ¬ es'.length < es.length := by omega)
          go_wp2
          go_loopw [36] (fun i wr => ∃ m : Nat, m ≤ es.length ∧ m ≤ es'.length ∧ i = .int .i64 m ∧ Below wA.heap.size wA wr ∧ ∀ j, j < m → nameAt es j = nameAt es' j ∧ restAt es j = restAt es' j) (fun i _ => es.length - (intOf i).toNat)
          case atStart => exact ⟨0, Nat.zero_le _, Nat.zero_le _, rfl, HB.out, all_zero⟩
          case round =>
            obtain ⟨m, hk1, hk2, rfl, hbl, hno⟩ := hrel
            have Hne := Lib.hid hno; clear hno
            have z0 := (hbl.cell (p := ⟨w.heap.size, 0, none⟩) hs0).trans q0
            have z1 := (hbl.cell (p := ⟨w.heap.size, 1, none⟩) hs0).trans q1
            have z2 := (hbl.cell (p := ⟨w.heap.size + 1, 0, none⟩) hs1).trans q2
            have z3 := (hbl.cell (p := ⟨w.heap.size + 1, 1, none⟩) hs1).trans q3
            have hbw : Below w.heap.size w wr := HA.out.1.trans (hbl.mono (by omega))
            by_cases hlt : m < es.length ∧ m < es'.length
            · obtain ⟨t1, t2⟩ := hlt
              obtain ⟨b, off, rfl, hb0, g1, g2⟩ := HA.out.2.2.1.cell m t1
              obtain ⟨b', off', rfl, hb0', g3, g4⟩ := HA.out.2.2.2.2.cell m t2
              have d1 := (hbl.cell (p := ⟨b, off + m * 2, none⟩) hb0).trans g1
              have d2 := (hbl.cell (p := ⟨b, off + m * 2 + 1, none⟩) hb0).trans g2
              have d3 := (hbl.cell (p := ⟨b', off' + m * 2, none⟩) hb0').trans g3
              have d4 := (hbl.cell (p := ⟨b', off' + m * 2 + 1, none⟩) hb0').trans g4
              clear g1 g2 g3 g4
              have i1 : (m : Int) < (es.length : Int) := by omega
              have i2 : (m : Int) < (es'.length : Int) := by omega
              have i3 : (0 : Int) ≤ (m : Int) := by omega
              have HC := Lib.hid (And.intro hbl hbw)
              clear hbl hbw
              by_cases n1 : nameAt es m = nameAt es' m
              · have e1 : ((nameAt es m).toList == (nameAt es' m).toList) = true := by rw [toList_eq_iff]; exact decide_eq_true n1
                by_cases n2 : restAt es m = restAt es' m
                · have e2 : ((restAt es m).toList == (restAt es' m).toList) = true := by rw [toList_eq_iff]; exact decide_eq_true n2
                  have HN := Lib.hid (And.intro n1 n2)
                  clear n1 n2
                  go_wp2
                  go_region
                  all_goals
                    go_wp2
                    go_roundw
                    case rel => exact ⟨m + 1, by omega, by omega, by go_num, HC.out.1.drew, all_step Hne.out HN.out⟩
                    case measure => simp [intOf]; omega
                · have e2 : ((restAt es m).toList == (restAt es' m).toList) = false := by rw [toList_eq_iff]; exact decide_eq_false n2
                  have HN := Lib.hid (sameL_no (a := es) (b := es') fun e => n2 (by rw [e]))
                  clear n1 n2
                  go_wp2
                  go_region
                  all_goals
                    go_wp2
                    go_ret
                    exact ⟨ret_bool (by rw [HN.out, Bool.and_false]), HC.out.2.drew⟩
              · have e1 : ((nameAt es m).toList == (nameAt es' m).toList) = false := by rw [toList_eq_iff]; exact decide_eq_false n1
                have HN := Lib.hid (sameL_no (a := es) (b := es') fun e => n1 (by rw [e]))
                clear n1
                go_wp2
                go_region
                all_goals
                  go_wp2
                  go_ret
                  exact ⟨ret_bool (by rw [HN.out, Bool.and_false]), HC.out.2.drew⟩
            · (first | (have t' : ¬ m < es'.length := by omega) | (have t' : ¬ m < es.length := by omega))
              have He := Lib.hid (show es.length = es'.length → es = es' from fun e => ext_at e (fun i hi => Hne.out i (by omega)))
              have HC := Lib.hid hbw
              clear hlt hbl hbw hk1 hk2
              by_cases c1 : bs.length = bs'.length
              · have Ha := Lib.hid (sameL_yes (Hb.out c1))
                have c1' : ((bs.length : Int) == (bs'.length : Int)) = true := by rw [eql_len]; exact decide_eq_true c1
                by_cases c2 : es.length = es'.length
                · have Hc := Lib.hid (sameL_yes (He.out c2))
                  have c2' : ((es.length : Int) == (es'.length : Int)) = true := by rw [eql_len]; exact decide_eq_true c2
                  clear c1 c2
                  go_wp2
                  go_ret
                  exact ⟨ret_bool (by rw [Ha.out, Hc.out]; rfl), HC.out⟩
                · have Hc := Lib.hid (sameL_no (a := es) (b := es') fun e => c2 (by rw [e]))
                  have c2' : ((es.length : Int) == (es'.length : Int)) = false := by rw [eql_len]; exact decide_eq_false c2
                  clear c1 c2
                  go_wp2
                  go_ret
                  exact ⟨ret_bool (by rw [Hc.out, Bool.and_false]), HC.out⟩
              · have Ha := Lib.hid (sameL_no (a := bs) (b := bs') fun e => c1 (by rw [e]))
                have c1' : ((bs.length : Int) == (bs'.length : Int)) = false := by rw [eql_len]; exact decide_eq_false c1
                clear c1
                go_wp2
                go_ret
                exact ⟨ret_bool (by rw [Ha.out]; rfl), HC.out⟩
end Go.Proofs.YthkhccfemdjioaaDoor
end

section
/-
  The model's draws of a program, a block's name and a term; of a program and a name; of bytes. Conditions: at most 700000 numbers drawn before.
-/
namespace Go.Proofs.YthkhccfemdjioaaDoor
open Go.RowKit Go.Maps

/-- a program in a block of its own -/
structure PAt (w : World) (q : Nat) (ab ae : Option Addr) (cb ce : Nat) (bs es : List Pr) : Prop where
  two : Two w q (.slice ab bs.length cb) (.slice ae es.length ce)
  b : PairsAt w ab bs
  e : PairsAt w ae es
section
variable {w w' : World} {q : Nat} {ab ae : Option Addr} {cb ce : Nat} {bs es : List Pr}
theorem PAt.below (h : PAt w q ab ae cb ce bs es) (hb : Below w.heap.size w w') : PAt w' q ab ae cb ce bs es := ⟨h.two.of_cells (hb.block _ h.two.cells.2.2.2.2), h.b.below hb, h.e.below hb⟩
theorem PAt.new (ab ae : Option Addr) (cb ce : Nat) (hb : PairsAt w ab bs) (he : PairsAt w ae es) : PAt (w.alloc (.cells #[.slice ab bs.length cb, .slice ae es.length ce] 32)) w.heap.size ab ae cb ce bs es := ⟨heap_alloc_new _ _, hb.alloc _, he.alloc _⟩
theorem PAt.lt (h : PAt w q ab ae cb ce bs es) : q < w.heap.size := h.two.cells.2.2.2.2
theorem PAt.c0 (h : PAt w q ab ae cb ce bs es) : w.cell? ⟨q, 0, none⟩ = some (.slice ab bs.length cb) := h.two.cells.1
theorem PAt.c1 (h : PAt w q ab ae cb ce bs es) : w.cell? ⟨q, 1, none⟩ = some (.slice ae es.length ce) := h.two.cells.2.1
end
/-- rows of pairs stand where only a source is written -/
theorem PairsAt.turns {w w' : World} {g : Nat} {a : Option Addr} {l : List Pr} (h : PairsAt w a l) (ht : Turns (fun k => k = g) w w') (hg : ∀ i x, w.cell? ⟨g, i, none⟩ = some x → ∀ s, x ≠ .string s) : PairsAt w' a l :=
  ⟨h.len, h.size, fun i hi => by
    obtain ⟨b, off, e, hb, h1, h2⟩ := h.cell i hi
    have hne : b ≠ g := by
      rintro rfl
      exact hg _ _ h1 _ rfl
    exact ⟨b, off, e, Nat.lt_of_lt_of_le hb ht.size, (ht.cellT hb hne).trans h1, (ht.cellT hb hne).trans h2⟩⟩
theorem RdAt.nostr {w : World} {g : Nat} {a : Option Addr} {n cap p : Nat} (h : RdAt w g a n cap p) : ∀ i x, w.cell? ⟨g, i, none⟩ = some x → ∀ s, x ≠ .string s := by
  intro i x hx s e
  subst e
  rw [cell_of_row w g i _ _ (0, 0) h.here] at hx
  match i with
  | 0 => cases hx
  | 1 => cases hx
  | i + 2 => simp at hx
theorem PairsAt.draw {w w' : World} {g : Nat} {a : Option Addr} {n cap p : Nat} {a' : Option Addr} {l : List Pr} (h : PairsAt w a' l) (hr : RdAt w g a n cap p) (ht : Turns (fun k => k = g) w w') : PairsAt w' a' l := h.turns ht hr.nostr
theorem PAt.draw {w w' : World} {q g : Nat} {ab ae : Option Addr} {cb ce : Nat} {bs es : List Pr} {a : Option Addr} {n cap p : Nat} (h : PAt w q ab ae cb ce bs es) (hr : RdAt w g a n cap p) (ht : Turns (fun k => k = g) w w') : PAt w' q ab ae cb ce bs es := by
  have hne : q ≠ g := by
    rintro rfl
    have h1 := h.two
    have h2 := hr.here
    unfold Two at h1
    rw [h1] at h2
    simp at h2
  exact ⟨ht.two h.two hne, h.b.draw hr ht, h.e.draw hr ht⟩
/-- what a draw of a program and two texts leaves -/
def Draw2 (w : World) (g : Nat) (e : Ending) (w' : World) : Prop := ∃ bs es ab ae cb ce x y, e = .returned (.tuple #[.agg #[.slice ab (List.length bs) cb, .slice ae (List.length es) ce], .string x, .string y]) ∧ Sh bs ∧ Sh es ∧ x.size ≤ 1000 ∧ y.size ≤ 1000 ∧ PairsAt w' ab bs ∧ PairsAt w' ae es ∧ Turns (fun k => k = g) w w'
def wordL : List ByteArray := [⟨#[65]⟩, ⟨#[66]⟩, ⟨#[67]⟩, ⟨#[68]⟩, ⟨#[69]⟩, ⟨#[67]⟩, ⟨#[74]⟩, ⟨#[]⟩, ⟨#[65, 66]⟩]
def termL : List ByteArray := [⟨#[120]⟩, ⟨#[120]⟩, ⟨#[120]⟩, ⟨#[121]⟩, ⟨#[120]⟩, ⟨#[122]⟩, ⟨#[120]⟩, ⟨#[88]⟩, ⟨#[]⟩, ⟨#[120, 121]⟩]
theorem wordL_sh {x : ByteArray} (h : x ∈ wordL) : x.size ≤ 1000 := short_of (by decide) h
theorem termL_sh {x : ByteArray} (h : x ∈ termL) : x.size ≤ 1000 := short_of (by decide) h
/-- a program and the block that takes a draw's result -/
structure DS (w wr : World) (g : Nat) (a : Option Addr) (n cap p R q : Nat) (ab ae : Option Addr) (cb ce : Nat) (bs es : List Pr) : Prop where
  ent : ∃ p0, RdAt w g a n cap p0
  rd : RdAt wr g a n cap p
  res : Two wr R (.slice none 0 0) (.slice none 0 0)
  at_ : PAt wr q ab ae cb ce bs es
  tu : Turns (fun k => k = g) w wr
section
variable {w wr w' : World} {g : Nat} {a : Option Addr} {n cap p p' R q : Nat} {ab ae : Option Addr} {cb ce : Nat} {bs es : List Pr}
theorem DS.rne (h : DS w wr g a n cap p R q ab ae cb ce bs es) : R ≠ g := by
  rintro rfl
  have h1 := h.res
  have h2 := h.rd.here
  unfold Two at h1
  rw [h1] at h2
  simp at h2
theorem DS.draw (h : DS w wr g a n cap p R q ab ae cb ce bs es) (ht : Turns (fun k => k = g) wr w') (hr : RdAt w' g a n cap p') : DS w w' g a n cap p' R q ab ae cb ce bs es :=
  ⟨h.ent, hr, ht.rd h.res h.rne, h.at_.draw h.rd ht, h.tu.trans ht⟩
theorem DS.below (h : DS w wr g a n cap p R q ab ae cb ce bs es) (hb : Below wr.heap.size wr w') : DS w w' g a n cap p R q ab ae cb ce bs es := h.draw (.of_below hb) (h.rd.below hb)
theorem DS.alloc (h : DS w wr g a n cap p R q ab ae cb ce bs es) (o : Obj) : DS w (wr.alloc o) g a n cap p R q ab ae cb ce bs es := h.below ((Below.refl _ _).alloc (Nat.le_refl _) _)
theorem DS.drewD (h : DS w wr g a n cap p R q ab ae cb ce bs es) : DS w wr.drew g a n cap p R q ab ae cb ce bs es := h.below (Below.refl _ _).drew
/-- the result written -/
theorem DS.fin (h : DS w wr g a n cap p R q ab ae cb ce bs es) (hR : w.heap.size ≤ R) :
    PairsAt ((wr.setCell ⟨R, 0, none⟩ (.slice ab bs.length cb)).setCell ⟨R, 1, none⟩ (.slice ae es.length ce)) ab bs ∧ PairsAt ((wr.setCell ⟨R, 0, none⟩ (.slice ab bs.length cb)).setCell ⟨R, 1, none⟩ (.slice ae es.length ce)) ae es ∧ RdAt ((wr.setCell ⟨R, 0, none⟩ (.slice ab bs.length cb)).setCell ⟨R, 1, none⟩ (.slice ae es.length ce)) g a n cap p ∧ Turns (fun k => k = g) w ((wr.setCell ⟨R, 0, none⟩ (.slice ab bs.length cb)).setCell ⟨R, 1, none⟩ (.slice ae es.length ce)) := by
  have hn : ∀ s, Value.slice none 0 0 ≠ .string s := fun s h => by cases h
  obtain ⟨r0, r1, t0, t1, _⟩ := h.res.cells
  have htf := (h.tu.setNew (p := ⟨R, 0, none⟩) hR (.slice ab bs.length cb)).setNew (p := ⟨R, 1, none⟩) hR (.slice ae es.length ce)
  have hhf : ((wr.setCell ⟨R, 0, none⟩ (.slice ab bs.length cb)).setCell ⟨R, 1, none⟩ (.slice ae es.length ce)).heap[g]? = wr.heap[g]? := (Below.heap_setCell _ _ _ _ (Ne.symm h.rne)).trans (Below.heap_setCell _ _ _ _ (Ne.symm h.rne))
  obtain ⟨p0, h0⟩ := h.ent
  exact ⟨(h.at_.b.setZ r0 hn).setZ (p := ⟨R, 1, none⟩) (Two.set0 h.res _).cells.2.1 hn, (h.at_.e.setZ r0 hn).setZ (p := ⟨R, 1, none⟩) (Two.set0 h.res _).cells.2.1 hn, h0.turns htf (hhf.trans h.rd.here), htf⟩
theorem DS.after (h : DS w wr g a n cap p R q ab ae cb ce bs es) (hRq : q ≠ R) : ∀ u v, ((wr.setCell ⟨R, 0, none⟩ u).setCell ⟨R, 1, none⟩ v).cell? ⟨q, 0, none⟩ = some (.slice ab bs.length cb) ∧ ((wr.setCell ⟨R, 0, none⟩ u).setCell ⟨R, 1, none⟩ v).cell? ⟨q, 1, none⟩ = some (.slice ae es.length ce) := fun u v => by
  have := ((h.at_.two.far (p := ⟨R, 0, none⟩) hRq u).far (p := ⟨R, 1, none⟩) hRq v).cells
  exact ⟨this.1, this.2.1⟩
end

/-- what a draw off bytes leaves -/
def DrawB2 (w : World) (e : Ending) (w' : World) : Prop := ∃ bs es ab ae cb ce x y, e = .returned (.tuple #[.agg #[.slice ab (List.length bs) cb, .slice ae (List.length es) ce], .string x, .string y]) ∧ Sh bs ∧ Sh es ∧ x.size ≤ 1000 ∧ y.size ≤ 1000 ∧ PairsAt w' ab bs ∧ PairsAt w' ae es ∧ Below w.heap.size w w'

end Go.Proofs.YthkhccfemdjioaaDoor
end

section
/-
  The model's draws of a program and a name, of a program and two names, off bytes. Conditions: none but what bytes that came in are.
-/
namespace Go.Proofs.YthkhccfemdjioaaDoor
open Go.RowKit Go.Maps

section
variable {w wr w' : World} {g : Nat} {a : Option Addr} {n cap p p' R q : Nat} {ab ae : Option Addr} {cb ce : Nat} {bs es : List Pr}
theorem DS.far2 (h : DS w wr g a n cap p R q ab ae cb ce bs es) {b : Nat} (hb : q ≠ b) : ∀ u v, ((wr.setCell ⟨b, 0, none⟩ u).setCell ⟨b, 1, none⟩ v).cell? ⟨q, 0, none⟩ = some (.slice ab bs.length cb) ∧ ((wr.setCell ⟨b, 0, none⟩ u).setCell ⟨b, 1, none⟩ v).cell? ⟨q, 1, none⟩ = some (.slice ae es.length ce) := fun u v => by
  have := ((h.at_.two.far (p := ⟨b, 0, none⟩) hb u).far (p := ⟨b, 1, none⟩) hb v).cells
  exact ⟨this.1, this.2.1⟩
theorem edge_kept {w3 w4 : World} {g : Nat} (ht : Turns (fun k => k = g) ((w3.alloc (.cells #[.string ⟨#[]⟩, .string ⟨#[]⟩] 93)).drew) w4) (hg : g < w3.heap.size) :
    w4.heap[w3.heap.size]? = some (.cells #[.string ⟨#[]⟩, .string ⟨#[]⟩] 93) ∧ w4.cell? ⟨w3.heap.size, 0, none⟩ = some (.string ⟨#[]⟩) ∧ w4.cell? ⟨w3.heap.size, 1, none⟩ = some (.string ⟨#[]⟩) ∧ w4.frozen? ⟨w3.heap.size, 0, none⟩ = false ∧ w4.frozen? ⟨w3.heap.size, 1, none⟩ = false := by
  have h1 : w4.heap[w3.heap.size]? = (w3.alloc (.cells #[.string ⟨#[]⟩, .string ⟨#[]⟩] 93)).heap[w3.heap.size]? := ht.block w3.heap.size (show w3.heap.size < (w3.alloc _).heap.size by simp) (by omega)
  have h2 := h1.trans (heap_alloc_new _ _)
  exact ⟨h2, by simp [World.cell?, h2], by simp [World.cell?, h2], by simp [World.frozen?, h2], by simp [World.frozen?, h2]⟩
theorem cell_far2 {w : World} {b R i : Nat} (hb : b ≠ R) (u v : Value) : ((w.setCell ⟨R, 0, none⟩ u).setCell ⟨R, 1, none⟩ v).cell? ⟨b, i, none⟩ = w.cell? ⟨b, i, none⟩ :=
  World.cell?_of_block ((Below.heap_setCell _ _ _ _ hb).trans (Below.heap_setCell _ _ _ _ hb))
theorem cell_far2D {w : World} {b R i : Nat} (hb : b ≠ R) (u v : Value) : (((w.setCell ⟨R, 0, none⟩ u).setCell ⟨R, 1, none⟩ v).drew).cell? ⟨b, i, none⟩ = w.drew.cell? ⟨b, i, none⟩ := cell_far2 (w := w) hb u v
theorem DS.afterD {w wr : World} {g : Nat} {a : Option Addr} {n cap p R q : Nat} {ab ae : Option Addr} {cb ce : Nat} {bs es : List Pr} (h : DS w wr g a n cap p R q ab ae cb ce bs es) (hRq : q ≠ R) : ∀ u v, (((wr.setCell ⟨R, 0, none⟩ u).setCell ⟨R, 1, none⟩ v).drew).cell? ⟨q, 0, none⟩ = some (.slice ab bs.length cb) ∧ (((wr.setCell ⟨R, 0, none⟩ u).setCell ⟨R, 1, none⟩ v).drew).cell? ⟨q, 1, none⟩ = some (.slice ae es.length ce) := fun u v => h.after hRq u v
/-- a block that is newer than w3 written -/
theorem DS.setNew2 {w3 : World} (h : DS w w3 g a n cap p' R q ab ae cb ce bs es) (ht : Turns (fun k => k = g) w3 wr) (hr : RdAt wr g a n cap p) {b : Nat} (hb : w3.heap.size ≤ b) (u v : Value) : DS w ((wr.setCell ⟨b, 0, none⟩ u).setCell ⟨b, 1, none⟩ v) g a n cap p R q ab ae cb ce bs es := by
  have h1 := (ht.setNew (p := ⟨b, 0, none⟩) hb u).setNew (p := ⟨b, 1, none⟩) hb v
  have hg : g ≠ b := by have := h.rd.lt; omega
  exact h.draw h1 (h.rd.turns h1 (((Below.heap_setCell _ _ _ _ hg).trans (Below.heap_setCell _ _ _ _ hg)).trans hr.here))
end
/-- what a draw of a program and a text off bytes leaves -/
def DrawB1 (w : World) (e : Ending) (w' : World) : Prop := ∃ bs es ab ae cb ce x, e = .returned (.tuple #[.agg #[.slice ab (List.length bs) cb, .slice ae (List.length es) ce], .string x]) ∧ Sh bs ∧ Sh es ∧ x.size ≤ 1000 ∧ PairsAt w' ab bs ∧ PairsAt w' ae es ∧ Below w.heap.size w w'

set_option maxRecDepth 100000 in
set_option maxHeartbeats 1600000 in
theorem DrawOutOf_any (w : World) (a : Option Addr) (n cap : Nat) (h : BytesRaw w a n cap) :
    Calls Tryd.prog 88 #[.slice a n cap] w (DrawB1 w) := by
  have hA : Below w.heap.size w (w.alloc (.cells #[.slice none 0 0, .slice none 0 0] 32)) := (Below.refl _ _).alloc (Nat.le_refl _) _
  have hR : Two (w.alloc (.cells #[.slice none 0 0, .slice none 0 0] 32)) w.heap.size (.slice none 0 0) (.slice none 0 0) := heap_alloc_new _ _
  have hbA := h.below hA
  have H0 := Lib.hid (And.intro hA hR)
  clear h hA hR
  go_enter Tryd.func88, Tryd.ntmps88
  go_wp2_with fail
  refine (l15Open_any _ a n cap hbA).mono ?_
  rintro e w1 ⟨m, rfl, hrd, hb1⟩
  have hz : (w.alloc (.cells #[.slice none 0 0, .slice none 0 0] 32)).heap.size = w.heap.size + 1 := by simp
  rw [hz] at hrd ⊢
  have hR1 : Two w1 w.heap.size _ _ := H0.out.2.of_cells (hb1.block _ (by omega))
  have hall : Below w.heap.size w w1 := H0.out.1.trans (hb1.mono (by omega))
  have hg1 := hrd.lt
  have H1 := Lib.hid (And.intro hR1 (And.intro hall hrd))
  clear hR1 hall hb1 hbA hz
  go_wp2_with fail
  refine (l1Some_any w1 (w.heap.size + 1) a m cap 0 (by omega) hrd).mono ?_
  rintro e w2 ⟨bs, es, ab, ae, cb, ce, rfl, hSb, hSe, hPb, hPe, p1, hp1, hrd2, htu⟩
  have hs2 := htu.size
  have hW : Below w2.heap.size w2 (w2.alloc (.cells #[.slice ab bs.length cb, .slice ae es.length ce] 32)) := (Below.refl _ _).alloc (Nat.le_refl _) _
  have hDS : DS w1 (w2.alloc (.cells #[.slice ab bs.length cb, .slice ae es.length ce] 32)) (w.heap.size + 1) a m cap p1 w.heap.size w2.heap.size ab ae cb ce bs es :=
    ⟨⟨0, H1.out.2.2⟩, hrd2.below hW, (hW.block _ (by omega)).trans (htu.two H1.out.1 (by omega)), PAt.new ab ae cb ce hPb hPe, htu.trans (.of_below hW)⟩
  have H2 := Lib.hid hDS
  have HS := Lib.hid (And.intro hSb hSe)
  have hqR : w2.heap.size ≠ w.heap.size := by omega
  clear hDS hPb hPe hrd htu hW hSb hSe hrd2
  go_upto_region 3 with fail
  generalize w2.alloc (.cells #[.slice ab bs.length cb, .slice ae es.length ce] 32) = wP at *
  generalize w2.heap.size = q at *
  go_wp2
  go_region_held_law (fun w' => w'.cell? ⟨q, 0, none⟩ = some (.slice ab bs.length cb) ∧ w'.cell? ⟨q, 1, none⟩ = some (.slice ae es.length ce))
    (first
      | with_reducible exact ⟨H2.out.drewD.at_.c0, H2.out.drewD.at_.c1⟩
      | with_reducible exact ⟨m0, m1⟩
      | with_reducible exact H3.out.after hqR _ _)
    (first
      | (go_at_call 142; refine (l1Word_any wP.drew (w.heap.size + 1) a m cap p1 (by omega) H2.out.drewD.rd).mono ?_; rintro e w3 ⟨x, hx, rfl, hrd3, htu3⟩; have hxs := wordL_sh hx; have H3 := Lib.hid (H2.out.drewD.draw htu3 hrd3); obtain ⟨m0, m1⟩ := And.intro H3.out.at_.c0 H3.out.at_.c1; obtain ⟨r0, r1, t0, t1, _⟩ := H3.out.res.cells))
  all_goals
    have hn : ∀ s, Value.slice none 0 0 ≠ .string s := fun s h => by cases h
    have hb := (H3.out.at_.b.setZ r0 hn (u := .slice ab bs.length cb)).setZ (p := ⟨w.heap.size, 1, none⟩) (u := .slice ae es.length ce) (Two.set0 H3.out.res (.slice ab bs.length cb)).cells.2.1 hn
    have he := (H3.out.at_.e.setZ r0 hn (u := .slice ab bs.length cb)).setZ (p := ⟨w.heap.size, 1, none⟩) (u := .slice ae es.length ce) (Two.set0 H3.out.res (.slice ab bs.length cb)).cells.2.1 hn
    have hbw : Below w.heap.size w w3 := H1.out.2.1.trans (H3.out.tu.below H1.out.2.1.size (fun k hk => by omega))
    have hfin := (hbw.setCell (p := ⟨w.heap.size, 0, none⟩) (Nat.le_refl _) (.slice ab bs.length cb)).setCell (p := ⟨w.heap.size, 1, none⟩) (Nat.le_refl _) (.slice ae es.length ce)
    have HX := Lib.hid (And.intro hb (And.intro he hfin))
    clear hb he hbw hfin hn hrd3 htu3 hx m0 m1
    go_wp2
    refine bodyPost_ret (v := .tuple #[.agg #[.slice ab bs.length cb, .slice ae es.length ce], .string x]) (by simp [results, Tryd.results88, go_sem, r0, r1]) rfl ?_
    exact ⟨bs, es, ab, ae, cb, ce, x, rfl, HS.out.1, HS.out.2, hxs, HX.out.1, HX.out.2.1, HX.out.2.2⟩

end Go.Proofs.YthkhccfemdjioaaDoor
end

section
/-
  The model's draws of a program and two texts that are mostly terms, and of a program alone, off bytes. Conditions: none but what bytes that came in are.
-/
namespace Go.Proofs.YthkhccfemdjioaaDoor
open Go.RowKit Go.Maps

def swTL : List ByteArray := [⟨#[120]⟩, ⟨#[121]⟩, ⟨#[120]⟩, ⟨#[122]⟩, ⟨#[88]⟩, ⟨#[]⟩]
def swUL : List ByteArray := [⟨#[121]⟩, ⟨#[120]⟩, ⟨#[122]⟩, ⟨#[119]⟩, ⟨#[120, 121]⟩]
set_option maxRecDepth 100000 in
set_option maxHeartbeats 1600000 in
theorem DrawSwapTerms_any (w : World) (a : Option Addr) (n cap : Nat) (h : BytesRaw w a n cap) :
    Calls Tryd.prog 22 #[.slice a n cap] w (DrawB2 w) := by
  have hA : Below w.heap.size w (w.alloc (.cells #[.slice none 0 0, .slice none 0 0] 32)) := (Below.refl _ _).alloc (Nat.le_refl _) _
  have hR : Two (w.alloc (.cells #[.slice none 0 0, .slice none 0 0] 32)) w.heap.size (.slice none 0 0) (.slice none 0 0) := heap_alloc_new _ _
  have hbA := h.below hA
  have H0 := Lib.hid (And.intro hA hR)
  clear h hA hR
  go_enter Tryd.func22, Tryd.ntmps22
  go_wp2_with fail
  refine (l15Open_any _ a n cap hbA).mono ?_
  rintro e w1 ⟨m, rfl, hrd, hb1⟩
  have hz : (w.alloc (.cells #[.slice none 0 0, .slice none 0 0] 32)).heap.size = w.heap.size + 1 := by simp
  rw [hz] at hrd ⊢
  have hR1 : Two w1 w.heap.size _ _ := H0.out.2.of_cells (hb1.block _ (by omega))
  have hall : Below w.heap.size w w1 := H0.out.1.trans (hb1.mono (by omega))
  have hg1 := hrd.lt
  have H1 := Lib.hid (And.intro hR1 (And.intro hall hrd))
  clear hR1 hall hb1 hbA hz
  go_wp2_with fail
  refine (l1Some_any w1 (w.heap.size + 1) a m cap 0 (by omega) hrd).mono ?_
  rintro e w2 ⟨bs, es, ab, ae, cb, ce, rfl, hSb, hSe, hPb, hPe, p1, hp1, hrd2, htu⟩
  have hs2 := htu.size
  have hW : Below w2.heap.size w2 (w2.alloc (.cells #[.slice ab bs.length cb, .slice ae es.length ce] 32)) := (Below.refl _ _).alloc (Nat.le_refl _) _
  have hDS : DS w1 (w2.alloc (.cells #[.slice ab bs.length cb, .slice ae es.length ce] 32)) (w.heap.size + 1) a m cap p1 w.heap.size w2.heap.size ab ae cb ce bs es :=
    ⟨⟨0, H1.out.2.2⟩, hrd2.below hW, (hW.block _ (by omega)).trans (htu.two H1.out.1 (by omega)), PAt.new ab ae cb ce hPb hPe, htu.trans (.of_below hW)⟩
  have H2 := Lib.hid hDS
  have HS := Lib.hid (And.intro hSb hSe)
  have hqR : w2.heap.size ≠ w.heap.size := by omega
  clear hDS hPb hPe hrd htu hW hSb hSe hrd2
  go_upto_region 3 with fail
  generalize w2.alloc (.cells #[.slice ab bs.length cb, .slice ae es.length ce] 32) = wP at *
  generalize w2.heap.size = q at *
  go_wp2_with fail
  refine (of_new wP (w.heap.size + 1) a m cap p1 swTL (by omega) H2.out.rd (by decide) (by decide)).mono ?_
  rintro e w3 ⟨x, hx, rfl, hrd3, htu3⟩
  have hxs : x.size ≤ 1000 := short_of (by decide) hx
  have H3 := Lib.hid (H2.out.draw htu3 hrd3)
  have hg3 := hrd3.lt
  obtain ⟨q0, q1⟩ := And.intro H3.out.at_.c0 H3.out.at_.c1
  have HE := Lib.hid (show ∀ o, ((w3.alloc o).drew).heap[w3.heap.size]? = some o from fun o => heap_alloc_new w3 o)
  clear hx htu3 hrd3
  go_wp2
  go_region_held_law (fun w' => w'.cell? ⟨q, 0, none⟩ = some (.slice ab bs.length cb) ∧ w'.cell? ⟨q, 1, none⟩ = some (.slice ae es.length ce))
    (first
      | with_reducible exact ⟨H3.out.drewD.at_.c0, H3.out.drewD.at_.c1⟩
      | with_reducible exact ⟨(H3.out.alloc _).drewD.at_.c0, (H3.out.alloc _).drewD.at_.c1⟩
      | with_reducible exact ⟨m0, m1⟩
      | with_reducible exact H4.out.after hqR _ _)
    (first
      | (go_at_call 73; refine (of_at _ (w.heap.size + 1) a m cap (p1 + 1) _ swUL _ (by with_reducible exact HE.out _) (by rfl) (by omega) (by omega) (DS.rd (H3.out.alloc _).drewD) (by decide) (by decide)).mono ?_; rintro e w4 ⟨y, hy, rfl, hrd4, htu4⟩; have hys : y.size ≤ 1000 := short_of (by decide) hy; have H4 := Lib.hid ((H3.out.alloc _).drewD.draw htu4 hrd4); obtain ⟨m0, m1⟩ := And.intro H4.out.at_.c0 H4.out.at_.c1; obtain ⟨r0, r1, t0, t1, _⟩ := H4.out.res.cells))
  all_goals
    have hn : ∀ s, Value.slice none 0 0 ≠ .string s := fun s h => by cases h
    have hb := (H4.out.at_.b.setZ r0 hn (u := .slice ab bs.length cb)).setZ (p := ⟨w.heap.size, 1, none⟩) (u := .slice ae es.length ce) (Two.set0 H4.out.res (.slice ab bs.length cb)).cells.2.1 hn
    have he := (H4.out.at_.e.setZ r0 hn (u := .slice ab bs.length cb)).setZ (p := ⟨w.heap.size, 1, none⟩) (u := .slice ae es.length ce) (Two.set0 H4.out.res (.slice ab bs.length cb)).cells.2.1 hn
    have hbw : Below w.heap.size w w4 := H1.out.2.1.trans (H4.out.tu.below H1.out.2.1.size (fun k hk => by omega))
    have hfin := (hbw.setCell (p := ⟨w.heap.size, 0, none⟩) (Nat.le_refl _) (.slice ab bs.length cb)).setCell (p := ⟨w.heap.size, 1, none⟩) (Nat.le_refl _) (.slice ae es.length ce)
    have HX := Lib.hid (And.intro hb (And.intro he hfin))
    clear hb he hbw hfin hn hrd4 htu4 hy m0 m1
    go_wp2
    refine bodyPost_ret (v := .tuple #[.agg #[.slice ab bs.length cb, .slice ae es.length ce], .string x, .string y]) (by simp [results, Tryd.results22, go_sem, r0, r1]) rfl ?_
    exact ⟨bs, es, ab, ae, cb, ce, x, y, rfl, HS.out.1, HS.out.2, hxs, hys, HX.out.1, HX.out.2.1, HX.out.2.2⟩
end Go.Proofs.YthkhccfemdjioaaDoor
end

section
/-
  The program's ProgValid. Conditions: what came in has lengths that Go bears; the errors' variables hold errors.
-/
namespace Go.Proofs.YthkhccfemdjioaaDoor
open Go.RowKit

set_option maxRecDepth 100000 in
set_option maxHeartbeats 1600000 in
theorem ProgValid_impl (w : World) (bs es : List Pr) (ab ae : Option Addr) (cb ce : Nat) (hpb : PairsAt w ab bs) (hpe : PairsAt w ae es) (hg : Errs w) :
    Calls Tryd.prog 25 #[.agg #[.slice ab bs.length cb, .slice ae es.length ce]] w fun e w' => e = .returned (.bool (validB bs es)) ∧ Below w.heap.size w w' := by
  have h1 : Below w.heap.size w (w.alloc (.cells #[.slice ab bs.length cb, .slice ae es.length ce] 32)) := (Below.refl _ _).alloc (Nat.le_refl _) _
  have hpb1 := hpb.below h1
  have hpe1 := hpe.below h1
  have hg1 := hg.keep h1
  have H1 := Lib.hid h1; clear h1
  go_enter Tryd.func25, Tryd.ntmps25
  go_wp2_with fail
  refine (planOf_any _ bs es _ _ _ _ hpb1 hpe1 hg1).mono ?_
  rintro e w1 ⟨hb1, hcase⟩
  have hall : Below w.heap.size w w1 := H1.out.trans (hb1.mono (by simp))
  have hz := hall.size
  rcases hcase with ⟨hv, o, lo, li, rfl, _⟩ | ⟨hv, t, x, rfl⟩
  · have HV := Lib.hid (show validB bs es = true by simpa [validB] using hv)
    clear hv
    go_wp2
    go_ret
    exact ⟨ret_bool (by rw [HV.out]), hall.alloc hz _⟩
  · have HV := Lib.hid (show validB bs es = false by simpa [validB] using hv)
    clear hv
    go_wp2
    go_ret
    exact ⟨ret_bool (by rw [HV.out]), hall.alloc hz _⟩

end Go.Proofs.YthkhccfemdjioaaDoor
end

section
/-
  The walk of the law FnSwapThree. Conditions: what came in are bytes; the errors' variables hold errors.
-/
namespace Go.Proofs.YthkhccfemdjioaaDoor
open Go.RowKit Go.Maps

/-- SwapTerms of a valid program and two terms -/
def SwYes (w : World) (bs es : List Pr) (t u : Nat) (e : Ending) (w' : World) : Prop := ∃ a c a' c', e = .returned (.tuple #[.agg #[.slice a (swA bs t u).length c, .slice a' es.length c'], .bool true]) ∧ PairsAt w' a (swA bs t u) ∧ PairsAt w' a' es ∧ Below w.heap.size w w'
theorem Valid.smallB {bs es : List Pr} (hV : Valid bs es) : bs.length ≤ 1048576 ∧ ∀ i, i < bs.length → (nameAt bs i).size ≤ 1048576 ∧ (restAt bs i).size ≤ 1048576 := by
  refine ⟨by have := hV.b.hi; omega, fun i hi => ?_⟩
  have h1 := hV.b.nm _ (pair_mem hi)
  have h2 : (restAt bs i).size ≤ 6 := (hV.b.op _ (pair_mem hi)).1
  unfold isNm at h1
  simp only [Bool.and_eq_true, beq_iff_eq] at h1
  exact ⟨by have := h1.1; omega, by omega⟩
theorem swRes_yes {w : World} {bs es : List Pr} {x y : ByteArray} {e : Ending} {w' : World} (hV : Valid bs es) (hx : isTm x = true) (hy : isTm y = true) (he : es.length ≤ 1048576 ∧ ∀ i, i < es.length → (nameAt es i).size ≤ 1048576 ∧ (restAt es i).size ≤ 1048576) (h : ProgRes w (swOk bs es x y) (swRL bs es x y) (swRE bs es x y) e w') : SwYes w bs es (byteAt x 0) (byteAt y 0) e w' := by
  rw [swOk_yes hV hx hy, swRL_yes hV hx hy, swRE_yes hV hx hy] at h
  obtain ⟨hb, a, c, a', c', rfl, hR⟩ := h
  have hs := (hV.swap (isTm_low hx) (isTm_low hy)).smallB
  obtain ⟨p1, p2⟩ := hR.pairs hs.1 hs.2 he.1 he.2
  exact ⟨a, c, a', c', rfl, p1, p2, hb⟩
section
variable (w : World) (bs es : List Pr) (ab ae : Option Addr) (cb ce : Nat)
theorem Swap_implY (x y : ByteArray) (t u : Nat) (hV : Valid bs es) (hx : isTm x = true) (hy : isTm y = true) (ht : byteAt x 0 = t) (hu : byteAt y 0 = u) (hpb : PairsAt w ab bs) (hpe : PairsAt w ae es) (hg : Errs w) :
    Calls Tryd.prog 23 #[.agg #[.slice ab bs.length cb, .slice ae es.length ce], .string x, .string y] w (SwYes w bs es t u) := by
  subst ht hu
  exact (SwapTerms_impl w bs es ab ae cb ce x y (by rw [isTm_size hx]; decide) (by rw [isTm_size hy]; decide) hpb hpe hg).mono fun _ _ h => swRes_yes hV hx hy ⟨hpe.len, hpe.size⟩ h
theorem Swap_specY (x y : ByteArray) (t u : Nat) (hV : Valid bs es) (hx : isTm x = true) (hy : isTm y = true) (ht : byteAt x 0 = t) (hu : byteAt y 0 = u) (hpb : PairsAt w ab bs) (hpe : PairsAt w ae es) :
    Calls Tryd.prog 24 #[.agg #[.slice ab bs.length cb, .slice ae es.length ce], .string x, .string y] w (SwYes w bs es t u) := by
  subst ht hu
  exact (SwapTerms_spec w bs es ab ae cb ce x y (by rw [isTm_size hx]; decide) (by rw [isTm_size hy]; decide) hpb hpe).mono fun _ _ h => swRes_yes hV hx hy ⟨hpe.len, hpe.size⟩ h
/-- SwapTerms of what is no program -/
def SwNo (w : World) (e : Ending) (w' : World) : Prop := ∃ a c a' c', e = .returned (.tuple #[.agg #[.slice a 0 c, .slice a' 0 c'], .bool false]) ∧ Below w.heap.size w w'
theorem swRes_no {w : World} {bs es : List Pr} {x y : ByteArray} {e : Ending} {w' : World} (hn : swOk bs es x y = false) (h : ProgRes w (swOk bs es x y) (swRL bs es x y) (swRE bs es x y) e w') : SwNo w e w' := by
  rw [(swNo hn).1, (swNo hn).2, hn] at h
  obtain ⟨hb, a, c, a', c', rfl, _⟩ := h
  exact ⟨a, c, a', c', rfl, hb⟩
theorem Swap_implN (x y : ByteArray) (hn : swOk bs es x y = false) (hx : x.size ≤ 1048576) (hy : y.size ≤ 1048576) (hpb : PairsAt w ab bs) (hpe : PairsAt w ae es) (hg : Errs w) :
    Calls Tryd.prog 23 #[.agg #[.slice ab bs.length cb, .slice ae es.length ce], .string x, .string y] w (SwNo w) :=
  (SwapTerms_impl w bs es ab ae cb ce x y hx hy hpb hpe hg).mono fun _ _ h => swRes_no hn h
theorem Swap_specN (x y : ByteArray) (hn : swOk bs es x y = false) (hx : x.size ≤ 1048576) (hy : y.size ≤ 1048576) (hpb : PairsAt w ab bs) (hpe : PairsAt w ae es) :
    Calls Tryd.prog 24 #[.agg #[.slice ab bs.length cb, .slice ae es.length ce], .string x, .string y] w (SwNo w) :=
  (SwapTerms_spec w bs es ab ae cb ce x y hx hy hpb hpe).mono fun _ _ h => swRes_no hn h
theorem owProg_same (bs' es' : List Pr) (ab' ae' : Option Addr) (cb' ce' : Nat) (h1 : bs = bs') (h2 : es = es') (hb : PairsAt w ab bs) (he : PairsAt w ae es) (hb' : PairsAt w ab' bs') (he' : PairsAt w ae' es') :
    Calls Tryd.prog 26 #[.agg #[.slice ab bs.length cb, .slice ae es.length ce], .agg #[.slice ab' bs'.length cb', .slice ae' es'.length ce']] w fun e w' => e = .returned (.bool true) ∧ Below w.heap.size w w' :=
  (owProg_any w bs es bs' es' ab ae ab' ae' cb ce cb' ce' hb he hb' he').mono fun e w' h => ⟨by rw [h.1, sameL_yes h1, sameL_yes h2]; rfl, h.2⟩
theorem ProgValid_implB (b : Bool) (h : validB bs es = b) (hpb : PairsAt w ab bs) (hpe : PairsAt w ae es) (hg : Errs w) :
    Calls Tryd.prog 25 #[.agg #[.slice ab bs.length cb, .slice ae es.length ce]] w fun e w' => e = .returned (.bool b) ∧ Below w.heap.size w w' := by
  subst h; exact ProgValid_impl w bs es ab ae cb ce hpb hpe hg
end
/-- a program that a law holds, in a later world -/
theorem PAt.step {w w' : World} {q : Nat} {ab ae : Option Addr} {cb ce : Nat} {bs es : List Pr} (h : PAt w q ab ae cb ce bs es) (hb : Below w.heap.size w w') (o : Obj) : PAt (w'.alloc o) q ab ae cb ce bs es := (h.below hb).below ((Below.refl _ _).alloc (Nat.le_refl _) _)
theorem below_step {w w1 w2 : World} (h : Below w.heap.size w w1) (hb : Below w1.heap.size w1 w2) (o : Obj) : Below w.heap.size w (w2.alloc o) := by
  have h1 := h.trans (hb.mono h.size)
  exact h1.alloc h1.size o

set_option maxRecDepth 100000 in
set_option maxHeartbeats 6400000 in
theorem LawFnSwapThree_any (w : World) (a : Option Addr) (n cap : Nat) (hby : BytesRaw w a n cap) (hg : Errs w) :
    Calls Tryd.prog 5 #[.slice a n cap] w fun e w' => e = .returned (.bool true) ∧ Below w.heap.size w w' := by
  go_enter Tryd.func5, Tryd.ntmps5
  by_cases hL : (1048576 : Int) < (n : Int)
  · go_wp2
    go_ret
    exact ⟨rfl, Below.refl _ _⟩
  have HG := Lib.hid hg
  clear hg
  go_wp2_with fail
  refine (DrawSwapTerms_any w a n cap hby).mono ?_
  rintro e w1 ⟨bs, es, ab, ae, cb, ce, x, y, rfl, hSb, hSe, hxs, hys, hPb, hPe, hb1⟩
  have hP := PAt.new ab ae cb ce hPb hPe
  have hall : Below w.heap.size w (w1.alloc (.cells #[.slice ab bs.length cb, .slice ae es.length ce] 32)) := hb1.alloc hb1.size _
  obtain ⟨c0, c1⟩ := And.intro hP.c0 hP.c1
  have H1 := Lib.hid (And.intro hP hall)
  clear hPb hPe hb1 hSb hSe hxs hys hby hP hall
  go_wp2_with fail
  generalize w1.alloc (.cells #[.slice ab bs.length cb, .slice ae es.length ce] 32) = wP at *
  generalize w1.heap.size = q at *
  by_cases hV : Valid bs es
  · have HV := Lib.hid hV
    clear hV
    refine (Swap_implY wP bs es _ _ _ _ _ _ 120 121 HV.out rfl rfl rfl rfl H1.out.1.b H1.out.1.e (HG.out.keep H1.out.2)).mono ?_
    rintro e w2 ⟨a2, d2, a2', d2', rfl, p2, p2', hb2⟩
    have hA := PAt.new a2 a2' d2 d2' p2 p2'
    have hP := H1.out.1.step hb2 (.cells #[.slice a2 (swA bs 120 121).length d2, .slice a2' es.length d2'] 32)
    have hB := below_step H1.out.2 hb2 (.cells #[.slice a2 (swA bs 120 121).length d2, .slice a2' es.length d2'] 32)
    obtain ⟨c0, c1⟩ := And.intro hP.c0 hP.c1
    have H2 := Lib.hid (And.intro hP (And.intro hA hB))
    clear p2 p2' hb2 hA hP hB H1
    go_wp2_with fail
    generalize w2.alloc (.cells #[.slice a2 (swA bs 120 121).length d2, .slice a2' es.length d2'] 32) = wA at *
    generalize w2.heap.size = qa at *
    refine (Swap_specY wA bs es _ _ _ _ _ _ 120 121 HV.out rfl rfl rfl rfl H2.out.1.b H2.out.1.e).mono ?_
    rintro e w3 ⟨a3, d3, a3', d3', rfl, _, _, hb3⟩
    have hP := H2.out.1.step hb3 (.cells #[.slice a3 (swA bs 120 121).length d3, .slice a3' es.length d3'] 32)
    have hA := H2.out.2.1.step hb3 (.cells #[.slice a3 (swA bs 120 121).length d3, .slice a3' es.length d3'] 32)
    have hB := below_step H2.out.2.2 hb3 (.cells #[.slice a3 (swA bs 120 121).length d3, .slice a3' es.length d3'] 32)
    obtain ⟨c0, c1⟩ := And.intro hA.c0 hA.c1
    have H3 := Lib.hid (And.intro hP (And.intro hA hB))
    clear hb3 hA hP hB H2
    go_wp2_with fail
    generalize w3.alloc (.cells #[.slice a3 (swA bs 120 121).length d3, .slice a3' es.length d3'] 32) = wB at *
    have HVA := Lib.hid (HV.out.swap (t := 120) (u := 121) (by decide) (by decide))
    refine (Swap_implY wB (swA bs 120 121) es _ _ _ _ _ _ 121 122 HVA.out rfl rfl rfl rfl H3.out.2.1.b H3.out.2.1.e (HG.out.keep H3.out.2.2)).mono ?_
    rintro e w4 ⟨a4, d4, a4', d4', rfl, p4, p4', hb4⟩
    have hQ := PAt.new a4 a4' d4 d4' p4 p4'
    have hP := H3.out.1.step hb4 (.cells #[.slice a4 (swA (swA bs 120 121) 121 122).length d4, .slice a4' es.length d4'] 32)
    have hB := below_step H3.out.2.2 hb4 (.cells #[.slice a4 (swA (swA bs 120 121) 121 122).length d4, .slice a4' es.length d4'] 32)
    obtain ⟨c0, c1⟩ := And.intro hQ.c0 hQ.c1
    have H4 := Lib.hid (And.intro hP (And.intro hQ hB))
    have HVB := Lib.hid (HVA.out.swap (t := 121) (u := 122) (by decide) (by decide))
    clear p4 p4' hb4 hQ hP hB H3
    go_wp2_with fail
    generalize w4.alloc (.cells #[.slice a4 (swA (swA bs 120 121) 121 122).length d4, .slice a4' es.length d4'] 32) = wC at *
    generalize w4.heap.size = qb at *
    refine (Swap_implY wC (swA (swA bs 120 121) 121 122) es _ _ _ _ _ _ 120 121 HVB.out rfl rfl rfl rfl H4.out.2.1.b H4.out.2.1.e (HG.out.keep H4.out.2.2)).mono ?_
    rintro e w5 ⟨a5, d5, a5', d5', rfl, p5, p5', hb5⟩
    have hQ := PAt.new a5 a5' d5 d5' p5 p5'
    have hP := H4.out.1.step hb5 (.cells #[.slice a5 (swA (swA (swA bs 120 121) 121 122) 120 121).length d5, .slice a5' es.length d5'] 32)
    have hB := below_step H4.out.2.2 hb5 (.cells #[.slice a5 (swA (swA (swA bs 120 121) 121 122) 120 121).length d5, .slice a5' es.length d5'] 32)
    obtain ⟨c0, c1⟩ := And.intro hP.c0 hP.c1
    have H5 := Lib.hid (And.intro hP (And.intro hQ hB))
    clear p5 p5' hb5 hQ hP hB H4
    go_wp2_with fail
    generalize w5.alloc (.cells #[.slice a5 (swA (swA (swA bs 120 121) 121 122) 120 121).length d5, .slice a5' es.length d5'] 32) = wD at *
    generalize w5.heap.size = qc at *
    refine (Swap_implY wD bs es _ _ _ _ _ _ 120 122 HV.out rfl rfl rfl rfl H5.out.1.b H5.out.1.e (HG.out.keep H5.out.2.2)).mono ?_
    rintro e w6 ⟨a6, d6, a6', d6', rfl, p6, p6', hb6⟩
    have hR := PAt.new a6 a6' d6 d6' p6 p6'
    have hP := H5.out.1.step hb6 (.cells #[.slice a6 (swA bs 120 122).length d6, .slice a6' es.length d6'] 32)
    have hQ := H5.out.2.1.step hb6 (.cells #[.slice a6 (swA bs 120 122).length d6, .slice a6' es.length d6'] 32)
    have hB := below_step H5.out.2.2 hb6 (.cells #[.slice a6 (swA bs 120 122).length d6, .slice a6' es.length d6'] 32)
    obtain ⟨c0, c1⟩ := And.intro hP.c0 hP.c1
    have H6 := Lib.hid (And.intro hP (And.intro hQ (And.intro hR hB)))
    clear p6 p6' hb6 hR hQ hP hB H5
    go_wp2_with fail
    generalize w6.alloc (.cells #[.slice a6 (swA bs 120 122).length d6, .slice a6' es.length d6'] 32) = wE at *
    generalize w6.heap.size = qd at *
    refine (Swap_implY wE bs es _ _ _ _ _ _ 121 121 HV.out rfl rfl rfl rfl H6.out.1.b H6.out.1.e (HG.out.keep H6.out.2.2.2)).mono ?_
    rintro e w7 ⟨a7, d7, a7', d7', rfl, p7, p7', hb7⟩
    have hT := PAt.new a7 a7' d7 d7' p7 p7'
    have hP := H6.out.1.step hb7 (.cells #[.slice a7 (swA bs 121 121).length d7, .slice a7' es.length d7'] 32)
    have hQ := H6.out.2.1.step hb7 (.cells #[.slice a7 (swA bs 121 121).length d7, .slice a7' es.length d7'] 32)
    have hR := H6.out.2.2.1.step hb7 (.cells #[.slice a7 (swA bs 121 121).length d7, .slice a7' es.length d7'] 32)
    have hB := below_step H6.out.2.2.2 hb7 (.cells #[.slice a7 (swA bs 121 121).length d7, .slice a7' es.length d7'] 32)
    obtain ⟨k0, k1⟩ := And.intro hQ.c0 hQ.c1
    obtain ⟨m0, m1⟩ := And.intro hR.c0 hR.c1
    have H7 := Lib.hid (And.intro hP (And.intro hQ (And.intro hR (And.intro hT hB))))
    clear p7 p7' hb7 hR hQ hP hT hB H6 c0 c1
    go_wp2_with fail
    generalize w7.alloc (.cells #[.slice a7 (swA bs 121 121).length d7, .slice a7' es.length d7'] 32) = wF at *
    generalize w7.heap.size = qe at *
    refine (owProg_same wF _ es _ _ _ _ _ es _ _ _ _ (swA_three HV.out) rfl H7.out.2.1.b H7.out.2.1.e H7.out.2.2.1.b H7.out.2.2.1.e).mono ?_
    rintro e w8 ⟨rfl, hb8⟩
    have hP := H7.out.1.below hb8
    have hT := H7.out.2.2.2.1.below hb8
    have hB := H7.out.2.2.2.2.trans (hb8.mono H7.out.2.2.2.2.size)
    obtain ⟨k0, k1⟩ := And.intro hP.c0 hP.c1
    obtain ⟨m0, m1⟩ := And.intro hT.c0 hT.c1
    have H8 := Lib.hid (And.intro hP (And.intro hT hB))
    clear hb8 hP hT hB H7
    go_wp2_with fail
    refine (owProg_same w8 _ es _ _ _ _ _ es _ _ _ _ (swA_self HV.out (by decide)) rfl H8.out.2.1.b H8.out.2.1.e H8.out.1.b H8.out.1.e).mono ?_
    rintro e w9 ⟨rfl, hb9⟩
    have HZ := Lib.hid (H8.out.2.2.trans (hb9.mono H8.out.2.2.size))
    clear hb9 H8
    go_wp2
    go_ret
    exact ⟨rfl, HZ.out⟩
  · have HN := Lib.hid (And.intro (swOk_no hV xT yT) (show validB bs es = false by simpa [validB] using hV))
    clear hV
    refine (Swap_implN wP bs es _ _ _ _ xT yT HN.out.1 (by decide) (by decide) H1.out.1.b H1.out.1.e (HG.out.keep H1.out.2)).mono ?_
    rintro e w2 ⟨a2, d2, a2', d2', rfl, hb2⟩
    have hP := H1.out.1.step hb2 (.cells #[.slice a2 0 d2, .slice a2' 0 d2'] 32)
    have hB := below_step H1.out.2 hb2 (.cells #[.slice a2 0 d2, .slice a2' 0 d2'] 32)
    obtain ⟨c0, c1⟩ := And.intro hP.c0 hP.c1
    have H2 := Lib.hid (And.intro hP hB)
    clear hb2 hP hB H1
    go_wp2_with fail
    generalize w2.alloc (.cells #[.slice a2 0 d2, .slice a2' 0 d2'] 32) = wA at *
    refine (Swap_specN wA bs es _ _ _ _ xT yT HN.out.1 (by decide) (by decide) H2.out.1.b H2.out.1.e).mono ?_
    rintro e w3 ⟨a3, d3, a3', d3', rfl, hb3⟩
    have hP := H2.out.1.step hb3 (.cells #[.slice a3 0 d3, .slice a3' 0 d3'] 32)
    have hB := below_step H2.out.2 hb3 (.cells #[.slice a3 0 d3, .slice a3' 0 d3'] 32)
    obtain ⟨c0, c1⟩ := And.intro hP.c0 hP.c1
    have H3 := Lib.hid (And.intro hP hB)
    clear hb3 hP hB H2
    go_wp2_with fail
    generalize w3.alloc (.cells #[.slice a3 0 d3, .slice a3' 0 d3'] 32) = wB at *
    refine (ProgValid_implB wB bs es _ _ _ _ false HN.out.2 H3.out.1.b H3.out.1.e (HG.out.keep H3.out.2)).mono ?_
    rintro e w4 ⟨rfl, hb4⟩
    have HZ := Lib.hid (H3.out.2.trans (hb4.mono H3.out.2.size))
    clear hb4 H3
    go_wp2
    go_ret
    exact ⟨rfl, HZ.out⟩
end Go.Proofs.YthkhccfemdjioaaDoor
end
