/-
  The laws' owProg: whether two programs are the same. Conditions: at most 1048576 blocks and edges, each text at most as many bytes.
-/
import Derived.Test.YtngcmjfkeageiaaDoorValid
import Derived.Deep.CutRange
namespace Go.Proofs.YtngcmjfkeageiaaDoor
open Go.RowKit

theorem sameL_no {a b : List Pr} (h : a ≠ b) : sameL a b = false := by simpa [sameL] using h
theorem sameL_yes {a b : List Pr} (h : a = b) : sameL a b = true := by simpa [sameL] using h
theorem eql_len (n m : Nat) : ((n : Int) == (m : Int)) = decide (n = m) := by
  by_cases h : n = m
  · subst h; simp
  · rw [decide_eq_false h]; simp; omega
set_option maxRecDepth 100000 in
set_option maxHeartbeats 3200000 in
theorem owProg_any (w : World) (bs es bs' es' : List Pr) (ab ae ab' ae' : Option Addr) (cb ce cb' ce' : Nat) (hb : PairsAt w ab bs) (he : PairsAt w ae es) (hb' : PairsAt w ab' bs') (he' : PairsAt w ae' es') :
    Calls Tryd.prog 23 #[.agg #[.slice ab bs.length cb, .slice ae es.length ce], .agg #[.slice ab' bs'.length cb', .slice ae' es'.length ce']] w fun e w' => e = .returned (.bool (sameL bs bs' && sameL es es')) ∧ Below w.heap.size w w' := by
  have h2 : Below w.heap.size w ((w.alloc (.cells #[.slice ab bs.length cb, .slice ae es.length ce] 32)).alloc (.cells #[.slice ab' bs'.length cb', .slice ae' es'.length ce'] 32)) := ((Below.refl _ _).alloc (Nat.le_refl _) _).alloc (by simp) _
  have q0 : ((w.alloc (.cells #[.slice ab bs.length cb, .slice ae es.length ce] 32)).alloc (.cells #[.slice ab' bs'.length cb', .slice ae' es'.length ce'] 32)).cell? ⟨w.heap.size, 0, none⟩ = some (.slice ab bs.length cb) := by go_simp
  have q1 : ((w.alloc (.cells #[.slice ab bs.length cb, .slice ae es.length ce] 32)).alloc (.cells #[.slice ab' bs'.length cb', .slice ae' es'.length ce'] 32)).cell? ⟨w.heap.size, 1, none⟩ = some (.slice ae es.length ce) := by go_simp
  have q2 : ((w.alloc (.cells #[.slice ab bs.length cb, .slice ae es.length ce] 32)).alloc (.cells #[.slice ab' bs'.length cb', .slice ae' es'.length ce'] 32)).cell? ⟨w.heap.size + 1, 0, none⟩ = some (.slice ab' bs'.length cb') := by go_simp
  have q3 : ((w.alloc (.cells #[.slice ab bs.length cb, .slice ae es.length ce] 32)).alloc (.cells #[.slice ab' bs'.length cb', .slice ae' es'.length ce'] 32)).cell? ⟨w.heap.size + 1, 1, none⟩ = some (.slice ae' es'.length ce') := by go_simp
  have hz : ((w.alloc (.cells #[.slice ab bs.length cb, .slice ae es.length ce] 32)).alloc (.cells #[.slice ab' bs'.length cb', .slice ae' es'.length ce'] 32)).heap.size = w.heap.size + 2 := by simp
  have l1 := hb.len
  have l2 := hb'.len
  have l3 := he.len
  have l4 := he'.len
  go_enter Tryd.func23, Tryd.ntmps23
  go_upto_region 1 with fail
  generalize (w.alloc (.cells #[.slice ab bs.length cb, .slice ae es.length ce] 32)).alloc (.cells #[.slice ab' bs'.length cb', .slice ae' es'.length ce'] 32) = wA at *
  have HA := Lib.hid (And.intro h2 (And.intro (hb.below h2) (And.intro (he.below h2) (And.intro (hb'.below h2) (he'.below h2)))))
  have hs0 : w.heap.size < wA.heap.size := by omega
  have hs1 : w.heap.size + 1 < wA.heap.size := by omega
  clear h2 hb he hb' he' hz
  rcases Nat.lt_or_ge bs'.length bs.length with hm | hm
  all_goals
    (try have hm' : ¬ bs'.length < bs.length := by omega)
    go_wp2
    go_loopw [14] (fun i wr => ∃ k : Nat, k ≤ bs.length ∧ k ≤ bs'.length ∧ i = .int .i64 k ∧ Below wA.heap.size wA wr ∧ ∀ j, j < k → nameAt bs j = nameAt bs' j ∧ restAt bs j = restAt bs' j) (fun i _ => bs.length - (intOf i).toNat)
    case atStart => exact ⟨0, Nat.zero_le _, Nat.zero_le _, rfl, Below.refl _ _, all_zero⟩
    case round =>
      obtain ⟨k, hk1, hk2, rfl, hbl, hno⟩ := hrel
      have Hno := Lib.hid hno; clear hno
      have y0 := (hbl.cell (p := ⟨w.heap.size, 0, none⟩) hs0).trans q0
      have y1 := (hbl.cell (p := ⟨w.heap.size, 1, none⟩) hs0).trans q1
      have y2 := (hbl.cell (p := ⟨w.heap.size + 1, 0, none⟩) hs1).trans q2
      have y3 := (hbl.cell (p := ⟨w.heap.size + 1, 1, none⟩) hs1).trans q3
      have hbw : Below w.heap.size w wr := HA.out.1.trans (hbl.mono (by omega))
      by_cases hlt : k < bs.length ∧ k < bs'.length
      · obtain ⟨t1, t2⟩ := hlt
        obtain ⟨b, off, rfl, hb0, g1, g2⟩ := HA.out.2.1.cell k t1
        obtain ⟨b', off', rfl, hb0', g3, g4⟩ := HA.out.2.2.2.1.cell k t2
        have d1 := (hbl.cell (p := ⟨b, off + k * 2, none⟩) hb0).trans g1
        have d2 := (hbl.cell (p := ⟨b, off + k * 2 + 1, none⟩) hb0).trans g2
        have d3 := (hbl.cell (p := ⟨b', off' + k * 2, none⟩) hb0').trans g3
        have d4 := (hbl.cell (p := ⟨b', off' + k * 2 + 1, none⟩) hb0').trans g4
        clear g1 g2 g3 g4
        have i1 : (k : Int) < (bs.length : Int) := by omega
        have i2 : (k : Int) < (bs'.length : Int) := by omega
        have i3 : (0 : Int) ≤ (k : Int) := by omega
        have HB := Lib.hid (And.intro hbl hbw)
        clear hbl hbw
        by_cases n1 : nameAt bs k = nameAt bs' k
        · have e1 : ((nameAt bs k).toList == (nameAt bs' k).toList) = true := by rw [toList_eq_iff]; exact decide_eq_true n1
          by_cases n2 : restAt bs k = restAt bs' k
          · have e2 : ((restAt bs k).toList == (restAt bs' k).toList) = true := by rw [toList_eq_iff]; exact decide_eq_true n2
            have HN := Lib.hid (And.intro n1 n2)
            clear n1 n2
            go_wp2
            go_region
            all_goals
              go_wp2
              go_roundw
              case rel => exact ⟨k + 1, by omega, by omega, by go_num, HB.out.1.drew, all_step Hno.out HN.out⟩
              case measure => simp [intOf]; omega
          · have e2 : ((restAt bs k).toList == (restAt bs' k).toList) = false := by rw [toList_eq_iff]; exact decide_eq_false n2
            have HN := Lib.hid (sameL_no (a := bs) (b := bs') fun e => n2 (by rw [e]))
            clear n1 n2
            go_wp2
            go_region
            all_goals
              go_wp2
              go_ret
              exact ⟨ret_bool (by rw [HN.out]; rfl), HB.out.2.drew⟩
        · have e1 : ((nameAt bs k).toList == (nameAt bs' k).toList) = false := by rw [toList_eq_iff]; exact decide_eq_false n1
          have HN := Lib.hid (sameL_no (a := bs) (b := bs') fun e => n1 (by rw [e]))
          clear n1
          go_wp2
          go_region
          all_goals
            go_wp2
            go_ret
            exact ⟨ret_bool (by rw [HN.out]; rfl), HB.out.2.drew⟩
      · (first | (have t : ¬ k < bs'.length := by omega) | (have t : ¬ k < bs.length := by omega))
        have Hb := Lib.hid (show bs.length = bs'.length → bs = bs' from fun e => ext_at e (fun i hi => Hno.out i (by omega)))
        have HB := Lib.hid hbl
        have hsr := hbl.size
        obtain ⟨wB, rfl⟩ : ∃ wB, wB = wr := ⟨_, rfl⟩
        clear hlt hbl hbw hk1 hk2
        rcases Nat.lt_or_ge es'.length es.length with hx | hx
        all_goals
          (try have hx' : ¬ es'.length < es.length := by omega)
          go_wp2
          go_loopw [36] (fun i wr => ∃ m : Nat, m ≤ es.length ∧ m ≤ es'.length ∧ i = .int .i64 m ∧ Below wA.heap.size wA wr ∧ ∀ j, j < m → nameAt es j = nameAt es' j ∧ restAt es j = restAt es' j) (fun i _ => es.length - (intOf i).toNat)
          case atStart => exact ⟨0, Nat.zero_le _, Nat.zero_le _, rfl, HB.out, all_zero⟩
          case round =>
            obtain ⟨m, hk1, hk2, rfl, hbl, hno⟩ := hrel
            have Hne := Lib.hid hno; clear hno
            have z0 := (hbl.cell (p := ⟨w.heap.size, 0, none⟩) hs0).trans q0
            have z1 := (hbl.cell (p := ⟨w.heap.size, 1, none⟩) hs0).trans q1
            have z2 := (hbl.cell (p := ⟨w.heap.size + 1, 0, none⟩) hs1).trans q2
            have z3 := (hbl.cell (p := ⟨w.heap.size + 1, 1, none⟩) hs1).trans q3
            have hbw : Below w.heap.size w wr := HA.out.1.trans (hbl.mono (by omega))
            by_cases hlt : m < es.length ∧ m < es'.length
            · obtain ⟨t1, t2⟩ := hlt
              obtain ⟨b, off, rfl, hb0, g1, g2⟩ := HA.out.2.2.1.cell m t1
              obtain ⟨b', off', rfl, hb0', g3, g4⟩ := HA.out.2.2.2.2.cell m t2
              have d1 := (hbl.cell (p := ⟨b, off + m * 2, none⟩) hb0).trans g1
              have d2 := (hbl.cell (p := ⟨b, off + m * 2 + 1, none⟩) hb0).trans g2
              have d3 := (hbl.cell (p := ⟨b', off' + m * 2, none⟩) hb0').trans g3
              have d4 := (hbl.cell (p := ⟨b', off' + m * 2 + 1, none⟩) hb0').trans g4
              clear g1 g2 g3 g4
              have i1 : (m : Int) < (es.length : Int) := by omega
              have i2 : (m : Int) < (es'.length : Int) := by omega
              have i3 : (0 : Int) ≤ (m : Int) := by omega
              have HC := Lib.hid (And.intro hbl hbw)
              clear hbl hbw
              by_cases n1 : nameAt es m = nameAt es' m
              · have e1 : ((nameAt es m).toList == (nameAt es' m).toList) = true := by rw [toList_eq_iff]; exact decide_eq_true n1
                by_cases n2 : restAt es m = restAt es' m
                · have e2 : ((restAt es m).toList == (restAt es' m).toList) = true := by rw [toList_eq_iff]; exact decide_eq_true n2
                  have HN := Lib.hid (And.intro n1 n2)
                  clear n1 n2
                  go_wp2
                  go_region
                  all_goals
                    go_wp2
                    go_roundw
                    case rel => exact ⟨m + 1, by omega, by omega, by go_num, HC.out.1.drew, all_step Hne.out HN.out⟩
                    case measure => simp [intOf]; omega
                · have e2 : ((restAt es m).toList == (restAt es' m).toList) = false := by rw [toList_eq_iff]; exact decide_eq_false n2
                  have HN := Lib.hid (sameL_no (a := es) (b := es') fun e => n2 (by rw [e]))
                  clear n1 n2
                  go_wp2
                  go_region
                  all_goals
                    go_wp2
                    go_ret
                    exact ⟨ret_bool (by rw [HN.out, Bool.and_false]), HC.out.2.drew⟩
              · have e1 : ((nameAt es m).toList == (nameAt es' m).toList) = false := by rw [toList_eq_iff]; exact decide_eq_false n1
                have HN := Lib.hid (sameL_no (a := es) (b := es') fun e => n1 (by rw [e]))
                clear n1
                go_wp2
                go_region
                all_goals
                  go_wp2
                  go_ret
                  exact ⟨ret_bool (by rw [HN.out, Bool.and_false]), HC.out.2.drew⟩
            · (first | (have t' : ¬ m < es'.length := by omega) | (have t' : ¬ m < es.length := by omega))
              have He := Lib.hid (show es.length = es'.length → es = es' from fun e => ext_at e (fun i hi => Hne.out i (by omega)))
              have HC := Lib.hid hbw
              clear hlt hbl hbw hk1 hk2
              by_cases c1 : bs.length = bs'.length
              · have Ha := Lib.hid (sameL_yes (Hb.out c1))
                have c1' : ((bs.length : Int) == (bs'.length : Int)) = true := by rw [eql_len]; exact decide_eq_true c1
                by_cases c2 : es.length = es'.length
                · have Hc := Lib.hid (sameL_yes (He.out c2))
                  have c2' : ((es.length : Int) == (es'.length : Int)) = true := by rw [eql_len]; exact decide_eq_true c2
                  clear c1 c2
                  go_wp2
                  go_ret
                  exact ⟨ret_bool (by rw [Ha.out, Hc.out]; rfl), HC.out⟩
                · have Hc := Lib.hid (sameL_no (a := es) (b := es') fun e => c2 (by rw [e]))
                  have c2' : ((es.length : Int) == (es'.length : Int)) = false := by rw [eql_len]; exact decide_eq_false c2
                  clear c1 c2
                  go_wp2
                  go_ret
                  exact ⟨ret_bool (by rw [Hc.out, Bool.and_false]), HC.out⟩
              · have Ha := Lib.hid (sameL_no (a := bs) (b := bs') fun e => c1 (by rw [e]))
                have c1' : ((bs.length : Int) == (bs'.length : Int)) = false := by rw [eql_len]; exact decide_eq_false c1
                clear c1
                go_wp2
                go_ret
                exact ⟨ret_bool (by rw [Ha.out]; rfl), HC.out⟩
end Go.Proofs.YtngcmjfkeageiaaDoor
