/-
  The program's OpsOn: what the blocks of a run do, one behind the other. Conditions: at most 1048576 blocks and edges, each text at most as many bytes; the errors' variables hold errors.
-/
import Derived.Test.YtecnaabfdogehaaDoorAlong
import Derived.Test.YtecnaabfdogehaaDoorValid
namespace Go.Proofs.YtecnaabfdogehaaDoor
open Go.RowKit Go.Maps

theorem opVals_list (s : ByteArray) : opVals s s.size = s.data.toList.map fun u => opVal u.toNat := by
  apply List.ext_getElem?
  intro j
  by_cases hj : j < s.size
  · rw [opVals_at hj, List.getElem?_map]
    have hj' : j < s.data.toList.length := by simpa using hj
    rw [List.getElem?_eq_getElem hj', Option.map_some]
    unfold byteAt
    have hj2 : j < s.data.size := hj
    simp [Array.getD_eq_getD_getElem?, Array.getElem?_eq_getElem hj2]
  · rw [List.getElem?_eq_none (by rw [opVals_length]; omega), List.getElem?_eq_none (by simp; exact Nat.le_of_not_lt hj)]
theorem opVals_app (a b : ByteArray) : opVals (a ++ b) (a ++ b).size = opVals a a.size ++ opVals b b.size := by
  rw [opVals_list, opVals_list, opVals_list, ByteArray.data_append, Array.toList_append, List.map_append]
theorem flat_txt (bs : List Pr) (run : ByteArray) : ∀ k, flat (fun i => opVals (opsAt bs (ch run i)) (opsAt bs (ch run i)).size) k = opVals (opsTxt bs run k) (opsTxt bs run k).size
  | 0 => rfl
  | k + 1 => by rw [flat_succ, flat_txt bs run k, opsTxt_succ, opVals_app]
theorem letters_iff (s : ByteArray) : (∀ i, i < s.size → opB (byteAt s i) = true) ↔ ∀ u ∈ s.data.toList, opB u.toNat = true := by
  constructor
  · intro h u hu
    obtain ⟨i, hi, e⟩ := List.getElem_of_mem hu
    have hi' : i < s.size := by simpa using hi
    have := h i hi'
    rw [← byteAt_get hi'] at this
    rw [← e]; exact this
  · intro h i hi
    rw [← byteAt_get hi]
    exact h _ (by have hj : i < s.data.toList.length := by simpa using hi
                  exact List.getElem_mem hj)
theorem opsTxt_letters {bs es : List Pr} {run : ByteArray} (hV : Valid bs es) (hR : RunOk bs es run) : ∀ k, k ≤ run.size → ∀ u ∈ (opsTxt bs run k).data.toList, opB u.toNat = true
  | 0, _, u, hu => by have e : (opsTxt bs run 0).data.toList = [] := rfl
                      rw [e] at hu; cases hu
  | k + 1, hk, u, hu => by
    rw [opsTxt_succ, ByteArray.data_append, Array.toList_append, List.mem_append] at hu
    rcases hu with h | h
    · exact opsTxt_letters hV hR k (by omega) u h
    · exact (letters_iff _).1 (opsAt_ok hV (hR.mem hV (k := k) (by omega))).2 u h
theorem opVals_one (s : ByteArray) : ∀ u ∈ opVals s s.size, u.oneCell' = true := by
  rw [opVals_list]
  intro u hu
  obtain ⟨b, _, rfl⟩ := List.mem_map.1 hu
  unfold opVal
  split <;> rfl

set_option maxRecDepth 100000 in
theorem OpsOn_impl (w : World) (bs es : List Pr) (ab ae : Option Addr) (cb ce : Nat) (x : ByteArray) (hx : x.size ≤ 1048576) (hpb : PairsAt w ab bs) (hpe : PairsAt w ae es) (hg : Errs w) :
    Calls Tryd.prog 34 #[.agg #[.slice ab bs.length cb, .slice ae es.length ce], .string x] w fun e w' => e = .returned (opsOnV bs es x) ∧ Below w.heap.size w w' := by
  have h1 : Below w.heap.size w (w.alloc (.cells #[.slice ab bs.length cb, .slice ae es.length ce] 31)) := (Below.refl _ _).alloc (Nat.le_refl _) _
  have hpb1 := hpb.below h1
  have hpe1 := hpe.below h1
  have hg1 := hg.keep h1
  have H1 := Lib.hid h1; clear h1
  go_enter Tryd.func34, Tryd.ntmps34
  go_wp2_with fail
  refine (opsAlong_any _ bs es _ _ _ _ x hx hpb1 hpe1 hg1).mono ?_
  rintro e w1 ⟨hb1, hcase⟩
  have hall : Below w.heap.size w w1 := H1.out.trans (hb1.mono (by simp))
  have hz := hall.size
  rcases hcase with ⟨hv, b, cap, V, rfl, hbw, hcell, hrow⟩ | ⟨hv, rfl⟩
  · have HN := Lib.hid (opsOnV_yes hv)
    obtain ⟨hV, hR⟩ := isRunB_iff.1 hv
    have hcon := Concat_any w1 b cap x.size V (fun i => opVals (opsAt bs (ch x i)) (opsAt bs (ch x i)).size) hR.hi hbw hcell hrow (fun i hi => by
      show (opVals _ _).length ≤ 6
      rw [opVals_length]; exact (opsAt_ok hV (hR.mem hV hi)).1) (fun i hi => opVals_one _)
    rw [flat_txt] at hcon
    have hs : (opsTxt bs x x.size).size ≤ 1000 ∧ ∀ i, i < (opsTxt bs x x.size).size → opB (byteAt (opsTxt bs x x.size) i) = true :=
      ⟨by have := opsTxt_size hV hR x.size (Nat.le_refl _); have := hR.hi; omega, (letters_iff _).2 (opsTxt_letters hV hR x.size (Nat.le_refl _))⟩
    have HS := Lib.hid hs
    clear hv hV hR hcell hrow hbw hs
    go_wp2_with fail
    refine hcon.mono ?_
    rintro e w2 ⟨v, rfl, hown, hb2⟩
    have hr2 : RowAt w2 v (opVals (opsTxt bs x x.size) (opsTxt bs x x.size).size) := RowAt.of_own hown
    obtain ⟨va, vc, rfl⟩ := row_len hr2
    have HR2 := Lib.hid hr2
    clear hown hr2 hcon
    go_wp2_with fail
    refine (writeOps_any _ _ (opsTxt bs x x.size) HS.out HR2.out).mono ?_
    rintro e w3 ⟨rfl, hb3⟩
    have hb12 := hall.trans (hb2.mono hz)
    go_wp2
    go_ret2
    exact ⟨by rw [HN.out]; rfl, hb12.trans (hb3.mono hb12.size)⟩
  · have HN := Lib.hid (opsOnV_no hv)
    clear hv
    go_wp2
    go_ret2
    exact ⟨by rw [HN.out]; rfl, hall⟩
end Go.Proofs.YtecnaabfdogehaaDoor
