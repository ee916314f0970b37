/-
  FormatProg of the program: the text of a valid program, else the empty text. Conditions: at most 1048576 blocks and edges, each text at most as many bytes; the errors' variables hold errors.
-/
import Derived.Test.YtngcmjfkeageiaaDoorFmtS
import Derived.Test.YtngcmjfkeageiaaDoorPValidI
import Derived.Test.YtngcmjfkeageiaaDoorShelf
namespace Go.Proofs.YtngcmjfkeageiaaDoor
open Go.RowKit Go.Maps

def cats (l : List Pr) (k : Nat) : List ByteArray := (List.range k).map fun i => nameAt l i ++ restAt l i
def catVals (l : List Pr) (k : Nat) : List Value := (cats l k).map Value.string
theorem cats_succ (l : List Pr) (k : Nat) : cats l (k + 1) = cats l k ++ [nameAt l k ++ restAt l k] := by simp [cats, List.range_succ]
theorem cats_length (l : List Pr) (k : Nat) : (cats l k).length = k := by simp [cats]
theorem catVals_succ (l : List Pr) (k : Nat) : catVals l (k + 1) = catVals l k ++ [.string (nameAt l k ++ restAt l k)] := by simp [catVals, cats_succ]
theorem join_snoc (xs : List (List UInt8)) (h : xs ≠ []) (y sep : List UInt8) : Lib.join (xs ++ [y]) sep = Lib.join xs sep ++ sep ++ y := by
  cases xs with
  | nil => exact absurd rfl h
  | cons x r =>
    rw [List.cons_append, Lib.join_cons, Lib.join_cons]
    simp [Lib.joinTail, List.append_assoc]
def joined (l : List Pr) (k : Nat) : ByteArray := ⟨(Lib.join ((cats l k).map (·.data.toList)) [44]).toArray⟩
theorem bytes_ext {a b : ByteArray} (h : a.data.toList = b.data.toList) : a = b := by
  obtain ⟨⟨a⟩⟩ := a
  obtain ⟨⟨b⟩⟩ := b
  simp at h
  rw [h]
theorem bytes_app (a b : ByteArray) : (a ++ b).data.toList = a.data.toList ++ b.data.toList := by simp [ByteArray.data_append]
theorem acc_joined (l : List Pr) (p : ByteArray) : ∀ k, acc l p k = p ++ joined l k
  | 0 => bytes_ext (by rw [bytes_app]; simp [acc, joined, cats, Lib.join_nil])
  | k + 1 => by
    have ih := acc_joined l p k
    by_cases hk : 0 < k
    · rw [acc_next hk, ih]
      refine bytes_ext ?_
      simp only [bytes_app, joined, cats_succ, List.map_append, List.map_cons, List.map_nil]
      rw [join_snoc _ (by intro h; have := congrArg List.length h; simp [cats_length] at this; omega)]
      simp [List.append_assoc]
    · obtain rfl : k = 0 := by omega
      rw [acc_first hk, ih]
      refine bytes_ext ?_
      simp [joined, cats, Lib.join_nil, Lib.join_one]
theorem joined_le (l : List Pr) (h : ∀ i, i < l.length → (nameAt l i).size ≤ 1 ∧ (restAt l i).size ≤ 6) : (joined l l.length).size ≤ l.length * 8 := by
  have h1 := acc_size (p := e0) h l.length (Nat.le_refl _)
  rw [acc_joined] at h1
  rw [ByteArray.size_append] at h1
  have : e0.size = 0 := rfl
  omega

theorem one_new2 (w : World) (o : Obj) (x : Value) (t : TypeId) : ∀ j u, [x][j]? = some u → ((w.alloc o).alloc (.cells #[x] t)).cell? ((⟨w.heap.size + 1, 0, none⟩ : Addr).add j) = some u := by
  have := cell_one_new (w.alloc o) x t
  simpa using this
theorem own_keep {w w' : World} {base : Nat} {e : TypeId} {size n : Nat} {v : Value} {xs : List Value} (h : w.ownsRow base e size v n xs) (hb : Below w.heap.size w w') : w'.ownsRow base e size v n xs := by
  obtain ⟨h1, h2 | ⟨g, cap, cur, e1, e2, e3, e4⟩⟩ := h
  · exact ⟨h1, .inl h2⟩
  · exact ⟨h1, .inr ⟨g, cap, cur, e1, e2, (hb.block g (Array.getElem?_eq_some_iff.1 e3).1).trans e3, e4⟩⟩
/-- strings.Join of a row of texts that the call has laid -/
theorem Join_row (w : World) (v : Value) (l : List Pr) (base : Nat) (hl : l.length ≤ 1000) (hs : ∀ i, i < l.length → (nameAt l i).size ≤ 1 ∧ (restAt l i).size ≤ 6) (ho : w.ownsRow base 9 1 v l.length (catVals l l.length)) :
    Calls Tryd.prog 81 #[v, .string ⟨#[44]⟩] w fun e w' => e = .returned (.string (joined l l.length)) ∧ Below w.heap.size w w' := by
  obtain ⟨h1, ⟨rfl, h0⟩ | ⟨g, cap, cur, rfl, _, hg, hc, hm, hcs, ht⟩⟩ := ho
  · refine (Tryd.strings_Join_none none 0 ⟨#[44]⟩ w).mono fun e w' h => ⟨?_, by rw [h.2]; exact Below.refl _ _⟩
    rw [h.1, h0]; rfl
  · have hlen : (cats l l.length).length = l.length := cats_length _ _
    have hj : (Lib.join ((cats l l.length).map (·.data.toList)) [44]).length ≤ l.length * 8 := by
      have := joined_le l hs
      unfold joined at this
      simpa [ByteArray.size] using this
    have := Tryd.strings_Join g 0 cap (cats l l.length) ⟨#[44]⟩ w (fun j x hx => ?_) ?_ (by omega) (by omega) (by show (Lib.join ((cats l l.length).map (·.data.toList)) [44]).length ≤ _; omega)
    · rw [hlen] at this
      exact this
    · have hjl : j < l.length := by
        have := (List.getElem?_eq_some_iff.1 hx).1
        omega
      have hv : (cur.toList.take (l.length * 1))[j]? = some (.string x) := by rw [ht]; simp [catVals, hx]
      rw [List.getElem?_take, if_pos (by omega)] at hv
      simp only [Nat.zero_add]
      simp [World.cell?, hg]
      simpa using hv
    · exact (Array.getElem?_eq_some_iff.1 hg).1

set_option maxRecDepth 100000 in
set_option maxHeartbeats 1600000 in
theorem FormatProg_impl (w : World) (bs es : List Pr) (ab ae : Option Addr) (cb ce : Nat) (hpb : PairsAt w ab bs) (hpe : PairsAt w ae es) (hg : Errs w) :
    Calls Tryd.prog 28 #[.agg #[.slice ab bs.length cb, .slice ae es.length ce]] w fun e w' => e = .returned (.string (fmtV bs es)) ∧ Below w.heap.size w w' := by
  have h1 : Below w.heap.size w (w.alloc (.cells #[.slice ab bs.length cb, .slice ae es.length ce] 32)) := (Below.refl _ _).alloc (Nat.le_refl _) _
  have hpb1 := hpb.below h1
  have hpe1 := hpe.below h1
  have hg1 := hg.keep h1
  have H1 := Lib.hid h1; clear h1
  obtain ⟨i0, hi, hz0, hz1, hz2⟩ := info_parts Tryd.infoStr
  go_enter Tryd.func28, Tryd.ntmps28
  go_wp2_with fail
  refine (ProgValid_impl _ bs es _ _ _ _ hpb1 hpe1 hg1).mono ?_
  rintro e w1 ⟨rfl, hb1⟩
  have hall : Below w.heap.size w w1 := H1.out.trans (hb1.mono (by simp))
  have hpb2 := hpb1.below hb1
  have hpe2 := hpe1.below hb1
  have c0 := (hb1.cell (p := ⟨w.heap.size, 0, none⟩) (by simp)).trans (show _ = some (.slice ab bs.length cb) by go_simp)
  have c1 := (hb1.cell (p := ⟨w.heap.size, 1, none⟩) (by simp)).trans (show _ = some (.slice ae es.length ce) by go_simp)
  have hz := hall.size
  cases hv : validB bs es
  · have HV := Lib.hid hv
    clear hv
    go_wp2
    go_ret
    exact ⟨by unfold fmtV; rw [if_neg (by rw [HV.out]; simp)]; rfl, hall⟩
  · have HV := Lib.hid hv
    clear hv
    have HVV := Lib.hid (show Valid bs es by simpa [validB] using HV.out)
    have hlb := HVV.out.b.hi
    have hle := HVV.out.e.hi
    have HB := Lib.hid HVV.out.smallB
    have HE := Lib.hid HVV.out.smallE
    go_wp2
    go_loopw [15, 3] (fun i v wr => ∃ k : Nat, k ≤ bs.length ∧ i = .int .i64 k ∧ wr.ownsRow w1.heap.size 9 1 v k (catVals bs k) ∧ Below w1.heap.size w1 wr) (fun i _ _ => bs.length - (intOf i).toNat)
    case atStart => exact ⟨0, Nat.zero_le _, rfl, World.ownsRow_nil _ _ _ _, Below.refl _ _⟩
    case round =>
      obtain ⟨k, hk, rfl, hown, hbl⟩ := hrel
      have hs2 := hbl.size
      by_cases hlt : k < bs.length
      · obtain ⟨b, off, rfl, hb, g1, g2⟩ := hpb2.cell k hlt
        have d1 := (hbl.cell (p := ⟨b, off + k * 2, none⟩) hb).trans g1
        have d2 := (hbl.cell (p := ⟨b, off + k * 2 + 1, none⟩) hb).trans g2
        have s2 := HB.out k hlt
        have t1 : ¬ 9223372036854775807 < (nameAt bs k).size + (restAt bs k).size := by omega
        clear g1 g2
        go_wp2_with (at_builtin; refine wpList_append_own _ rfl _ _ 38 rfl w1.heap.size 9 i0 (.string ⟨#[]⟩) 1 16 Tryd.underlying38 hi hz0 hz1 hz2 rfl (by decide) _ _ _ rfl ((hown.alloc _).alloc _) ⟨wr.heap.size + 1, 0, none⟩ 1 1 [.string (nameAt bs k ++ restAt bs k)] rfl rfl (one_new2 _ _ _ _) (one_one _ rfl) (by unfold maxLen; omega) (by omega) (by simp; omega) ?_; intro v' w3 hown3 hgrow3 _)
        have hb3 : Below w1.heap.size w1 w3 := ((hbl.alloc hs2 _).alloc (by simp; omega) _).grown hgrow3 (by simp; omega) (fun j hj => (hown.lt j hj).1)
        go_roundw
        case rel => exact ⟨k + 1, by omega, by go_num, by rw [catVals_succ]; exact hown3, hb3⟩
        case measure => simp [intOf]; omega
      · obtain rfl : k = bs.length := by omega
        have y1 := (hbl.cell (p := ⟨w.heap.size, 1, none⟩) (by have := hb1.size; simp at this; exact this)).trans c1
        have hwr := hall.trans (hbl.mono hz)
        have hpe3 := hpe2.below hbl
        have HO := Lib.hid hown
        clear hown hbl c0 c1
        generalize hA : wr = wA at *
        clear hA
        go_wp2
        go_loopw [31, 4] (fun i v wq => ∃ k : Nat, k ≤ es.length ∧ i = .int .i64 k ∧ wq.ownsRow wA.heap.size 9 1 v k (catVals es k) ∧ Below wA.heap.size wA wq) (fun i _ _ => es.length - (intOf i).toNat)
        case atStart => exact ⟨0, Nat.zero_le _, rfl, World.ownsRow_nil _ _ _ _, Below.refl _ _⟩
        case round =>
          obtain ⟨k, hk, rfl, hown, hbl⟩ := hrel
          have hs3 := hbl.size
          by_cases hlt : k < es.length
          · obtain ⟨b, off, rfl, hb, g1, g2⟩ := hpe3.cell k hlt
            have d1 := (hbl.cell (p := ⟨b, off + k * 2, none⟩) hb).trans g1
            have d2 := (hbl.cell (p := ⟨b, off + k * 2 + 1, none⟩) hb).trans g2
            have s2 := HE.out k hlt
            have t1 : ¬ 9223372036854775807 < (nameAt es k).size + (restAt es k).size := by omega
            clear g1 g2
            go_wp2_with (at_builtin; refine wpList_append_own _ rfl _ _ 38 rfl wA.heap.size 9 i0 (.string ⟨#[]⟩) 1 16 Tryd.underlying38 hi hz0 hz1 hz2 rfl (by decide) _ _ _ rfl ((hown.alloc _).alloc _) ⟨wr.heap.size + 1, 0, none⟩ 1 1 [.string (nameAt es k ++ restAt es k)] rfl rfl (one_new2 _ _ _ _) (one_one _ rfl) (by unfold maxLen; omega) (by omega) (by simp; omega) ?_; intro v' w3 hown3 hgrow3 _)
            have hb3 : Below wA.heap.size wA w3 := ((hbl.alloc hs3 _).alloc (by simp; omega) _).grown hgrow3 (by simp; omega) (fun j hj => (hown.lt j hj).1)
            go_roundw
            case rel => exact ⟨k + 1, by omega, by go_num, by rw [catVals_succ]; exact hown3, hb3⟩
            case measure => simp [intOf]; omega
          · obtain rfl : k = es.length := by omega
            have hfin := hwr.trans (hbl.mono (by have := hwr.size; omega))
            have HP := Lib.hid (own_keep HO.out hbl)
            have j1 := joined_le bs HB.out
            have j2 := joined_le es HE.out
            have oz : (⟨#[58]⟩ : ByteArray).size = 1 := rfl
            have t1 : ¬ 9223372036854775807 < (joined bs bs.length).size + (⟨#[58]⟩ : ByteArray).size := by omega
            have t2 : ¬ 9223372036854775807 < (joined bs bs.length ++ ⟨#[58]⟩).size + (joined es es.length).size := by rw [ByteArray.size_append]; omega
            simp only [ByteArray.size_append] at t2
            clear hpe2 y1 hs2 hs3
            have HQ := Lib.hid hown
            clear hown
            go_wp2_with fail
            refine (Join_row _ _ bs _ (by omega) HB.out HP.out).mono ?_
            rintro e x1 ⟨rfl, hx1⟩
            have hs4 := hbl.size
            have hs5 := hx1.size
            go_wp2_with fail
            refine (Join_row _ _ es _ (by omega) HE.out (own_keep HQ.out hx1)).mono ?_
            rintro e x2 ⟨rfl, hx2⟩
            go_wp2
            go_ret
            exact ⟨by unfold fmtV; rw [if_pos HV.out, acc_joined es, acc_joined bs]; rfl, (hfin.trans (hx1.mono (by have := hfin.size; omega))).trans (hx2.mono (by have := hfin.size; omega))⟩
end Go.Proofs.YtngcmjfkeageiaaDoor
