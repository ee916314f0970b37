/-
  FactsOf of the program. Conditions: at most 1048576 blocks and edges, each text at most as many bytes; the errors' variables hold errors.
-/
import Derived.Test.YtoppcppinjmjeaaDoorFactI
import Derived.Test.YtoppcppinjmjeaaDoorSortN
namespace Go.Proofs.YtoppcppinjmjeaaDoor
open Go.RowKit Go.Maps

theorem join_snoc2 (xs : List (List UInt8)) (h : xs ≠ []) (y sep : List UInt8) : Lib.join (xs ++ [y]) sep = Lib.join xs sep ++ sep ++ y := by
  cases xs with
  | nil => exact absurd rfl h
  | cons x r =>
    rw [List.cons_append, Lib.join_cons, Lib.join_cons]
    simp [Lib.joinTail, List.append_assoc]
/-- what is told of the first blocks, as a list -/
def partL (bs : List Pr) (t : ByteArray) (k : Nat) : List ByteArray := (List.range k).map (partT bs t)
theorem partL_succ (bs : List Pr) (t : ByteArray) (k : Nat) : partL bs t (k + 1) = partL bs t k ++ [partT bs t k] := by simp [partL, List.range_succ]
theorem partL_length (bs : List Pr) (t : ByteArray) (k : Nat) : (partL bs t k).length = k := by simp [partL]
theorem join_acc (bs : List Pr) (t : ByteArray) : ∀ k, (⟨(Lib.join ((partL bs t k).map (·.data.toList)) (⟨#[32]⟩ : ByteArray).data.toList).toArray⟩ : ByteArray) = accF bs t k
  | 0 => rfl
  | k + 1 => by
    have ih := congrArg (fun z : ByteArray => z.data.toList) (join_acc bs t k)
    simp only at ih
    apply bytes_ext2
    by_cases hk : 0 < k
    · rw [accF_next hk, partL_succ, List.map_append, List.map_cons, List.map_nil, join_snoc2 _ (by intro h; have := congrArg List.length h; simp [partL_length] at this; omega)]
      simp only [ByteArray.data_append, Array.toList_append, ← ih]
    · obtain rfl : k = 0 := by omega
      rw [accF_first hk]
      simp [partL, accF, Lib.join_one, ByteArray.data_append, e0]
theorem Join_parts (w : World) (v : Value) (bs es : List Pr) (t : ByteArray) (base : Nat) (hV : Valid bs es) (ho : w.ownsRow base 9 1 v bs.length ((partL bs t bs.length).map Value.string)) :
    Calls Tryd.prog 62 #[v, .string ⟨#[32]⟩] w fun e w' => e = .returned (.string (accF bs t bs.length)) ∧ Below w.heap.size w w' := by
  have h2 := hV.b.lo
  have h9 := hV.b.hi
  obtain ⟨h1, ⟨rfl, h0⟩ | ⟨g, cap, cur, rfl, _, hg, hc, hm, hcs, ht⟩⟩ := ho
  · omega
  · have hlen : (partL bs t bs.length).length = bs.length := partL_length _ _ _
    have hj : (Lib.join ((partL bs t bs.length).map (·.data.toList)) (⟨#[32]⟩ : ByteArray).data.toList).length ≤ 100 := by
      have := congrArg ByteArray.size (join_acc bs t bs.length)
      have h3 := accF_size hV t bs.length (Nat.le_refl _)
      have h4 : (⟨(Lib.join ((partL bs t bs.length).map (·.data.toList)) (⟨#[32]⟩ : ByteArray).data.toList).toArray⟩ : ByteArray).size = (Lib.join ((partL bs t bs.length).map (·.data.toList)) (⟨#[32]⟩ : ByteArray).data.toList).length := by simp [ByteArray.size]
      omega
    have := Tryd.strings_Join g 0 cap (partL bs t bs.length) ⟨#[32]⟩ w (fun j x hx => ?_) (Array.getElem?_eq_some_iff.1 hg).1 (by omega) (by omega) (by omega)
    · rw [join_acc, hlen] at this
      exact this
    · have hjl : j < bs.length := by have := (List.getElem?_eq_some_iff.1 hx).1; omega
      have hv : (cur.toList.take (bs.length * 1))[j]? = some (.string x) := by rw [ht]; simp [hx]
      rw [List.getElem?_take, if_pos (by omega)] at hv
      simp only [Nat.zero_add]
      simp [World.cell?, hg]
      simpa using hv

set_option maxRecDepth 100000 in
set_option maxHeartbeats 3200000 in
theorem FactsOf_impl (w : World) (bs es : List Pr) (ab ae : Option Addr) (cb ce : Nat) (t : ByteArray) (hpb : PairsAt w ab bs) (hpe : PairsAt w ae es) (hg : Errs w) :
    Calls Tryd.prog 26 #[.agg #[.slice ab bs.length cb, .slice ae es.length ce], .string t] w fun e w' => e = .returned (factsV bs es t) ∧ Below w.heap.size w w' := by
  have h1 : Below w.heap.size w (w.alloc (.cells #[.slice ab bs.length cb, .slice ae es.length ce] 31)) := (Below.refl _ _).alloc (Nat.le_refl _) _
  have hpb1 := hpb.below h1
  have hpe1 := hpe.below h1
  have hg1 := hg.keep h1
  have H1 := Lib.hid h1; clear h1
  obtain ⟨i0, hi, hz0, hz1, hz2⟩ := info_parts Tryd.infoStr
  go_enter Tryd.func26, Tryd.ntmps26
  go_wp2_with fail
  refine (termBlocksOf_any _ bs es _ _ _ _ t hpb1 hpe1 hg1).mono ?_
  rintro e w1 ⟨hb1, hcase⟩
  have hall : Below w.heap.size w w1 := H1.out.trans (hb1.mono (by simp))
  have hz := hall.size
  rcases hcase with ⟨hv, ht, v, rfl, hown⟩ | ⟨hno, rfl⟩
  · have HN := Lib.hid (factsV_yes hv ht)
    have HV := Lib.hid (show Valid bs es by simpa [validB] using hv)
    have hl9 := HV.out.b.hi
    obtain ⟨n, hn⟩ : ∃ n, bs.length = n + 1 := ⟨bs.length - 1, by have := HV.out.b.lo; omega⟩
    have hown2 : w1.ownsRow (w.alloc (.cells #[.slice ab bs.length cb, .slice ae es.length ce] 31)).heap.size 59 4 v (n + 1) (blkRow bs t bs.length) := by rw [← hn]; exact hown
    obtain ⟨g, cap, hvv, _, hgw, _, _, hcells⟩ := own_lastS hown2
    rw [← hn] at hvv
    subst hvv
    have HC := Lib.hid hcells
    clear hown hown2 hn hcells hv ht hpb1 hpe1 hg1 hb1
    go_wp2
    go_loopw [21, 8] (fun i v wr => ∃ k : Nat, k ≤ bs.length ∧ i = .int .i64 k ∧ wr.ownsRow w1.heap.size 9 1 v k ((partL bs t k).map Value.string) ∧ Below w1.heap.size w1 wr) (fun i _ _ => bs.length - (intOf i).toNat)
    case atStart => exact ⟨0, Nat.zero_le _, rfl, World.ownsRow_nil _ _ _ _, Below.refl _ _⟩
    case round =>
      obtain ⟨k, hk, rfl, hown, hbl⟩ := hrel
      have hs2 := hbl.size
      by_cases hlt : k < bs.length
      · have x0 := (hbl.cell (p := ⟨g, k * 4 + 0, none⟩) hgw).trans (HC.out (k * 4 + 0) _ (blkRow_at bs t bs.length k 0 hlt (by decide)))
        have x1 := (hbl.cell (p := ⟨g, k * 4 + 1, none⟩) hgw).trans (HC.out (k * 4 + 1) _ (blkRow_at bs t bs.length k 1 hlt (by decide)))
        have x2 := (hbl.cell (p := ⟨g, k * 4 + 2, none⟩) hgw).trans (HC.out (k * 4 + 2) _ (blkRow_at bs t bs.length k 2 hlt (by decide)))
        have x3 := (hbl.cell (p := ⟨g, k * 4 + 3, none⟩) hgw).trans (HC.out (k * 4 + 3) _ (blkRow_at bs t bs.length k 3 hlt (by decide)))
        simp only [Nat.add_zero] at x0
        have hs1 := HV.out.name_size (nameAt_mem hlt)
        have hs6 := (HV.out.b.op _ (pair_mem hlt)).1
        have hfn := fsOf_n (restAt bs k) t
        simp only at hs6
        have HX := Lib.hid (And.intro (show (nameAt bs k).size ≤ 1 by omega) (show (fsOf (restAt bs k) t).n ≤ 6 by omega))
        have HP := Lib.hid (partL_succ bs t k)
        have HO := Lib.hid (And.intro hown hbl)
        clear hs1 hs6 hfn hbl
        go_wp2_with fail
        refine (text_any (fsOf (restAt bs k) t) (nameAt bs k) (byteAt t 0 : Int) HX.out.1 HX.out.2 _).mono ?_
        rintro e w3 ⟨rfl, hb3⟩
        have hbw3 : Below wr.heap.size wr w3 := ((Below.refl _ _).alloc (Nat.le_refl _) _).trans (hb3.mono (by simp))
        have hz3 : w1.heap.size ≤ w3.heap.size := Nat.le_trans hs2 hbw3.size
        have hown3 := ownsRow_below HO.out.1 hbw3
        have hb13 := HO.out.2.trans (hbw3.mono hs2)
        have HB := Lib.hid (And.intro hown3 hb13)
        clear hown hb3 hbw3 hown3 hb13
        go_wp2_with (at_builtin; refine wpList_append_own _ rfl _ _ 73 rfl w1.heap.size 9 i0 (.string ⟨#[]⟩) 1 16 Tryd.underlying73 hi hz0 hz1 hz2 rfl (by decide) _ _ _ rfl (HB.out.1.alloc _) ⟨w3.heap.size, 0, none⟩ 1 1 [.string (nameAt bs k ++ dg (fsOf (restAt bs k) t).n ++ mkT (fsOf (restAt bs k) t))] rfl rfl (cell_one_new _ _ _) (one_one _ rfl) (by unfold maxLen; omega) (by omega) (by simp; omega) ?_; intro v' w4 hown4 hgrow4 _)
        have hb4 : Below w1.heap.size w1 w4 := (HB.out.2.alloc hz3 _).grown hgrow4 (by simp; omega) (fun j hj => (HB.out.1.lt j hj).1)
        go_roundw
        case rel => exact ⟨k + 1, by omega, by go_num, by rw [HP.out, List.map_append]; exact hown4, hb4⟩
        case measure => simp [intOf]; omega
      · obtain rfl : k = bs.length := by omega
        have HO := Lib.hid (And.intro hown hbl)
        clear hown hbl
        go_wp2_with fail
        refine (Join_parts _ _ bs es t _ HV.out HO.out.1).mono ?_
        rintro e w3 ⟨rfl, hb3⟩
        have hfin := hall.trans ((HO.out.2.trans (hb3.mono hs2)).mono hz)
        go_wp2
        go_ret2
        exact ⟨by rw [HN.out]; rfl, hfin⟩
  · have HN := Lib.hid (show factsV bs es t = .tuple #[.string e0, .bool false] by
      rcases hno with h | h
      · exact factsV_no1 h
      · exact factsV_no2 h)
    clear hno
    go_wp2
    go_ret2
    exact ⟨by rw [HN.out]; rfl, hall⟩
end Go.Proofs.YtoppcppinjmjeaaDoor
