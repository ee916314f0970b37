/-
  nearer and finish: the shortest way to the exit from the end of a way. Conditions: a course of a valid program.
-/
import Derived.Test.YtfmhcjhcmoniaaaDoorShort
import Derived.Test.YtfmhcjhcmoniaaaDoorSortN
import Derived.Test.YtfmhcjhcmoniaaaDoorShelfT
namespace Go.Proofs.YtfmhcjhcmoniaaaDoor
open Go.RowKit Go.Maps

theorem sorts_in (m : Nat) : AnyZ.SortsIn Tryd.prog Tryd.sortedT_ren Fence.wide m :=
  ⟨fun blk off cap ss W hH hblk hsz => callsIn_wide.2 (AnyM.slices_Sort_string Tryd.sortT blk off cap ss W hH hblk hsz), fun p cap W => callsIn_wide.2 (AnyM.slices_Sort_string_none Tryd.sortT p cap W)⟩
theorem sorted_call (Bm b n : Nat) (D0 : DataW Value) (W : World) (hBm : Bm < W.heap.size) (hm : W.cell? ⟨Bm, 0, none⟩ = some (.map (some b))) (hown : W.ownsMap Tryd.prog 9 hR b n D0) (h1 : Maps.size D0 ≤ 1000) :
    Calls Tryd.prog 64 #[.func (.func 67) #[] #[.pointer (some ⟨Bm, 0, none⟩)]] W fun e w' => ∃ (v : Value) (ss : List (List UInt8)), e = .returned v ∧ ss.Perm (strKeys D0) ∧ w'.ownsRow W.heap.size 9 1 v ss.length ((ss.mergeSort fun x y => decide (x ≤ y)).map encStr) ∧ (v = .slice none 0 0 ↔ ss = []) ∧ Below W.heap.size W w' :=
  (callsIn_wide (n := 6)).1 (AnyZ.sorted_in Tryd.sortedT Fence.wide 6 trivial trivial trivial trivial rfl (by omega) (sorts_in _) (enters_of Tryd.func76 (by kernel_rfl) rfl) 67 #[.pointer (some ⟨Bm, 0, none⟩)] trivial (enters_of Tryd.func67 (by kernel_rfl) rfl) _ (Maps.size D0) (by unfold maxLen; omega) (by omega) W
    (AnyZ.keys_gives (ρ := Tryd.keysS_ren) { Tryd.keysS with } Fence.wide _ trivial rfl (by omega) Bm b n D0 W hBm hm hown))
/-- the names that a block leads to, in the order of bytes -/
structure SortedOut (es : List Pr) (x : ByteArray) (ys : List ByteArray) : Prop where
  mem : ∀ y, y ∈ ys ↔ (x, y) ∈ es
  ord : ys.Pairwise fun a b => blt b a = false
  len : ys.length = (outL es x).length
theorem blt_le {a b : List UInt8} : Op.bytesLess b a = false ↔ a ≤ b := by
  rw [bytesLess_eq]
  simp
theorem sorted_out {es : List Pr} {x : ByteArray} {ss : List (List UInt8)} (hp : ss.Perm ((outL es x).map (·.data.toList))) : SortedOut es x ((ss.mergeSort fun x y => decide (x ≤ y)).map fun l => ⟨l.toArray⟩) where
  mem y := by
    have h1 : ∀ l, l ∈ ss.mergeSort (fun x y => decide (x ≤ y)) ↔ l ∈ (outL es x).map (·.data.toList) := fun l => ((List.mergeSort_perm ss _).mem_iff).trans hp.mem_iff
    rw [← mem_outL, List.mem_map]
    constructor
    · rintro ⟨l, hl, rfl⟩
      obtain ⟨y, hy, rfl⟩ := List.mem_map.1 ((h1 l).1 hl)
      exact hy
    · intro hy
      exact ⟨y.data.toList, (h1 _).2 (List.mem_map.2 ⟨y, hy, rfl⟩), rfl⟩
  ord := by
    rw [List.pairwise_map]
    have h2 := List.pairwise_mergeSort (le := fun x y : List UInt8 => decide (x ≤ y)) (fun a b c h1 h2 => by simp at *; exact List.le_trans h1 h2) (fun a b => by simp; exact List.le_total a b) ss
    refine h2.imp fun {a b} hab => ?_
    unfold blt
    rw [ByteArray.toList_eq, ByteArray.toList_eq]
    exact blt_le.2 (by simpa using hab)
  len := by rw [List.length_map, List.length_mergeSort, hp.length_eq, List.length_map]

set_option maxRecDepth 100000 in
set_option maxHeartbeats 1600000 in
theorem nearer_any (w : World) (o lo li f k : Nat) (vn : Value) (bs es : List Pr) (D : ByteArray → Option Nat) (x : ByteArray) (hx : x.size ≤ 1048576) (hd : D x = some (k + 1)) (hV : Valid bs es) (hC : CourseAt w o lo li vn f bs es D) :
    Calls Tryd.prog 48 #[.agg #[.map (some o), .map (some lo), .map (some li), vn, .map (some f)], .string x] w fun e w' => (∃ y, e = .returned (.string y) ∧ Near es D x y) ∧ Below w.heap.size w w' := by
  obtain ⟨ga, gc, rfl⟩ := own_form hC.names
  have h1 : Below w.heap.size w (w.alloc (.cells #[.map (some o), .map (some lo), .map (some li), .slice ga bs.length gc, .map (some f)] 62)) := (Below.refl _ _).alloc (Nat.le_refl _) _
  have hC1 := hC.keep h1
  have hk1 : (w.alloc (.cells #[.map (some o), .map (some lo), .map (some li), .slice ga bs.length gc, .map (some f)] 62)).heap[w.heap.size]? = some (.cells #[.map (some o), .map (some lo), .map (some li), .slice ga bs.length gc, .map (some f)] 62 (0, 0)) := heap_alloc_new w _
  obtain ⟨fp, F, hL, hfp⟩ := hC1.plan.out
  have lk := hL.map.look Tryd.underlying56 (zeroMap _) (mx hx)
  obtain ⟨y0, hE0, hN0⟩ := exists_nearer hC.least hd
  cases hF : F x with
  | none => exact absurd hE0 (hL.none_ x hF y0)
  | some v =>
    obtain ⟨bi, rfl, hbi, hmi, _⟩ := hL.some_ x v hF
    rw [hF, Option.getD_some] at lk
    have hbw := hfp bi hbi
    have hmA : MapV ((w.alloc (.cells #[.map (some o), .map (some lo), .map (some li), .slice ga bs.length gc, .map (some f)] 62)).alloc (.cells #[.map (some bi)] 60)) bi es.length (inner es x) := hmi.alloc _
    obtain ⟨D0, hown0, hD0⟩ := hmA
    have hsz := size_keys hown0 hD0 hV.e.nd
    have hperm := keys_perm hown0 hD0 hV.e.nd
    have hl14 : (outL es x).length ≤ 14 := Nat.le_trans (outL_length es x) hV.e.hi
    have hso := sorted_call (w.heap.size + 1) bi es.length D0 ((w.alloc (.cells #[.map (some o), .map (some lo), .map (some li), .slice ga bs.length gc, .map (some f)] 62)).alloc (.cells #[.map (some bi)] 60)) (by simp) (by go_simp) hown0 (by omega)
    have HK := Lib.hid (And.intro hC1 (And.intro hk1 (And.intro hperm (And.intro hE0 (And.intro hN0 (And.intro hV (And.intro hC h1)))))))
    clear hC1 hk1 hperm hE0 hN0 hown0 hD0 hmi hF hL hfp hV hC h1 hsz hbi hbw
    go_enter Tryd.func48, Tryd.ntmps48
    go_wp2_with fail
    refine (keys_call (some bi) _).mono ?_
    rintro e w1 ⟨rfl, rfl⟩
    go_wp2_with fail
    refine hso.mono ?_
    rintro e w2 ⟨v, ss, rfl, hss, hown, hnil, hb2⟩
    have hSO := sorted_out (hss.trans HK.out.2.2.1.symm)
    obtain ⟨ys, hys⟩ : ∃ ys : List ByteArray, ys = (ss.mergeSort fun x y => decide (x ≤ y)).map fun l => ⟨l.toArray⟩ := ⟨_, rfl⟩
    rw [← hys] at hSO
    have hown1 : w2.ownsRow (w.heap.size + 2) 9 1 v ys.length (ys.map Value.string) := by
      have e1 : ys.map Value.string = (ss.mergeSort fun x y => decide (x ≤ y)).map encStr := by rw [hys, List.map_map]; rfl
      have e2 : ys.length = ss.length := by rw [hys, List.length_map, List.length_mergeSort]
      rw [e1, e2]
      simpa using hown
    have hyl : ys.length = (outL es x).length := hSO.len
    have hyne : ys.length ≠ 0 := fun e => by
      have := (hSO.mem y0).2 HK.out.2.2.2.1
      rw [List.eq_nil_of_length_eq_zero e] at this; cases this
    obtain ⟨n, hn⟩ : ∃ n, ys.length = n + 1 := ⟨ys.length - 1, by omega⟩
    have hown2 : w2.ownsRow (w.heap.size + 2) 9 1 v (n + 1) (ys.map Value.string) := by rw [← hn]; exact hown1
    obtain ⟨g, cap, hv, _, hgw, _, _, hcells⟩ := own_last hown2
    rw [← hn] at hv
    subst hv
    have hz2 := hb2.size
    simp at hz2
    have hAW : Below (w.alloc (.cells #[.map (some o), .map (some lo), .map (some li), .slice ga bs.length gc, .map (some f)] 62)).heap.size (w.alloc (.cells #[.map (some o), .map (some lo), .map (some li), .slice ga bs.length gc, .map (some f)] 62)) w2 := ((Below.refl _ _).alloc (Nat.le_refl _) _).trans (hb2.mono (by simp))
    have hC2 := HK.out.1.keep hAW
    have hkk := (hAW.block w.heap.size (by simp)).trans HK.out.2.1
    obtain ⟨⟨x0, x1, x2, x3, x4⟩, _⟩ := block5 hkk
    obtain ⟨nf, hmf⟩ := hC2.far
    have lkx := hmf.look Tryd.underlying60 (zeroInt w2) (mx hx)
    rw [hd] at lkx
    have hall : Below w.heap.size w w2 := HK.out.2.2.2.2.2.2.2.trans (hAW.mono (by simp))
    have hVd := HK.out.2.2.2.2.2.1
    have HC := Lib.hid (And.intro hcells (And.intro hSO (And.intro hmf hC2)))
    have hle := hC2.bound x _ hd
    have hl14' := hVd.e.hi
    clear hcells hSO hmf hC2 hown hown1 hown2 hss hnil hb2 hkk hys hso hn hyne
    go_wp2
    go_loopw [15] (fun i wr => ∃ m : Nat, m ≤ ys.length ∧ i = .int .i64 m ∧ wr = w2 ∧ ∀ j y, j < m → ys[j]? = some y → ¬ Nearer D x y) (fun i _ => ys.length - (intOf i).toNat)
    case atStart => exact ⟨0, Nat.zero_le _, rfl, rfl, fun j y hj _ => absurd hj (Nat.not_lt_zero _)⟩
    case round =>
      obtain ⟨m, hm, rfl, rfl, hno⟩ := hrel
      have Hno := Lib.hid hno; clear hno
      by_cases hlt : m < ys.length
      · obtain ⟨y, hy⟩ : ∃ y, ys[m]? = some y := ⟨ys[m], List.getElem?_eq_getElem hlt⟩
        have hcy := HC.out.1 m (.string y) (by rw [List.getElem?_map, hy]; rfl)
        have hEy := (HC.out.2.1.mem y).1 (List.mem_of_getElem? hy)
        have hyn := hVd.e.to _ hEy
        have hys1 := hVd.name_size hyn
        obtain ⟨p, hp, hpe⟩ := List.mem_map.1 hyn
        obtain ⟨jy, hjy⟩ := HC.out.2.2.2.least.reach (show Reach (flip es) (lastN bs) y by have := hVd.rz p hp; rw [hpe] at this; exact this)
        have lky := HC.out.2.2.1.look Tryd.underlying60 (zeroInt wr) (mx (show y.size ≤ 1048576 by rw [hys1]; decide))
        rw [hjy] at lky
        simp only [dV] at lky lkx
        have HY := Lib.hid (And.intro hy (And.intro hEy hjy))
        clear hy hEy hyn hys1 hp hpe hjy
        by_cases hc : (jy : Int) < ((k + 1 : Nat) : Int)
        · go_wp2
          go_ret
          refine ⟨⟨y, rfl, HY.out.2.1, ⟨k + 1, jy, hd, HY.out.2.2, by omega⟩, fun y' hE' hN' => ?_⟩, hall⟩
          obtain ⟨j', hj', e'⟩ := List.getElem_of_mem ((HC.out.2.1.mem y').2 hE')
          rcases Nat.lt_trichotomy j' m with h | h | h
          · exact absurd hN' (Hno.out j' y' h (by rw [List.getElem?_eq_getElem hj', e']))
          · subst h
            have := HY.out.1
            rw [List.getElem?_eq_getElem hj', e'] at this
            cases this
            exact blt_irrefl _
          · have := List.pairwise_iff_getElem.1 HC.out.2.1.ord m j' hlt hj' h
            have h2 := HY.out.1
            rw [List.getElem?_eq_getElem hlt] at h2
            cases h2
            rw [e'] at this
            exact this
        · have hc' : ((k + 1 : Nat) : Int) ≤ (jy : Int) := by omega
          have HN := Lib.hid (show ¬ Nearer D x y from fun ⟨a, b, h1, h2, h3⟩ => by
            rw [hd] at h1; rw [HY.out.2.2] at h2; cases h1; cases h2; omega)
          clear hc
          go_wp2
          go_roundw
          case rel =>
            have hno1 : ∀ j y', j < m + 1 → ys[j]? = some y' → ¬ Nearer D x y' := fun j y' hj hy' => by
              rcases Nat.lt_or_ge j m with h | h
              · exact Hno.out j y' h hy'
              · obtain rfl : j = m := by omega
                rw [HY.out.1] at hy'; cases hy'; exact HN.out
            exact ⟨m + 1, by omega, by go_num, trivial, hno1⟩
          case measure => simp [intOf]; omega
      · exfalso
        obtain ⟨j', hj', e'⟩ := List.getElem_of_mem ((HC.out.2.1.mem y0).2 HK.out.2.2.2.1)
        exact Hno.out j' y0 (by omega) (by rw [List.getElem?_eq_getElem hj', e']) HK.out.2.2.2.2.1
end Go.Proofs.YtfmhcjhcmoniaaaDoor
