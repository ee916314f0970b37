import Derived.Test.YtflnkahgmbndiaaDoorShA
import Derived.Test.YtflnkahgmbndiaaDoorShelf
import Derived.Test.YtflnkahgmbndiaaDoorShelfT
import Derived.Test.YtflnkahgmbndiaaDoorShB
section
/-
  The names that a map of edges holds, sorted by the edges' places: slices.SortedFunc over maps.Keys with namesAt's closure. Conditions: at most twelve names, each of one byte; at most 1000 edges.
-/
namespace Go.Proofs.YtflnkahgmbndiaaDoor
open Go.RowKit Go.Maps

/-- the place of an edge, 0 if there is none -/
def ixN (E : List Pr) (x s : ByteArray) : Int := match idx E (x, s) with | some i => (i : Int) | none => 0
theorem inner_getD (E : List Pr) (x s : ByteArray) : (inner E x s).getD (.int .i64 0) = .int .i64 (ixN E x s) := by
  unfold inner ixN
  cases idx E (x, s) <;> rfl
theorem ixN_bd (E : List Pr) (x s : ByteArray) : 0 ≤ ixN E x s ∧ ixN E x s ≤ E.length := by
  unfold ixN
  split
  · rename_i i h
    have := (List.getElem?_eq_some_iff.1 (idx_some _ _ _ h).1).1
    omega
  · omega
theorem nodup_at {E : List Pr} (h : E.Nodup) {i : Nat} (hi : i < E.length) : idx E E[i] = some i :=
  idx_hit _ _ _ (List.getElem?_eq_getElem hi) (fun j hj e => by
    have := nodup_idx.1 h j i hj hi
    rw [e, List.getElem?_eq_getElem hi] at this
    exact this rfl)
theorem outL_sorted {E : List Pr} (h : E.Nodup) (x : ByteArray) : (outL E x).Pairwise fun a b => ixN E x a < ixN E x b := by
  unfold outL
  rw [List.pairwise_map]
  have h1 : E.Pairwise fun p q => ∀ i j, idx E p = some i → idx E q = some j → i < j := by
    rw [List.pairwise_iff_getElem]
    intro i j hi hj hij a b ha hb
    rw [nodup_at h hi] at ha
    rw [nodup_at h hj] at hb
    cases ha; cases hb; exact hij
  refine (List.Pairwise.filter (fun e : Pr => decide (e.1 = x)) h1).imp_of_mem fun {p q} hp hq hpq => ?_
  have e1 : p.1 = x := by simpa using (List.mem_filter.1 hp).2
  have e2 : q.1 = x := by simpa using (List.mem_filter.1 hq).2
  obtain ⟨i, hi, ei⟩ := List.getElem_of_mem (List.mem_filter.1 hp).1
  obtain ⟨j, hj, ej⟩ := List.getElem_of_mem (List.mem_filter.1 hq).1
  have h2 := nodup_at h hi
  have h3 := nodup_at h hj
  rw [ei] at h2
  rw [ej] at h3
  have h4 := hpq i j h2 h3
  have p1 : (x, p.2) = p := by rw [← e1]
  have q1 : (x, q.2) = q := by rw [← e2]
  unfold ixN
  rw [p1, q1, h2, h3]
  show (i : Int) < (j : Int)
  omega
theorem outL_nodup {E : List Pr} (h : E.Nodup) (x : ByteArray) : (outL E x).Nodup :=
  (outL_sorted h x).imp fun {a b} hab e => by rw [e] at hab; omega
theorem eq_of_perm_sorted {β : Type} (f : β → Int) : ∀ l1 l2 : List β, l1.Perm l2 → l1.Pairwise (fun a b => f a ≤ f b) → l2.Pairwise (fun a b => f a < f b) → l1 = l2
  | l1, [], hp, _, _ => by simpa using hp
  | [], b :: r2, hp, _, _ => by have := hp.length_eq; simp at this
  | a :: r1, b :: r2, hp, h1, h2 => by
    have ha : a ∈ b :: r2 := hp.mem_iff.1 (List.mem_cons_self ..)
    have hb : b ∈ a :: r1 := hp.mem_iff.2 (List.mem_cons_self ..)
    have hab : a = b := by
      rcases List.mem_cons.1 ha with h | h
      · exact h
      · rcases List.mem_cons.1 hb with h' | h'
        · exact h'.symm
        · have := (List.pairwise_cons.1 h2).1 a h
          have := (List.pairwise_cons.1 h1).1 b h'
          omega
    subst hab
    rw [eq_of_perm_sorted f r1 r2 hp.cons_inv (List.pairwise_cons.1 h1).2 (List.pairwise_cons.1 h2).2]
theorem length_le_of_sub {α : Type} [DecidableEq α] : ∀ (l m : List α), l.Nodup → (∀ x ∈ l, x ∈ m) → l.length ≤ m.length
  | [], _, _, _ => Nat.zero_le _
  | a :: r, m, hd, hs => by
    have ha : a ∈ m := hs a (List.mem_cons_self ..)
    have h1 := length_le_of_sub r (m.erase a) (List.nodup_cons.1 hd).2 (fun x hx => (List.mem_erase_of_ne (fun e : x = a => (List.nodup_cons.1 hd).1 (by rw [← e]; exact hx))).2 (hs x (List.mem_cons_of_mem _ hx)))
    have h2 := List.length_erase_of_mem ha
    have h3 : 0 < m.length := List.length_pos_of_mem ha
    simp only [List.length_cons]
    omega

/-- a text that can be a key -/
abbrev Nm := { s : ByteArray // s.size ≤ 1048576 }
instance : Inhabited Nm := ⟨⟨e0, by decide⟩⟩
def encN (x : Nm) : Value := .string x.1
/-- maps.Keys at a map of places -/
theorem keys_call (mb : Option Nat) (W : World) : Calls Tryd.prog 91 #[.map mb] W fun e w' => e = .returned (.func (.func 102) #[] #[.pointer (some ⟨W.heap.size, 0, none⟩)]) ∧ w' = W.alloc (.cells #[.map mb] 69) :=
  (callsIn_wide (n := 5)).1 (AnyZ.keys_in Tryd.keysS Fence.wide 5 trivial rfl mb W)
/-- slices.Collect at what it handed back -/
theorem collect_call (Bm b n : Nat) (D0 : DataW Value) (W : World) (hBm : Bm < W.heap.size) (hm : W.cell? ⟨Bm, 0, none⟩ = some (.map (some b))) (hown : W.ownsMap Tryd.prog 9 hR b n D0) (h1 : Maps.size D0 ≤ 1000) :
    Calls Tryd.prog 100 #[.func (.func 102) #[] #[.pointer (some ⟨Bm, 0, none⟩)]] W fun e w' => ∃ (v : Value) (ss : List (List UInt8)), e = .returned v ∧ ss.Perm (strKeys D0) ∧ w'.ownsRow W.heap.size 9 1 v ss.length (ss.map encStr) ∧ (v = .slice none 0 0 ↔ ss = []) ∧ Below W.heap.size W w' :=
  (callsIn_wide (n := 5)).1 (AnyZ.collect_in Tryd.collectS Fence.wide 5 trivial trivial rfl (by omega) 102 #[.pointer (some ⟨Bm, 0, none⟩)] trivial (enters_of Tryd.func102 (by kernel_rfl) rfl) _ (Maps.size D0) (by unfold maxLen; omega) (by omega) W
    (AnyZ.keys_gives (ρ := Tryd.keysS_ren) { Tryd.keysS with } Fence.wide _ trivial rfl (by omega) Bm b n D0 W hBm hm hown))
theorem collect_nil (Bm : Nat) (W : World) (hBm : Bm < W.heap.size) (hm : W.cell? ⟨Bm, 0, none⟩ = some (.map none)) :
    Calls Tryd.prog 100 #[.func (.func 102) #[] #[.pointer (some ⟨Bm, 0, none⟩)]] W fun e w' => e = .returned (.slice none 0 0) ∧ Below W.heap.size W w' :=
  ((callsIn_wide (n := 5)).1 (AnyZ.collect_in Tryd.collectS Fence.wide 5 trivial trivial rfl (by omega) 102 #[.pointer (some ⟨Bm, 0, none⟩)] trivial (enters_of Tryd.func102 (by kernel_rfl) rfl) (fun ss => ss = []) 0 (by unfold maxLen; omega) (by omega) W
    (AnyZ.keys_gives_nil (ρ := Tryd.keysS_ren) { Tryd.keysS with } Fence.wide _ trivial rfl Bm W hBm hm))).mono fun e w' ⟨v, ss, he, hs, _, hn, hb⟩ => ⟨by rw [he, hn.2 hs], hb⟩

def nmOf (l : List UInt8) : Nm := if h : l.length ≤ 1048576 then ⟨⟨l.toArray⟩, by simpa [ByteArray.size] using h⟩ else default
theorem nmOf_enc {l : List UInt8} (h : l.length ≤ 1048576) : encN (nmOf l) = encStr l := by unfold nmOf encN; rw [dif_pos h]
/-- what the keys are -/
theorem keys_perm {W : World} {b n : Nat} {D0 : DataW Value} {E : List Pr} {x : ByteArray} (hown : W.ownsMap Tryd.prog 9 hR b n D0) (hD : AtF D0 (inner E x)) (hnd : E.Nodup) : ((outL E x).map (·.data.toList)).Perm (strKeys D0) := by
  obtain ⟨es, hE, hpw, _⟩ := hown.entries keyed
  obtain ⟨es', hE', hk⟩ := hown.keysOf
  obtain rfl : es = es' := by rw [hE] at hE'; simpa using hE'
  subst hE
  refine perm_strKeys hpw (fun p hp => ?_) ?_ (fun a => ?_)
  · obtain ⟨v, hv⟩ := hk p hp
    obtain ⟨s, rfl⟩ := key_string hv
    exact ⟨_, (key_string' hv).2⟩
  · refine List.pairwise_map.2 ((outL_nodup hnd x).imp fun {a b} hab e => hab (ByteArray.ext (Array.toList_inj.1 e)))
  · have h1 := (hD ⟨a.toArray⟩).2
    have h2 : kS ⟨a.toArray⟩ = .string a := by simp [kS]
    rw [h2] at h1
    rw [h1, inner_isSome, ← mem_outL, List.mem_map]
    constructor
    · rintro ⟨y, hy, rfl⟩
      exact hy
    · intro h
      exact ⟨_, h, by simp⟩

theorem size_keys {W : World} {b n : Nat} {D0 : DataW Value} {E : List Pr} {x : ByteArray} (hown : W.ownsMap Tryd.prog 9 hR b n D0) (hD : AtF D0 (inner E x)) (hnd : E.Nodup) : Maps.size D0 = (outL E x).length := by
  have h := (keys_perm hown hD hnd).length_eq
  rw [List.length_map] at h
  rw [h]
  obtain ⟨es, rfl, _⟩ := hown.keysOf
  simp [strKeys, Maps.size]
/-- a row of names that the call has laid, or none -/
def NamesPost (W : World) (l : List ByteArray) (e : Ending) (w' : World) : Prop :=
  ∃ v, e = .returned v ∧ w'.ownsRow W.heap.size 9 1 v l.length (l.map Value.string) ∧ Below W.heap.size W w'
theorem size_le_of {l : List ByteArray} (h1 : ∀ y ∈ l, y.size ≤ 1048576) {ss : List (List UInt8)} (hp : ss.Perm (l.map (·.data.toList))) : ∀ a ∈ ss, a.length ≤ 1048576 := fun a ha => by
  obtain ⟨y, hy, rfl⟩ := List.mem_map.1 (hp.mem_iff.1 ha)
  exact h1 y hy
end Go.Proofs.YtflnkahgmbndiaaDoor
end

section
/-
  nearer and finish: the shortest way to the exit from the end of a way. Conditions: a course of a valid program.
-/
namespace Go.Proofs.YtflnkahgmbndiaaDoor
open Go.RowKit Go.Maps

theorem sorts_in (m : Nat) : AnyZ.SortsIn Tryd.prog Tryd.sortedT_ren Fence.wide m :=
  ⟨fun blk off cap ss W hH hblk hsz => callsIn_wide.2 (AnyM.slices_Sort_string Tryd.sortT blk off cap ss W hH hblk hsz), fun p cap W => callsIn_wide.2 (AnyM.slices_Sort_string_none Tryd.sortT p cap W)⟩
theorem sorted_call (Bm b n : Nat) (D0 : DataW Value) (W : World) (hBm : Bm < W.heap.size) (hm : W.cell? ⟨Bm, 0, none⟩ = some (.map (some b))) (hown : W.ownsMap Tryd.prog 9 hR b n D0) (h1 : Maps.size D0 ≤ 1000) :
    Calls Tryd.prog 90 #[.func (.func 102) #[] #[.pointer (some ⟨Bm, 0, none⟩)]] W fun e w' => ∃ (v : Value) (ss : List (List UInt8)), e = .returned v ∧ ss.Perm (strKeys D0) ∧ w'.ownsRow W.heap.size 9 1 v ss.length ((ss.mergeSort fun x y => decide (x ≤ y)).map encStr) ∧ (v = .slice none 0 0 ↔ ss = []) ∧ Below W.heap.size W w' :=
  (callsIn_wide (n := 6)).1 (AnyZ.sorted_in Tryd.sortedT Fence.wide 6 trivial trivial trivial trivial rfl (by omega) (sorts_in _) (enters_of Tryd.func101 (by kernel_rfl) rfl) 102 #[.pointer (some ⟨Bm, 0, none⟩)] trivial (enters_of Tryd.func102 (by kernel_rfl) rfl) _ (Maps.size D0) (by unfold maxLen; omega) (by omega) W
    (AnyZ.keys_gives (ρ := Tryd.keysS_ren) { Tryd.keysS with } Fence.wide _ trivial rfl (by omega) Bm b n D0 W hBm hm hown))
/-- the names that a block leads to, in the order of bytes -/
structure SortedOut (es : List Pr) (x : ByteArray) (ys : List ByteArray) : Prop where
  mem : ∀ y, y ∈ ys ↔ (x, y) ∈ es
  ord : ys.Pairwise fun a b => blt b a = false
  len : ys.length = (outL es x).length
theorem blt_le {a b : List UInt8} : Op.bytesLess b a = false ↔ a ≤ b := by
  rw [bytesLess_eq]
  simp
theorem sorted_out {es : List Pr} {x : ByteArray} {ss : List (List UInt8)} (hp : ss.Perm ((outL es x).map (·.data.toList))) : SortedOut es x ((ss.mergeSort fun x y => decide (x ≤ y)).map fun l => ⟨l.toArray⟩) where
  mem y := by
    have h1 : ∀ l, l ∈ ss.mergeSort (fun x y => decide (x ≤ y)) ↔ l ∈ (outL es x).map (·.data.toList) := fun l => ((List.mergeSort_perm ss _).mem_iff).trans hp.mem_iff
    rw [← mem_outL, List.mem_map]
    constructor
    · rintro ⟨l, hl, rfl⟩
      obtain ⟨y, hy, rfl⟩ := List.mem_map.1 ((h1 l).1 hl)
      exact hy
    · intro hy
      exact ⟨y.data.toList, (h1 _).2 (List.mem_map.2 ⟨y, hy, rfl⟩), rfl⟩
  ord := by
    rw [List.pairwise_map]
    have h2 := List.pairwise_mergeSort (le := fun x y : List UInt8 => decide (x ≤ y)) (fun a b c h1 h2 => by simp at *; exact List.le_trans h1 h2) (fun a b => by simp; exact List.le_total a b) ss
    refine h2.imp fun {a b} hab => ?_
    unfold blt
    rw [ByteArray.toList_eq, ByteArray.toList_eq]
    exact blt_le.2 (by simpa using hab)
  len := by rw [List.length_map, List.length_mergeSort, hp.length_eq, List.length_map]

set_option maxRecDepth 100000 in
set_option maxHeartbeats 1600000 in
theorem nearer_any (w : World) (o lo li f k : Nat) (vn : Value) (bs es : List Pr) (D : ByteArray → Option Nat) (x : ByteArray) (hx : x.size ≤ 1048576) (hd : D x = some (k + 1)) (hV : Valid bs es) (hC : CourseAt w o lo li vn f bs es D) :
    Calls Tryd.prog 68 #[.agg #[.map (some o), .map (some lo), .map (some li), vn, .map (some f)], .string x] w fun e w' => (∃ y, e = .returned (.string y) ∧ Near es D x y) ∧ Below w.heap.size w w' := by
  obtain ⟨ga, gc, rfl⟩ := own_form hC.names
  have h1 : Below w.heap.size w (w.alloc (.cells #[.map (some o), .map (some lo), .map (some li), .slice ga bs.length gc, .map (some f)] 71)) := (Below.refl _ _).alloc (Nat.le_refl _) _
  have hC1 := hC.keep h1
  have hk1 : (w.alloc (.cells #[.map (some o), .map (some lo), .map (some li), .slice ga bs.length gc, .map (some f)] 71)).heap[w.heap.size]? = some (.cells #[.map (some o), .map (some lo), .map (some li), .slice ga bs.length gc, .map (some f)] 71 (0, 0)) := heap_alloc_new w _
  obtain ⟨fp, F, hL, hfp⟩ := hC1.plan.out
  have lk := hL.map.look Tryd.underlying66 (zeroMap _) (mx hx)
  obtain ⟨y0, hE0, hN0⟩ := exists_nearer hC.least hd
  cases hF : F x with
  | none => exact absurd hE0 (hL.none_ x hF y0)
  | some v =>
    obtain ⟨bi, rfl, hbi, hmi, _⟩ := hL.some_ x v hF
    rw [hF, Option.getD_some] at lk
    have hbw := hfp bi hbi
    have hmA : MapV ((w.alloc (.cells #[.map (some o), .map (some lo), .map (some li), .slice ga bs.length gc, .map (some f)] 71)).alloc (.cells #[.map (some bi)] 69)) bi es.length (inner es x) := hmi.alloc _
    obtain ⟨D0, hown0, hD0⟩ := hmA
    have hsz := size_keys hown0 hD0 hV.e.nd
    have hperm := keys_perm hown0 hD0 hV.e.nd
    have hl14 : (outL es x).length ≤ 14 := Nat.le_trans (outL_length es x) hV.e.hi
    have hso := sorted_call (w.heap.size + 1) bi es.length D0 ((w.alloc (.cells #[.map (some o), .map (some lo), .map (some li), .slice ga bs.length gc, .map (some f)] 71)).alloc (.cells #[.map (some bi)] 69)) (by simp) (by go_simp) hown0 (by omega)
    have HK := Lib.hid (And.intro hC1 (And.intro hk1 (And.intro hperm (And.intro hE0 (And.intro hN0 (And.intro hV (And.intro hC h1)))))))
    clear hC1 hk1 hperm hE0 hN0 hown0 hD0 hmi hF hL hfp hV hC h1 hsz hbi hbw
    go_enter Tryd.func68, Tryd.ntmps68
    go_wp2_with fail
    refine (keys_call (some bi) _).mono ?_
    rintro e w1 ⟨rfl, rfl⟩
    go_wp2_with fail
    refine hso.mono ?_
    rintro e w2 ⟨v, ss, rfl, hss, hown, hnil, hb2⟩
    have hSO := sorted_out (hss.trans HK.out.2.2.1.symm)
    obtain ⟨ys, hys⟩ : ∃ ys : List ByteArray, ys = (ss.mergeSort fun x y => decide (x ≤ y)).map fun l => ⟨l.toArray⟩ := ⟨_, rfl⟩
    rw [← hys] at hSO
    have hown1 : w2.ownsRow (w.heap.size + 2) 9 1 v ys.length (ys.map Value.string) := by
      have e1 : ys.map Value.string = (ss.mergeSort fun x y => decide (x ≤ y)).map encStr := by rw [hys, List.map_map]; rfl
      have e2 : ys.length = ss.length := by rw [hys, List.length_map, List.length_mergeSort]
      rw [e1, e2]
      simpa using hown
    have hyl : ys.length = (outL es x).length := hSO.len
    have hyne : ys.length ≠ 0 := fun e => by
      have := (hSO.mem y0).2 HK.out.2.2.2.1
      rw [List.eq_nil_of_length_eq_zero e] at this; cases this
    obtain ⟨n, hn⟩ : ∃ n, ys.length = n + 1 := ⟨ys.length - 1, by omega⟩
    have hown2 : w2.ownsRow (w.heap.size + 2) 9 1 v (n + 1) (ys.map Value.string) := by rw [← hn]; exact hown1
    obtain ⟨g, cap, hv, _, hgw, _, _, hcells⟩ := own_last hown2
    rw [← hn] at hv
    subst hv
    have hz2 := hb2.size
    simp at hz2
    have hAW : Below (w.alloc (.cells #[.map (some o), .map (some lo), .map (some li), .slice ga bs.length gc, .map (some f)] 71)).heap.size (w.alloc (.cells #[.map (some o), .map (some lo), .map (some li), .slice ga bs.length gc, .map (some f)] 71)) w2 := ((Below.refl _ _).alloc (Nat.le_refl _) _).trans (hb2.mono (by simp))
    have hC2 := HK.out.1.keep hAW
    have hkk := (hAW.block w.heap.size (by simp)).trans HK.out.2.1
    obtain ⟨⟨x0, x1, x2, x3, x4⟩, _⟩ := block5 hkk
    obtain ⟨nf, hmf⟩ := hC2.far
    have lkx := hmf.look Tryd.underlying69 (zeroInt w2) (mx hx)
    rw [hd] at lkx
    have hall : Below w.heap.size w w2 := HK.out.2.2.2.2.2.2.2.trans (hAW.mono (by simp))
    have hVd := HK.out.2.2.2.2.2.1
    have HC := Lib.hid (And.intro hcells (And.intro hSO (And.intro hmf hC2)))
    have hle := hC2.bound x _ hd
    have hl14' := hVd.e.hi
    clear hcells hSO hmf hC2 hown hown1 hown2 hss hnil hb2 hkk hys hso hn hyne
    go_wp2
    go_loopw [15] (fun i wr => ∃ m : Nat, m ≤ ys.length ∧ i = .int .i64 m ∧ wr = w2 ∧ ∀ j y, j < m → ys[j]? = some y → ¬ Nearer D x y) (fun i _ => ys.length - (intOf i).toNat)
    case atStart => exact ⟨0, Nat.zero_le _, rfl, rfl, fun j y hj _ => absurd hj (Nat.not_lt_zero _)⟩
    case round =>
      obtain ⟨m, hm, rfl, rfl, hno⟩ := hrel
      have Hno := Lib.hid hno; clear hno
      by_cases hlt : m < ys.length
      · obtain ⟨y, hy⟩ : ∃ y, ys[m]? = some y := ⟨ys[m], List.getElem?_eq_getElem hlt⟩
        have hcy := HC.out.1 m (.string y) (by rw [List.getElem?_map, hy]; rfl)
        have hEy := (HC.out.2.1.mem y).1 (List.mem_of_getElem? hy)
        have hyn := hVd.e.to _ hEy
        have hys1 := hVd.name_size hyn
        obtain ⟨p, hp, hpe⟩ := List.mem_map.1 hyn
        obtain ⟨jy, hjy⟩ := HC.out.2.2.2.least.reach (show Reach (flip es) (lastN bs) y by have := hVd.rz p hp; rw [hpe] at this; exact this)
        have lky := HC.out.2.2.1.look Tryd.underlying69 (zeroInt wr) (mx (show y.size ≤ 1048576 by rw [hys1]; decide))
        rw [hjy] at lky
        simp only [dV] at lky lkx
        have HY := Lib.hid (And.intro hy (And.intro hEy hjy))
        clear hy hEy hyn hys1 hp hpe hjy
        by_cases hc : (jy : Int) < ((k + 1 : Nat) : Int)
        · go_wp2
          go_ret
          refine ⟨⟨y, rfl, HY.out.2.1, ⟨k + 1, jy, hd, HY.out.2.2, by omega⟩, fun y' hE' hN' => ?_⟩, hall⟩
          obtain ⟨j', hj', e'⟩ := List.getElem_of_mem ((HC.out.2.1.mem y').2 hE')
          rcases Nat.lt_trichotomy j' m with h | h | h
          · exact absurd hN' (Hno.out j' y' h (by rw [List.getElem?_eq_getElem hj', e']))
          · subst h
            have := HY.out.1
            rw [List.getElem?_eq_getElem hj', e'] at this
            cases this
            exact blt_irrefl _
          · have := List.pairwise_iff_getElem.1 HC.out.2.1.ord m j' hlt hj' h
            have h2 := HY.out.1
            rw [List.getElem?_eq_getElem hlt] at h2
            cases h2
            rw [e'] at this
            exact this
        · have hc' : ((k + 1 : Nat) : Int) ≤ (jy : Int) := by omega
          have HN := Lib.hid (show ¬ Nearer D x y from fun ⟨a, b, h1, h2, h3⟩ => by
            rw [hd] at h1; rw [HY.out.2.2] at h2; cases h1; cases h2; omega)
          clear hc
          go_wp2
          go_roundw
          case rel =>
            have hno1 : ∀ j y', j < m + 1 → ys[j]? = some y' → ¬ Nearer D x y' := fun j y' hj hy' => by
              rcases Nat.lt_or_ge j m with h | h
              · exact Hno.out j y' h hy'
              · obtain rfl : j = m := by omega
                rw [HY.out.1] at hy'; cases hy'; exact HN.out
            exact ⟨m + 1, by omega, by go_num, trivial, hno1⟩
          case measure => simp [intOf]; omega
      · exfalso
        obtain ⟨j', hj', e'⟩ := List.getElem_of_mem ((HC.out.2.1.mem y0).2 HK.out.2.2.2.1)
        exact Hno.out j' y0 (by omega) (by rw [List.getElem?_eq_getElem hj', e']) HK.out.2.2.2.2.1
end Go.Proofs.YtflnkahgmbndiaaDoor
end

section
/-
  finish: the shortest way to the exit behind a way. Conditions: a course of a valid program.
-/
namespace Go.Proofs.YtflnkahgmbndiaaDoor
open Go.RowKit Go.Maps

/-- m steps behind a way that ends at x, from which the exit is k steps off -/
structure FinAt (es : List Pr) (D : ByteArray → Option Nat) (way x : ByteArray) (k m : Nat) (t : ByteArray) : Prop where
  le : m ≤ k
  size : t.size = way.size + m
  ex : ∃ l, t = way ++ cat l ∧ Ch es D x l (ch t (way.size + m - 1)) ∧ D (ch t (way.size + m - 1)) = some (k - m)
theorem cat_app (a b : List ByteArray) : cat (a ++ b) = cat a ++ cat b := by
  apply bytes_ext2
  rw [cat_flat, ByteArray.data_append, Array.toList_append, cat_flat, cat_flat]
  simp
theorem ch_app_last {t y : ByteArray} {n : Nat} (ht : t.size = n) (hy : y.size = 1) : ch (t ++ y) n = y := by
  apply bytes_ext2
  have h1 : t.data.toList.length = n := by simpa using ht
  have h2 : y.data.toList.length = 1 := by simpa using hy
  unfold ch
  rw [ByteArray.data_extract, Array.toList_extract, ByteArray.data_append, Array.toList_append]
  simp [← h1]
  exact List.take_of_length_le (by omega)
theorem FinAt.start {es : List Pr} {D : ByteArray → Option Nat} {way x : ByteArray} {k n : Nat} (hw : way.size = n + 1) (hx : ch way n = x) (hd : D x = some k) : FinAt es D way x k 0 way where
  le := Nat.zero_le _
  size := rfl
  ex := ⟨[], by apply bytes_ext2; rw [ByteArray.data_append, Array.toList_append, cat_flat]; simp, by rw [hw]; exact hx.symm, by rw [hw]; show D (ch way n) = _; rw [hx]; simpa using hd⟩
theorem FinAt.next {es : List Pr} {D : ByteArray → Option Nat} {z way x t y : ByteArray} {k m n : Nat} (hw : way.size = n + 1) (hF : Far (flip es) z D) (h : FinAt es D way x k m t) (hm : m < k) (hy : y.size = 1) (hN : Near es D (ch t (n + m)) y) : FinAt es D way x k (m + 1) (t ++ y) where
  le := hm
  size := by rw [ByteArray.size_append, h.size, hy]; omega
  ex := by
    obtain ⟨l, e, hc, hd⟩ := h.ex
    have e1 : way.size + m - 1 = n + m := by omega
    have e2 : way.size + (m + 1) - 1 = way.size + m := by omega
    rw [e1] at hc hd
    rw [e2, ch_app_last h.size hy]
    exact ⟨l ++ [y], by rw [e, cat_app, ByteArray.append_assoc]; congr 2, hc.snoc _ _ _ _ hN, by rw [hN.dist hF (k := k - (m + 1)) (by rw [hd]; congr 1; omega)]⟩
theorem FinAt.done {es : List Pr} {D : ByteArray → Option Nat} {way x t : ByteArray} {k : Nat} (h : FinAt es D way x k k t) : ∃ l, t = way ++ cat l ∧ Gr es D x l := by
  obtain ⟨l, e, hc, hd⟩ := h.ex
  exact ⟨l, e, hc.gr _ _ _ (by rw [hd]; simp)⟩

set_option maxRecDepth 100000 in
set_option maxHeartbeats 1600000 in
theorem finish_any (w : World) (o lo li f k n : Nat) (vn : Value) (bs es : List Pr) (D : ByteArray → Option Nat) (way x : ByteArray) (hw : way.size = n + 1) (hws : way.size ≤ 1000) (hx : ch way n = x) (hd : D x = some k) (hV : Valid bs es) (hC : CourseAt w o lo li vn f bs es D) :
    Calls Tryd.prog 40 #[.agg #[.map (some o), .map (some lo), .map (some li), vn, .map (some f)], .string way] w fun e w' => (∃ l, e = .returned (.string (way ++ cat l)) ∧ Gr es D x l) ∧ Below w.heap.size w w' := by
  obtain ⟨ga, gc, rfl⟩ := own_form hC.names
  have h1 : Below w.heap.size w (w.alloc (.cells #[.map (some o), .map (some lo), .map (some li), .slice ga bs.length gc, .map (some f)] 71)) := (Below.refl _ _).alloc (Nat.le_refl _) _
  have hC1 := hC.keep h1
  have hk1 : (w.alloc (.cells #[.map (some o), .map (some lo), .map (some li), .slice ga bs.length gc, .map (some f)] 71)).heap[w.heap.size]? = some (.cells #[.map (some o), .map (some lo), .map (some li), .slice ga bs.length gc, .map (some f)] 71 (0, 0)) := heap_alloc_new w _
  obtain ⟨nf, hmf⟩ := hC1.far
  have hxs : x.size ≤ 1048576 := by rw [← hx, ch_size (by omega)]; decide
  have hk15 := hC.bound x _ hd
  have hk14 := hV.e.hi
  have hLook : ∀ q, (Instr.lookup 69 (.map (some f)) (.string (ch way n)) false).run Tryd.prog ((w.alloc (.cells #[.map (some o), .map (some lo), .map (some li), .slice ga bs.length gc, .map (some f)] 71)).drewN q) = .ok (.int .i64 (k : Int)) ((w.alloc (.cells #[.map (some o), .map (some lo), .map (some li), .slice ga bs.length gc, .map (some f)] 71)).drewN q) := fun q => by
    have hq : MapV ((w.alloc (.cells #[.map (some o), .map (some lo), .map (some li), .slice ga bs.length gc, .map (some f)] 71)).drewN q) f nf (fun s => dV (D s)) := hmf.same rfl
    have lk := hq.look Tryd.underlying69 (zeroInt _) (mx (show (ch way n).size ≤ 1048576 by rw [hx]; exact hxs))
    rw [hx] at lk ⊢
    rw [hd] at lk
    exact lk
  have HK := Lib.hid (And.intro hC1 (And.intro hk1 (And.intro hC (And.intro hV (And.intro h1 hx)))))
  have Hw := Lib.hid hw
  clear hC1 hk1 hC hV h1 hmf hx
  go_enter Tryd.func40, Tryd.ntmps40
  go_wp2
  go_quiet (exact Calls.quiet_of_same (lastOf_any way n Hw.out (by omega) _))
  go_wp2
  have hwA := below_drewN HK.out.2.2.2.2.1 nq
  have hkA : ((w.alloc (.cells #[.map (some o), .map (some lo), .map (some li), .slice ga bs.length gc, .map (some f)] 71)).drewN nq).heap[w.heap.size]? = some (.cells #[.map (some o), .map (some lo), .map (some li), .slice ga bs.length gc, .map (some f)] 71 (0, 0)) := heap_alloc_new w _
  have HA := Lib.hid (And.intro hwA (And.intro hkA (And.intro HK.out.2.2.1 (And.intro HK.out.2.2.2.1 HK.out.2.2.2.2.2)))); clear hwA hkA HK
  clear hLook
  generalize (w.alloc (.cells #[.map (some o), .map (some lo), .map (some li), .slice ga bs.length gc, .map (some f)] 71)).drewN nq = wA at *
  go_loopw [10, 1] (fun i v wr => ∃ (m : Nat) (t : ByteArray), i = .int .i64 m ∧ v = .string t ∧ Below wA.heap.size wA wr ∧ FinAt es D way x k m t) (fun i _ _ => k - (intOf i).toNat)
  case atStart => exact ⟨0, way, rfl, rfl, Below.refl _ _, FinAt.start Hw.out HA.out.2.2.2.2 hd⟩
  case round =>
    obtain ⟨m, t, rfl, rfl, hbl, hfin⟩ := hrel
    have hzA : w.heap.size < wA.heap.size := (Array.getElem?_eq_some_iff.1 HA.out.2.1).1
    have hkr := (hbl.block w.heap.size hzA).trans HA.out.2.1
    obtain ⟨⟨x0, x1, x2, x3, x4⟩, xa⟩ := block5 hkr
    have hall : Below w.heap.size w wr := HA.out.1.trans (hbl.mono (by omega))
    have hm := hfin.le
    have ht := hfin.size
    have HF := Lib.hid (And.intro hfin (And.intro hbl (And.intro hall hkr))); clear hfin hbl hall hkr
    by_cases hlt : (m : Int) < (k : Int)
    · have w1 : IntKind.i64.wrap ((m : Int) + 1) = (m : Int) + 1 := IntWalk.i64_in _ (by omega)
      obtain ⟨j, hj⟩ : ∃ j, k - m = j + 1 := ⟨k - m - 1, by omega⟩
      have hsz : t.size = n + m + 1 := by rw [ht, Hw.out]; omega
      have hdy : D (ch t (n + m)) = some (j + 1) := by
        obtain ⟨l, _, _, h3⟩ := HF.out.1.ex
        rw [show way.size + m - 1 = n + m by have := Hw.out; omega, hj] at h3
        exact h3
      have hys : (ch t (n + m)).size ≤ 1048576 := by rw [ch_size (by omega)]; decide
      have hts : t.size ≤ 1048576 := by omega
      have n1 : w.heap.size < wr.heap.size := by have := HF.out.2.1.size; omega
      have HS := Lib.hid (And.intro hsz (And.intro hk14 hk15)); have hn9 : n + 1 ≤ 1000 := by omega
      clear ht hw hws
      clear hsz
      go_wp2
      go_region_held3 (fun w' => w'.cell? ⟨w.heap.size, 0, none⟩ = some (.map (some o)) ∧ w'.cell? ⟨w.heap.size, 1, none⟩ = some (.map (some lo)) ∧ w'.cell? ⟨w.heap.size, 2, none⟩ = some (.map (some li)) ∧ w'.cell? ⟨w.heap.size, 3, none⟩ = some (.slice ga bs.length gc) ∧ w'.cell? ⟨w.heap.size, 4, none⟩ = some (.map (some f)) ∧ Below wr.heap.size wr w')
        (first
          | exact ⟨x0, x1, x2, x3, x4, (Below.refl _ _).drew⟩
          | exact ⟨x0, x1, x2, x3, x4, Below.refl _ _⟩
          | (subst_vars; assumption)
          | (have hq := below_new (‹_ ∧ _ ∧ _ ∧ _ ∧ _ ∧ Below wr.heap.size wr _›).2.2.2.2.2 hbN; exact ⟨(hq.cell (p := ⟨w.heap.size, 0, none⟩) n1).trans x0, (hq.cell (p := ⟨w.heap.size, 1, none⟩) n1).trans x1, (hq.cell (p := ⟨w.heap.size, 2, none⟩) n1).trans x2, (hq.cell (p := ⟨w.heap.size, 3, none⟩) n1).trans x3, (hq.cell (p := ⟨w.heap.size, 4, none⟩) n1).trans x4, hq⟩))
        (first
          | (go_at_call 67; refine (lastOf_any t (n + m) HS.out.1 hts _).mono ?_; rintro e wM ⟨rfl, rfl⟩)
          | (go_at_call 68; refine (nearer_any _ o lo li f j _ bs es D (ch t (n + m)) hys hdy HA.out.2.2.2.1 (HA.out.2.2.1.keep (HF.out.2.2.1.trans ((‹_ ∧ _ ∧ _ ∧ _ ∧ _ ∧ Below wr.heap.size wr _›).2.2.2.2.2.mono (by omega))))).mono ?_; rintro e wN ⟨⟨y, rfl, hy⟩, hbN⟩; have hno : ¬ (t.size + y.size > 9223372036854775807) := (by have hy1 : y.size = 1 := HA.out.2.2.2.1.name_size (HA.out.2.2.2.1.e.to _ hy.1); have := HS.out; omega)))
      have hq := (‹_ ∧ _ ∧ _ ∧ _ ∧ _ ∧ Below wr.heap.size wr _›).2.2.2.2.2
      have hy1 : y.size = 1 := HA.out.2.2.2.1.name_size (HA.out.2.2.2.1.e.to _ hy.1)
      have hA2 : Below wA.heap.size wA wN := HF.out.2.1.trans (hq.mono HF.out.2.1.size)
      have hnx := HF.out.1.next Hw.out HA.out.2.2.1.least (by omega) hy1 hy
      have HQ := Lib.hid (And.intro hA2 hnx); clear hA2 hnx hy1 hq
      go_wp2
      go_roundw
      case rel => exact ⟨m + 1, t ++ y, by go_num, rfl, HQ.out.1, HQ.out.2⟩
      case measure => simp [intOf]; omega
    · obtain rfl : m = k := by omega
      go_wp2
      go_ret
      obtain ⟨l, rfl, hg⟩ := HF.out.1.done
      exact ⟨⟨l, rfl, hg⟩, HF.out.2.2.1⟩
end Go.Proofs.YtflnkahgmbndiaaDoor
end

section
/-
  The program's ShortestRun. Conditions: none but what the law's program gives.
-/
namespace Go.Proofs.YtflnkahgmbndiaaDoor
open Go.RowKit Go.Maps

theorem ch_uno {x : ByteArray} (h : x.size = 1) : ch x 0 = x := by
  unfold ch
  rw [show 0 + 1 = x.size by omega]
  exact ByteArray.extract_zero_size
/-- what ShortestRun gives -/
def ShortPost (bs es : List Pr) (e : Ending) : Prop :=
  (Valid bs es ∧ ∃ t, e = .returned (.tuple #[.string t, .bool true]) ∧ Best es (nameAt bs 0) (lastN bs) t) ∨ (¬ Valid bs es ∧ e = .returned (.tuple #[.string ⟨#[]⟩, .bool false]))
set_option maxRecDepth 100000 in
theorem ShortestRun_impl (w : World) (bs es : List Pr) (ab ae : Option Addr) (cb ce : Nat) (hpb : PairsAt w ab bs) (hpe : PairsAt w ae es) (hg : Errs w) :
    Calls Tryd.prog 16 #[.agg #[.slice ab bs.length cb, .slice ae es.length ce]] w fun e w' => ShortPost bs es e ∧ Below w.heap.size w w' := by
  have h1 : Below w.heap.size w (w.alloc (.cells #[.slice ab bs.length cb, .slice ae es.length ce] 33)) := (Below.refl _ _).alloc (Nat.le_refl _) _
  have hpb1 := hpb.below h1
  have hpe1 := hpe.below h1
  have hg1 := hg.keep h1
  have H1 := Lib.hid h1; clear h1
  go_enter Tryd.func16, Tryd.ntmps16
  go_wp2_with fail
  refine (courseOf_any _ bs es _ _ _ _ hpb1 hpe1 hg1).mono ?_
  rintro e w1 ⟨hb1, hcase⟩
  have hall : Below w.heap.size w w1 := H1.out.trans (hb1.mono (by simp))
  have hz := hall.size
  rcases hcase with ⟨hv, o, lo, li, vn, f, D, rfl, hp⟩ | ⟨hv, rfl⟩
  · have hwa : Below w1.heap.size w1 (w1.alloc (.cells #[.map (some o), .map (some lo), .map (some li), vn, .map (some f)] 71)) := (Below.refl _ _).alloc (Nat.le_refl _) _
    obtain ⟨n, hn⟩ : ∃ n, bs.length = n + 1 := ⟨bs.length - 1, by have := hv.b.lo; omega⟩
    have hpA := hp.keep hwa
    have hkA : (w1.alloc (.cells #[.map (some o), .map (some lo), .map (some li), vn, .map (some f)] 71)).heap[w1.heap.size]? = some (.cells #[.map (some o), .map (some lo), .map (some li), vn, .map (some f)] 71 (0, 0)) := heap_alloc_new w1 _
    obtain ⟨⟨x0, x1, x2, x3, x4⟩, xa⟩ := block5 hkA
    obtain ⟨g, cap, rfl, hgw, hcells⟩ := names_cells hpA.names hn
    have q0 := hcells 0 (by omega)
    have N1 : (0 : Int) < (n : Int) + 1 := by omega
    obtain ⟨p0, hp0, he0⟩ := List.mem_map.1 (nameAt_mem (l := bs) (i := 0) (by omega))
    have hs1 : (nameAt bs 0).size = 1 := hv.name_size (List.mem_map.2 ⟨p0, hp0, he0⟩)
    obtain ⟨k, hk⟩ := hpA.least.reach (show Reach (flip es) (lastN bs) (nameAt bs 0) by have := hv.rz p0 hp0; rw [he0] at this; exact this)
    have HH := Lib.hid (And.intro hv (And.intro hpA (And.intro hall (And.intro hs1 hk))))
    have HW := Lib.hid hwa
    clear hv hp hpA hkA hall hs1 hk hwa hcells he0 hp0 hn
    have hwz : w1.heap.size < (w1.alloc (.cells #[.map (some o), .map (some lo), .map (some li), .slice (some ⟨g, 0, none⟩) (n + 1) cap, .map (some f)] 71)).heap.size := by simp
    go_wp2
    generalize (w1.alloc (.cells #[.map (some o), .map (some lo), .map (some li), .slice (some ⟨g, 0, none⟩) (n + 1) cap, .map (some f)] 71)) = wA at *
    go_region_held3 (fun w' => w'.cell? ⟨w1.heap.size, 0, none⟩ = some (.map (some o)) ∧ w'.cell? ⟨w1.heap.size, 1, none⟩ = some (.map (some lo)) ∧ w'.cell? ⟨w1.heap.size, 2, none⟩ = some (.map (some li)) ∧ w'.cell? ⟨w1.heap.size, 3, none⟩ = some (.slice (some ⟨g, 0, none⟩) (n + 1) cap) ∧ w'.cell? ⟨w1.heap.size, 4, none⟩ = some (.map (some f)) ∧ w'.cell? ⟨g, 0, none⟩ = some (.string (nameAt bs 0)) ∧ Below wA.heap.size wA w')
      (first
        | exact ⟨x0, x1, x2, x3, x4, q0, (Below.refl _ _).drew⟩
        | (have hq := below_new (‹_ ∧ _ ∧ _ ∧ _ ∧ _ ∧ _ ∧ Below wA.heap.size wA _›).2.2.2.2.2.2 hbN; exact ⟨(hq.cell (p := ⟨w1.heap.size, 0, none⟩) hwz).trans x0, (hq.cell (p := ⟨w1.heap.size, 1, none⟩) hwz).trans x1, (hq.cell (p := ⟨w1.heap.size, 2, none⟩) hwz).trans x2, (hq.cell (p := ⟨w1.heap.size, 3, none⟩) hwz).trans x3, (hq.cell (p := ⟨w1.heap.size, 4, none⟩) hwz).trans x4, (hq.cell (p := ⟨g, 0, none⟩) hgw).trans q0, hq⟩))
      (first
        | (go_at_call 40; refine (finish_any _ o lo li f k 0 _ bs es D (nameAt bs 0) (nameAt bs 0) HH.out.2.2.2.1 (by rw [HH.out.2.2.2.1]; decide) (ch_uno HH.out.2.2.2.1) HH.out.2.2.2.2 HH.out.1 ?_).mono ?_; (have hcc := HH.out.2.1.keep (‹_ ∧ _ ∧ _ ∧ _ ∧ _ ∧ _ ∧ Below wA.heap.size wA _›).2.2.2.2.2.2; exact hcc); rintro e wN ⟨⟨l, rfl, hgr⟩, hbN⟩))
    have hq := (‹_ ∧ _ ∧ _ ∧ _ ∧ _ ∧ _ ∧ Below wA.heap.size wA _›).2.2.2.2.2.2
    have hfin : Below w.heap.size w wN := HH.out.2.2.1.trans ((HW.out.trans (hq.mono HW.out.size)).mono hz)
    have hbest : Best es (nameAt bs 0) (lastN bs) (nameAt bs 0 ++ cat l) := by
      rw [← cat_cons]
      exact hgr.best HH.out.2.1.least fun e he => HH.out.1.name_size (HH.out.1.e.to _ he)
    go_wp2
    go_ret2
    exact ⟨.inl ⟨HH.out.1, _, rfl, hbest⟩, hfin⟩
  · have HN := Lib.hid hv
    clear hv
    go_wp2
    go_ret2
    exact ⟨.inr ⟨HN.out, rfl⟩, hall.alloc hz _⟩
end Go.Proofs.YtflnkahgmbndiaaDoor
end

section
/-
  ShortestRun, the model's and the program's, as one value. Conditions: at most 1048576 blocks and edges, each text at most as many bytes; the errors' variables hold errors.
-/
namespace Go.Proofs.YtflnkahgmbndiaaDoor
open Go.RowKit Go.Maps

set_option maxRecDepth 100000 in
theorem ShortestRun_spec (w : World) (bs es : List Pr) (ab ae : Option Addr) (cb ce : Nat) (hpb : PairsAt w ab bs) (hpe : PairsAt w ae es) :
    Calls Tryd.prog 17 #[.agg #[.slice ab bs.length cb, .slice ae es.length ce]] w fun e w' => e = .returned (shortV bs es) ∧ Below w.heap.size w w' := by
  have h1 : Below w.heap.size w (w.alloc (.cells #[.slice ab bs.length cb, .slice ae es.length ce] 33)) := (Below.refl _ _).alloc (Nat.le_refl _) _
  have hpb1 := hpb.below h1
  have hpe1 := hpe.below h1
  have H1 := Lib.hid h1; clear h1
  go_enter Tryd.func17, Tryd.ntmps17
  go_wp2_with fail
  refine (ProgValid_spec _ bs es _ _ _ _ hpb1 hpe1).mono ?_
  rintro e w1 ⟨rfl, hb1⟩
  have hall : Below w.heap.size w w1 := H1.out.trans (hb1.mono (by simp))
  have hpb2 := hpb1.below hb1
  have hpe2 := hpe1.below hb1
  have c0 := (hb1.cell (p := ⟨w.heap.size, 0, none⟩) (by simp)).trans (show _ = some (.slice ab bs.length cb) by go_simp)
  have c1 := (hb1.cell (p := ⟨w.heap.size, 1, none⟩) (by simp)).trans (show _ = some (.slice ae es.length ce) by go_simp)
  have hz := hall.size
  have hz1 : w.heap.size < w1.heap.size := by have := hb1.size; simp at this; omega
  cases hv : validB bs es
  · have HN := Lib.hid (shortV_no hv)
    clear hv
    go_wp2
    go_ret2
    exact ⟨by rw [HN.out]; rfl, hall⟩
  · have HN := Lib.hid (show shortV bs es = .tuple #[.string (bestT es (nameAt bs 0) (lastN bs)), .bool true] by unfold shortV; rw [if_pos hv])
    have hV : Valid bs es := by simpa [validB] using hv
    have h0 : 0 < bs.length := by have := hV.b.lo; omega
    have hm := nameAt_mem (l := bs) (i := 0) h0
    obtain ⟨b, off, rfl, hb, g1, g2⟩ := hpb2.cell 0 h0
    simp only [Nat.zero_mul, Nat.add_zero] at g1
    have l1 : (0 : Int) < (bs.length : Int) := by omega
    have HV := Lib.hid (And.intro hV (And.intro hm (And.intro hpb2 hpe2)))
    clear hv hV hm g2 hpb2 hpe2 hpb1 hpe1 hb1
    go_wp2
    go_region_held3 (fun w' => w'.cell? ⟨w.heap.size, 0, none⟩ = some (.slice (some ⟨b, off, none⟩) bs.length cb) ∧ w'.cell? ⟨w.heap.size, 1, none⟩ = some (.slice ae es.length ce) ∧ w'.cell? ⟨b, off, none⟩ = some (.string (nameAt bs 0)) ∧ Below w1.heap.size w1 w')
      (first
        | exact ⟨c0, c1, g1, (Below.refl _ _).drew⟩
        | (have hq := below_new (‹_ ∧ _ ∧ _ ∧ Below w1.heap.size w1 _›).2.2.2 hbN; exact ⟨(hq.cell (p := ⟨w.heap.size, 0, none⟩) hz1).trans c0, (hq.cell (p := ⟨w.heap.size, 1, none⟩) hz1).trans c1, (hq.cell (p := ⟨b, off, none⟩) hb).trans g1, hq⟩))
      (first
        | (go_at_call 41; refine (l2Short_any _ bs es _ _ _ _ (nameAt bs 0) HV.out.1 HV.out.2.1 ?_ ?_).mono ?_; (exact HV.out.2.2.1.below (‹_ ∧ _ ∧ _ ∧ Below w1.heap.size w1 _›).2.2.2); (exact HV.out.2.2.2.below (‹_ ∧ _ ∧ _ ∧ Below w1.heap.size w1 _›).2.2.2); rintro e wN ⟨rfl, hbN⟩))
    have hfin : Below w.heap.size w wN := hall.trans ((‹_ ∧ _ ∧ _ ∧ Below w1.heap.size w1 wN›).2.2.2.mono hz)
    go_wp2
    go_ret2
    exact ⟨by rw [HN.out]; rfl, hfin⟩
theorem ShortestRun_impl2 (w : World) (bs es : List Pr) (ab ae : Option Addr) (cb ce : Nat) (hpb : PairsAt w ab bs) (hpe : PairsAt w ae es) (hg : Errs w) :
    Calls Tryd.prog 16 #[.agg #[.slice ab bs.length cb, .slice ae es.length ce]] w fun e w' => e = .returned (shortV bs es) ∧ Below w.heap.size w w' :=
  (ShortestRun_impl w bs es ab ae cb ce hpb hpe hg).mono fun e w' ⟨h, hb⟩ => by
    refine ⟨?_, hb⟩
    rcases h with ⟨hv, t, rfl, hbest⟩ | ⟨hv, rfl⟩
    · rw [shortV_yes (show validB bs es = true by simpa [validB] using hv) hbest]
    · rw [shortV_no (show validB bs es = false by simpa [validB] using hv)]; rfl
end Go.Proofs.YtflnkahgmbndiaaDoor
end
