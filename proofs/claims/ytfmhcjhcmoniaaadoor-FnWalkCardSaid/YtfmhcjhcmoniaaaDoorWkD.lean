import Derived.Test.YtfmhcjhcmoniaaaDoorIrA
import Derived.Test.YtfmhcjhcmoniaaaDoorShelf
import Derived.Test.YtfmhcjhcmoniaaaDoorShelfT
import Derived.Test.YtfmhcjhcmoniaaaDoorWkC
section
/-
  The names that a map of edges holds, sorted by the edges' places: slices.SortedFunc over maps.Keys with namesAt's closure. Conditions: at most twelve names, each of one byte; at most 1000 edges.
-/
namespace Go.Proofs.YtfmhcjhcmoniaaaDoor
open Go.RowKit Go.Maps

/-- the place of an edge, 0 if there is none -/
def ixN (E : List Pr) (x s : ByteArray) : Int := match idx E (x, s) with | some i => (i : Int) | none => 0
theorem inner_getD (E : List Pr) (x s : ByteArray) : (inner E x s).getD (.int .i64 0) = .int .i64 (ixN E x s) := by
  unfold inner ixN
  cases idx E (x, s) <;> rfl
theorem ixN_bd (E : List Pr) (x s : ByteArray) : 0 ≤ ixN E x s ∧ ixN E x s ≤ E.length := by
  unfold ixN
  split
  · rename_i i h
    have := (List.getElem?_eq_some_iff.1 (idx_some _ _ _ h).1).1
    omega
  · omega
theorem nodup_at {E : List Pr} (h : E.Nodup) {i : Nat} (hi : i < E.length) : idx E E[i] = some i :=
  idx_hit _ _ _ (List.getElem?_eq_getElem hi) (fun j hj e => by
    have := nodup_idx.1 h j i hj hi
    rw [e, List.getElem?_eq_getElem hi] at this
    exact this rfl)
theorem outL_sorted {E : List Pr} (h : E.Nodup) (x : ByteArray) : (outL E x).Pairwise fun a b => ixN E x a < ixN E x b := by
  unfold outL
  rw [List.pairwise_map]
  have h1 : E.Pairwise fun p q => ∀ i j, idx E p = some i → idx E q = some j → i < j := by
    rw [List.pairwise_iff_getElem]
    intro i j hi hj hij a b ha hb
    rw [nodup_at h hi] at ha
    rw [nodup_at h hj] at hb
    cases ha; cases hb; exact hij
  refine (List.Pairwise.filter (fun e : Pr => decide (e.1 = x)) h1).imp_of_mem fun {p q} hp hq hpq => ?_
  have e1 : p.1 = x := by simpa using (List.mem_filter.1 hp).2
  have e2 : q.1 = x := by simpa using (List.mem_filter.1 hq).2
  obtain ⟨i, hi, ei⟩ := List.getElem_of_mem (List.mem_filter.1 hp).1
  obtain ⟨j, hj, ej⟩ := List.getElem_of_mem (List.mem_filter.1 hq).1
  have h2 := nodup_at h hi
  have h3 := nodup_at h hj
  rw [ei] at h2
  rw [ej] at h3
  have h4 := hpq i j h2 h3
  have p1 : (x, p.2) = p := by rw [← e1]
  have q1 : (x, q.2) = q := by rw [← e2]
  unfold ixN
  rw [p1, q1, h2, h3]
  show (i : Int) < (j : Int)
  omega
theorem outL_nodup {E : List Pr} (h : E.Nodup) (x : ByteArray) : (outL E x).Nodup :=
  (outL_sorted h x).imp fun {a b} hab e => by rw [e] at hab; omega
theorem eq_of_perm_sorted {β : Type} (f : β → Int) : ∀ l1 l2 : List β, l1.Perm l2 → l1.Pairwise (fun a b => f a ≤ f b) → l2.Pairwise (fun a b => f a < f b) → l1 = l2
  | l1, [], hp, _, _ => by simpa using hp
  | [], b :: r2, hp, _, _ => by have := hp.length_eq; simp at this
  | a :: r1, b :: r2, hp, h1, h2 => by
    have ha : a ∈ b :: r2 := hp.mem_iff.1 (List.mem_cons_self ..)
    have hb : b ∈ a :: r1 := hp.mem_iff.2 (List.mem_cons_self ..)
    have hab : a = b := by
      rcases List.mem_cons.1 ha with h | h
      · exact h
      · rcases List.mem_cons.1 hb with h' | h'
        · exact h'.symm
        · have := (List.pairwise_cons.1 h2).1 a h
          have := (List.pairwise_cons.1 h1).1 b h'
          omega
    subst hab
    rw [eq_of_perm_sorted f r1 r2 hp.cons_inv (List.pairwise_cons.1 h1).2 (List.pairwise_cons.1 h2).2]
theorem length_le_of_sub {α : Type} [DecidableEq α] : ∀ (l m : List α), l.Nodup → (∀ x ∈ l, x ∈ m) → l.length ≤ m.length
  | [], _, _, _ => Nat.zero_le _
  | a :: r, m, hd, hs => by
    have ha : a ∈ m := hs a (List.mem_cons_self ..)
    have h1 := length_le_of_sub r (m.erase a) (List.nodup_cons.1 hd).2 (fun x hx => (List.mem_erase_of_ne (fun e : x = a => (List.nodup_cons.1 hd).1 (by rw [← e]; exact hx))).2 (hs x (List.mem_cons_of_mem _ hx)))
    have h2 := List.length_erase_of_mem ha
    have h3 : 0 < m.length := List.length_pos_of_mem ha
    simp only [List.length_cons]
    omega

/-- a text that can be a key -/
abbrev Nm := { s : ByteArray // s.size ≤ 1048576 }
instance : Inhabited Nm := ⟨⟨e0, by decide⟩⟩
def encN (x : Nm) : Value := .string x.1
theorem heap_sortW {α : Type} [Inhabited α] (enc : α → Value) (w : World) (blk off m : Nat) (dk : Array α) (os : Array Obj) {k : Nat} (hk : k < w.heap.size) (hne : k ≠ blk) : (sortWorld enc w blk off m dk os).heap[k]? = w.heap[k]? := by
  unfold sortWorld
  rw [Sort.heap_grow_old _ _ (by simpa using hk)]
  have h' : blk ≠ k := Ne.symm hne
  simp [Sort.putRow, Sort.mapBlock, Sort.ahead, Array.getElem?_modify, h']

set_option maxRecDepth 100000 in
theorem cmp_any (E : List Pr) (x : ByteArray) (hE : E.length ≤ 1000) (W : World) (H : Nat) (mb : Option Nat) (hbox : W.cell? ⟨H, 0, none⟩ = some (.map mb)) (a b : ByteArray)
    (ha : (Instr.lookup 60 (.map mb) (.string a) false).run Tryd.prog W = .ok (.int .i64 (ixN E x a)) W) (hb : (Instr.lookup 60 (.map mb) (.string b) false).run Tryd.prog W = .ok (.int .i64 (ixN E x b)) W) :
    Calls Tryd.prog 53 #[.string a, .string b, .pointer (some ⟨H, 0, none⟩)] W fun e w' => e = .returned (.int .i64 (ixN E x a - ixN E x b)) ∧ w' = W := by
  obtain ⟨a1, a2⟩ := ixN_bd E x a
  obtain ⟨b1, b2⟩ := ixN_bd E x b
  have hw : IntKind.i64.wrap (ixN E x a - ixN E x b) = ixN E x a - ixN E x b := IntWalk.i64_in _ (by omega)
  generalize ixN E x a = va at *
  generalize ixN E x b = vb at *
  go_enter Tryd.func53, Tryd.ntmps53
  go_wp2
  go_ret
  exact ⟨rfl, rfl⟩

/-- maps.Keys at a map of places -/
theorem keys_call (mb : Option Nat) (W : World) : Calls Tryd.prog 52 #[.map mb] W fun e w' => e = .returned (.func (.func 67) #[] #[.pointer (some ⟨W.heap.size, 0, none⟩)]) ∧ w' = W.alloc (.cells #[.map mb] 60) :=
  (callsIn_wide (n := 5)).1 (AnyZ.keys_in Tryd.keysS Fence.wide 5 trivial rfl mb W)
/-- slices.Collect at what it handed back -/
theorem collect_call (Bm b n : Nat) (D0 : DataW Value) (W : World) (hBm : Bm < W.heap.size) (hm : W.cell? ⟨Bm, 0, none⟩ = some (.map (some b))) (hown : W.ownsMap Tryd.prog 9 hR b n D0) (h1 : Maps.size D0 ≤ 1000) :
    Calls Tryd.prog 65 #[.func (.func 67) #[] #[.pointer (some ⟨Bm, 0, none⟩)]] W fun e w' => ∃ (v : Value) (ss : List (List UInt8)), e = .returned v ∧ ss.Perm (strKeys D0) ∧ w'.ownsRow W.heap.size 9 1 v ss.length (ss.map encStr) ∧ (v = .slice none 0 0 ↔ ss = []) ∧ Below W.heap.size W w' :=
  (callsIn_wide (n := 5)).1 (AnyZ.collect_in Tryd.collectS Fence.wide 5 trivial trivial rfl (by omega) 67 #[.pointer (some ⟨Bm, 0, none⟩)] trivial (enters_of Tryd.func67 (by kernel_rfl) rfl) _ (Maps.size D0) (by unfold maxLen; omega) (by omega) W
    (AnyZ.keys_gives (ρ := Tryd.keysS_ren) { Tryd.keysS with } Fence.wide _ trivial rfl (by omega) Bm b n D0 W hBm hm hown))
theorem collect_nil (Bm : Nat) (W : World) (hBm : Bm < W.heap.size) (hm : W.cell? ⟨Bm, 0, none⟩ = some (.map none)) :
    Calls Tryd.prog 65 #[.func (.func 67) #[] #[.pointer (some ⟨Bm, 0, none⟩)]] W fun e w' => e = .returned (.slice none 0 0) ∧ Below W.heap.size W w' :=
  ((callsIn_wide (n := 5)).1 (AnyZ.collect_in Tryd.collectS Fence.wide 5 trivial trivial rfl (by omega) 67 #[.pointer (some ⟨Bm, 0, none⟩)] trivial (enters_of Tryd.func67 (by kernel_rfl) rfl) (fun ss => ss = []) 0 (by unfold maxLen; omega) (by omega) W
    (AnyZ.keys_gives_nil (ρ := Tryd.keysS_ren) { Tryd.keysS with } Fence.wide _ trivial rfl Bm W hBm hm))).mono fun e w' ⟨v, ss, he, hs, _, hn, hb⟩ => ⟨by rw [he, hn.2 hs], hb⟩

set_option maxHeartbeats 1000000 in
theorem ins_none (p : Option Addr) (cap : Nat) (fv : Value) (w : World) :
    Calls Tryd.prog 84 #[.slice p 0 cap, .int .i64 0, .int .i64 0, fv] w fun e w' => e = .returned (.tuple #[]) ∧ w' = w := by
  go_enter Tryd.func84, Tryd.ntmps84
  go_wp2
  refine wp_loop_rounds 1 ?_
  rw [rounds_succ]
  go_wp2
  go_end0
  exact ⟨rfl, rfl⟩
set_option maxHeartbeats 1000000 in
theorem pdq_none (p : Option Addr) (cap : Nat) (lim : Int) (fv : Value) (w : World) :
    Calls Tryd.prog 78 #[.slice p 0 cap, .int .i64 0, .int .i64 0, .int .i64 lim, fv] w fun e w' => e = .returned (.tuple #[]) ∧ w' = w := by
  go_enter Tryd.func78, Tryd.ntmps78
  go_wp2
  refine wp_loop_rounds 1 ?_
  rw [rounds_succ]
  go_wp2_with fail
  refine (ins_none p cap fv _).mono ?_
  rintro e w' ⟨rfl, rfl⟩
  go_wp2
  (try simp only [Exit.inBlock, Exit.then]); refine bodyPost_ret (results_none rfl _ _ _) rfl ?_
  exact ⟨rfl, rfl⟩
theorem len0 (W : World) : Calls Tryd.prog 79 #[.int .u64 0] W fun e w' => (∃ l : Int, e = .returned (.int .i64 l)) ∧ w' = W :=
  (Tryd.bits_Len 0 W (by omega) (by omega)).mono fun _ _ ⟨he, hw⟩ => ⟨⟨_, he⟩, hw⟩
theorem lenN (n : Nat) (W : World) (h : n ≤ 12) : Calls Tryd.prog 79 #[.int .u64 n] W fun e w' => (∃ l : Int, e = .returned (.int .i64 l)) ∧ w' = W :=
  (Tryd.bits_Len n W (by omega) (by omega)).mono fun _ _ ⟨he, hw⟩ => ⟨⟨_, he⟩, hw⟩
theorem sort_none (p : Option Addr) (cap : Nat) (fv : Value) (w : World) :
    Calls Tryd.prog 66 #[.slice p 0 cap, fv] w fun e w' => e = .returned (.tuple #[]) ∧ w' = w := by
  go_enter Tryd.func66, Tryd.ntmps66
  go_wp2_with fail
  refine (len0 _).mono ?_
  rintro e w' ⟨⟨l, rfl⟩, rfl⟩
  go_wp2_with fail
  refine (pdq_none p cap l fv _).mono ?_
  rintro e w' ⟨rfl, rfl⟩
  go_wp2
  go_end0
  exact ⟨rfl, rfl⟩

/-- the row behind the sort -/
theorem own_putRow {w : World} {base g cap n : Nat} {e : TypeId} {cur : Array Value} (d' : Array Nm) (hb : w.heap[g]? = some (.cells cur e (0, 0))) (hbase : base ≤ g) (h1 : d'.size ≤ cap) (h2 : cap ≤ maxLen) (h3 : cur.size = cap * 1) :
    ((Sort.putRow encN w g 0 d').drewN n).ownsRow base e 1 (.slice (some ⟨g, 0, none⟩) d'.size cap) d'.size (d'.toList.map encN) := by
  refine ⟨by simp, .inr ⟨g, cap, Sort.putCells encN 0 d' cur, rfl, hbase, ?_, h1, h2, by simp [Sort.putCells, h3], ?_⟩⟩
  · show (Sort.putRow encN w g 0 d').heap[g]? = _
    simp [Sort.putRow, Sort.mapBlock, Array.getElem?_modify, hb, Sort.onCells]
  · apply List.ext_getElem?
    intro j
    by_cases hj : j < d'.size
    · rw [List.getElem?_take_of_lt (by omega), Array.getElem?_toList]
      simp [Sort.putCells, hj, show j < cur.size by omega]
    · rw [List.getElem?_take_eq_none (by omega), List.getElem?_eq_none (by simp; omega)]
theorem grown_putRow {w : World} {g n : Nat} (d' : Array Nm) : w.grownBy ((Sort.putRow encN w g 0 d').drewN n) (some g) := by
  refine ⟨rfl, rfl, rfl, by simp, fun k hk hne => ?_⟩
  show (Sort.putRow encN w g 0 d').heap[k]? = _
  have h' : g ≠ k := fun e => hne (by rw [e])
  simp [Sort.putRow, Sort.mapBlock, Array.getElem?_modify, h']
def nmOf (l : List UInt8) : Nm := if h : l.length ≤ 1048576 then ⟨⟨l.toArray⟩, by simpa [ByteArray.size] using h⟩ else default
theorem nmOf_enc {l : List UInt8} (h : l.length ≤ 1048576) : encN (nmOf l) = encStr l := by unfold nmOf encN; rw [dif_pos h]
theorem swo_ix (E : List Pr) (x : ByteArray) : Sort.SWO (ltOf fun a b : Nm => ixN E x a.1 - ixN E x b.1) where
  irrefl a := by simp [ltOf]
  trans a b c h1 h2 := by simp [ltOf] at *; omega
  ntrans a b c h1 h2 := by simp [ltOf] at *; omega
/-- what the keys are -/
theorem keys_perm {W : World} {b n : Nat} {D0 : DataW Value} {E : List Pr} {x : ByteArray} (hown : W.ownsMap Tryd.prog 9 hR b n D0) (hD : AtF D0 (inner E x)) (hnd : E.Nodup) : ((outL E x).map (·.data.toList)).Perm (strKeys D0) := by
  obtain ⟨es, hE, hpw, _⟩ := hown.entries keyed
  obtain ⟨es', hE', hk⟩ := hown.keysOf
  obtain rfl : es = es' := by rw [hE] at hE'; simpa using hE'
  subst hE
  refine perm_strKeys hpw (fun p hp => ?_) ?_ (fun a => ?_)
  · obtain ⟨v, hv⟩ := hk p hp
    obtain ⟨s, rfl⟩ := key_string hv
    exact ⟨_, (key_string' hv).2⟩
  · refine List.pairwise_map.2 ((outL_nodup hnd x).imp fun {a b} hab e => hab (ByteArray.ext (Array.toList_inj.1 e)))
  · have h1 := (hD ⟨a.toArray⟩).2
    have h2 : kS ⟨a.toArray⟩ = .string a := by simp [kS]
    rw [h2] at h1
    rw [h1, inner_isSome, ← mem_outL, List.mem_map]
    constructor
    · rintro ⟨y, hy, rfl⟩
      exact hy
    · intro h
      exact ⟨_, h, by simp⟩

theorem size_keys {W : World} {b n : Nat} {D0 : DataW Value} {E : List Pr} {x : ByteArray} (hown : W.ownsMap Tryd.prog 9 hR b n D0) (hD : AtF D0 (inner E x)) (hnd : E.Nodup) : Maps.size D0 = (outL E x).length := by
  have h := (keys_perm hown hD hnd).length_eq
  rw [List.length_map] at h
  rw [h]
  obtain ⟨es, rfl, _⟩ := hown.keysOf
  simp [strKeys, Maps.size]
/-- a row of names that the call has laid, or none -/
def NamesPost (W : World) (l : List ByteArray) (e : Ending) (w' : World) : Prop :=
  ∃ v, e = .returned v ∧ w'.ownsRow W.heap.size 9 1 v l.length (l.map Value.string) ∧ Below W.heap.size W w'
theorem cmp_reads (W w1 : World) (H bi n g : Nat) (E : List Pr) (x : ByteArray) (size : Nat) (hb1 : Below W.heap.size W w1) (hg : W.heap.size ≤ g) (hH : H < W.heap.size) (hbox : W.cell? ⟨H, 0, none⟩ = some (.map (some bi))) (hmi : MapV W bi n (inner E x)) (hE : E.length ≤ 1000) :
    CmpReads Tryd.prog 53 #[.pointer (some ⟨H, 0, none⟩)] encN (fun a b : Nm => ixN E x a.1 - ixN E x b.1) g 0 size w1 := by
  intro m os dk _ a b
  have hbi := hmi.lt
  have hw : ∀ k, k < W.heap.size → (sortWorld encN w1 g 0 m dk os).heap[k]? = W.heap[k]? := fun k hk => (heap_sortW encN w1 g 0 m dk os (by have := hb1.size; omega) (by omega)).trans (hb1.block k hk)
  have hmS : MapV (sortWorld encN w1 g 0 m dk os) bi n (inner E x) := hmi.same (hw bi hbi)
  have hlk : ∀ s : Nm, (Instr.lookup 60 (.map (some bi)) (.string s.1) false).run Tryd.prog (sortWorld encN w1 g 0 m dk os) = .ok (.int .i64 (ixN E x s.1)) (sortWorld encN w1 g 0 m dk os) := fun s => by
    have := hmS.look Tryd.underlying60 (zeroInt _) (mx s.2)
    rwa [inner_getD] at this
  exact (cmp_any E x hE _ H (some bi) ((World.cell?_of_block (hw H hH)).trans hbox) a.1 b.1 (hlk a) (hlk b)).mono fun e w' h => ⟨h.1, 0, h.2⟩
theorem size_le_of {l : List ByteArray} (h1 : ∀ y ∈ l, y.size ≤ 1048576) {ss : List (List UInt8)} (hp : ss.Perm (l.map (·.data.toList))) : ∀ a ∈ ss, a.length ≤ 1048576 := fun a ha => by
  obtain ⟨y, hy, rfl⟩ := List.mem_map.1 (hp.mem_iff.1 ha)
  exact h1 y hy
theorem sorted_list {E : List Pr} {x : ByteArray} (hnd : E.Nodup) (h1 : ∀ y ∈ outL E x, y.size ≤ 1048576) {ss : List (List UInt8)} (hp : ss.Perm ((outL E x).map (·.data.toList))) {d' : Array Nm} (hP : Sort.PermIn 0 ss.length (ss.map nmOf).toArray d') (hS : Sort.SortedIn (ltOf fun a b : Nm => ixN E x a.1 - ixN E x b.1) 0 ss.length d') :
    d'.toList.map (·.1) = outL E x := by
  obtain ⟨hz, _, hpm⟩ := hP
  have hz' : d'.size = ss.length := by simpa using hz
  have e1 : d'.extract 0 ss.length = d' := by rw [← hz']; simp
  have e2 : (ss.map nmOf).toArray.extract 0 ss.length = (ss.map nmOf).toArray := by
    apply Array.toList_inj.1
    rw [Array.toList_extract]
    simp [List.extract]
    exact List.take_of_length_le (by simp)
  rw [e1, e2] at hpm
  have hq : (d'.toList.map (·.1)).Perm (outL E x) := by
    refine (hpm.map (·.1)).trans ?_
    have h2 : ((ss.map nmOf).toArray.toList.map (·.1)) = ss.map fun l => (nmOf l).1 := by simp
    rw [h2]
    refine (hp.map fun l => (nmOf l).1).trans ?_
    rw [List.map_map]
    have h3 : (outL E x).map ((fun l => (nmOf l).1) ∘ fun y : ByteArray => y.data.toList) = (outL E x).map id := List.map_congr_left fun y hy => by
      show (nmOf y.data.toList).1 = y
      unfold nmOf
      rw [dif_pos (show y.data.toList.length ≤ 1048576 from h1 y hy)]
    rw [h3, List.map_id]
  refine eq_of_perm_sorted (ixN E x) _ _ hq ?_ (outL_sorted hnd x)
  rw [List.pairwise_map, List.pairwise_iff_getElem]
  intro i j hi hj hij
  have h4 := hS i j (Nat.zero_le _) hij (by rw [← hz']; simpa using hj)
  simp only [Array.length_toList] at hi hj
  rw [getElem!_pos d' j hj, getElem!_pos d' i hi] at h4
  simp [ltOf] at h4
  simpa using h4
theorem sort_call (W w1 : World) (H bi n g cap : Nat) (E : List Pr) (x : ByteArray) (ss : List (List UInt8)) (cur : Array Value) (hb1 : Below W.heap.size W w1) (hg : W.heap.size ≤ g) (hH : H < W.heap.size) (hbox : W.cell? ⟨H, 0, none⟩ = some (.map (some bi))) (hmi : MapV W bi n (inner E x)) (hE : E.length ≤ 1000) (hnd : E.Nodup) (hl : (outL E x).length ≤ 12)
    (h1 : ∀ y ∈ outL E x, y.size ≤ 1048576) (hp : ss.Perm ((outL E x).map (·.data.toList))) (hcur : w1.heap[g]? = some (.cells cur 9 (0, 0))) (hcap : ss.length ≤ cap) (hcm : cap ≤ maxLen) (hcs : cur.size = cap * 1) (htk : cur.toList.take (ss.length * 1) = ss.map encStr) :
    Calls Tryd.prog 66 #[.slice (some ⟨g, 0, none⟩) ss.length cap, .func (.func 53) #[] #[.pointer (some ⟨H, 0, none⟩)]] w1 fun e w' => e = .returned (.tuple #[]) ∧ w'.ownsRow W.heap.size 9 1 (.slice (some ⟨g, 0, none⟩) ss.length cap) (outL E x).length ((outL E x).map Value.string) ∧ w1.grownBy w' (some g) := by
  have hsm := size_le_of h1 hp
  have hlen : ss.length = (outL E x).length := by rw [hp.length_eq, List.length_map]
  have hdl : (ss.map nmOf).toArray.size = ss.length := by simp
  have henc : (ss.map nmOf).map encN = ss.map encStr := by
    rw [List.map_map]
    exact List.map_congr_left fun a ha => nmOf_enc (hsm a ha)
  have hHolds : Sort.Holds encN w1 g 0 (ss.map nmOf).toArray := by
    intro j hj
    rw [hdl] at hj
    refine ⟨?_, by simp [World.frozen?, hcur]⟩
    rw [Nat.zero_add, cell_of_row w1 g j _ _ (0, 0) hcur]
    have h2 : (cur.toList.take (ss.length * 1))[j]? = ((ss.map nmOf).map encN)[j]? := by rw [htk, henc]
    rw [List.getElem?_take_of_lt (by omega)] at h2
    rw [← Array.getElem?_toList, h2]
    simp [hj]
  have hsort := Tryd.slices_SortFunc_small_sorted encN (fun _ => rfl) _ (swo_ix E x) 53 #[.pointer (some ⟨H, 0, none⟩)] g 0 cap (ss.map nmOf).toArray w1 (enters_of Tryd.func53 (by kernel_rfl) rfl)
    (cmp_reads W w1 H bi n g E x _ hb1 hg hH hbox hmi hE) hHolds (by rw [hdl]; omega) (fun n W h => lenN n W h)
  rw [hdl] at hsort
  refine hsort.mono ?_
  rintro e w2 ⟨he, d', q, hPm, hSd, rfl⟩
  have hd := sorted_list hnd h1 hp hPm hSd
  have hz : d'.size = ss.length := by have := hPm.1; simpa using this
  refine ⟨he, ?_, grown_putRow d'⟩
  have h5 := own_putRow (n := q) (base := W.heap.size) d' hcur hg (by omega) hcm hcs
  have h6 : d'.toList.map encN = (outL E x).map Value.string := by
    rw [← hd, List.map_map]; rfl
  rw [h6, hz, hlen] at h5
  rw [hlen]
  exact h5

set_option maxRecDepth 100000 in
theorem SortedFunc_any (W : World) (Bm H bi n : Nat) (E : List Pr) (x : ByteArray) (hBm : Bm < W.heap.size) (hm : W.cell? ⟨Bm, 0, none⟩ = some (.map (some bi))) (hH : H < W.heap.size) (hbox : W.cell? ⟨H, 0, none⟩ = some (.map (some bi)))
    (hmi : MapV W bi n (inner E x)) (hE : E.length ≤ 1000) (hnd : E.Nodup) (hl : (outL E x).length ≤ 12) (h1 : ∀ y ∈ outL E x, y.size ≤ 1048576) (hne : outL E x ≠ []) :
    Calls Tryd.prog 51 #[.func (.func 67) #[] #[.pointer (some ⟨Bm, 0, none⟩)], .func (.func 53) #[] #[.pointer (some ⟨H, 0, none⟩)]] W (NamesPost W (outL E x)) := by
  obtain ⟨D0, hown, hD⟩ := hmi
  have hperm := keys_perm hown hD hnd
  have hsz := size_keys hown hD hnd
  have hcol := collect_call Bm bi n D0 W hBm hm hown (by omega)
  have hmi' : MapV W bi n (inner E x) := ⟨D0, hown, hD⟩
  have Hmi := Lib.hid (And.intro hmi' (And.intro hbox (And.intro hnd (And.intro h1 hne))))
  have Hpm := Lib.hid hperm
  clear hown hD hm hmi' hbox hnd h1 hne hperm hsz
  go_enter Tryd.func51, Tryd.ntmps51
  go_wp2_with fail
  refine hcol.mono ?_
  rintro e w1 ⟨v, ss, rfl, hss, hrow, hnil, hb1⟩
  have hpl : ss.Perm ((outL E x).map (·.data.toList)) := hss.trans Hpm.out.symm
  have hlen : ss.length = (outL E x).length := by rw [hpl.length_eq, List.length_map]
  obtain ⟨g, cap, hv, hg, hcap, hcm, cur, hcur, hcs, htk⟩ : ∃ g cap, v = .slice (some ⟨g, 0, none⟩) ss.length cap ∧ W.heap.size ≤ g ∧ ss.length ≤ cap ∧ cap ≤ maxLen ∧ ∃ cur, w1.heap[g]? = some (.cells cur 9 (0, 0)) ∧ cur.size = cap * 1 ∧ cur.toList.take (ss.length * 1) = ss.map encStr := by
    obtain ⟨_, ⟨rfl, h0⟩ | ⟨g, cap, cur, hv, hg, hh, hn, hc, hs, ht⟩⟩ := hrow
    · exact absurd (List.eq_nil_of_length_eq_zero (by omega)) Hmi.out.2.2.2.2
    · exact ⟨g, cap, hv, hg, hn, hc, cur, hh, hs, ht⟩
  subst hv
  have hsc := sort_call W w1 H bi n g cap E x ss cur hb1 hg hH Hmi.out.2.1 Hmi.out.1 hE Hmi.out.2.2.1 hl Hmi.out.2.2.2.1 hpl hcur hcap hcm hcs htk
  have HB := Lib.hid (And.intro hb1 (And.intro hg hlen))
  clear hpl hcur hcs htk hrow hss hnil hb1 hcol hlen
  go_wp2_with fail
  refine hsc.mono ?_
  rintro e w2 ⟨rfl, hown2, hgr⟩
  go_wp2
  go_ret
  exact ⟨_, rfl, hown2, HB.out.1.grown hgr HB.out.1.size (fun j hj => by cases hj; exact HB.out.2.1)⟩
end Go.Proofs.YtfmhcjhcmoniaaaDoor
end

section
/-
  nearer and finish: the shortest way to the exit from the end of a way. Conditions: a course of a valid program.
-/
namespace Go.Proofs.YtfmhcjhcmoniaaaDoor
open Go.RowKit Go.Maps

theorem sorts_in (m : Nat) : AnyZ.SortsIn Tryd.prog Tryd.sortedT_ren Fence.wide m :=
  ⟨fun blk off cap ss W hH hblk hsz => callsIn_wide.2 (AnyM.slices_Sort_string Tryd.sortT blk off cap ss W hH hblk hsz), fun p cap W => callsIn_wide.2 (AnyM.slices_Sort_string_none Tryd.sortT p cap W)⟩
theorem sorted_call (Bm b n : Nat) (D0 : DataW Value) (W : World) (hBm : Bm < W.heap.size) (hm : W.cell? ⟨Bm, 0, none⟩ = some (.map (some b))) (hown : W.ownsMap Tryd.prog 9 hR b n D0) (h1 : Maps.size D0 ≤ 1000) :
    Calls Tryd.prog 64 #[.func (.func 67) #[] #[.pointer (some ⟨Bm, 0, none⟩)]] W fun e w' => ∃ (v : Value) (ss : List (List UInt8)), e = .returned v ∧ ss.Perm (strKeys D0) ∧ w'.ownsRow W.heap.size 9 1 v ss.length ((ss.mergeSort fun x y => decide (x ≤ y)).map encStr) ∧ (v = .slice none 0 0 ↔ ss = []) ∧ Below W.heap.size W w' :=
  (callsIn_wide (n := 6)).1 (AnyZ.sorted_in Tryd.sortedT Fence.wide 6 trivial trivial trivial trivial rfl (by omega) (sorts_in _) (enters_of Tryd.func76 (by kernel_rfl) rfl) 67 #[.pointer (some ⟨Bm, 0, none⟩)] trivial (enters_of Tryd.func67 (by kernel_rfl) rfl) _ (Maps.size D0) (by unfold maxLen; omega) (by omega) W
    (AnyZ.keys_gives (ρ := Tryd.keysS_ren) { Tryd.keysS with } Fence.wide _ trivial rfl (by omega) Bm b n D0 W hBm hm hown))
/-- the names that a block leads to, in the order of bytes -/
structure SortedOut (es : List Pr) (x : ByteArray) (ys : List ByteArray) : Prop where
  mem : ∀ y, y ∈ ys ↔ (x, y) ∈ es
  ord : ys.Pairwise fun a b => blt b a = false
  len : ys.length = (outL es x).length
theorem blt_le {a b : List UInt8} : Op.bytesLess b a = false ↔ a ≤ b := by
  rw [bytesLess_eq]
  simp
theorem sorted_out {es : List Pr} {x : ByteArray} {ss : List (List UInt8)} (hp : ss.Perm ((outL es x).map (·.data.toList))) : SortedOut es x ((ss.mergeSort fun x y => decide (x ≤ y)).map fun l => ⟨l.toArray⟩) where
  mem y := by
    have h1 : ∀ l, l ∈ ss.mergeSort (fun x y => decide (x ≤ y)) ↔ l ∈ (outL es x).map (·.data.toList) := fun l => ((List.mergeSort_perm ss _).mem_iff).trans hp.mem_iff
    rw [← mem_outL, List.mem_map]
    constructor
    · rintro ⟨l, hl, rfl⟩
      obtain ⟨y, hy, rfl⟩ := List.mem_map.1 ((h1 l).1 hl)
      exact hy
    · intro hy
      exact ⟨y.data.toList, (h1 _).2 (List.mem_map.2 ⟨y, hy, rfl⟩), rfl⟩
  ord := by
    rw [List.pairwise_map]
    have h2 := List.pairwise_mergeSort (le := fun x y : List UInt8 => decide (x ≤ y)) (fun a b c h1 h2 => by simp at *; exact List.le_trans h1 h2) (fun a b => by simp; exact List.le_total a b) ss
    refine h2.imp fun {a b} hab => ?_
    unfold blt
    rw [ByteArray.toList_eq, ByteArray.toList_eq]
    exact blt_le.2 (by simpa using hab)
  len := by rw [List.length_map, List.length_mergeSort, hp.length_eq, List.length_map]

set_option maxRecDepth 100000 in
set_option maxHeartbeats 1600000 in
theorem nearer_any (w : World) (o lo li f k : Nat) (vn : Value) (bs es : List Pr) (D : ByteArray → Option Nat) (x : ByteArray) (hx : x.size ≤ 1048576) (hd : D x = some (k + 1)) (hV : Valid bs es) (hC : CourseAt w o lo li vn f bs es D) :
    Calls Tryd.prog 48 #[.agg #[.map (some o), .map (some lo), .map (some li), vn, .map (some f)], .string x] w fun e w' => (∃ y, e = .returned (.string y) ∧ Near es D x y) ∧ Below w.heap.size w w' := by
  obtain ⟨ga, gc, rfl⟩ := own_form hC.names
  have h1 : Below w.heap.size w (w.alloc (.cells #[.map (some o), .map (some lo), .map (some li), .slice ga bs.length gc, .map (some f)] 62)) := (Below.refl _ _).alloc (Nat.le_refl _) _
  have hC1 := hC.keep h1
  have hk1 : (w.alloc (.cells #[.map (some o), .map (some lo), .map (some li), .slice ga bs.length gc, .map (some f)] 62)).heap[w.heap.size]? = some (.cells #[.map (some o), .map (some lo), .map (some li), .slice ga bs.length gc, .map (some f)] 62 (0, 0)) := heap_alloc_new w _
  obtain ⟨fp, F, hL, hfp⟩ := hC1.plan.out
  have lk := hL.map.look Tryd.underlying56 (zeroMap _) (mx hx)
  obtain ⟨y0, hE0, hN0⟩ := exists_nearer hC.least hd
  cases hF : F x with
  | none => exact absurd hE0 (hL.none_ x hF y0)
  | some v =>
    obtain ⟨bi, rfl, hbi, hmi, _⟩ := hL.some_ x v hF
    rw [hF, Option.getD_some] at lk
    have hbw := hfp bi hbi
    have hmA : MapV ((w.alloc (.cells #[.map (some o), .map (some lo), .map (some li), .slice ga bs.length gc, .map (some f)] 62)).alloc (.cells #[.map (some bi)] 60)) bi es.length (inner es x) := hmi.alloc _
    obtain ⟨D0, hown0, hD0⟩ := hmA
    have hsz := size_keys hown0 hD0 hV.e.nd
    have hperm := keys_perm hown0 hD0 hV.e.nd
    have hl14 : (outL es x).length ≤ 14 := Nat.le_trans (outL_length es x) hV.e.hi
    have hso := sorted_call (w.heap.size + 1) bi es.length D0 ((w.alloc (.cells #[.map (some o), .map (some lo), .map (some li), .slice ga bs.length gc, .map (some f)] 62)).alloc (.cells #[.map (some bi)] 60)) (by simp) (by go_simp) hown0 (by omega)
    have HK := Lib.hid (And.intro hC1 (And.intro hk1 (And.intro hperm (And.intro hE0 (And.intro hN0 (And.intro hV (And.intro hC h1)))))))
    clear hC1 hk1 hperm hE0 hN0 hown0 hD0 hmi hF hL hfp hV hC h1 hsz hbi hbw
    go_enter Tryd.func48, Tryd.ntmps48
    go_wp2_with fail
    refine (keys_call (some bi) _).mono ?_
    rintro e w1 ⟨rfl, rfl⟩
    go_wp2_with fail
    refine hso.mono ?_
    rintro e w2 ⟨v, ss, rfl, hss, hown, hnil, hb2⟩
    have hSO := sorted_out (hss.trans HK.out.2.2.1.symm)
    obtain ⟨ys, hys⟩ : ∃ ys : List ByteArray, ys = (ss.mergeSort fun x y => decide (x ≤ y)).map fun l => ⟨l.toArray⟩ := ⟨_, rfl⟩
    rw [← hys] at hSO
    have hown1 : w2.ownsRow (w.heap.size + 2) 9 1 v ys.length (ys.map Value.string) := by
      have e1 : ys.map Value.string = (ss.mergeSort fun x y => decide (x ≤ y)).map encStr := by rw [hys, List.map_map]; rfl
      have e2 : ys.length = ss.length := by rw [hys, List.length_map, List.length_mergeSort]
      rw [e1, e2]
      simpa using hown
    have hyl : ys.length = (outL es x).length := hSO.len
    have hyne : ys.length ≠ 0 := fun e => by
      have := (hSO.mem y0).2 HK.out.2.2.2.1
      rw [List.eq_nil_of_length_eq_zero e] at this; cases this
    obtain ⟨n, hn⟩ : ∃ n, ys.length = n + 1 := ⟨ys.length - 1, by omega⟩
    have hown2 : w2.ownsRow (w.heap.size + 2) 9 1 v (n + 1) (ys.map Value.string) := by rw [← hn]; exact hown1
    obtain ⟨g, cap, hv, _, hgw, _, _, hcells⟩ := own_last hown2
    rw [← hn] at hv
    subst hv
    have hz2 := hb2.size
    simp at hz2
    have hAW : Below (w.alloc (.cells #[.map (some o), .map (some lo), .map (some li), .slice ga bs.length gc, .map (some f)] 62)).heap.size (w.alloc (.cells #[.map (some o), .map (some lo), .map (some li), .slice ga bs.length gc, .map (some f)] 62)) w2 := ((Below.refl _ _).alloc (Nat.le_refl _) _).trans (hb2.mono (by simp))
    have hC2 := HK.out.1.keep hAW
    have hkk := (hAW.block w.heap.size (by simp)).trans HK.out.2.1
    obtain ⟨⟨x0, x1, x2, x3, x4⟩, _⟩ := block5 hkk
    obtain ⟨nf, hmf⟩ := hC2.far
    have lkx := hmf.look Tryd.underlying60 (zeroInt w2) (mx hx)
    rw [hd] at lkx
    have hall : Below w.heap.size w w2 := HK.out.2.2.2.2.2.2.2.trans (hAW.mono (by simp))
    have hVd := HK.out.2.2.2.2.2.1
    have HC := Lib.hid (And.intro hcells (And.intro hSO (And.intro hmf hC2)))
    have hle := hC2.bound x _ hd
    have hl14' := hVd.e.hi
    clear hcells hSO hmf hC2 hown hown1 hown2 hss hnil hb2 hkk hys hso hn hyne
    go_wp2
    go_loopw [15] (fun i wr => ∃ m : Nat, m ≤ ys.length ∧ i = .int .i64 m ∧ wr = w2 ∧ ∀ j y, j < m → ys[j]? = some y → ¬ Nearer D x y) (fun i _ => ys.length - (intOf i).toNat)
    case atStart => exact ⟨0, Nat.zero_le _, rfl, rfl, fun j y hj _ => absurd hj (Nat.not_lt_zero _)⟩
    case round =>
      obtain ⟨m, hm, rfl, rfl, hno⟩ := hrel
      have Hno := Lib.hid hno; clear hno
      by_cases hlt : m < ys.length
      · obtain ⟨y, hy⟩ : ∃ y, ys[m]? = some y := ⟨ys[m], List.getElem?_eq_getElem hlt⟩
        have hcy := HC.out.1 m (.string y) (by rw [List.getElem?_map, hy]; rfl)
        have hEy := (HC.out.2.1.mem y).1 (List.mem_of_getElem? hy)
        have hyn := hVd.e.to _ hEy
        have hys1 := hVd.name_size hyn
        obtain ⟨p, hp, hpe⟩ := List.mem_map.1 hyn
        obtain ⟨jy, hjy⟩ := HC.out.2.2.2.least.reach (show Reach (flip es) (lastN bs) y by have := hVd.rz p hp; rw [hpe] at this; exact this)
        have lky := HC.out.2.2.1.look Tryd.underlying60 (zeroInt wr) (mx (show y.size ≤ 1048576 by rw [hys1]; decide))
        rw [hjy] at lky
        simp only [dV] at lky lkx
        have HY := Lib.hid (And.intro hy (And.intro hEy hjy))
        clear hy hEy hyn hys1 hp hpe hjy
        by_cases hc : (jy : Int) < ((k + 1 : Nat) : Int)
        · go_wp2
          go_ret
          refine ⟨⟨y, rfl, HY.out.2.1, ⟨k + 1, jy, hd, HY.out.2.2, by omega⟩, fun y' hE' hN' => ?_⟩, hall⟩
          obtain ⟨j', hj', e'⟩ := List.getElem_of_mem ((HC.out.2.1.mem y').2 hE')
          rcases Nat.lt_trichotomy j' m with h | h | h
          · exact absurd hN' (Hno.out j' y' h (by rw [List.getElem?_eq_getElem hj', e']))
          · subst h
            have := HY.out.1
            rw [List.getElem?_eq_getElem hj', e'] at this
            cases this
            exact blt_irrefl _
          · have := List.pairwise_iff_getElem.1 HC.out.2.1.ord m j' hlt hj' h
            have h2 := HY.out.1
            rw [List.getElem?_eq_getElem hlt] at h2
            cases h2
            rw [e'] at this
            exact this
        · have hc' : ((k + 1 : Nat) : Int) ≤ (jy : Int) := by omega
          have HN := Lib.hid (show ¬ Nearer D x y from fun ⟨a, b, h1, h2, h3⟩ => by
            rw [hd] at h1; rw [HY.out.2.2] at h2; cases h1; cases h2; omega)
          clear hc
          go_wp2
          go_roundw
          case rel =>
            have hno1 : ∀ j y', j < m + 1 → ys[j]? = some y' → ¬ Nearer D x y' := fun j y' hj hy' => by
              rcases Nat.lt_or_ge j m with h | h
              · exact Hno.out j y' h hy'
              · obtain rfl : j = m := by omega
                rw [HY.out.1] at hy'; cases hy'; exact HN.out
            exact ⟨m + 1, by omega, by go_num, trivial, hno1⟩
          case measure => simp [intOf]; omega
      · exfalso
        obtain ⟨j', hj', e'⟩ := List.getElem_of_mem ((HC.out.2.1.mem y0).2 HK.out.2.2.2.1)
        exact Hno.out j' y0 (by omega) (by rw [List.getElem?_eq_getElem hj', e']) HK.out.2.2.2.2.1
end Go.Proofs.YtfmhcjhcmoniaaaDoor
end

section
/-
  finish: the shortest way to the exit behind a way. Conditions: a course of a valid program.
-/
namespace Go.Proofs.YtfmhcjhcmoniaaaDoor
open Go.RowKit Go.Maps

/-- m steps behind a way that ends at x, from which the exit is k steps off -/
structure FinAt (es : List Pr) (D : ByteArray → Option Nat) (way x : ByteArray) (k m : Nat) (t : ByteArray) : Prop where
  le : m ≤ k
  size : t.size = way.size + m
  ex : ∃ l, t = way ++ cat l ∧ Ch es D x l (ch t (way.size + m - 1)) ∧ D (ch t (way.size + m - 1)) = some (k - m)
theorem cat_app (a b : List ByteArray) : cat (a ++ b) = cat a ++ cat b := by
  apply bytes_ext2
  rw [cat_flat, ByteArray.data_append, Array.toList_append, cat_flat, cat_flat]
  simp
theorem ch_app_last {t y : ByteArray} {n : Nat} (ht : t.size = n) (hy : y.size = 1) : ch (t ++ y) n = y := by
  apply bytes_ext2
  have h1 : t.data.toList.length = n := by simpa using ht
  have h2 : y.data.toList.length = 1 := by simpa using hy
  unfold ch
  rw [ByteArray.data_extract, Array.toList_extract, ByteArray.data_append, Array.toList_append]
  simp [← h1]
  exact List.take_of_length_le (by omega)
theorem FinAt.start {es : List Pr} {D : ByteArray → Option Nat} {way x : ByteArray} {k n : Nat} (hw : way.size = n + 1) (hx : ch way n = x) (hd : D x = some k) : FinAt es D way x k 0 way where
  le := Nat.zero_le _
  size := rfl
  ex := ⟨[], by apply bytes_ext2; rw [ByteArray.data_append, Array.toList_append, cat_flat]; simp, by rw [hw]; exact hx.symm, by rw [hw]; show D (ch way n) = _; rw [hx]; simpa using hd⟩
theorem FinAt.next {es : List Pr} {D : ByteArray → Option Nat} {z way x t y : ByteArray} {k m n : Nat} (hw : way.size = n + 1) (hF : Far (flip es) z D) (h : FinAt es D way x k m t) (hm : m < k) (hy : y.size = 1) (hN : Near es D (ch t (n + m)) y) : FinAt es D way x k (m + 1) (t ++ y) where
  le := hm
  size := by rw [ByteArray.size_append, h.size, hy]; omega
  ex := by
    obtain ⟨l, e, hc, hd⟩ := h.ex
    have e1 : way.size + m - 1 = n + m := by omega
    have e2 : way.size + (m + 1) - 1 = way.size + m := by omega
    rw [e1] at hc hd
    rw [e2, ch_app_last h.size hy]
    exact ⟨l ++ [y], by rw [e, cat_app, ByteArray.append_assoc]; congr 2, hc.snoc _ _ _ _ hN, by rw [hN.dist hF (k := k - (m + 1)) (by rw [hd]; congr 1; omega)]⟩
theorem FinAt.done {es : List Pr} {D : ByteArray → Option Nat} {way x t : ByteArray} {k : Nat} (h : FinAt es D way x k k t) : ∃ l, t = way ++ cat l ∧ Gr es D x l := by
  obtain ⟨l, e, hc, hd⟩ := h.ex
  exact ⟨l, e, hc.gr _ _ _ (by rw [hd]; simp)⟩

set_option maxRecDepth 100000 in
set_option maxHeartbeats 1600000 in
theorem finish_any (w : World) (o lo li f k n : Nat) (vn : Value) (bs es : List Pr) (D : ByteArray → Option Nat) (way x : ByteArray) (hw : way.size = n + 1) (hws : way.size ≤ 1000) (hx : ch way n = x) (hd : D x = some k) (hV : Valid bs es) (hC : CourseAt w o lo li vn f bs es D) :
    Calls Tryd.prog 24 #[.agg #[.map (some o), .map (some lo), .map (some li), vn, .map (some f)], .string way] w fun e w' => (∃ l, e = .returned (.string (way ++ cat l)) ∧ Gr es D x l) ∧ Below w.heap.size w w' := by
  obtain ⟨ga, gc, rfl⟩ := own_form hC.names
  have h1 : Below w.heap.size w (w.alloc (.cells #[.map (some o), .map (some lo), .map (some li), .slice ga bs.length gc, .map (some f)] 62)) := (Below.refl _ _).alloc (Nat.le_refl _) _
  have hC1 := hC.keep h1
  have hk1 : (w.alloc (.cells #[.map (some o), .map (some lo), .map (some li), .slice ga bs.length gc, .map (some f)] 62)).heap[w.heap.size]? = some (.cells #[.map (some o), .map (some lo), .map (some li), .slice ga bs.length gc, .map (some f)] 62 (0, 0)) := heap_alloc_new w _
  obtain ⟨nf, hmf⟩ := hC1.far
  have hxs : x.size ≤ 1048576 := by rw [← hx, ch_size (by omega)]; decide
  have hk15 := hC.bound x _ hd
  have hk14 := hV.e.hi
  have hLook : ∀ q, (Instr.lookup 60 (.map (some f)) (.string (ch way n)) false).run Tryd.prog ((w.alloc (.cells #[.map (some o), .map (some lo), .map (some li), .slice ga bs.length gc, .map (some f)] 62)).drewN q) = .ok (.int .i64 (k : Int)) ((w.alloc (.cells #[.map (some o), .map (some lo), .map (some li), .slice ga bs.length gc, .map (some f)] 62)).drewN q) := fun q => by
    have hq : MapV ((w.alloc (.cells #[.map (some o), .map (some lo), .map (some li), .slice ga bs.length gc, .map (some f)] 62)).drewN q) f nf (fun s => dV (D s)) := hmf.same rfl
    have lk := hq.look Tryd.underlying60 (zeroInt _) (mx (show (ch way n).size ≤ 1048576 by rw [hx]; exact hxs))
    rw [hx] at lk ⊢
    rw [hd] at lk
    exact lk
  have HK := Lib.hid (And.intro hC1 (And.intro hk1 (And.intro hC (And.intro hV (And.intro h1 hx)))))
  have Hw := Lib.hid hw
  clear hC1 hk1 hC hV h1 hmf hx
  go_enter Tryd.func24, Tryd.ntmps24
  go_wp2
  go_quiet (exact Calls.quiet_of_same (lastOf_any way n Hw.out (by omega) _))
  go_wp2
  have hwA := below_drewN HK.out.2.2.2.2.1 nq
  have hkA : ((w.alloc (.cells #[.map (some o), .map (some lo), .map (some li), .slice ga bs.length gc, .map (some f)] 62)).drewN nq).heap[w.heap.size]? = some (.cells #[.map (some o), .map (some lo), .map (some li), .slice ga bs.length gc, .map (some f)] 62 (0, 0)) := heap_alloc_new w _
  have HA := Lib.hid (And.intro hwA (And.intro hkA (And.intro HK.out.2.2.1 (And.intro HK.out.2.2.2.1 HK.out.2.2.2.2.2)))); clear hwA hkA HK
  clear hLook
  generalize (w.alloc (.cells #[.map (some o), .map (some lo), .map (some li), .slice ga bs.length gc, .map (some f)] 62)).drewN nq = wA at *
  go_loopw [10, 1] (fun i v wr => ∃ (m : Nat) (t : ByteArray), i = .int .i64 m ∧ v = .string t ∧ Below wA.heap.size wA wr ∧ FinAt es D way x k m t) (fun i _ _ => k - (intOf i).toNat)
  case atStart => exact ⟨0, way, rfl, rfl, Below.refl _ _, FinAt.start Hw.out HA.out.2.2.2.2 hd⟩
  case round =>
    obtain ⟨m, t, rfl, rfl, hbl, hfin⟩ := hrel
    have hzA : w.heap.size < wA.heap.size := (Array.getElem?_eq_some_iff.1 HA.out.2.1).1
    have hkr := (hbl.block w.heap.size hzA).trans HA.out.2.1
    obtain ⟨⟨x0, x1, x2, x3, x4⟩, xa⟩ := block5 hkr
    have hall : Below w.heap.size w wr := HA.out.1.trans (hbl.mono (by omega))
    have hm := hfin.le
    have ht := hfin.size
    have HF := Lib.hid (And.intro hfin (And.intro hbl (And.intro hall hkr))); clear hfin hbl hall hkr
    by_cases hlt : (m : Int) < (k : Int)
    · have w1 : IntKind.i64.wrap ((m : Int) + 1) = (m : Int) + 1 := IntWalk.i64_in _ (by omega)
      obtain ⟨j, hj⟩ : ∃ j, k - m = j + 1 := ⟨k - m - 1, by omega⟩
      have hsz : t.size = n + m + 1 := by rw [ht, Hw.out]; omega
      have hdy : D (ch t (n + m)) = some (j + 1) := by
        obtain ⟨l, _, _, h3⟩ := HF.out.1.ex
        rw [show way.size + m - 1 = n + m by have := Hw.out; omega, hj] at h3
        exact h3
      have hys : (ch t (n + m)).size ≤ 1048576 := by rw [ch_size (by omega)]; decide
      have hts : t.size ≤ 1048576 := by omega
      have n1 : w.heap.size < wr.heap.size := by have := HF.out.2.1.size; omega
      have HS := Lib.hid (And.intro hsz (And.intro hk14 hk15)); have hn9 : n + 1 ≤ 1000 := by omega
      clear ht hw hws
      clear hsz
      go_wp2
      go_region_held3 (fun w' => w'.cell? ⟨w.heap.size, 0, none⟩ = some (.map (some o)) ∧ w'.cell? ⟨w.heap.size, 1, none⟩ = some (.map (some lo)) ∧ w'.cell? ⟨w.heap.size, 2, none⟩ = some (.map (some li)) ∧ w'.cell? ⟨w.heap.size, 3, none⟩ = some (.slice ga bs.length gc) ∧ w'.cell? ⟨w.heap.size, 4, none⟩ = some (.map (some f)) ∧ Below wr.heap.size wr w')
        (first
          | exact ⟨x0, x1, x2, x3, x4, (Below.refl _ _).drew⟩
          | exact ⟨x0, x1, x2, x3, x4, Below.refl _ _⟩
          | (subst_vars; assumption)
          | (have hq := below_new (‹_ ∧ _ ∧ _ ∧ _ ∧ _ ∧ Below wr.heap.size wr _›).2.2.2.2.2 hbN; exact ⟨(hq.cell (p := ⟨w.heap.size, 0, none⟩) n1).trans x0, (hq.cell (p := ⟨w.heap.size, 1, none⟩) n1).trans x1, (hq.cell (p := ⟨w.heap.size, 2, none⟩) n1).trans x2, (hq.cell (p := ⟨w.heap.size, 3, none⟩) n1).trans x3, (hq.cell (p := ⟨w.heap.size, 4, none⟩) n1).trans x4, hq⟩))
        (first
          | (go_at_call 30; refine (lastOf_any t (n + m) HS.out.1 hts _).mono ?_; rintro e wM ⟨rfl, rfl⟩)
          | (go_at_call 48; refine (nearer_any _ o lo li f j _ bs es D (ch t (n + m)) hys hdy HA.out.2.2.2.1 (HA.out.2.2.1.keep (HF.out.2.2.1.trans ((‹_ ∧ _ ∧ _ ∧ _ ∧ _ ∧ Below wr.heap.size wr _›).2.2.2.2.2.mono (by omega))))).mono ?_; rintro e wN ⟨⟨y, rfl, hy⟩, hbN⟩; have hno : ¬ (t.size + y.size > 9223372036854775807) := (by have hy1 : y.size = 1 := HA.out.2.2.2.1.name_size (HA.out.2.2.2.1.e.to _ hy.1); have := HS.out; omega)))
      have hq := (‹_ ∧ _ ∧ _ ∧ _ ∧ _ ∧ Below wr.heap.size wr _›).2.2.2.2.2
      have hy1 : y.size = 1 := HA.out.2.2.2.1.name_size (HA.out.2.2.2.1.e.to _ hy.1)
      have hA2 : Below wA.heap.size wA wN := HF.out.2.1.trans (hq.mono HF.out.2.1.size)
      have hnx := HF.out.1.next Hw.out HA.out.2.2.1.least (by omega) hy1 hy
      have HQ := Lib.hid (And.intro hA2 hnx); clear hA2 hnx hy1 hq
      go_wp2
      go_roundw
      case rel => exact ⟨m + 1, t ++ y, by go_num, rfl, HQ.out.1, HQ.out.2⟩
      case measure => simp [intOf]; omega
    · obtain rfl : m = k := by omega
      go_wp2
      go_ret
      obtain ⟨l, rfl, hg⟩ := HF.out.1.done
      exact ⟨⟨l, rfl, hg⟩, HF.out.2.2.1⟩
end Go.Proofs.YtfmhcjhcmoniaaaDoor
end

section
/-
  The program's ShortestRun. Conditions: none but what the law's program gives.
-/
namespace Go.Proofs.YtfmhcjhcmoniaaaDoor
open Go.RowKit Go.Maps

theorem ch_uno {x : ByteArray} (h : x.size = 1) : ch x 0 = x := by
  unfold ch
  rw [show 0 + 1 = x.size by omega]
  exact ByteArray.extract_zero_size
/-- what ShortestRun gives -/
def ShortPost (bs es : List Pr) (e : Ending) : Prop :=
  (Valid bs es ∧ ∃ t, e = .returned (.tuple #[.string t, .bool true]) ∧ Best es (nameAt bs 0) (lastN bs) t) ∨ (¬ Valid bs es ∧ e = .returned (.tuple #[.string ⟨#[]⟩, .bool false]))
set_option maxRecDepth 100000 in
theorem ShortestRun_impl (w : World) (bs es : List Pr) (ab ae : Option Addr) (cb ce : Nat) (hpb : PairsAt w ab bs) (hpe : PairsAt w ae es) (hg : Errs w) :
    Calls Tryd.prog 9 #[.agg #[.slice ab bs.length cb, .slice ae es.length ce]] w fun e w' => ShortPost bs es e ∧ Below w.heap.size w w' := by
  have h1 : Below w.heap.size w (w.alloc (.cells #[.slice ab bs.length cb, .slice ae es.length ce] 32)) := (Below.refl _ _).alloc (Nat.le_refl _) _
  have hpb1 := hpb.below h1
  have hpe1 := hpe.below h1
  have hg1 := hg.keep h1
  have H1 := Lib.hid h1; clear h1
  go_enter Tryd.func9, Tryd.ntmps9
  go_wp2_with fail
  refine (courseOf_any _ bs es _ _ _ _ hpb1 hpe1 hg1).mono ?_
  rintro e w1 ⟨hb1, hcase⟩
  have hall : Below w.heap.size w w1 := H1.out.trans (hb1.mono (by simp))
  have hz := hall.size
  rcases hcase with ⟨hv, o, lo, li, vn, f, D, rfl, hp⟩ | ⟨hv, rfl⟩
  · have hwa : Below w1.heap.size w1 (w1.alloc (.cells #[.map (some o), .map (some lo), .map (some li), vn, .map (some f)] 62)) := (Below.refl _ _).alloc (Nat.le_refl _) _
    obtain ⟨n, hn⟩ : ∃ n, bs.length = n + 1 := ⟨bs.length - 1, by have := hv.b.lo; omega⟩
    have hpA := hp.keep hwa
    have hkA : (w1.alloc (.cells #[.map (some o), .map (some lo), .map (some li), vn, .map (some f)] 62)).heap[w1.heap.size]? = some (.cells #[.map (some o), .map (some lo), .map (some li), vn, .map (some f)] 62 (0, 0)) := heap_alloc_new w1 _
    obtain ⟨⟨x0, x1, x2, x3, x4⟩, xa⟩ := block5 hkA
    obtain ⟨g, cap, rfl, hgw, hcells⟩ := names_cells hpA.names hn
    have q0 := hcells 0 (by omega)
    have N1 : (0 : Int) < (n : Int) + 1 := by omega
    obtain ⟨p0, hp0, he0⟩ := List.mem_map.1 (nameAt_mem (l := bs) (i := 0) (by omega))
    have hs1 : (nameAt bs 0).size = 1 := hv.name_size (List.mem_map.2 ⟨p0, hp0, he0⟩)
    obtain ⟨k, hk⟩ := hpA.least.reach (show Reach (flip es) (lastN bs) (nameAt bs 0) by have := hv.rz p0 hp0; rw [he0] at this; exact this)
    have HH := Lib.hid (And.intro hv (And.intro hpA (And.intro hall (And.intro hs1 hk))))
    have HW := Lib.hid hwa
    clear hv hp hpA hkA hall hs1 hk hwa hcells he0 hp0 hn
    have hwz : w1.heap.size < (w1.alloc (.cells #[.map (some o), .map (some lo), .map (some li), .slice (some ⟨g, 0, none⟩) (n + 1) cap, .map (some f)] 62)).heap.size := by simp
    go_wp2
    generalize (w1.alloc (.cells #[.map (some o), .map (some lo), .map (some li), .slice (some ⟨g, 0, none⟩) (n + 1) cap, .map (some f)] 62)) = wA at *
    go_region_held3 (fun w' => w'.cell? ⟨w1.heap.size, 0, none⟩ = some (.map (some o)) ∧ w'.cell? ⟨w1.heap.size, 1, none⟩ = some (.map (some lo)) ∧ w'.cell? ⟨w1.heap.size, 2, none⟩ = some (.map (some li)) ∧ w'.cell? ⟨w1.heap.size, 3, none⟩ = some (.slice (some ⟨g, 0, none⟩) (n + 1) cap) ∧ w'.cell? ⟨w1.heap.size, 4, none⟩ = some (.map (some f)) ∧ w'.cell? ⟨g, 0, none⟩ = some (.string (nameAt bs 0)) ∧ Below wA.heap.size wA w')
      (first
        | exact ⟨x0, x1, x2, x3, x4, q0, (Below.refl _ _).drew⟩
        | (have hq := below_new (‹_ ∧ _ ∧ _ ∧ _ ∧ _ ∧ _ ∧ Below wA.heap.size wA _›).2.2.2.2.2.2 hbN; exact ⟨(hq.cell (p := ⟨w1.heap.size, 0, none⟩) hwz).trans x0, (hq.cell (p := ⟨w1.heap.size, 1, none⟩) hwz).trans x1, (hq.cell (p := ⟨w1.heap.size, 2, none⟩) hwz).trans x2, (hq.cell (p := ⟨w1.heap.size, 3, none⟩) hwz).trans x3, (hq.cell (p := ⟨w1.heap.size, 4, none⟩) hwz).trans x4, (hq.cell (p := ⟨g, 0, none⟩) hgw).trans q0, hq⟩))
      (first
        | (go_at_call 24; refine (finish_any _ o lo li f k 0 _ bs es D (nameAt bs 0) (nameAt bs 0) HH.out.2.2.2.1 (by rw [HH.out.2.2.2.1]; decide) (ch_uno HH.out.2.2.2.1) HH.out.2.2.2.2 HH.out.1 ?_).mono ?_; (have hcc := HH.out.2.1.keep (‹_ ∧ _ ∧ _ ∧ _ ∧ _ ∧ _ ∧ Below wA.heap.size wA _›).2.2.2.2.2.2; exact hcc); rintro e wN ⟨⟨l, rfl, hgr⟩, hbN⟩))
    have hq := (‹_ ∧ _ ∧ _ ∧ _ ∧ _ ∧ _ ∧ Below wA.heap.size wA _›).2.2.2.2.2.2
    have hfin : Below w.heap.size w wN := HH.out.2.2.1.trans ((HW.out.trans (hq.mono HW.out.size)).mono hz)
    have hbest : Best es (nameAt bs 0) (lastN bs) (nameAt bs 0 ++ cat l) := by
      rw [← cat_cons]
      exact hgr.best HH.out.2.1.least fun e he => HH.out.1.name_size (HH.out.1.e.to _ he)
    go_wp2
    go_ret2
    exact ⟨.inl ⟨HH.out.1, _, rfl, hbest⟩, hfin⟩
  · have HN := Lib.hid hv
    clear hv
    go_wp2
    go_ret2
    exact ⟨.inr ⟨HN.out, rfl⟩, hall.alloc hz _⟩
end Go.Proofs.YtfmhcjhcmoniaaaDoor
end

section
/-
  namesAt: the names at the other ends of a block's edges, one behind the other. Conditions: at most twelve names, each of one byte; at most 1000 edges.
-/
namespace Go.Proofs.YtfmhcjhcmoniaaaDoor
open Go.RowKit Go.Maps

theorem flip_nodup {es : List Pr} (h : es.Nodup) : (flip es).Nodup := by
  unfold flip
  exact List.pairwise_map.2 (h.imp fun {a b} hab e => hab (by cases a; cases b; simp at e; rw [e.1, e.2]))
theorem join_empty : ∀ xs : List (List UInt8), Lib.join xs [] = xs.flatten
  | [] => by rw [Lib.join_nil]; rfl
  | x :: r => by rw [Lib.join_cons]; simp [Lib.joinTail]
theorem join_cat (l : List ByteArray) : (⟨(Lib.join (l.map (·.data.toList)) (⟨#[]⟩ : ByteArray).data.toList).toArray⟩ : ByteArray) = cat l := by
  apply bytes_ext2
  rw [cat_flat]
  show (Lib.join (l.map (·.data.toList)) []).toArray.toList = _
  rw [join_empty]
theorem join_names (w : World) (v : Value) (l : List ByteArray) (base : Nat) (hl : l.length ≤ 12) (hs : ∀ y ∈ l, y.size = 1) (ho : w.ownsRow base 9 1 v l.length (l.map Value.string)) :
    Calls Tryd.prog 54 #[v, .string ⟨#[]⟩] w fun e w' => e = .returned (.string (cat l)) ∧ Below w.heap.size w w' := by
  obtain ⟨h1, ⟨rfl, h0⟩ | ⟨g, cap, cur, rfl, _, hg, hc, hm, hcs, ht⟩⟩ := ho
  · refine (Tryd.strings_Join_none none 0 ⟨#[]⟩ w).mono fun e w' h => ⟨?_, by rw [h.2]; exact Below.refl _ _⟩
    obtain rfl : l = [] := List.eq_nil_of_length_eq_zero h0
    rw [h.1]; rfl
  · have hj : (Lib.join (l.map (·.data.toList)) (⟨#[]⟩ : ByteArray).data.toList).length ≤ 12 := by
      have := congrArg ByteArray.size (join_cat l)
      rw [cat_size hs] at this
      have h2 : (⟨(Lib.join (l.map (·.data.toList)) (⟨#[]⟩ : ByteArray).data.toList).toArray⟩ : ByteArray).size = (Lib.join (l.map (·.data.toList)) (⟨#[]⟩ : ByteArray).data.toList).length := by simp [ByteArray.size]
      omega
    have := Tryd.strings_Join g 0 cap l ⟨#[]⟩ w (fun j x hx => ?_) (Array.getElem?_eq_some_iff.1 hg).1 (by omega) hc (by omega)
    · rw [join_cat] at this
      exact this
    · have hjl := (List.getElem?_eq_some_iff.1 hx).1
      have hv : (cur.toList.take (l.length * 1))[j]? = some (.string x) := by rw [ht]; simp [hx]
      rw [List.getElem?_take, if_pos (by omega)] at hv
      simp only [Nat.zero_add]
      simp [World.cell?, hg]
      simpa using hv
theorem SortedFunc_nil (W : World) (Bm : Nat) (fv : Value) (hBm : Bm < W.heap.size) (hm : W.cell? ⟨Bm, 0, none⟩ = some (.map none)) :
    Calls Tryd.prog 51 #[.func (.func 67) #[] #[.pointer (some ⟨Bm, 0, none⟩)], fv] W (NamesPost W []) := by
  have hcol := collect_nil Bm W hBm hm
  clear hm
  go_enter Tryd.func51, Tryd.ntmps51
  go_wp2_with fail
  refine hcol.mono ?_
  rintro e w1 ⟨rfl, hb1⟩
  go_wp2_with fail
  refine (sort_none none 0 fv _).mono ?_
  rintro e w2 ⟨rfl, rfl⟩
  go_wp2
  go_ret
  exact ⟨_, rfl, World.ownsRow_nil _ _ _ _, hb1⟩

set_option maxRecDepth 100000 in
theorem namesAt_any (w : World) (lo : Nat) (fp : List Nat) (E : List Pr) (F : ByteArray → Option Value) (x : ByteArray) (hL : Links w lo fp E F) (hfp : ∀ k ∈ fp, k < w.heap.size) (hx : x.size ≤ 1048576) (hE : E.length ≤ 1000) (hnd : E.Nodup) (hl : (outL E x).length ≤ 12) (h1 : ∀ y ∈ outL E x, y.size = 1) :
    Calls Tryd.prog 29 #[.map (some lo), .string x] w fun e w' => e = .returned (.string (cat (outL E x))) ∧ Below w.heap.size w w' := by
  have lk := hL.map.look Tryd.underlying56 (zeroMap w) (mx hx)
  cases hFh : F x with
  | none =>
    rw [hFh] at lk
    simp only [Option.getD_none] at lk
    have hnil : outL E x = [] := List.eq_nil_iff_forall_not_mem.2 fun y hy => hL.none_ x hFh y (mem_outL.1 hy)
    rw [hnil]
    clear hFh hl h1 hnil hL hfp
    go_enter Tryd.func29, Tryd.ntmps29
    go_wp2_with fail
    refine (keys_call none _).mono ?_
    rintro e w1 ⟨rfl, rfl⟩
    go_wp2_with fail
    refine (SortedFunc_nil _ (w.heap.size + 1) _ (by simp) (by go_simp)).mono ?_
    rintro e w2 ⟨v, rfl, hown, hb⟩
    obtain ⟨av, ac, rfl⟩ := own_form hown
    have hj := join_names w2 _ [] _ (by simp) (by simp) hown
    have hz2 := hb.size
    have hbw : Below w.heap.size w w2 := (((Below.refl _ _).alloc (Nat.le_refl _) _).alloc (by simp) _).trans (hb.mono (by simp; omega))
    go_wp2_with fail
    refine hj.mono ?_
    rintro e w3 ⟨rfl, hb3⟩
    go_wp2
    go_ret
    exact ⟨rfl, hbw.trans (hb3.mono hbw.size)⟩
  | some v =>
    obtain ⟨bi, rfl, hbi, hmi, y, hy⟩ := hL.some_ x v hFh
    rw [hFh] at lk
    simp only [Option.getD_some] at lk
    have hbw := hfp bi hbi
    have hne : outL E x ≠ [] := fun e => by have := mem_outL.2 hy; rw [e] at this; cases this
    have hmA : MapV ((w.alloc (.cells #[.map (some bi)] 60)).alloc (.cells #[.map (some bi)] 60)) bi E.length (inner E x) := (hmi.alloc _).alloc _
    have hso := SortedFunc_any ((w.alloc (.cells #[.map (some bi)] 60)).alloc (.cells #[.map (some bi)] 60)) (w.heap.size + 1) w.heap.size bi E.length E x (by simp) (by go_simp) (by simp; omega) (by go_simp) hmA hE hnd hl (fun y hy => by rw [h1 y hy]; decide) hne
    have HL := Lib.hid (And.intro hl h1)
    clear hFh hl h1 hL hfp hmi hmA hne hy
    go_enter Tryd.func29, Tryd.ntmps29
    go_wp2_with fail
    refine (keys_call (some bi) _).mono ?_
    rintro e w1 ⟨rfl, rfl⟩
    go_wp2_with fail
    refine hso.mono ?_
    rintro e w2 ⟨v, rfl, hown, hb⟩
    obtain ⟨av, ac, rfl⟩ := own_form hown
    have hj := join_names w2 _ (outL E x) _ HL.out.1 HL.out.2 hown
    have hbw : Below w.heap.size w w2 := (((Below.refl _ _).alloc (Nat.le_refl _) _).alloc (by simp) _).trans (hb.mono (by simp; omega))
    clear hown
    go_wp2_with fail
    refine hj.mono ?_
    rintro e w3 ⟨rfl, hb3⟩
    go_wp2
    go_ret
    exact ⟨rfl, hbw.trans (hb3.mono hbw.size)⟩
end Go.Proofs.YtfmhcjhcmoniaaaDoor
end

section
/-
  WalkRun of the program. Conditions: at most 1048576 blocks, edges and picks, each text at most as many bytes; the errors' variables hold errors.
-/
namespace Go.Proofs.YtfmhcjhcmoniaaaDoor
open Go.RowKit Go.Maps

set_option maxRecDepth 100000 in
theorem arePicks_any (ns : List Int) (a : Option Addr) (cap : Nat) (w : World) (hp : IntsAt w a ns) :
    Calls Tryd.prog 28 #[.slice a ns.length cap] w fun e w' => e = .returned (.bool (picksOk ns)) ∧ w = w' := by
  have hl := hp.len
  by_cases h40 : (40 : Int) < (ns.length : Int)
  · have HN := Lib.hid (picksOk_long (ns := ns) (by omega))
    go_enter Tryd.func28, Tryd.ntmps28
    go_wp2
    go_ret
    exact ⟨ret_bool HN.out.symm, rfl⟩
  · have h40' : (ns.length : Int) ≤ 40 := by omega
    clear h40
    go_enter Tryd.func28, Tryd.ntmps28
    go_wp2
    go_loop [10] (fun i => ∃ k : Nat, k ≤ ns.length ∧ i = .int .i64 k ∧ ∀ j, j < k → 0 ≤ numAt ns j) (fun i => ns.length - (intOf i).toNat)
    case atStart => exact ⟨0, Nat.zero_le _, rfl, fun j hj => absurd hj (Nat.not_lt_zero _)⟩
    case round =>
      obtain ⟨k, hk, rfl, hno⟩ := hrel
      have Hno := Lib.hid hno; clear hno
      by_cases hlt : k < ns.length
      · obtain ⟨b, off, rfl, hb, hc⟩ := hp.cell k hlt
        by_cases hneg : numAt ns k < 0
        · have HN := Lib.hid (picksOk_neg hlt hneg)
          go_wp2
          go_ret
          exact ⟨ret_bool HN.out.symm, rfl⟩
        · have hge : 0 ≤ numAt ns k := by omega
          have HG := Lib.hid (show ∀ j, j < k + 1 → 0 ≤ numAt ns j from all_step Hno.out hge)
          clear hneg
          go_wp2
          go_round
          case rel => exact ⟨k + 1, by omega, by go_num, HG.out⟩
          case measure => simp [intOf]; omega
      · obtain rfl : k = ns.length := by omega
        have HN := Lib.hid (show picksOk ns = true from picksOk_iff.2 ⟨by omega, fun i hi => Hno.out i hi⟩)
        go_wp2
        go_ret
        exact ⟨ret_bool HN.out.symm, rfl⟩
theorem arePicks_lit (ns : List Int) (a : Option Addr) (cap : Nat) (b : Bool) (h : picksOk ns = b) (w : World) (hp : IntsAt w a ns) :
    Calls Tryd.prog 28 #[.slice a ns.length cap] w fun e w' => e = .returned (.bool b) ∧ w = w' := by subst h; exact arePicks_any ns a cap w hp
theorem walk_end {bs es : List Pr} {ns : List Int} {O : ByteArray} {l : List ByteArray} {D : ByteArray → Option Nat} (hV : Valid bs es) (hp : picksOk ns = true) (hF : Far (flip es) (lastN bs) D) (hO : OnWay bs O) (he : walkW es (lastN bs) (nameAt bs 0) ns = O) (hg : Gr es D (lastC O) l) :
    walkV bs es ns = .tuple #[.string (O ++ cat l), .bool true] := by
  have hb := hg.best hF (fun e he => hV.name_size (hV.e.to _ he))
  rw [walkV_yes (show validB bs es = true by simpa [validB] using hV) hp]
  unfold fullW
  rw [he, best_tail (hV.name_size hO.at_) hb]
theorem names_pos {bs es : List Pr} (hV : Valid bs es) {x : ByteArray} (hx : x ∈ names bs) (hz : x ≠ lastN bs) : 0 < (cat (outL es x)).size := by
  rw [cat_size (fun y hy => hV.name_size (hV.e.to _ (mem_outL.1 hy)))]
  exact outL_pos hV hx hz

set_option maxRecDepth 100000 in
set_option maxHeartbeats 6400000 in
theorem WalkRun_impl (w : World) (bs es : List Pr) (ab ae : Option Addr) (cb ce : Nat) (ns : List Int) (an : Option Addr) (cn : Nat) (hpb : PairsAt w ab bs) (hpe : PairsAt w ae es) (hpn : IntsAt w an ns) (hg : Errs w) :
    Calls Tryd.prog 13 #[.agg #[.slice ab bs.length cb, .slice ae es.length ce], .slice an ns.length cn] w fun e w' => e = .returned (walkV bs es ns) ∧ Below w.heap.size w w' := by
  have h1 : Below w.heap.size w (w.alloc (.cells #[.slice ab bs.length cb, .slice ae es.length ce] 32)) := (Below.refl _ _).alloc (Nat.le_refl _) _
  have hpb1 := hpb.below h1
  have hpe1 := hpe.below h1
  have hpn1 := hpn.below h1
  have hg1 := hg.keep h1
  have H1 := Lib.hid h1; clear h1
  go_enter Tryd.func13, Tryd.ntmps13
  go_wp2_with fail
  refine (courseOf_any _ bs es _ _ _ _ hpb1 hpe1 hg1).mono ?_
  rintro e w1 ⟨hb1, hcase⟩
  have hall : Below w.heap.size w w1 := H1.out.trans (hb1.mono (by simp))
  have hz := hall.size
  have hpn2 := hpn1.below hb1
  rcases hcase with ⟨hv, o, lo, li, vn, f, D, rfl, hp⟩ | ⟨hv, rfl⟩
  · have hwa : Below w1.heap.size w1 (w1.alloc (.cells #[.map (some o), .map (some lo), .map (some li), vn, .map (some f)] 62)) := (Below.refl _ _).alloc (Nat.le_refl _) _
    have hpn3 := hpn2.below hwa
    cases hpk : picksOk ns
    · have HN := Lib.hid (walkV_no2 (bs := bs) (es := es) hpk)
      have HP := Lib.hid (And.intro hpk hpn3)
      have hfin := hall.alloc hz (.cells #[.map (some o), .map (some lo), .map (some li), vn, .map (some f)] 62)
      obtain ⟨ga, gc, rfl⟩ := own_form hp.names
      clear hp hv hpk hpn3 hpn2 hwa
      go_wp2_with (go_at_call 28; refine (arePicks_lit ns _ _ _ HP.out.1 _ HP.out.2).mono ?_; rintro e w' ⟨rfl, rfl⟩)
      go_ret2
      exact ⟨by rw [HN.out]; rfl, hfin⟩
    · obtain ⟨n, hn⟩ : ∃ n, bs.length = n + 1 := ⟨bs.length - 1, by have := hv.b.lo; omega⟩
      have hpA := hp.keep hwa
      have hkA : (w1.alloc (.cells #[.map (some o), .map (some lo), .map (some li), vn, .map (some f)] 62)).heap[w1.heap.size]? = some (.cells #[.map (some o), .map (some lo), .map (some li), vn, .map (some f)] 62 (0, 0)) := heap_alloc_new w1 _
      obtain ⟨⟨x0, x1, x2, x3, x4⟩, xa⟩ := block5 hkA
      obtain ⟨g, cap, rfl, hgw, hcells⟩ := names_cells hpA.names hn
      have q0 := hcells 0 (by omega)
      have N1 : (0 : Int) < (n : Int) + 1 := by omega
      have hn40 : (ns.length : Int) ≤ 40 := by have := (picksOk_iff.1 hpk).1; omega
      have HH := Lib.hid (And.intro hv (And.intro hpA (And.intro (hall.alloc hz (.cells #[.map (some o), .map (some lo), .map (some li), .slice (some ⟨g, 0, none⟩) (n + 1) cap, .map (some f)] 62)) (And.intro hpk hpn3))))
      have hwz : w1.heap.size < (w1.alloc (.cells #[.map (some o), .map (some lo), .map (some li), .slice (some ⟨g, 0, none⟩) (n + 1) cap, .map (some f)] 62)).heap.size := by simp
      clear hv hp hpA hkA hall hwa hcells hn hpk hpn3 hpn2 hpn1 hpb1 hpe1 hg1 hb1
      go_wp2_with (go_at_call 28; refine (arePicks_lit ns _ _ _ HH.out.2.2.2.1 _ HH.out.2.2.2.2).mono ?_; rintro e w' ⟨rfl, rfl⟩)
      generalize (w1.alloc (.cells #[.map (some o), .map (some lo), .map (some li), .slice (some ⟨g, 0, none⟩) (n + 1) cap, .map (some f)] 62)) = wA at *
      have hzA := HH.out.2.2.1.size
      go_loopw [31, 8] (fun i v wr => ∃ k : Nat, k ≤ ns.length ∧ i = .int .i64 k ∧ v = .string (walkW es (lastN bs) (nameAt bs 0) (ns.take k)) ∧ Below wA.heap.size wA wr) (fun i _ _ => ns.length - (intOf i).toNat)
      case atStart => exact ⟨0, Nat.zero_le _, rfl, rfl, Below.refl _ _⟩
      case round =>
        obtain ⟨k, hk, rfl, rfl, hbl⟩ := hrel
        have hs2 := hbl.size
        obtain ⟨O, hO⟩ : ∃ O, O = walkW es (lastN bs) (nameAt bs 0) (ns.take k) := ⟨_, rfl⟩
        have hW : OnWay bs O := by rw [hO]; exact OnWay.walk HH.out.1 _ _ (OnWay.start HH.out.1)
        rw [← hO]
        obtain ⟨m, hm⟩ : ∃ m, O.size = m + 1 := ⟨O.size - 1, by have := hW.lo; omega⟩
        have hO20 := hW.hi
        have hOs : O.size ≤ 1048576 := by omega
        have hlc : ch O m = lastC O := by unfold lastC; rw [hm]; rfl
        obtain ⟨pp, hpp, hpe'⟩ := List.mem_map.1 hW.at_
        obtain ⟨kd, hkd⟩ := HH.out.2.1.least.reach (show Reach (flip es) (lastN bs) (lastC O) by have := HH.out.1.rz pp hpp; rw [hpe'] at this; exact this)
        have HO := Lib.hid (And.intro hO (And.intro hW (And.intro hm (And.intro hlc hkd)))); clear hO hW hm hlc hkd hpp hpe'
        have z0 := (hbl.cell (p := ⟨w1.heap.size, 0, none⟩) hwz).trans x0
        have z1 := (hbl.cell (p := ⟨w1.heap.size, 1, none⟩) hwz).trans x1
        have z2 := (hbl.cell (p := ⟨w1.heap.size, 2, none⟩) hwz).trans x2
        have z3 := (hbl.cell (p := ⟨w1.heap.size, 3, none⟩) hwz).trans x3
        have z4 := (hbl.cell (p := ⟨w1.heap.size, 4, none⟩) hwz).trans x4
        have hn1 : w1.heap.size < wr.heap.size := by omega
        have HB := Lib.hid hbl
        by_cases hlt : k < ns.length
        · have hbl' := hbl; clear hbl'
          obtain ⟨bn, on, rfl, hbn, hcn⟩ := HH.out.2.2.2.2.cell k hlt
          have d3 := (hbl.cell (p := ⟨bn, on + k, none⟩) hbn).trans hcn
          have hge : 0 ≤ numAt ns k := (picksOk_iff.1 HH.out.2.2.2.1).2 k hlt
          have HS := Lib.hid (walkW_succ (es := es) (z := lastN bs) (out := nameAt bs 0) hlt)
          have hmem : ∀ y ∈ outL es (ch O m), y ∈ names bs := fun y hy => HH.out.1.e.to (ch O m, y) (mem_outL.1 hy)
          have hl9 : (outL es (ch O m)).length ≤ 12 := Nat.le_trans (length_le_of_sub _ (names bs) (outL_nodup HH.out.1.e.nd (ch O m)) hmem) (by rw [names_length]; have := HH.out.1.b.hi; omega)
          have HM := Lib.hid (And.intro hl9 (fun y hy => HH.out.1.name_size (hmem y hy)))
          have hxm : (ch O m).size ≤ 1048576 := by rw [HO.out.2.2.2.1, HH.out.1.name_size HO.out.2.1.at_]; decide
          have hE14 : (es : List Pr).length ≤ 1000 := by have := HH.out.1.e.hi; omega
          clear hmem hl9 hcn hbl
          go_wp2
          go_region_held3 (fun w' => w'.cell? ⟨w1.heap.size, 0, none⟩ = some (.map (some o)) ∧ w'.cell? ⟨w1.heap.size, 1, none⟩ = some (.map (some lo)) ∧ w'.cell? ⟨w1.heap.size, 2, none⟩ = some (.map (some li)) ∧ w'.cell? ⟨w1.heap.size, 3, none⟩ = some (.slice (some ⟨g, 0, none⟩) (n + 1) cap) ∧ w'.cell? ⟨w1.heap.size, 4, none⟩ = some (.map (some f)) ∧ Below wr.heap.size wr w')
            (first
              | exact ⟨z0, z1, z2, z3, z4, (Below.refl _ _).drew⟩
              | exact ⟨z0, z1, z2, z3, z4, Below.refl _ _⟩
              | (subst_vars; assumption)
              | (have hq := below_new (‹_ ∧ _ ∧ _ ∧ _ ∧ _ ∧ Below wr.heap.size wr _›).2.2.2.2.2 hbN; exact ⟨(hq.cell (p := ⟨w1.heap.size, 0, none⟩) hn1).trans z0, (hq.cell (p := ⟨w1.heap.size, 1, none⟩) hn1).trans z1, (hq.cell (p := ⟨w1.heap.size, 2, none⟩) hn1).trans z2, (hq.cell (p := ⟨w1.heap.size, 3, none⟩) hn1).trans z3, (hq.cell (p := ⟨w1.heap.size, 4, none⟩) hn1).trans z4, hq⟩))
            (first
              | (go_at_call 30; refine (lastOf_any O m HO.out.2.2.1 hOs _).mono ?_; rintro e wM ⟨rfl, rfl⟩)
              | (go_at_call 29; obtain ⟨fp, F, hL, hfp⟩ := (HH.out.2.1.keep (HB.out.trans ((‹_ ∧ _ ∧ _ ∧ _ ∧ _ ∧ Below wr.heap.size wr _›).2.2.2.2.2.mono HB.out.size))).plan.out; refine (namesAt_any _ lo fp es F (ch O m) hL hfp hxm hE14 HH.out.1.e.nd HM.out.1 HM.out.2).mono ?_; rintro e wN ⟨rfl, hbN⟩; clear hL hfp))
          obtain ⟨k0, k1, k2, k3, k4, kb⟩ := (‹_ ∧ _ ∧ _ ∧ _ ∧ _ ∧ Below wr.heap.size wr wN›)
          have HQ := Lib.hid (HB.out.trans (kb.mono HB.out.size)); clear kb hbN z0 z1 z2 z3 z4
          obtain ⟨N, hN⟩ : ∃ N, N = cat (outL es (ch O m)) := ⟨_, rfl⟩
          rw [← hN]
          rw [HO.out.2.2.2.1] at hN
          have HNm := Lib.hid hN; clear hN
          by_cases hzz : lastC O = lastN bs
          · have HDn := Lib.hid (show walkW es (lastN bs) (nameAt bs 0) ns = O by
              have h5 := HO.out.1
              rw [h5]
              refine walkW_done (k := k) fun h => ?_
              rw [← h5] at h
              exact h.1 hzz)
            have hN0 : N = e0 := by rw [HNm.out, hzz, outL_exit HH.out.1]; rfl
            have t1 : N.toList = [] := by rw [hN0, ByteArray.toList_eq]; rfl
            have t2 : N.toList.isEmpty = true := by rw [t1]; rfl
            clear hN0 hzz
            have hck := HH.out.2.1.keep HQ.out
            have HCk := Lib.hid hck; clear hck
            go_wp2_with fail
            refine (finish_any _ o lo li f kd m _ bs es D O (lastC O) HO.out.2.2.1 (by omega) HO.out.2.2.2.1 HO.out.2.2.2.2 HH.out.1 HCk.out).mono ?_
            rintro e w5 ⟨⟨l, rfl, hgr⟩, hb5⟩
            have HE := Lib.hid (walk_end HH.out.1 HH.out.2.2.2.1 HH.out.2.1.least HO.out.2.1 HDn.out hgr)
            have hfin := HH.out.2.2.1.trans ((HQ.out.trans (hb5.mono HQ.out.size)).mono hzA)
            clear hgr hb5
            go_wp2
            go_ret2
            exact ⟨by rw [HE.out]; rfl, hfin⟩
          · have hp0 : 0 < N.size := by rw [HNm.out]; exact names_pos HH.out.1 HO.out.2.1.at_ hzz
            have t2 : N.toList.isEmpty = false := by rw [isEmpty_eq]; exact decide_eq_false fun e => by rw [e] at hp0; exact absurd hp0 (by decide)
            have t1 : ¬ N.toList = [] := fun e => by rw [e] at t2; cases t2
            by_cases h20 : (O.size : Int) < 20
            · obtain ⟨i, y, hi, hil, hy, hgd, hy1, hyn⟩ := pick_name HH.out.1 HO.out.2.1.at_ hzz (numAt ns k)
              have HE := Lib.hid (show stepW es (lastN bs) O (numAt ns k) = O ++ y by rw [stepW_go ⟨hzz, by omega⟩, hgd])
              have hL1 : ∀ y ∈ outL es (lastC O), y.size = 1 := fun y hy => HH.out.1.name_size (HH.out.1.e.to _ (mem_outL.1 hy))
              have hcs : N.size = (outL es (lastC O)).length := by rw [HNm.out]; exact cat_size hL1
              have hc1 : (0 : Int) < (N.size : Int) := by omega
              have hc2 : ¬ (N.size : Int) = 0 := by omega
              have hmod : numAt ns k % (N.size : Int) = (i : Int) := by rw [hcs]; exact hi
              have hchy : ch N i = y := by
                rw [HNm.out, ch_cat hL1 hil]
                rw [List.getElem?_eq_getElem hil] at hy
                exact Option.some.inj hy
              have w4 : IntKind.i64.wrap ((i : Int) + 1) = (i : Int) + 1 := IntWalk.i64_in _ (by have := outL_length es (lastC O); omega)
              have s4 : ∀ W : World, (Instr.slice 9 (.string N) (some (.int .i64 (i : Int))) (some (.int .i64 ((i : Int) + 1))) none).run Tryd.prog W = .ok (.string y) W := fun W => by
                rw [← hchy]; exact run_slice_str N ((i : Int)) ((i : Int) + 1) i (i + 1) rfl (by omega) (by omega) (by omega) W
              have t5 : ¬ 9223372036854775807 < O.size + y.size := by omega
              clear hzz hi hil hy hgd hy1 hyn hcs hL1 hchy
              go_wp2
              go_roundw
              case rel => exact ⟨k + 1, by omega, by go_num, by rw [HS.out, ← HO.out.1, HE.out], HQ.out⟩
              case measure => simp [intOf]; omega
            · have h20' : (20 : Int) ≤ (O.size : Int) := by omega
              have HDn := Lib.hid (show walkW es (lastN bs) (nameAt bs 0) ns = O by
                have h5 := HO.out.1
                rw [h5]
                refine walkW_done (k := k) fun h => ?_
                rw [← h5] at h
                omega)
              clear h20 hzz
              have hck := HH.out.2.1.keep HQ.out
              have HCk := Lib.hid hck; clear hck
              go_wp2_with fail
              refine (finish_any _ o lo li f kd m _ bs es D O (lastC O) HO.out.2.2.1 (by omega) HO.out.2.2.2.1 HO.out.2.2.2.2 HH.out.1 HCk.out).mono ?_
              rintro e w5 ⟨⟨l, rfl, hgr⟩, hb5⟩
              have HE := Lib.hid (walk_end HH.out.1 HH.out.2.2.2.1 HH.out.2.1.least HO.out.2.1 HDn.out hgr)
              have hfin := HH.out.2.2.1.trans ((HQ.out.trans (hb5.mono HQ.out.size)).mono hzA)
              clear hgr hb5
              go_wp2
              go_ret2
              exact ⟨by rw [HE.out]; rfl, hfin⟩
        · obtain rfl : k = ns.length := by omega
          clear hbl hlt
          have hck := HH.out.2.1.keep HB.out
          have HCk := Lib.hid hck; clear hck
          go_wp2_with fail
          refine (finish_any _ o lo li f kd m _ bs es D O (lastC O) HO.out.2.2.1 (by omega) HO.out.2.2.2.1 HO.out.2.2.2.2 HH.out.1 HCk.out).mono ?_
          rintro e w5 ⟨⟨l, rfl, hgr⟩, hb5⟩
          have HE := Lib.hid (walk_end HH.out.1 HH.out.2.2.2.1 HH.out.2.1.least HO.out.2.1 (by have := HO.out.1; rw [List.take_length] at this; exact this.symm) hgr)
          have hfin := HH.out.2.2.1.trans ((HB.out.trans (hb5.mono hs2)).mono hzA)
          clear hgr hb5
          go_wp2
          go_ret2
          exact ⟨by rw [HE.out]; rfl, hfin⟩
  · have HN := Lib.hid (walkV_no1 (ns := ns) (show validB bs es = false by simpa [validB] using hv))
    have hfin := fun o => hall.alloc hz o
    clear hv
    go_wp2
    go_ret2
    exact ⟨by rw [HN.out]; rfl, hfin _⟩
end Go.Proofs.YtfmhcjhcmoniaaaDoor
end

section
/-
  The walk of the law FnWalk. Conditions: what came in are bytes; the errors' variables hold errors.
-/
namespace Go.Proofs.YtfmhcjhcmoniaaaDoor
open Go.RowKit Go.Maps

section
variable (w : World) (bs es : List Pr) (ab ae : Option Addr) (cb ce : Nat)
theorem IsRun_implW (x : ByteArray) (h : Valid bs es) (hr : RunOk bs es x) (hpb : PairsAt w ab bs) (hpe : PairsAt w ae es) (hg : Errs w) :
    Calls Tryd.prog 16 #[.agg #[.slice ab bs.length cb, .slice ae es.length ce], .string x] w fun e w' => e = .returned (.bool true) ∧ Below w.heap.size w w' :=
  (IsRun_impl w bs es ab ae cb ce x (by have := hr.hi; omega) hpb hpe hg).mono fun e w' k => ⟨by rw [k.1, isRunB_iff.2 ⟨h, hr⟩], k.2⟩
theorem WalkRun_implW (ns : List Int) (an : Option Addr) (cn : Nat) (r : ByteArray) (b : Bool) (h : walkV bs es ns = .tuple #[.string r, .bool b]) (hpb : PairsAt w ab bs) (hpe : PairsAt w ae es) (hpn : IntsAt w an ns) (hg : Errs w) :
    Calls Tryd.prog 13 #[.agg #[.slice ab bs.length cb, .slice ae es.length ce], .slice an ns.length cn] w fun e w' => e = .returned (.tuple #[.string r, .bool b]) ∧ Below w.heap.size w w' :=
  (WalkRun_impl w bs es ab ae cb ce ns an cn hpb hpe hpn hg).mono fun e w' k => ⟨by rw [k.1, h], k.2⟩
theorem WalkRun_specW (ns : List Int) (an : Option Addr) (cn : Nat) (r : ByteArray) (b : Bool) (h : walkV bs es ns = .tuple #[.string r, .bool b]) (hpb : PairsAt w ab bs) (hpe : PairsAt w ae es) (hpn : IntsAt w an ns) :
    Calls Tryd.prog 11 #[.agg #[.slice ab bs.length cb, .slice ae es.length ce], .slice an ns.length cn] w fun e w' => e = .returned (.tuple #[.string r, .bool b]) ∧ Below w.heap.size w w' :=
  (WalkRun_spec w bs es ab ae cb ce ns an cn hpb hpe hpn).mono fun e w' k => ⟨by rw [k.1, h], k.2⟩
theorem WalkRun_nil (r : ByteArray) (b : Bool) (h : walkV bs es [] = .tuple #[.string r, .bool b]) (hpb : PairsAt w ab bs) (hpe : PairsAt w ae es) (hg : Errs w) :
    Calls Tryd.prog 13 #[.agg #[.slice ab bs.length cb, .slice ae es.length ce], .slice none 0 0] w fun e w' => e = .returned (.tuple #[.string r, .bool b]) ∧ Below w.heap.size w w' :=
  WalkRun_implW w bs es ab ae cb ce [] none 0 r b h hpb hpe ⟨Nat.zero_le _, fun _ hi => absurd hi (Nat.not_lt_zero _)⟩ hg
theorem ShortestRun_implW (h : Valid bs es) (hpb : PairsAt w ab bs) (hpe : PairsAt w ae es) (hg : Errs w) :
    Calls Tryd.prog 9 #[.agg #[.slice ab bs.length cb, .slice ae es.length ce]] w fun e w' => e = .returned (.tuple #[.string (bestT es (nameAt bs 0) (lastN bs)), .bool true]) ∧ Below w.heap.size w w' :=
  (ShortestRun_impl w bs es ab ae cb ce hpb hpe hg).mono fun e w' ⟨k, hb⟩ => by
    refine ⟨?_, hb⟩
    rcases k with ⟨_, t, rfl, hbest⟩ | ⟨hv, _⟩
    · rw [bestT_eq hbest]
    · exact absurd h hv
end

set_option maxRecDepth 100000 in
set_option maxHeartbeats 6400000 in
theorem LawFnWalk_any (w : World) (a : Option Addr) (n cap : Nat) (hby : BytesRaw w a n cap) (hg : Errs w) :
    Calls Tryd.prog 5 #[.slice a n cap] w fun e w' => e = .returned (.bool true) ∧ Below w.heap.size w w' := by
  go_enter Tryd.func5, Tryd.ntmps5
  by_cases hL : (1048576 : Int) < (n : Int)
  · go_wp2
    go_ret
    exact ⟨rfl, Below.refl _ _⟩
  have HG := Lib.hid hg
  clear hg
  go_wp2_with fail
  refine (DrawWalkRun_any w a n cap hby).mono ?_
  rintro e w1 ⟨bs, es, ab, ae, cb, ce, ns, an, cn, rfl, hSb, hSe, hnl, hPb, hPe, hPn, hb1⟩
  have hW : Below w1.heap.size w1 (w1.alloc (.cells #[.slice ab bs.length cb, .slice ae es.length ce] 32)) := (Below.refl _ _).alloc (Nat.le_refl _) _
  have hP := PAt.new ab ae cb ce hPb hPe
  have hN := hPn.below hW
  have hall : Below w.heap.size w (w1.alloc (.cells #[.slice ab bs.length cb, .slice ae es.length ce] 32)) := hb1.trans (hW.mono hb1.size)
  go_upto_region 4 with fail
  generalize hwP : w1.alloc (.cells #[.slice ab bs.length cb, .slice ae es.length ce] 32) = wP at *
  have hz1 : w1.heap.size < wP.heap.size := by rw [← hwP]; simp
  have HSm := Lib.hid (show ∀ W', Below wP.heap.size wP W' → (W'.cell? ⟨w1.heap.size, 0, none⟩ = some (.slice ab bs.length cb) ∧ W'.cell? ⟨w1.heap.size, 1, none⟩ = some (.slice ae es.length ce) ∧ w1.heap.size < W'.heap.size) from fun W' hB => ⟨(hP.below hB).c0, (hP.below hB).c1, Nat.lt_of_lt_of_le hz1 hB.size⟩)
  have HPP := Lib.hid (show ∀ W', Below wP.heap.size wP W' → (PairsAt W' ab bs ∧ PairsAt W' ae es ∧ Errs W' ∧ IntsAt W' an ns) from fun W' hB => ⟨(hP.below hB).b, (hP.below hB).e, HG.out.keep (hall.trans (hB.mono hall.size)), hN.below hB⟩)
  have HF := Lib.hid (show ∀ W', Below wP.heap.size wP W' → Below w.heap.size w W' from fun W' hB => hall.trans (hB.mono hall.size))
  obtain ⟨c0, c1, _⟩ := HSm.out _ (Below.refl _ _)
  have hbl := hSb.1
  generalize w1.heap.size = q at *
  clear hwP hW hP hN hPb hPe hPn hb1 hSb hSe hby hall HG hz1
  have H0 := Lib.hid (HPP.out _ (Below.refl _ _))
  cases hh : (validB bs es && picksOk ns)
  · have HE := Lib.hid (show walkV bs es ns = .tuple #[.string e0, .bool false] by unfold walkV; rw [hh]; rfl)
    clear hh
    go_wp2_with fail
    refine (WalkRun_implW _ bs es _ _ _ _ ns _ _ _ _ HE.out H0.out.1 H0.out.2.1 H0.out.2.2.2 H0.out.2.2.1).mono ?_
    rintro e w2 ⟨rfl, hb2⟩
    have HQ2 := Lib.hid hb2
    have H2 := Lib.hid (HPP.out _ hb2)
    obtain ⟨c0, c1, _⟩ := HSm.out _ HQ2.out
    clear hb2
    go_wp2_with fail
    refine (WalkRun_specW _ bs es _ _ _ _ ns _ _ _ _ HE.out H2.out.1 H2.out.2.1 H2.out.2.2.2).mono ?_
    rintro e w3 ⟨rfl, hb3⟩
    have HQ3 := Lib.hid (HF.out _ (below_new HQ2.out hb3))
    have z0 : (⟨#[]⟩ : ByteArray).toList = [] := by rw [ByteArray.toList_eq]
    have z1 : e0.toList = [] := z0
    clear hb3 HQ2 H2
    go_wp2
    go_ret
    exact ⟨rfl, HQ3.out⟩
  · obtain ⟨hv, hp⟩ : validB bs es = true ∧ picksOk ns = true := by simpa using hh
    have hV : Valid bs es := by simpa [validB] using hv
    obtain ⟨hrun, hlen⟩ := full_run hV ns
    obtain ⟨hsr, hmin⟩ := short_run hV
    have hle := hmin _ hrun
    have hb9 := hV.b.hi
    obtain ⟨F, hF⟩ : ∃ F, fullW bs es ns = F := ⟨_, rfl⟩
    obtain ⟨B, hB⟩ : ∃ B, bestT es (nameAt bs 0) (lastN bs) = B := ⟨_, rfl⟩
    rw [hF] at hrun hlen hle
    rw [hB] at hsr hle
    have HE := Lib.hid (And.intro (show walkV bs es ns = .tuple #[.string F, .bool true] by rw [walkV_yes hv hp, hF]) (And.intro (show walkV bs es [] = .tuple #[.string B, .bool true] by rw [walkV_yes hv rfl, full_nil hV, hB]) (And.intro hB (And.intro hV (And.intro hrun hsr)))))
    have i1 : (B.size : Int) ≤ (F.size : Int) := by omega
    have i2 : IntKind.i64.wrap (20 + (bs.length : Int)) = 20 + (bs.length : Int) := IntWalk.i64_in _ (by omega)
    have i3 : (F.size : Int) ≤ 20 + (bs.length : Int) := by omega
    have tF : (F.toList == F.toList) = true := by rw [toList_eq_iff]; exact decide_eq_true rfl
    have tB : (B.toList == B.toList) = true := by rw [toList_eq_iff]; exact decide_eq_true rfl
    clear hh hv hp hV hrun hsr hmin hF hB hle hlen hb9
    go_wp2_with fail
    refine (WalkRun_implW _ bs es _ _ _ _ ns _ _ _ _ HE.out.1 H0.out.1 H0.out.2.1 H0.out.2.2.2 H0.out.2.2.1).mono ?_
    rintro e w2 ⟨rfl, hb2⟩
    have HQ2 := Lib.hid hb2
    have H2 := Lib.hid (HPP.out _ hb2)
    obtain ⟨c0, c1, _⟩ := HSm.out _ HQ2.out
    clear hb2
    go_wp2_with fail
    refine (WalkRun_specW _ bs es _ _ _ _ ns _ _ _ _ HE.out.1 H2.out.1 H2.out.2.1 H2.out.2.2.2).mono ?_
    rintro e w3 ⟨rfl, hb3⟩
    have HQ3 := Lib.hid (below_new HQ2.out hb3)
    have H3 := Lib.hid (HPP.out _ HQ3.out)
    obtain ⟨c0, c1, _⟩ := HSm.out _ HQ3.out
    clear hb3 HQ2 H2
    go_wp2_with fail
    refine (ShortestRun_implW _ bs es _ _ _ _ HE.out.2.2.2.1 H3.out.1 H3.out.2.1 H3.out.2.2.1).mono ?_
    rintro e w4 ⟨rfl, hb4⟩
    rw [HE.out.2.2.1]
    have HQ4 := Lib.hid (below_new HQ3.out hb4)
    have H4 := Lib.hid (HPP.out _ HQ4.out)
    obtain ⟨c0, c1, _⟩ := HSm.out _ HQ4.out
    clear hb4 HQ3 H3
    go_wp2_with fail
    refine (WalkRun_nil _ bs es _ _ _ _ _ _ HE.out.2.1 H4.out.1 H4.out.2.1 H4.out.2.2.1).mono ?_
    rintro e w5 ⟨rfl, hb5⟩
    have HQ5 := Lib.hid (below_new HQ4.out hb5)
    have H5 := Lib.hid (HPP.out _ HQ5.out)
    obtain ⟨c0, c1, _⟩ := HSm.out _ HQ5.out
    clear hb5 HQ4 H4
    go_wp2_with fail
    refine (IsRun_implW _ bs es _ _ _ _ _ HE.out.2.2.2.1 HE.out.2.2.2.2.1 H5.out.1 H5.out.2.1 H5.out.2.2.1).mono ?_
    rintro e w6 ⟨rfl, hb6⟩
    have HQ6 := Lib.hid (below_new HQ5.out hb6)
    have H6 := Lib.hid (HPP.out _ HQ6.out)
    obtain ⟨c0, c1, _⟩ := HSm.out _ HQ6.out
    clear hb6 HQ5 H5
    go_wp2_with fail
    refine (IsRun_implW _ bs es _ _ _ _ _ HE.out.2.2.2.1 HE.out.2.2.2.2.2 H6.out.1 H6.out.2.1 H6.out.2.2.1).mono ?_
    rintro e w7 ⟨rfl, hb7⟩
    have HQ7 := Lib.hid (below_new HQ6.out hb7)
    obtain ⟨c0, c1, _⟩ := HSm.out _ HQ7.out
    have HZ := Lib.hid (HF.out _ HQ7.out)
    clear hb7 HQ6 H6
    go_wp2
    go_ret
    exact ⟨rfl, HZ.out⟩
end Go.Proofs.YtfmhcjhcmoniaaaDoor
end
