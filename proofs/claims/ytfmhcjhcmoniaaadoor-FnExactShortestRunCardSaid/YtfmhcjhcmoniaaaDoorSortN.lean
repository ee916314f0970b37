/-
  The names that a map of edges holds, sorted by the edges' places: slices.SortedFunc over maps.Keys with namesAt's closure. Conditions: at most twelve names, each of one byte; at most 1000 edges.
-/
import Derived.Test.YtfmhcjhcmoniaaaDoorNamesM
import Derived.Test.YtfmhcjhcmoniaaaDoorShelf
namespace Go.Proofs.YtfmhcjhcmoniaaaDoor
open Go.RowKit Go.Maps

/-- the place of an edge, 0 if there is none -/
def ixN (E : List Pr) (x s : ByteArray) : Int := match idx E (x, s) with | some i => (i : Int) | none => 0
theorem inner_getD (E : List Pr) (x s : ByteArray) : (inner E x s).getD (.int .i64 0) = .int .i64 (ixN E x s) := by
  unfold inner ixN
  cases idx E (x, s) <;> rfl
theorem ixN_bd (E : List Pr) (x s : ByteArray) : 0 ≤ ixN E x s ∧ ixN E x s ≤ E.length := by
  unfold ixN
  split
  · rename_i i h
    have := (List.getElem?_eq_some_iff.1 (idx_some _ _ _ h).1).1
    omega
  · omega
theorem nodup_at {E : List Pr} (h : E.Nodup) {i : Nat} (hi : i < E.length) : idx E E[i] = some i :=
  idx_hit _ _ _ (List.getElem?_eq_getElem hi) (fun j hj e => by
    have := nodup_idx.1 h j i hj hi
    rw [e, List.getElem?_eq_getElem hi] at this
    exact this rfl)
theorem outL_sorted {E : List Pr} (h : E.Nodup) (x : ByteArray) : (outL E x).Pairwise fun a b => ixN E x a < ixN E x b := by
  unfold outL
  rw [List.pairwise_map]
  have h1 : E.Pairwise fun p q => ∀ i j, idx E p = some i → idx E q = some j → i < j := by
    rw [List.pairwise_iff_getElem]
    intro i j hi hj hij a b ha hb
    rw [nodup_at h hi] at ha
    rw [nodup_at h hj] at hb
    cases ha; cases hb; exact hij
  refine (List.Pairwise.filter (fun e : Pr => decide (e.1 = x)) h1).imp_of_mem fun {p q} hp hq hpq => ?_
  have e1 : p.1 = x := by simpa using (List.mem_filter.1 hp).2
  have e2 : q.1 = x := by simpa using (List.mem_filter.1 hq).2
  obtain ⟨i, hi, ei⟩ := List.getElem_of_mem (List.mem_filter.1 hp).1
  obtain ⟨j, hj, ej⟩ := List.getElem_of_mem (List.mem_filter.1 hq).1
  have h2 := nodup_at h hi
  have h3 := nodup_at h hj
  rw [ei] at h2
  rw [ej] at h3
  have h4 := hpq i j h2 h3
  have p1 : (x, p.2) = p := by rw [← e1]
  have q1 : (x, q.2) = q := by rw [← e2]
  unfold ixN
  rw [p1, q1, h2, h3]
  show (i : Int) < (j : Int)
  omega
theorem outL_nodup {E : List Pr} (h : E.Nodup) (x : ByteArray) : (outL E x).Nodup :=
  (outL_sorted h x).imp fun {a b} hab e => by rw [e] at hab; omega
theorem eq_of_perm_sorted {β : Type} (f : β → Int) : ∀ l1 l2 : List β, l1.Perm l2 → l1.Pairwise (fun a b => f a ≤ f b) → l2.Pairwise (fun a b => f a < f b) → l1 = l2
  | l1, [], hp, _, _ => by simpa using hp
  | [], b :: r2, hp, _, _ => by have := hp.length_eq; simp at this
  | a :: r1, b :: r2, hp, h1, h2 => by
    have ha : a ∈ b :: r2 := hp.mem_iff.1 (List.mem_cons_self ..)
    have hb : b ∈ a :: r1 := hp.mem_iff.2 (List.mem_cons_self ..)
    have hab : a = b := by
      rcases List.mem_cons.1 ha with h | h
      · exact h
      · rcases List.mem_cons.1 hb with h' | h'
        · exact h'.symm
        · have := (List.pairwise_cons.1 h2).1 a h
          have := (List.pairwise_cons.1 h1).1 b h'
          omega
    subst hab
    rw [eq_of_perm_sorted f r1 r2 hp.cons_inv (List.pairwise_cons.1 h1).2 (List.pairwise_cons.1 h2).2]
theorem length_le_of_sub {α : Type} [DecidableEq α] : ∀ (l m : List α), l.Nodup → (∀ x ∈ l, x ∈ m) → l.length ≤ m.length
  | [], _, _, _ => Nat.zero_le _
  | a :: r, m, hd, hs => by
    have ha : a ∈ m := hs a (List.mem_cons_self ..)
    have h1 := length_le_of_sub r (m.erase a) (List.nodup_cons.1 hd).2 (fun x hx => (List.mem_erase_of_ne (fun e : x = a => (List.nodup_cons.1 hd).1 (by rw [← e]; exact hx))).2 (hs x (List.mem_cons_of_mem _ hx)))
    have h2 := List.length_erase_of_mem ha
    have h3 : 0 < m.length := List.length_pos_of_mem ha
    simp only [List.length_cons]
    omega

/-- a text that can be a key -/
abbrev Nm := { s : ByteArray // s.size ≤ 1048576 }
instance : Inhabited Nm := ⟨⟨e0, by decide⟩⟩
def encN (x : Nm) : Value := .string x.1
theorem heap_sortW {α : Type} [Inhabited α] (enc : α → Value) (w : World) (blk off m : Nat) (dk : Array α) (os : Array Obj) {k : Nat} (hk : k < w.heap.size) (hne : k ≠ blk) : (sortWorld enc w blk off m dk os).heap[k]? = w.heap[k]? := by
  unfold sortWorld
  rw [Sort.heap_grow_old _ _ (by simpa using hk)]
  have h' : blk ≠ k := Ne.symm hne
  simp [Sort.putRow, Sort.mapBlock, Sort.ahead, Array.getElem?_modify, h']

set_option maxRecDepth 100000 in
theorem cmp_any (E : List Pr) (x : ByteArray) (hE : E.length ≤ 1000) (W : World) (H : Nat) (mb : Option Nat) (hbox : W.cell? ⟨H, 0, none⟩ = some (.map mb)) (a b : ByteArray)
    (ha : (Instr.lookup 60 (.map mb) (.string a) false).run Tryd.prog W = .ok (.int .i64 (ixN E x a)) W) (hb : (Instr.lookup 60 (.map mb) (.string b) false).run Tryd.prog W = .ok (.int .i64 (ixN E x b)) W) :
    Calls Tryd.prog 53 #[.string a, .string b, .pointer (some ⟨H, 0, none⟩)] W fun e w' => e = .returned (.int .i64 (ixN E x a - ixN E x b)) ∧ w' = W := by
  obtain ⟨a1, a2⟩ := ixN_bd E x a
  obtain ⟨b1, b2⟩ := ixN_bd E x b
  have hw : IntKind.i64.wrap (ixN E x a - ixN E x b) = ixN E x a - ixN E x b := IntWalk.i64_in _ (by omega)
  generalize ixN E x a = va at *
  generalize ixN E x b = vb at *
  go_enter Tryd.func53, Tryd.ntmps53
  go_wp2
  go_ret
  exact ⟨rfl, rfl⟩

/-- maps.Keys at a map of places -/
theorem keys_call (mb : Option Nat) (W : World) : Calls Tryd.prog 52 #[.map mb] W fun e w' => e = .returned (.func (.func 67) #[] #[.pointer (some ⟨W.heap.size, 0, none⟩)]) ∧ w' = W.alloc (.cells #[.map mb] 60) :=
  (callsIn_wide (n := 5)).1 (AnyZ.keys_in Tryd.keysS Fence.wide 5 trivial rfl mb W)
/-- slices.Collect at what it handed back -/
theorem collect_call (Bm b n : Nat) (D0 : DataW Value) (W : World) (hBm : Bm < W.heap.size) (hm : W.cell? ⟨Bm, 0, none⟩ = some (.map (some b))) (hown : W.ownsMap Tryd.prog 9 hR b n D0) (h1 : Maps.size D0 ≤ 1000) :
    Calls Tryd.prog 65 #[.func (.func 67) #[] #[.pointer (some ⟨Bm, 0, none⟩)]] W fun e w' => ∃ (v : Value) (ss : List (List UInt8)), e = .returned v ∧ ss.Perm (strKeys D0) ∧ w'.ownsRow W.heap.size 9 1 v ss.length (ss.map encStr) ∧ (v = .slice none 0 0 ↔ ss = []) ∧ Below W.heap.size W w' :=
  (callsIn_wide (n := 5)).1 (AnyZ.collect_in Tryd.collectS Fence.wide 5 trivial trivial rfl (by omega) 67 #[.pointer (some ⟨Bm, 0, none⟩)] trivial (enters_of Tryd.func67 (by kernel_rfl) rfl) _ (Maps.size D0) (by unfold maxLen; omega) (by omega) W
    (AnyZ.keys_gives (ρ := Tryd.keysS_ren) { Tryd.keysS with } Fence.wide _ trivial rfl (by omega) Bm b n D0 W hBm hm hown))
theorem collect_nil (Bm : Nat) (W : World) (hBm : Bm < W.heap.size) (hm : W.cell? ⟨Bm, 0, none⟩ = some (.map none)) :
    Calls Tryd.prog 65 #[.func (.func 67) #[] #[.pointer (some ⟨Bm, 0, none⟩)]] W fun e w' => e = .returned (.slice none 0 0) ∧ Below W.heap.size W w' :=
  ((callsIn_wide (n := 5)).1 (AnyZ.collect_in Tryd.collectS Fence.wide 5 trivial trivial rfl (by omega) 67 #[.pointer (some ⟨Bm, 0, none⟩)] trivial (enters_of Tryd.func67 (by kernel_rfl) rfl) (fun ss => ss = []) 0 (by unfold maxLen; omega) (by omega) W
    (AnyZ.keys_gives_nil (ρ := Tryd.keysS_ren) { Tryd.keysS with } Fence.wide _ trivial rfl Bm W hBm hm))).mono fun e w' ⟨v, ss, he, hs, _, hn, hb⟩ => ⟨by rw [he, hn.2 hs], hb⟩

set_option maxHeartbeats 1000000 in
theorem ins_none (p : Option Addr) (cap : Nat) (fv : Value) (w : World) :
    Calls Tryd.prog 84 #[.slice p 0 cap, .int .i64 0, .int .i64 0, fv] w fun e w' => e = .returned (.tuple #[]) ∧ w' = w := by
  go_enter Tryd.func84, Tryd.ntmps84
  go_wp2
  refine wp_loop_rounds 1 ?_
  rw [rounds_succ]
  go_wp2
  go_end0
  exact ⟨rfl, rfl⟩
set_option maxHeartbeats 1000000 in
theorem pdq_none (p : Option Addr) (cap : Nat) (lim : Int) (fv : Value) (w : World) :
    Calls Tryd.prog 78 #[.slice p 0 cap, .int .i64 0, .int .i64 0, .int .i64 lim, fv] w fun e w' => e = .returned (.tuple #[]) ∧ w' = w := by
  go_enter Tryd.func78, Tryd.ntmps78
  go_wp2
  refine wp_loop_rounds 1 ?_
  rw [rounds_succ]
  go_wp2_with fail
  refine (ins_none p cap fv _).mono ?_
  rintro e w' ⟨rfl, rfl⟩
  go_wp2
  (try simp only [Exit.inBlock, Exit.then]); refine bodyPost_ret (results_none rfl _ _ _) rfl ?_
  exact ⟨rfl, rfl⟩
theorem len0 (W : World) : Calls Tryd.prog 79 #[.int .u64 0] W fun e w' => (∃ l : Int, e = .returned (.int .i64 l)) ∧ w' = W :=
  (Tryd.bits_Len 0 W (by omega) (by omega)).mono fun _ _ ⟨he, hw⟩ => ⟨⟨_, he⟩, hw⟩
theorem lenN (n : Nat) (W : World) (h : n ≤ 12) : Calls Tryd.prog 79 #[.int .u64 n] W fun e w' => (∃ l : Int, e = .returned (.int .i64 l)) ∧ w' = W :=
  (Tryd.bits_Len n W (by omega) (by omega)).mono fun _ _ ⟨he, hw⟩ => ⟨⟨_, he⟩, hw⟩
theorem sort_none (p : Option Addr) (cap : Nat) (fv : Value) (w : World) :
    Calls Tryd.prog 66 #[.slice p 0 cap, fv] w fun e w' => e = .returned (.tuple #[]) ∧ w' = w := by
  go_enter Tryd.func66, Tryd.ntmps66
  go_wp2_with fail
  refine (len0 _).mono ?_
  rintro e w' ⟨⟨l, rfl⟩, rfl⟩
  go_wp2_with fail
  refine (pdq_none p cap l fv _).mono ?_
  rintro e w' ⟨rfl, rfl⟩
  go_wp2
  go_end0
  exact ⟨rfl, rfl⟩

/-- the row behind the sort -/
theorem own_putRow {w : World} {base g cap n : Nat} {e : TypeId} {cur : Array Value} (d' : Array Nm) (hb : w.heap[g]? = some (.cells cur e (0, 0))) (hbase : base ≤ g) (h1 : d'.size ≤ cap) (h2 : cap ≤ maxLen) (h3 : cur.size = cap * 1) :
    ((Sort.putRow encN w g 0 d').drewN n).ownsRow base e 1 (.slice (some ⟨g, 0, none⟩) d'.size cap) d'.size (d'.toList.map encN) := by
  refine ⟨by simp, .inr ⟨g, cap, Sort.putCells encN 0 d' cur, rfl, hbase, ?_, h1, h2, by simp [Sort.putCells, h3], ?_⟩⟩
  · show (Sort.putRow encN w g 0 d').heap[g]? = _
    simp [Sort.putRow, Sort.mapBlock, Array.getElem?_modify, hb, Sort.onCells]
  · apply List.ext_getElem?
    intro j
    by_cases hj : j < d'.size
    · rw [List.getElem?_take_of_lt (by omega), Array.getElem?_toList]
      simp [Sort.putCells, hj, show j < cur.size by omega]
    · rw [List.getElem?_take_eq_none (by omega), List.getElem?_eq_none (by simp; omega)]
theorem grown_putRow {w : World} {g n : Nat} (d' : Array Nm) : w.grownBy ((Sort.putRow encN w g 0 d').drewN n) (some g) := by
  refine ⟨rfl, rfl, rfl, by simp, fun k hk hne => ?_⟩
  show (Sort.putRow encN w g 0 d').heap[k]? = _
  have h' : g ≠ k := fun e => hne (by rw [e])
  simp [Sort.putRow, Sort.mapBlock, Array.getElem?_modify, h']
def nmOf (l : List UInt8) : Nm := if h : l.length ≤ 1048576 then ⟨⟨l.toArray⟩, by simpa [ByteArray.size] using h⟩ else default
theorem nmOf_enc {l : List UInt8} (h : l.length ≤ 1048576) : encN (nmOf l) = encStr l := by unfold nmOf encN; rw [dif_pos h]
theorem swo_ix (E : List Pr) (x : ByteArray) : Sort.SWO (ltOf fun a b : Nm => ixN E x a.1 - ixN E x b.1) where
  irrefl a := by simp [ltOf]
  trans a b c h1 h2 := by simp [ltOf] at *; omega
  ntrans a b c h1 h2 := by simp [ltOf] at *; omega
/-- what the keys are -/
theorem keys_perm {W : World} {b n : Nat} {D0 : DataW Value} {E : List Pr} {x : ByteArray} (hown : W.ownsMap Tryd.prog 9 hR b n D0) (hD : AtF D0 (inner E x)) (hnd : E.Nodup) : ((outL E x).map (·.data.toList)).Perm (strKeys D0) := by
  obtain ⟨es, hE, hpw, _⟩ := hown.entries keyed
  obtain ⟨es', hE', hk⟩ := hown.keysOf
  obtain rfl : es = es' := by rw [hE] at hE'; simpa using hE'
  subst hE
  refine perm_strKeys hpw (fun p hp => ?_) ?_ (fun a => ?_)
  · obtain ⟨v, hv⟩ := hk p hp
    obtain ⟨s, rfl⟩ := key_string hv
    exact ⟨_, (key_string' hv).2⟩
  · refine List.pairwise_map.2 ((outL_nodup hnd x).imp fun {a b} hab e => hab (ByteArray.ext (Array.toList_inj.1 e)))
  · have h1 := (hD ⟨a.toArray⟩).2
    have h2 : kS ⟨a.toArray⟩ = .string a := by simp [kS]
    rw [h2] at h1
    rw [h1, inner_isSome, ← mem_outL, List.mem_map]
    constructor
    · rintro ⟨y, hy, rfl⟩
      exact hy
    · intro h
      exact ⟨_, h, by simp⟩

theorem size_keys {W : World} {b n : Nat} {D0 : DataW Value} {E : List Pr} {x : ByteArray} (hown : W.ownsMap Tryd.prog 9 hR b n D0) (hD : AtF D0 (inner E x)) (hnd : E.Nodup) : Maps.size D0 = (outL E x).length := by
  have h := (keys_perm hown hD hnd).length_eq
  rw [List.length_map] at h
  rw [h]
  obtain ⟨es, rfl, _⟩ := hown.keysOf
  simp [strKeys, Maps.size]
/-- a row of names that the call has laid, or none -/
def NamesPost (W : World) (l : List ByteArray) (e : Ending) (w' : World) : Prop :=
  ∃ v, e = .returned v ∧ w'.ownsRow W.heap.size 9 1 v l.length (l.map Value.string) ∧ Below W.heap.size W w'
theorem cmp_reads (W w1 : World) (H bi n g : Nat) (E : List Pr) (x : ByteArray) (size : Nat) (hb1 : Below W.heap.size W w1) (hg : W.heap.size ≤ g) (hH : H < W.heap.size) (hbox : W.cell? ⟨H, 0, none⟩ = some (.map (some bi))) (hmi : MapV W bi n (inner E x)) (hE : E.length ≤ 1000) :
    CmpReads Tryd.prog 53 #[.pointer (some ⟨H, 0, none⟩)] encN (fun a b : Nm => ixN E x a.1 - ixN E x b.1) g 0 size w1 := by
  intro m os dk _ a b
  have hbi := hmi.lt
  have hw : ∀ k, k < W.heap.size → (sortWorld encN w1 g 0 m dk os).heap[k]? = W.heap[k]? := fun k hk => (heap_sortW encN w1 g 0 m dk os (by have := hb1.size; omega) (by omega)).trans (hb1.block k hk)
  have hmS : MapV (sortWorld encN w1 g 0 m dk os) bi n (inner E x) := hmi.same (hw bi hbi)
  have hlk : ∀ s : Nm, (Instr.lookup 60 (.map (some bi)) (.string s.1) false).run Tryd.prog (sortWorld encN w1 g 0 m dk os) = .ok (.int .i64 (ixN E x s.1)) (sortWorld encN w1 g 0 m dk os) := fun s => by
    have := hmS.look Tryd.underlying60 (zeroInt _) (mx s.2)
    rwa [inner_getD] at this
  exact (cmp_any E x hE _ H (some bi) ((World.cell?_of_block (hw H hH)).trans hbox) a.1 b.1 (hlk a) (hlk b)).mono fun e w' h => ⟨h.1, 0, h.2⟩
theorem size_le_of {l : List ByteArray} (h1 : ∀ y ∈ l, y.size ≤ 1048576) {ss : List (List UInt8)} (hp : ss.Perm (l.map (·.data.toList))) : ∀ a ∈ ss, a.length ≤ 1048576 := fun a ha => by
  obtain ⟨y, hy, rfl⟩ := List.mem_map.1 (hp.mem_iff.1 ha)
  exact h1 y hy
theorem sorted_list {E : List Pr} {x : ByteArray} (hnd : E.Nodup) (h1 : ∀ y ∈ outL E x, y.size ≤ 1048576) {ss : List (List UInt8)} (hp : ss.Perm ((outL E x).map (·.data.toList))) {d' : Array Nm} (hP : Sort.PermIn 0 ss.length (ss.map nmOf).toArray d') (hS : Sort.SortedIn (ltOf fun a b : Nm => ixN E x a.1 - ixN E x b.1) 0 ss.length d') :
    d'.toList.map (·.1) = outL E x := by
  obtain ⟨hz, _, hpm⟩ := hP
  have hz' : d'.size = ss.length := by simpa using hz
  have e1 : d'.extract 0 ss.length = d' := by rw [← hz']; simp
  have e2 : (ss.map nmOf).toArray.extract 0 ss.length = (ss.map nmOf).toArray := by
    apply Array.toList_inj.1
    rw [Array.toList_extract]
    simp [List.extract]
    exact List.take_of_length_le (by simp)
  rw [e1, e2] at hpm
  have hq : (d'.toList.map (·.1)).Perm (outL E x) := by
    refine (hpm.map (·.1)).trans ?_
    have h2 : ((ss.map nmOf).toArray.toList.map (·.1)) = ss.map fun l => (nmOf l).1 := by simp
    rw [h2]
    refine (hp.map fun l => (nmOf l).1).trans ?_
    rw [List.map_map]
    have h3 : (outL E x).map ((fun l => (nmOf l).1) ∘ fun y : ByteArray => y.data.toList) = (outL E x).map id := List.map_congr_left fun y hy => by
      show (nmOf y.data.toList).1 = y
      unfold nmOf
      rw [dif_pos (show y.data.toList.length ≤ 1048576 from h1 y hy)]
    rw [h3, List.map_id]
  refine eq_of_perm_sorted (ixN E x) _ _ hq ?_ (outL_sorted hnd x)
  rw [List.pairwise_map, List.pairwise_iff_getElem]
  intro i j hi hj hij
  have h4 := hS i j (Nat.zero_le _) hij (by rw [← hz']; simpa using hj)
  simp only [Array.length_toList] at hi hj
  rw [getElem!_pos d' j hj, getElem!_pos d' i hi] at h4
  simp [ltOf] at h4
  simpa using h4
theorem sort_call (W w1 : World) (H bi n g cap : Nat) (E : List Pr) (x : ByteArray) (ss : List (List UInt8)) (cur : Array Value) (hb1 : Below W.heap.size W w1) (hg : W.heap.size ≤ g) (hH : H < W.heap.size) (hbox : W.cell? ⟨H, 0, none⟩ = some (.map (some bi))) (hmi : MapV W bi n (inner E x)) (hE : E.length ≤ 1000) (hnd : E.Nodup) (hl : (outL E x).length ≤ 12)
    (h1 : ∀ y ∈ outL E x, y.size ≤ 1048576) (hp : ss.Perm ((outL E x).map (·.data.toList))) (hcur : w1.heap[g]? = some (.cells cur 9 (0, 0))) (hcap : ss.length ≤ cap) (hcm : cap ≤ maxLen) (hcs : cur.size = cap * 1) (htk : cur.toList.take (ss.length * 1) = ss.map encStr) :
    Calls Tryd.prog 66 #[.slice (some ⟨g, 0, none⟩) ss.length cap, .func (.func 53) #[] #[.pointer (some ⟨H, 0, none⟩)]] w1 fun e w' => e = .returned (.tuple #[]) ∧ w'.ownsRow W.heap.size 9 1 (.slice (some ⟨g, 0, none⟩) ss.length cap) (outL E x).length ((outL E x).map Value.string) ∧ w1.grownBy w' (some g) := by
  have hsm := size_le_of h1 hp
  have hlen : ss.length = (outL E x).length := by rw [hp.length_eq, List.length_map]
  have hdl : (ss.map nmOf).toArray.size = ss.length := by simp
  have henc : (ss.map nmOf).map encN = ss.map encStr := by
    rw [List.map_map]
    exact List.map_congr_left fun a ha => nmOf_enc (hsm a ha)
  have hHolds : Sort.Holds encN w1 g 0 (ss.map nmOf).toArray := by
    intro j hj
    rw [hdl] at hj
    refine ⟨?_, by simp [World.frozen?, hcur]⟩
    rw [Nat.zero_add, cell_of_row w1 g j _ _ (0, 0) hcur]
    have h2 : (cur.toList.take (ss.length * 1))[j]? = ((ss.map nmOf).map encN)[j]? := by rw [htk, henc]
    rw [List.getElem?_take_of_lt (by omega)] at h2
    rw [← Array.getElem?_toList, h2]
    simp [hj]
  have hsort := Tryd.slices_SortFunc_small_sorted encN (fun _ => rfl) _ (swo_ix E x) 53 #[.pointer (some ⟨H, 0, none⟩)] g 0 cap (ss.map nmOf).toArray w1 (enters_of Tryd.func53 (by kernel_rfl) rfl)
    (cmp_reads W w1 H bi n g E x _ hb1 hg hH hbox hmi hE) hHolds (by rw [hdl]; omega) (fun n W h => lenN n W h)
  rw [hdl] at hsort
  refine hsort.mono ?_
  rintro e w2 ⟨he, d', q, hPm, hSd, rfl⟩
  have hd := sorted_list hnd h1 hp hPm hSd
  have hz : d'.size = ss.length := by have := hPm.1; simpa using this
  refine ⟨he, ?_, grown_putRow d'⟩
  have h5 := own_putRow (n := q) (base := W.heap.size) d' hcur hg (by omega) hcm hcs
  have h6 : d'.toList.map encN = (outL E x).map Value.string := by
    rw [← hd, List.map_map]; rfl
  rw [h6, hz, hlen] at h5
  rw [hlen]
  exact h5

set_option maxRecDepth 100000 in
theorem SortedFunc_any (W : World) (Bm H bi n : Nat) (E : List Pr) (x : ByteArray) (hBm : Bm < W.heap.size) (hm : W.cell? ⟨Bm, 0, none⟩ = some (.map (some bi))) (hH : H < W.heap.size) (hbox : W.cell? ⟨H, 0, none⟩ = some (.map (some bi)))
    (hmi : MapV W bi n (inner E x)) (hE : E.length ≤ 1000) (hnd : E.Nodup) (hl : (outL E x).length ≤ 12) (h1 : ∀ y ∈ outL E x, y.size ≤ 1048576) (hne : outL E x ≠ []) :
    Calls Tryd.prog 51 #[.func (.func 67) #[] #[.pointer (some ⟨Bm, 0, none⟩)], .func (.func 53) #[] #[.pointer (some ⟨H, 0, none⟩)]] W (NamesPost W (outL E x)) := by
  obtain ⟨D0, hown, hD⟩ := hmi
  have hperm := keys_perm hown hD hnd
  have hsz := size_keys hown hD hnd
  have hcol := collect_call Bm bi n D0 W hBm hm hown (by omega)
  have hmi' : MapV W bi n (inner E x) := ⟨D0, hown, hD⟩
  have Hmi := Lib.hid (And.intro hmi' (And.intro hbox (And.intro hnd (And.intro h1 hne))))
  have Hpm := Lib.hid hperm
  clear hown hD hm hmi' hbox hnd h1 hne hperm hsz
  go_enter Tryd.func51, Tryd.ntmps51
  go_wp2_with fail
  refine hcol.mono ?_
  rintro e w1 ⟨v, ss, rfl, hss, hrow, hnil, hb1⟩
  have hpl : ss.Perm ((outL E x).map (·.data.toList)) := hss.trans Hpm.out.symm
  have hlen : ss.length = (outL E x).length := by rw [hpl.length_eq, List.length_map]
  obtain ⟨g, cap, hv, hg, hcap, hcm, cur, hcur, hcs, htk⟩ : ∃ g cap, v = .slice (some ⟨g, 0, none⟩) ss.length cap ∧ W.heap.size ≤ g ∧ ss.length ≤ cap ∧ cap ≤ maxLen ∧ ∃ cur, w1.heap[g]? = some (.cells cur 9 (0, 0)) ∧ cur.size = cap * 1 ∧ cur.toList.take (ss.length * 1) = ss.map encStr := by
    obtain ⟨_, ⟨rfl, h0⟩ | ⟨g, cap, cur, hv, hg, hh, hn, hc, hs, ht⟩⟩ := hrow
    · exact absurd (List.eq_nil_of_length_eq_zero (by omega)) Hmi.out.2.2.2.2
    · exact ⟨g, cap, hv, hg, hn, hc, cur, hh, hs, ht⟩
  subst hv
  have hsc := sort_call W w1 H bi n g cap E x ss cur hb1 hg hH Hmi.out.2.1 Hmi.out.1 hE Hmi.out.2.2.1 hl Hmi.out.2.2.2.1 hpl hcur hcap hcm hcs htk
  have HB := Lib.hid (And.intro hb1 (And.intro hg hlen))
  clear hpl hcur hcs htk hrow hss hnil hb1 hcol hlen
  go_wp2_with fail
  refine hsc.mono ?_
  rintro e w2 ⟨rfl, hown2, hgr⟩
  go_wp2
  go_ret
  exact ⟨_, rfl, hown2, HB.out.1.grown hgr HB.out.1.size (fun j hj => by cases hj; exact HB.out.2.1)⟩
end Go.Proofs.YtfmhcjhcmoniaaaDoor
