/-
  yieldRuns: the runs that begin with a way, one by one. Conditions: a course of a valid program, at most 12 blocks; what is done with a run keeps all below the course's end, and all courses.
-/
import Derived.Test.YtflnkahgmbndiaaDoorRunM
import Derived.Test.YtflnkahgmbndiaaDoorIsRun
import Derived.Test.YtflnkahgmbndiaaDoorCourse
import Derived.Test.YtflnkahgmbndiaaDoorBytes
import Derived.RangeFuncKeeps
import Derived.RangeFuncNested
import Derived.RangeFuncBound
import Derived.RangeFuncCalls
import Derived.RangeFuncLeaves
import Derived.RangeFuncBox
import Derived.Shelf.Abstract
import Derived.WalkKit
import Derived.OwnWalkIn
import Derived.TacticsInMore
import Derived.LoopNIn
import Derived.LoopIn
import Derived.BigFrameIn
import Derived.StillTailTactics
namespace Go.Proofs.YtflnkahgmbndiaaDoor
open Go.RowKit Go.Maps Go.Shelf

attribute [local go_sem] Oper.semAt_some

theorem name_size' {bs : List Pr} (h : BlocksOk bs) {i : Nat} (hi : i < bs.length) : (nameAt bs i).size = 1 := by
  have := h.nm (bs.getD i (e0, e0)) (by rw [List.getD_eq_getElem?_getD, List.getElem?_eq_getElem hi]; simp)
  unfold isNm at this
  simp at this
  exact this.1
theorem ch_app' {t y : ByteArray} (hy : y.size = 1) : ch (t ++ y) ((t ++ y).size - 1) = y := by
  unfold ch
  rw [ByteArray.size_append, hy]
  apply bytes_ext2
  simp only [Nat.add_sub_cancel]
  have h2 : y.data.size = 1 := hy
  have h3 : t.data.size = t.size := rfl
  simp [ByteArray.data_extract, ByteArray.data_append, h3]
  exact List.take_of_length_le (by rw [Array.length_toList, h2]; exact Nat.le_refl _)
/-- what a round keeps -/
structure KpR (n₀ : Nat) (W W' : World) : Prop where
  below : Below n₀ W W'
  course : ∀ (k : Nat) (cs : Array Value) (fr : Nat × Nat), W.heap[k]? = some (Obj.cells cs 71 fr) → W'.heap[k]? = some (Obj.cells cs 71 fr)
theorem KpR.refl (n₀ : Nat) (W : World) : KpR n₀ W W := ⟨Below.refl _ _, fun _ _ _ h => h⟩
theorem KpR.trans {n₀ : Nat} {A B C : World} (h : KpR n₀ A B) (k : KpR n₀ B C) : KpR n₀ A C := ⟨h.below.trans k.below, fun i cs fr h' => k.course i cs fr (h.course i cs fr h')⟩
theorem KpR.alloc (n₀ : Nat) (W : World) (o : Obj) (hn : n₀ ≤ W.heap.size) : KpR n₀ W (W.alloc o) := ⟨(Below.refl _ _).alloc hn o, fun k _ _ h => (Below.heap_alloc W o k (Array.getElem?_eq_some_iff.1 h).1).trans h⟩
theorem KpR.drew {n₀ : Nat} {W W' : World} (h : KpR n₀ W W') : KpR n₀ W W'.drew := ⟨h.below.drew, h.course⟩

theorem anyDepth {m : Nat} (m' : Nat) {P : Program} {l : Nat} {args : Array Value} {W : World} {R : Ending → World → Prop} (h : YieldAt Fence.wide m P l args W R) : YieldAt Fence.wide m' P l args W R := by
  obtain ⟨fn, tmps, assign, body, hy, hR⟩ := h
  exact ⟨fn, tmps, assign, body, hy, hR.1, fun c cs _ => hR.2 c cs (fun d h => by cases h)⟩

/-- 'far' of a block, in a later world -/
theorem far_lookR {wB W : World} {o lo li f : Nat} {vn : Value} {bs es : List Pr} {D : ByteArray → Option Nat} (hC : CourseAt wB o lo li vn f bs es D) (hB : Below wB.heap.size wB W) {h : ByteArray} (hs : h.size ≤ 1048576) {d : Nat} (hd : D h = some d) :
    (Instr.lookup 69 (.map (some f)) (.string h) false).run Tryd.prog W = .ok (.int .i64 (d : Int)) W := by
  obtain ⟨n, hm⟩ := (hC.keep hB).far
  have lk := hm.look Tryd.underlying69 (zeroInt _) (mx hs)
  rw [hd] at lk
  exact lk

variable (wB : World) (o lo li f : Nat) (ga : Option Addr) (gc : Nat) (bs es : List Pr) (D : ByteArray → Option Nat)

set_option maxRecDepth 100000 in
set_option maxHeartbeats 3200000 in
theorem yield_far (hC : CourseAt wB o lo li (.slice ga bs.length gc) f bs es D) (K : Nat) (l m : Nat) (way h : ByteArray) (W : World) (J : World → Prop) (hJA : ∀ W W', J W → W.grownBy W' none → J W') (hw0 : 0 < way.size) (hw1 : way.size ≤ 12) (hh : ch way (way.size - 1) = h) (hs : h.size ≤ 1048576) (d : Nat) (hd : D h = some d) (hd2 : d ≤ 16) (hfar : K < way.size + d) (hJ : J W) (hB : Below wB.heap.size wB W) :
    CallsIn Fence.wide m Tryd.prog 61 #[.agg #[.map (some o), .map (some lo), .map (some li), .slice ga bs.length gc, .map (some f)], .string way, .int .i64 (K : Int), .func (.yield l) #[] #[]] W fun e W' => e = .returned (.bool true) ∧ J W' ∧ KpR wB.heap.size W W' := by
  have hsz := hB.size
  have hdd : ∀ k : Nat, (Fence.wide.depth.isSome = true → 1 ≤ k) := fun k h => by cases h
  have lk := far_lookR hC (hB.alloc hsz (.cells #[.map (some o), .map (some lo), .map (some li), .slice ga bs.length gc, .map (some f)] 71)) hs hd
  have e5 : IntKind.i64.wrap ((way.size : Int) + (d : Int)) = (way.size : Int) + (d : Int) := IntWalk.i64_in _ (by omega)
  have t1 : (K : Int) < (way.size : Int) + (d : Int) := by omega
  have hlo := lastOf_any way (way.size - 1) (by omega) (by omega) (W.alloc (.cells #[.map (some o), .map (some lo), .map (some li), .slice ga bs.length gc, .map (some f)] 71))
  rw [hh] at hlo
  have HL := Lib.hid hlo
  have HH := Lib.hid (And.intro (hJA _ _ hJ (World.grownBy_alloc W (.cells #[.map (some o), .map (some lo), .map (some li), .slice ga bs.length gc, .map (some f)] 71) none)) (KpR.alloc wB.heap.size W (.cells #[.map (some o), .map (some lo), .map (some li), .slice ga bs.length gc, .map (some f)] 71) hsz))
  clear hlo hh hd hfar hB hJ hC
  refine callsIn_of_wp Tryd.func61 rfl trivial ?_ rfl
  simp only [Tryd.ntmps61, List.size_toArray, List.length_cons, List.length_nil, Nat.reduceAdd, Nat.reduceSub, Array.replicate_succ, Array.replicate_zero, List.push_toArray, List.append_toArray, List.nil_append, List.cons_append]
  gi_wp2_with ((try refine ⟨trivial, hdd _, ?_⟩); gi_at_call 67; refine (callsIn_wide.2 HL.out).mono ?_; rintro e w' ⟨rfl, rfl⟩)
  go_ret
  exact ⟨rfl, HH.out⟩
set_option maxRecDepth 100000 in
set_option maxHeartbeats 3200000 in
theorem yield_end (hC : CourseAt wB o lo li (.slice ga bs.length gc) f bs es D) (K : Nat) (l m : Nat) (way h : ByteArray) (W : World) (J Jx : World → Prop) (hw0 : 0 < way.size) (hw1 : way.size ≤ 12) (hh : ch way (way.size - 1) = h) (hs : h.size ≤ 1048576) (hd : D h = some 0) (hK : way.size ≤ K)
    (hY : ∀ m', YieldAt Fence.wide m' Tryd.prog l #[.string way] (W.alloc (.cells #[.map (some o), .map (some lo), .map (some li), .slice ga bs.length gc, .map (some f)] 71)) fun e W' => (e = .returned (.bool true) ∧ J W' ∧ KpR wB.heap.size W W') ∨ (e = .returned (.bool false) ∧ Jx W')) (hB : Below wB.heap.size wB W) :
    CallsIn Fence.wide m Tryd.prog 61 #[.agg #[.map (some o), .map (some lo), .map (some li), .slice ga bs.length gc, .map (some f)], .string way, .int .i64 (K : Int), .func (.yield l) #[] #[]] W fun e W' => (e = .returned (.bool true) ∧ J W' ∧ KpR wB.heap.size W W') ∨ (e = .returned (.bool false) ∧ Jx W') := by
  have hsz := hB.size
  have hdd : ∀ k : Nat, (Fence.wide.depth.isSome = true → 1 ≤ k) := fun k h => by cases h
  have lk := far_lookR hC (hB.alloc hsz (.cells #[.map (some o), .map (some lo), .map (some li), .slice ga bs.length gc, .map (some f)] 71)) hs hd
  have e5 : IntKind.i64.wrap ((way.size : Int) + ((0 : Nat) : Int)) = (way.size : Int) := by rw [Int.natCast_zero, Int.add_zero]; exact IntWalk.i64_in _ (by omega)
  have e6 : IntKind.i64.wrap (way.size : Int) = (way.size : Int) := IntWalk.i64_in _ (by omega)
  have t1 : ¬ (K : Int) < (way.size : Int) := by omega
  have hlo := lastOf_any way (way.size - 1) (by omega) (by omega) (W.alloc (.cells #[.map (some o), .map (some lo), .map (some li), .slice ga bs.length gc, .map (some f)] 71))
  rw [hh] at hlo
  have HL := Lib.hid hlo
  obtain ⟨fn, tmps, assign, body, hy, hR⟩ := hY (m - 1)
  clear hlo hh hd hB hC hK hY
  refine callsIn_of_wp Tryd.func61 rfl trivial ?_ rfl
  simp only [Tryd.ntmps61, List.size_toArray, List.length_cons, List.length_nil, Nat.reduceAdd, Nat.reduceSub, Array.replicate_succ, Array.replicate_zero, List.push_toArray, List.append_toArray, List.nil_append, List.cons_append]
  gi_wp2_with (first
    | ((try refine ⟨trivial, hdd _, ?_⟩); gi_at_call 67; refine (callsIn_wide.2 HL.out).mono ?_; rintro e w' ⟨rfl, rfl⟩)
    | ((try refine ⟨trivial, hdd _, ?_⟩); (try refine ⟨hdd _, ?_⟩); refine hR.mono ?_; clear hR; rintro e W2 (⟨rfl, hJ2, hb2⟩ | ⟨rfl, hx2⟩)))
  · go_ret
    exact .inl ⟨rfl, hJ2, hb2⟩
  · go_ret
    exact .inr ⟨rfl, hx2⟩
theorem runsP_pre {bs es : List Pr} {z h way : ByteArray} {n : Nat} {q k : Nat} (hqk : q ≤ k) : runsP bs es z n h way q <+: runsP bs es z n h way k := by
  induction k with
  | zero => obtain rfl : q = 0 := by omega
            exact List.prefix_refl _
  | succ k ih =>
    rcases Nat.lt_or_ge k q with h1 | h1
    · obtain rfl : q = k + 1 := by omega
      exact List.prefix_refl _
    · refine (ih h1).trans ?_
      by_cases he : (h, nameAt bs k) ∈ es
      · rw [runsP_yes he]; exact List.prefix_append _ _
      · rw [runsP_no he]; exact List.prefix_refl _
theorem runsP_len (bs es : List Pr) (z : ByteArray) (n : Nat) (h way : ByteArray) {q N : Nat} (hq : q < bs.length) {pre : List ByteArray} (hl : pre.length + (runsP bs es z n h way bs.length).length ≤ N) (he : (h, nameAt bs q) ∈ es) :
    (pre ++ runsP bs es z n h way q).length + (runsF bs es z n (nameAt bs q) (way ++ nameAt bs q)).length ≤ N := by
  have h1 := (runsP_pre (bs := bs) (es := es) (z := z) (h := h) (way := way) (n := n) (show q + 1 ≤ bs.length from hq)).length_le
  rw [runsP_yes he, List.length_append] at h1
  rw [List.length_append]; omega
theorem runsP_stop {bs es : List Pr} {z h way : ByteArray} {n q : Nat} (hq : q < bs.length) (he : (h, nameAt bs q) ∈ es) {q' : List ByteArray} (hp : q' <+: runsF bs es z n (nameAt bs q) (way ++ nameAt bs q)) :
    runsP bs es z n h way q ++ q' <+: runsP bs es z n h way bs.length := by
  refine List.IsPrefix.trans ?_ (runsP_pre (show q + 1 ≤ bs.length from hq))
  rw [runsP_yes he]
  exact (List.prefix_append_right_inj _).2 hp
theorem name_memR {bs : List Pr} {q : Nat} (hq : q < bs.length) : nameAt bs q ∈ names bs := by
  unfold nameAt names
  rw [List.getD_eq_getElem?_getD, List.getElem?_eq_getElem hq]
  exact List.mem_map.2 ⟨_, List.getElem_mem hq, rfl⟩
/-- what comes of a call: all runs, or those ahead of a 'no more' -/
def YieldPost (n₀ : Nat) (J Jx : List ByteArray → World → Prop) (pre R : List ByteArray) (W : World) (e : Ending) (W' : World) : Prop :=
  (e = .returned (.bool true) ∧ J (pre ++ R) W' ∧ KpR n₀ W W') ∨ (e = .returned (.bool false) ∧ ∃ q, q <+: R ∧ Jx (pre ++ q) W')

open Classical in
set_option maxRecDepth 100000 in
set_option maxHeartbeats 6400000 in
theorem yieldRuns_in (hV : Valid bs es) (hC : CourseAt wB o lo li (.slice ga bs.length gc) f bs es D) (K : Nat) (hK : K ≤ 12) (l N : Nat) (J Jx : List ByteArray → World → Prop) (hJA : ∀ s W W', J s W → W.grownBy W' none → J s W')
    (hY : ∀ m pre x W, J pre W → Below wB.heap.size wB W → pre.length < N → YieldAt Fence.wide m Tryd.prog l #[.string x] W fun e W' => (e = .returned (.bool true) ∧ J (pre ++ [x]) W' ∧ KpR wB.heap.size W W') ∨ (e = .returned (.bool false) ∧ Jx (pre ++ [x]) W')) :
    ∀ (n m : Nat) (way h : ByteArray) (pre : List ByteArray) (W : World), way.size + n = K → 0 < way.size → ch way (way.size - 1) = h → h ∈ names bs → J pre W → Below wB.heap.size wB W → pre.length + (runsF bs es (lastN bs) n h way).length ≤ N →
    CallsIn Fence.wide m Tryd.prog 61 #[.agg #[.map (some o), .map (some lo), .map (some li), .slice ga bs.length gc, .map (some f)], .string way, .int .i64 (K : Int), .func (.yield l) #[] #[]] W (YieldPost wB.heap.size J Jx pre (runsF bs es (lastN bs) n h way) W) := by
  have hdd : ∀ k : Nat, (Fence.wide.depth.isSome = true → 1 ≤ k) := fun k h => by cases h
  have hD : ∀ h, h ∈ names bs → ∃ d, D h = some d ∧ d ≤ 16 := fun h hh => by
    obtain ⟨p, hp, hpe⟩ := List.mem_map.1 hh
    obtain ⟨d, hd⟩ := hC.least.reach (show Reach (flip es) (lastN bs) h by have := hV.rz p hp; rw [hpe] at this; exact this)
    exact ⟨d, hd, by have := hC.bound _ _ hd; have := hV.e.hi; omega⟩
  have hfarC : ∀ (n m : Nat) (way h : ByteArray) (pre : List ByteArray) (W : World) (d : Nat), way.size + n = K → 0 < way.size → ch way (way.size - 1) = h → h.size ≤ 1048576 → D h = some d → d ≤ 16 → n < d → J pre W → Below wB.heap.size wB W →
      CallsIn Fence.wide m Tryd.prog 61 #[.agg #[.map (some o), .map (some lo), .map (some li), .slice ga bs.length gc, .map (some f)], .string way, .int .i64 (K : Int), .func (.yield l) #[] #[]] W (YieldPost wB.heap.size J Jx pre (runsF bs es (lastN bs) n h way) W) := fun n m way h pre W d hn hw0 hh hs hd hd2 hlt hJ hB =>
    (yield_far wB o lo li f ga gc bs es D hC K l m way h W (J pre) (fun _ _ => hJA pre _ _) hw0 (by omega) hh hs d hd hd2 (by omega) hJ hB).mono fun e W' hp => .inl ⟨hp.1, by rw [runsF_far hC.least hd hlt, List.append_nil]; exact hp.2.1, hp.2.2⟩
  have hendC : ∀ (n m : Nat) (way h : ByteArray) (pre : List ByteArray) (W : World), way.size + n = K → 0 < way.size → ch way (way.size - 1) = h → h.size ≤ 1048576 → D h = some 0 → J pre W → Below wB.heap.size wB W → pre.length + (runsF bs es (lastN bs) n h way).length ≤ N →
      CallsIn Fence.wide m Tryd.prog 61 #[.agg #[.map (some o), .map (some lo), .map (some li), .slice ga bs.length gc, .map (some f)], .string way, .int .i64 (K : Int), .func (.yield l) #[] #[]] W (YieldPost wB.heap.size J Jx pre (runsF bs es (lastN bs) n h way) W) := fun n m way h pre W hn hw0 hh hs hd hJ hB hl => by
    have hz : h = lastN bs := (far_exit hC.least hd).1 rfl
    have hr : runsF bs es (lastN bs) n h way = [way] := by rw [hz]; exact runsF_end bs es n way
    rw [hr] at hl ⊢
    have hka := KpR.alloc wB.heap.size W (.cells #[.map (some o), .map (some lo), .map (some li), .slice ga bs.length gc, .map (some f)] 71) hB.size
    refine (yield_end wB o lo li f ga gc bs es D hC K l m way h W (J (pre ++ [way])) (Jx (pre ++ [way])) hw0 (by omega) hh hs hd (by omega) (fun m' => ?_) hB).mono fun e W' hp => ?_
    · exact (hY m' pre way _ (hJA pre _ _ hJ (World.grownBy_alloc W _ none)) (hB.alloc hB.size _) (by simp at hl; omega)).mono fun e W' hp => hp.elim (fun h => .inl ⟨h.1, h.2.1, hka.trans h.2.2⟩) .inr
    · exact hp.elim .inl (fun h => .inr ⟨h.1, [way], List.prefix_refl _, h.2⟩)
  intro n
  induction n with
  | zero =>
    intro m way h pre W hn hw0 hh hm hJ hB hl
    obtain ⟨d, hd, hd2⟩ := hD h hm
    have hs : h.size ≤ 1048576 := by rw [hV.name_size hm]; decide
    rcases Nat.eq_zero_or_pos d with h0 | h0
    · subst h0
      exact hendC 0 m way h pre W hn hw0 hh hs hd hJ hB hl
    · exact hfarC 0 m way h pre W d hn hw0 hh hs hd hd2 h0 hJ hB
  | succ n ih =>
    intro m way h pre W hn hw0 hh hm hJ hB hl
    obtain ⟨d, hd, hd2⟩ := hD h hm
    have hs : h.size ≤ 1048576 := by rw [hV.name_size hm]; decide
    rcases Nat.eq_zero_or_pos d with h0 | h0
    · subst h0
      exact hendC (n + 1) m way h pre W hn hw0 hh hs hd hJ hB hl
    · rcases Nat.lt_or_ge (n + 1) d with h1 | h1
      · exact hfarC (n + 1) m way h pre W d hn hw0 hh hs hd hd2 h1 hJ hB
      have hsz := hB.size
      have hz : h ≠ lastN bs := fun e => by have := (far_exit hC.least hd).2 e; omega
      rw [runsF_on hz] at hl ⊢
      have lk := far_lookR hC (hB.alloc hsz (.cells #[.map (some o), .map (some lo), .map (some li), .slice ga bs.length gc, .map (some f)] 71)) hs hd
      have e5 : IntKind.i64.wrap ((way.size : Int) + (d : Int)) = (way.size : Int) + (d : Int) := IntWalk.i64_in _ (by omega)
      have t1 : ¬ (K : Int) < (way.size : Int) + (d : Int) := by omega
      have t2 : ((d : Int) == 0) = false := by simp; omega
      have hlo := lastOf_any way (way.size - 1) (by omega) (by omega) (W.alloc (.cells #[.map (some o), .map (some lo), .map (some li), .slice ga bs.length gc, .map (some f)] 71))
      rw [hh] at hlo
      have HL := Lib.hid hlo
      have hkb : (W.alloc (.cells #[.map (some o), .map (some lo), .map (some li), .slice ga bs.length gc, .map (some f)] 71)).heap[W.heap.size]? = some (.cells #[.map (some o), .map (some lo), .map (some li), .slice ga bs.length gc, .map (some f)] 71 (0, 0)) := heap_alloc_new W _
      have hJ1 := hJA pre _ _ hJ (World.grownBy_alloc W (.cells #[.map (some o), .map (some lo), .map (some li), .slice ga bs.length gc, .map (some f)] 71) none)
      have hB1 := hB.alloc hsz (.cells #[.map (some o), .map (some lo), .map (some li), .slice ga bs.length gc, .map (some f)] 71)
      have hka := KpR.alloc wB.heap.size W (.cells #[.map (some o), .map (some lo), .map (some li), .slice ga bs.length gc, .map (some f)] 71) hsz
      have HH := Lib.hid (And.intro hV (And.intro hC (And.intro hz (And.intro hh hn))))
      have HA := Lib.hid (And.intro hkb (And.intro hJ1 (And.intro hB1 (And.intro hka hl))))
      have HI := Lib.hid ih
      clear hlo hh hd hB hJ hC hV hJ1 hB1 hka hz hl h1 hfarC hendC hD hn ih hY hJA hm
      refine callsIn_of_wp Tryd.func61 rfl trivial ?_ rfl
      simp only [Tryd.ntmps61, List.size_toArray, List.length_cons, List.length_nil, Nat.reduceAdd, Nat.reduceSub, Array.replicate_succ, Array.replicate_zero, List.push_toArray, List.append_toArray, List.nil_append, List.cons_append]
      gi_wp2_with (first | ((try refine ⟨trivial, hdd _, ?_⟩); gi_at_call 67; refine (callsIn_wide.2 HL.out).mono ?_; rintro e w' ⟨rfl, rfl⟩))
      generalize W.alloc (.cells #[.map (some o), .map (some lo), .map (some li), .slice ga bs.length gc, .map (some f)] 71) = W1 at *
      clear lk t1 t2 e5
      gi_loopw [36] (fun i wr => ∃ q : Nat, q ≤ bs.length ∧ i = .int .i64 q ∧ J (pre ++ runsP bs es (lastN bs) n h way q) wr ∧ KpR wB.heap.size W1 wr) (fun i _ => bs.length - (intOf i).toNat)
      case atStart => exact ⟨0, Nat.zero_le _, rfl, by rw [runsP_zero, List.append_nil]; exact HA.out.2.1, KpR.refl _ _⟩
      case round =>
        obtain ⟨q, hq, rfl, hJr, hKr⟩ := hrel
        have hkr := hKr.course _ _ _ HA.out.1
        obtain ⟨⟨x0, x1, x2, x3, x4⟩, _⟩ := block5 hkr
        have hBr : Below wB.heap.size wB wr := HA.out.2.2.1.trans hKr.below
        have hlb := HH.out.1.b.lo
        have hhb := HH.out.1.b.hi
        have HR := Lib.hid (And.intro hJr (And.intro hKr hBr))
        clear hJr hKr hkr
        by_cases hlt : q < bs.length
        · have hCr := HH.out.2.1.keep hBr
          obtain ⟨g, cap, hgv, hgw, hcells⟩ := names_cells hCr.names (show bs.length = (bs.length - 1) + 1 by omega)
          obtain ⟨hga, hgl, hgc⟩ := Value.slice.inj hgv
          clear hgl
          subst hga hgc
          have c1 := hcells q (by omega)
          have hnm := name_size' HH.out.1.b hlt
          obtain ⟨fp, FL, hL, hfp⟩ := hCr.plan.out
          obtain ⟨r, v, lk1, lk2⟩ := hL.look2 h (nameAt bs q) hs (by rw [hnm]; decide)
          have HNm := Lib.hid hnm
          have hlt' : (q : Int) < (bs.length : Int) := by omega
          have t3 : ¬ 9223372036854775807 < way.size + (nameAt bs q).size := by have := HH.out.2.2.2.2; omega
          have t4 : ¬ 9223372036854775807 < way.size + 1 := by have := HH.out.2.2.2.2; omega
          clear hgv hgw hcells hnm hL hfp hCr hBr
          by_cases he : (h, nameAt bs q) ∈ es
          · rw [decide_eq_true he] at lk2
            have HE := Lib.hid he
            clear he
            have hlq := runsP_len bs es (lastN bs) n h way hlt HA.out.2.2.2.2 HE.out
            have hrec := HI.out (m - 1) (way ++ nameAt bs q) (nameAt bs q) (pre ++ runsP bs es (lastN bs) n h way q) wr (by rw [ByteArray.size_append, HNm.out]; have := HH.out.2.2.2.2; omega) (by rw [ByteArray.size_append, HNm.out]; omega) (ch_app' HNm.out) (name_memR hlt) HR.out.1 HR.out.2.2 hlq
            have HC := Lib.hid hrec
            clear hrec hlq
            gi_wp2_with ((try refine ⟨trivial, hdd _, ?_⟩); gi_at_call 61; refine HC.out.mono ?_; rintro e W2 (⟨rfl, hJ2, hk2⟩ | ⟨rfl, q', hq', hx2⟩))
            · go_roundw
              case rel => exact ⟨q + 1, by omega, by go_num, by rw [runsP_yes HE.out, ← List.append_assoc]; exact hJ2, HR.out.2.1.trans hk2⟩
              case measure => simp [intOf]; omega
            · go_ret
              exact .inr ⟨rfl, runsP bs es (lastN bs) n h way q ++ q', runsP_stop hlt HE.out hq', by rw [← List.append_assoc]; exact hx2⟩
          · rw [decide_eq_false he] at lk2
            have HE := Lib.hid he
            clear he
            gi_wp2
            refine ⟨trivial, ?_⟩
            gi_wp2
            go_roundw
            case rel => exact ⟨q + 1, by omega, by go_num, by rw [runsP_no HE.out]; exact HR.out.1, HR.out.2.1⟩
            case measure => simp [intOf]; omega
        · obtain rfl : q = bs.length := by omega
          gi_wp2
          go_ret
          exact .inl ⟨rfl, HR.out.1, HA.out.2.2.2.1.trans HR.out.2.1⟩
theorem first_ne_lastR {bs : List Pr} (hb : BlocksOk bs) : nameAt bs 0 ≠ lastN bs := fun e => by
  have h2 := hb.lo
  have h0 : (names bs)[0]? = some (nameAt bs 0) := by unfold names nameAt; rw [List.getElem?_map, List.getD_eq_getElem?_getD, List.getElem?_eq_getElem (by omega)]; rfl
  have h1 : (names bs)[bs.length - 1]? = some (lastN bs) := by unfold names lastN nameAt; rw [List.getElem?_map, List.getD_eq_getElem?_getD, List.getElem?_eq_getElem (by omega)]; rfl
  have hl : (names bs).length = bs.length := by unfold names; simp
  have := (List.getElem?_inj (by omega) hb.nd).1 (h0.trans (e ▸ h1.symm))
  omega
theorem ch_oneR {y : ByteArray} (hy : y.size = 1) : ch y (y.size - 1) = y := by
  unfold ch
  apply bytes_ext2
  have h2 : y.data.size = 1 := hy
  simp [ByteArray.data_extract, hy]
  exact List.take_of_length_le (by rw [Array.length_toList, h2]; exact Nat.le_refl _)

set_option maxRecDepth 100000 in
set_option maxHeartbeats 3200000 in
/-- 'func(yield func(string) bool) { c.yieldRuns(..) }' -/
theorem runs1_in (hV : Valid bs es) (hC : CourseAt wB o lo li (.slice ga bs.length gc) f bs es D) (K : Nat) (hK : K ≤ 12) (m l Bc Bk : Nat) (J Jx : List ByteArray → World → Prop) (hJA : ∀ s W W', J s W → W.grownBy W' none → J s W')
    (hY : ∀ m pre x W, J pre W → Below wB.heap.size wB W → pre.length < (allRuns bs es K).length → YieldAt Fence.wide m Tryd.prog l #[.string x] W fun e W' => (e = .returned (.bool true) ∧ J (pre ++ [x]) W' ∧ KpR wB.heap.size W W') ∨ (e = .returned (.bool false) ∧ Jx (pre ++ [x]) W'))
    (W : World) (hB : Below wB.heap.size wB W) (hc : W.heap[Bc]? = some (.cells #[.map (some o), .map (some lo), .map (some li), .slice ga bs.length gc, .map (some f)] 71 (0, 0))) (hk : W.cell? ⟨Bk, 0, none⟩ = some (.int .i64 (K : Int))) (hJ : J [] W) :
    CallsIn Fence.wide m Tryd.prog 60 #[.func (.yield l) #[] #[], .pointer (some ⟨Bc, 0, none⟩), .pointer (some ⟨Bk, 0, none⟩)] W fun e W' => (∃ v, e = .returned v) ∧ ((∃ xs, xs = allRuns bs es K ∧ J xs W') ∨ (∃ pre, pre <+: allRuns bs es K ∧ Jx pre W')) := by
  have hlb := hV.b.lo
  have hCr := hC.keep hB
  obtain ⟨g, cap, hgv, hgw, hcells⟩ := names_cells hCr.names (show bs.length = (bs.length - 1) + 1 by omega)
  obtain ⟨hga, hgl, hgc⟩ := Value.slice.inj hgv
  clear hgl
  subst hga hgc
  have c1 := hcells 0 (by omega)
  have hnm := name_size' hV.b (i := 0) (by omega)
  obtain ⟨⟨x0, x1, x2, x3, x4⟩, _⟩ := block5 hc
  have h0 : (0 : Int) < (bs.length : Int) := by omega
  have h00 : 0 < bs.length := by omega
  have hy : CallsIn Fence.wide m Tryd.prog 61 #[.agg #[.map (some o), .map (some lo), .map (some li), .slice (some ⟨g, 0, none⟩) bs.length gc, .map (some f)], .string (nameAt bs 0), .int .i64 (K : Int), .func (.yield l) #[] #[]] W.drew (YieldPost wB.heap.size J Jx [] (allRuns bs es K) W.drew) := by
    have hJd : J [] W.drew := hJA _ _ _ hJ ⟨rfl, rfl, rfl, Nat.le_refl _, fun _ _ _ => rfl⟩
    rcases Nat.eq_zero_or_pos K with rfl | hK0
    · obtain ⟨p, hp, hpe⟩ := List.mem_map.1 (name_memR (bs := bs) (q := 0) h00)
      obtain ⟨d, hd⟩ := hC.least.reach (show Reach (flip es) (lastN bs) (nameAt bs 0) by have := hV.rz p hp; rw [hpe] at this; exact this)
      refine (yield_far wB o lo li f _ gc bs es D hC 0 l m (nameAt bs 0) (nameAt bs 0) W.drew (J []) (fun _ _ => hJA [] _ _) (by omega) (by omega) (ch_oneR hnm) (by rw [hnm]; decide) d hd (by have := hC.bound _ _ hd; have := hV.e.hi; omega) (by omega) hJd hB.drew).mono fun e W' hp => .inl ⟨hp.1, ?_, hp.2.2⟩
      rw [show allRuns bs es 0 = [] by unfold allRuns; rw [if_neg (by omega)], List.append_nil]
      exact hp.2.1
    · have hR : allRuns bs es K = runsF bs es (lastN bs) (K - 1) (nameAt bs 0) (nameAt bs 0) := by
        by_cases h1 : 1 < K
        · unfold allRuns; rw [if_pos h1]; rfl
        · obtain rfl : K = 1 := by omega
          unfold allRuns
          rw [if_neg (by omega), runsF_last (first_ne_lastR hV.b)]
      rw [hR] at hY ⊢
      exact yieldRuns_in wB o lo li f _ gc bs es D hV hC K hK l _ J Jx hJA hY (K - 1) m (nameAt bs 0) (nameAt bs 0) [] W.drew (by omega) (by omega) (ch_oneR hnm) (name_memR h00) hJd hB.drew (by simp)
  have HY := Lib.hid hy
  clear hy hY hJA hcells hgv hgw hCr hJ hC hV hc hnm hB
  refine callsIn_wide.2 ?_
  go_enter Tryd.func60, Tryd.ntmps60
  go_wp2
  go_still_tail 7, (by kernel_rfl)
  change wpList _ _ _ _ _ W.drew
  have HZ := Lib.hid (callsIn_wide.1 HY.out)
  generalize W.drew = w2 at *
  clear HY x0 x1 x2 x3 x4 c1 hk
  go_wp2_with fail
  refine HZ.out.mono ?_
  rintro e W2 (⟨rfl, hJ2, hk2⟩ | ⟨rfl, q', hq', hx2⟩)
  · go_wp2
    go_end0
    exact ⟨⟨_, rfl⟩, .inl ⟨_, rfl, by simpa using hJ2⟩⟩
  · go_wp2
    go_end0
    exact ⟨⟨_, rfl⟩, .inr ⟨q', hq', by simpa using hx2⟩⟩

set_option maxRecDepth 100000 in
/-- runs: the course and the bound boxed -/
theorem runs_any (K : Nat) (w : World) :
    Calls Tryd.prog 32 #[.agg #[.map (some o), .map (some lo), .map (some li), .slice ga bs.length gc, .map (some f)], .int .i64 (K : Int)] w fun e w' =>
      e = .returned (.func (.func 60) #[] #[.pointer (some ⟨w.heap.size, 0, none⟩), .pointer (some ⟨w.heap.size + 1, 0, none⟩)]) ∧ w' = (w.alloc (.cells #[.map (some o), .map (some lo), .map (some li), .slice ga bs.length gc, .map (some f)] 71)).alloc (.cells #[.int .i64 (K : Int)] 3) := by
  go_enter Tryd.func32, Tryd.ntmps32
  go_wp2
  go_ret
  exact ⟨rfl, rfl⟩
end Go.Proofs.YtflnkahgmbndiaaDoor
