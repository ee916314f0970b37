import Derived.Test.YthkhccfemdjioaaDoorFsC
import Derived.Deep.CutRange
import Derived.Test.YthkhccfemdjioaaDoorWords
import Derived.Test.YthkhccfemdjioaaDoorFsP
import Derived.Test.YthkhccfemdjioaaDoorSpecD
import Derived.Test.YthkhccfemdjioaaDoorBlkS
import Derived.Laws.AppendOwnNone
import Derived.Test.YthkhccfemdjioaaDoorRows4
import Derived.Test.YthkhccfemdjioaaDoorBlkJ
import Derived.Test.YthkhccfemdjioaaDoorFsT
section
/-
  The model's draws of a program and two texts that are mostly terms, and of a program alone, off bytes. Conditions: none but what bytes that came in are.
-/
namespace Go.Proofs.YthkhccfemdjioaaDoor
open Go.RowKit Go.Maps

def swTL : List ByteArray := [⟨#[120]⟩, ⟨#[121]⟩, ⟨#[120]⟩, ⟨#[122]⟩, ⟨#[88]⟩, ⟨#[]⟩]
def swUL : List ByteArray := [⟨#[121]⟩, ⟨#[120]⟩, ⟨#[122]⟩, ⟨#[119]⟩, ⟨#[120, 121]⟩]
set_option maxRecDepth 100000 in
set_option maxHeartbeats 1600000 in
theorem DrawSwapTerms_any (w : World) (a : Option Addr) (n cap : Nat) (h : BytesRaw w a n cap) :
    Calls Tryd.prog 22 #[.slice a n cap] w (DrawB2 w) := by
  have hA : Below w.heap.size w (w.alloc (.cells #[.slice none 0 0, .slice none 0 0] 32)) := (Below.refl _ _).alloc (Nat.le_refl _) _
  have hR : Two (w.alloc (.cells #[.slice none 0 0, .slice none 0 0] 32)) w.heap.size (.slice none 0 0) (.slice none 0 0) := heap_alloc_new _ _
  have hbA := h.below hA
  have H0 := Lib.hid (And.intro hA hR)
  clear h hA hR
  go_enter Tryd.func22, Tryd.ntmps22
  go_wp2_with fail
  refine (l15Open_any _ a n cap hbA).mono ?_
  rintro e w1 ⟨m, rfl, hrd, hb1⟩
  have hz : (w.alloc (.cells #[.slice none 0 0, .slice none 0 0] 32)).heap.size = w.heap.size + 1 := by simp
  rw [hz] at hrd ⊢
  have hR1 : Two w1 w.heap.size _ _ := H0.out.2.of_cells (hb1.block _ (by omega))
  have hall : Below w.heap.size w w1 := H0.out.1.trans (hb1.mono (by omega))
  have hg1 := hrd.lt
  have H1 := Lib.hid (And.intro hR1 (And.intro hall hrd))
  clear hR1 hall hb1 hbA hz
  go_wp2_with fail
  refine (l1Some_any w1 (w.heap.size + 1) a m cap 0 (by omega) hrd).mono ?_
  rintro e w2 ⟨bs, es, ab, ae, cb, ce, rfl, hSb, hSe, hPb, hPe, p1, hp1, hrd2, htu⟩
  have hs2 := htu.size
  have hW : Below w2.heap.size w2 (w2.alloc (.cells #[.slice ab bs.length cb, .slice ae es.length ce] 32)) := (Below.refl _ _).alloc (Nat.le_refl _) _
  have hDS : DS w1 (w2.alloc (.cells #[.slice ab bs.length cb, .slice ae es.length ce] 32)) (w.heap.size + 1) a m cap p1 w.heap.size w2.heap.size ab ae cb ce bs es :=
    ⟨⟨0, H1.out.2.2⟩, hrd2.below hW, (hW.block _ (by omega)).trans (htu.two H1.out.1 (by omega)), PAt.new ab ae cb ce hPb hPe, htu.trans (.of_below hW)⟩
  have H2 := Lib.hid hDS
  have HS := Lib.hid (And.intro hSb hSe)
  have hqR : w2.heap.size ≠ w.heap.size := by omega
  clear hDS hPb hPe hrd htu hW hSb hSe hrd2
  go_upto_region 3 with fail
  generalize w2.alloc (.cells #[.slice ab bs.length cb, .slice ae es.length ce] 32) = wP at *
  generalize w2.heap.size = q at *
  go_wp2_with fail
  refine (of_new wP (w.heap.size + 1) a m cap p1 swTL (by omega) H2.out.rd (by decide) (by decide)).mono ?_
  rintro e w3 ⟨x, hx, rfl, hrd3, htu3⟩
  have hxs : x.size ≤ 1000 := short_of (by decide) hx
  have H3 := Lib.hid (H2.out.draw htu3 hrd3)
  have hg3 := hrd3.lt
  obtain ⟨q0, q1⟩ := And.intro H3.out.at_.c0 H3.out.at_.c1
  have HE := Lib.hid (show ∀ o, ((w3.alloc o).drew).heap[w3.heap.size]? = some o from fun o => heap_alloc_new w3 o)
  clear hx htu3 hrd3
  go_wp2
  go_region_held_law (fun w' => w'.cell? ⟨q, 0, none⟩ = some (.slice ab bs.length cb) ∧ w'.cell? ⟨q, 1, none⟩ = some (.slice ae es.length ce))
    (first
      | with_reducible exact ⟨H3.out.drewD.at_.c0, H3.out.drewD.at_.c1⟩
      | with_reducible exact ⟨(H3.out.alloc _).drewD.at_.c0, (H3.out.alloc _).drewD.at_.c1⟩
      | with_reducible exact ⟨m0, m1⟩
      | with_reducible exact H4.out.after hqR _ _)
    (first
      | (go_at_call 73; refine (of_at _ (w.heap.size + 1) a m cap (p1 + 1) _ swUL _ (by with_reducible exact HE.out _) (by rfl) (by omega) (by omega) (DS.rd (H3.out.alloc _).drewD) (by decide) (by decide)).mono ?_; rintro e w4 ⟨y, hy, rfl, hrd4, htu4⟩; have hys : y.size ≤ 1000 := short_of (by decide) hy; have H4 := Lib.hid ((H3.out.alloc _).drewD.draw htu4 hrd4); obtain ⟨m0, m1⟩ := And.intro H4.out.at_.c0 H4.out.at_.c1; obtain ⟨r0, r1, t0, t1, _⟩ := H4.out.res.cells))
  all_goals
    have hn : ∀ s, Value.slice none 0 0 ≠ .string s := fun s h => by cases h
    have hb := (H4.out.at_.b.setZ r0 hn (u := .slice ab bs.length cb)).setZ (p := ⟨w.heap.size, 1, none⟩) (u := .slice ae es.length ce) (Two.set0 H4.out.res (.slice ab bs.length cb)).cells.2.1 hn
    have he := (H4.out.at_.e.setZ r0 hn (u := .slice ab bs.length cb)).setZ (p := ⟨w.heap.size, 1, none⟩) (u := .slice ae es.length ce) (Two.set0 H4.out.res (.slice ab bs.length cb)).cells.2.1 hn
    have hbw : Below w.heap.size w w4 := H1.out.2.1.trans (H4.out.tu.below H1.out.2.1.size (fun k hk => by omega))
    have hfin := (hbw.setCell (p := ⟨w.heap.size, 0, none⟩) (Nat.le_refl _) (.slice ab bs.length cb)).setCell (p := ⟨w.heap.size, 1, none⟩) (Nat.le_refl _) (.slice ae es.length ce)
    have HX := Lib.hid (And.intro hb (And.intro he hfin))
    clear hb he hbw hfin hn hrd4 htu4 hy m0 m1
    go_wp2
    refine bodyPost_ret (v := .tuple #[.agg #[.slice ab bs.length cb, .slice ae es.length ce], .string x, .string y]) (by simp [results, Tryd.results22, go_sem, r0, r1]) rfl ?_
    exact ⟨bs, es, ab, ae, cb, ce, x, y, rfl, HS.out.1, HS.out.2, hxs, hys, HX.out.1, HX.out.2.1, HX.out.2.2⟩
end Go.Proofs.YthkhccfemdjioaaDoor
end

section
/-
  Plain mathematics of chapter 1: terms swapped in a text. It names no program. Conditions: none.
-/
namespace Go.Proofs.YthkhccfemdjioaaDoor
open Go.RowKit

/-- t for u, u for t, any other number as it is -/
def othN (c t u : Nat) : Nat := if c = t then u else if c = u then t else c
/-- a letter, t and u swapped: small letters compute, great ones spoil -/
def swB (t u c : Nat) : Nat := if lowB c then othN c t u else othN (c + 32) t u - 32
def swC (t u c : Nat) : UInt8 := UInt8.ofNat (swB t u c)
def swT (s : ByteArray) (t u : Nat) : Nat → ByteArray
  | 0 => ⟨#[]⟩
  | k + 1 => swT s t u k ++ ⟨#[swC t u (byteAt s k)]⟩
theorem swT_succ (s : ByteArray) (t u k : Nat) : swT s t u (k + 1) = swT s t u k ++ ⟨#[swC t u (byteAt s k)]⟩ := rfl
theorem swT_size (s : ByteArray) (t u : Nat) : ∀ k, (swT s t u k).size = k
  | 0 => rfl
  | k + 1 => by rw [swT_succ, ByteArray.size_append, swT_size s t u k]; rfl
theorem swB_le {t u c : Nat} (ht : lowB t = true) (hu : lowB u = true) (hc : opB c = true) : swB t u c < 256 ∧ opB (swB t u c) = true ∧ (lowB (swB t u c) = lowB c) := by
  have h1 : t = 120 ∨ t = 121 ∨ t = 122 := by unfold lowB at ht; simp only [Bool.and_eq_true, decide_eq_true_eq] at ht; omega
  have h2 : u = 120 ∨ u = 121 ∨ u = 122 := by unfold lowB at hu; simp only [Bool.and_eq_true, decide_eq_true_eq] at hu; omega
  have h3 : c = 88 ∨ c = 89 ∨ c = 90 ∨ c = 120 ∨ c = 121 ∨ c = 122 := by unfold opB lowB upB at hc; simp only [Bool.or_eq_true, Bool.and_eq_true, decide_eq_true_eq] at hc; omega
  rcases h1 with rfl | rfl | rfl <;> rcases h2 with rfl | rfl | rfl <;> rcases h3 with rfl | rfl | rfl | rfl | rfl | rfl <;> decide
theorem swC_nat {t u c : Nat} (ht : lowB t = true) (hu : lowB u = true) (hc : opB c = true) : (swC t u c).toNat = swB t u c := by
  unfold swC
  rw [UInt8.toNat_ofNat']
  have := (swB_le ht hu hc).1
  omega
theorem swT_at (s : ByteArray) (t u : Nat) : ∀ k i, i < k → byteAt (swT s t u k) i = (swC t u (byteAt s i)).toNat
  | 0, i, h => absurd h (Nat.not_lt_zero _)
  | k + 1, i, h => by
    have hz := swT_size s t u k
    have hd : (swT s t u k).data.size = k := hz
    rw [swT_succ]
    unfold byteAt
    rw [ByteArray.data_append]
    by_cases e : i < k
    · have := swT_at s t u k i e
      unfold byteAt at this
      rw [Array.getD_eq_getD_getElem?, Array.getElem?_append_left (by omega), ← Array.getD_eq_getD_getElem?]
      exact this
    · obtain rfl : i = k := by omega
      rw [Array.getD_eq_getD_getElem?, Array.getElem?_append_right (by omega), hd, Nat.sub_self]
      rfl
end Go.Proofs.YthkhccfemdjioaaDoor
end

section
/-
  A program whose terms are swapped, as data: its blocks, what the two functions return. It names the program's types alone. Conditions: none.
-/
namespace Go.Proofs.YthkhccfemdjioaaDoor
open Go.RowKit Go.Maps

/-- the first blocks, two terms swapped -/
def swL (bs : List Pr) (t u : Nat) (k : Nat) : List Pr := (List.range k).map fun i => (nameAt bs i, swT (restAt bs i) t u (restAt bs i).size)
theorem swL_length (bs : List Pr) (t u k : Nat) : (swL bs t u k).length = k := by simp [swL]
theorem cellsOf_appendW : ∀ (a b : List Pr), cellsOf (a ++ b) = cellsOf a ++ cellsOf b
  | [], b => rfl
  | p :: r, b => by show _ :: _ :: cellsOf (r ++ b) = _; rw [cellsOf_appendW r b]; rfl
theorem swL_snoc (bs : List Pr) (t u k : Nat) : swL bs t u (k + 1) = swL bs t u k ++ [(nameAt bs k, swT (restAt bs k) t u (restAt bs k).size)] := by
  unfold swL
  rw [List.range_succ, List.map_append]; rfl
theorem swL_succ (bs : List Pr) (t u k : Nat) : cellsOf (swL bs t u (k + 1)) = cellsOf (swL bs t u k) ++ [.string (nameAt bs k), .string (swT (restAt bs k) t u (restAt bs k).size)] := by
  rw [swL_snoc, cellsOf_appendW]; rfl
theorem swL_get {bs : List Pr} {t u k i : Nat} (h : i < k) : (swL bs t u k).getD i (e0, e0) = (nameAt bs i, swT (restAt bs i) t u (restAt bs i).size) := by
  unfold swL
  rw [List.getD_eq_getElem?_getD]
  simp [h]
theorem swL_name {bs : List Pr} {t u k i : Nat} (h : i < k) : nameAt (swL bs t u k) i = nameAt bs i := by
  show ((swL bs t u k).getD i (e0, e0)).1 = _
  rw [swL_get h]
theorem swL_rest {bs : List Pr} {t u k i : Nat} (h : i < k) : restAt (swL bs t u k) i = swT (restAt bs i) t u (restAt bs i).size := by
  show ((swL bs t u k).getD i (e0, e0)).2 = _
  rw [swL_get h]
theorem swL_small {bs : List Pr} {t u : Nat} (h : ∀ i, i < bs.length → (nameAt bs i).size ≤ 1048576 ∧ (restAt bs i).size ≤ 1048576) : ∀ i, i < (swL bs t u bs.length).length → (nameAt (swL bs t u bs.length) i).size ≤ 1048576 ∧ (restAt (swL bs t u bs.length) i).size ≤ 1048576 := by
  intro i hi
  rw [swL_length] at hi
  rw [swL_name hi, swL_rest hi, swT_size]
  exact h i hi
/-- whether there is an answer -/
noncomputable def swOk (bs es : List Pr) (x y : ByteArray) : Bool := validB bs es && (isTm x && isTm y)
open Classical in
noncomputable def swRL (bs es : List Pr) (x y : ByteArray) : List Pr := if swOk bs es x y = true then swL bs (byteAt x 0) (byteAt y 0) bs.length else []
open Classical in
noncomputable def swRE (bs es : List Pr) (x y : ByteArray) : List Pr := if swOk bs es x y = true then es else []
theorem swRL_small {bs es : List Pr} {x y : ByteArray} (hl : bs.length ≤ 1048576) (h : ∀ i, i < bs.length → (nameAt bs i).size ≤ 1048576 ∧ (restAt bs i).size ≤ 1048576) : (swRL bs es x y).length ≤ 1048576 ∧ ∀ i, i < (swRL bs es x y).length → (nameAt (swRL bs es x y) i).size ≤ 1048576 ∧ (restAt (swRL bs es x y) i).size ≤ 1048576 := by
  unfold swRL
  split
  · exact ⟨by rw [swL_length]; exact hl, swL_small h⟩
  · exact ⟨Nat.zero_le _, fun i hi => absurd hi (Nat.not_lt_zero _)⟩
theorem swRE_small {bs es : List Pr} {x y : ByteArray} (hl : es.length ≤ 1048576) (h : ∀ i, i < es.length → (nameAt es i).size ≤ 1048576 ∧ (restAt es i).size ≤ 1048576) : (swRE bs es x y).length ≤ 1048576 ∧ ∀ i, i < (swRE bs es x y).length → (nameAt (swRE bs es x y) i).size ≤ 1048576 ∧ (restAt (swRE bs es x y) i).size ≤ 1048576 := by
  unfold swRE
  split
  · exact ⟨hl, h⟩
  · exact ⟨Nat.zero_le _, fun i hi => absurd hi (Nat.not_lt_zero _)⟩
theorem ProgRes.yes {W W' : World} {L E : List Pr} {v ve : Value} {n m : Nat} (hn : n = L.length) (hm : m = E.length) (hb : Below W.heap.size W W') (ho : W'.ownsRow W.heap.size 52 2 v n (cellsOf L)) (hoe : W'.ownsRow W.heap.size 93 2 ve m (cellsOf E)) :
    ProgRes W true L E (.returned (.tuple #[.agg #[v, ve], .bool true])) W' := by
  subst hn hm
  obtain ⟨a, c, rfl⟩ := own_form ho
  obtain ⟨a', c', rfl⟩ := own_form hoe
  exact ⟨hb, a, c, a', c', rfl, ho, hoe, fun g hg => (ho.lt g hg).2, fun g hg => (hoe.lt g hg).2⟩
theorem ProgRes.no {W W' : World} (hb : Below W.heap.size W W') : ProgRes W false [] [] (.returned (.tuple #[.agg #[.slice none 0 0, .slice none 0 0], .bool false])) W' :=
  ⟨hb, none, 0, none, 0, rfl, World.ownsRow_nil _ _ _ _, World.ownsRow_nil _ _ _ _, fun g hg => by simp [Value.ownBlock] at hg, fun g hg => by simp [Value.ownBlock] at hg⟩
theorem swNo {bs es : List Pr} {x y : ByteArray} (h : swOk bs es x y = false) : swRL bs es x y = [] ∧ swRE bs es x y = [] := by
  unfold swRL swRE; rw [if_neg (by rw [h]; simp), if_neg (by rw [h]; simp)]; exact ⟨rfl, rfl⟩
theorem swYes {bs es : List Pr} {x y : ByteArray} (h : swOk bs es x y = true) : swRL bs es x y = swL bs (byteAt x 0) (byteAt y 0) bs.length ∧ swRE bs es x y = es := by
  unfold swRL swRE; rw [if_pos h, if_pos h]; exact ⟨rfl, rfl⟩
theorem ProgRes.swNo {W W' : World} {bs es : List Pr} {x y : ByteArray} (h : swOk bs es x y = false) (hb : Below W.heap.size W W') : ProgRes W (swOk bs es x y) (swRL bs es x y) (swRE bs es x y) (.returned (.tuple #[.agg #[.slice none 0 0, .slice none 0 0], .bool false])) W' := by
  rw [(Go.Proofs.YthkhccfemdjioaaDoor.swNo h).1, (Go.Proofs.YthkhccfemdjioaaDoor.swNo h).2, h]; exact ProgRes.no hb
theorem ProgRes.swYes {W W' : World} {bs es : List Pr} {x y : ByteArray} {v ve : Value} (h : swOk bs es x y = true) (hb : Below W.heap.size W W') (ho : W'.ownsRow W.heap.size 52 2 v bs.length (cellsOf (swL bs (byteAt x 0) (byteAt y 0) bs.length))) (hoe : W'.ownsRow W.heap.size 93 2 ve es.length (cellsOf es)) :
    ProgRes W (swOk bs es x y) (swRL bs es x y) (swRE bs es x y) (.returned (.tuple #[.agg #[v, ve], .bool true])) W' := by
  rw [(Go.Proofs.YthkhccfemdjioaaDoor.swYes h).1, (Go.Proofs.YthkhccfemdjioaaDoor.swYes h).2, h]; exact ProgRes.yes (swL_length _ _ _ _).symm rfl hb ho hoe

/-- a text's one letter -/
def letC (t u c : Nat) : ByteArray := ⟨#[swC t u c]⟩
theorem one_of_size {c : ByteArray} (h : c.size = 1) (ho : opB (byteAt c 0) = true) : c = ⟨#[88]⟩ ∨ c = ⟨#[89]⟩ ∨ c = ⟨#[90]⟩ ∨ c = ⟨#[120]⟩ ∨ c = ⟨#[121]⟩ ∨ c = ⟨#[122]⟩ := by
  obtain ⟨⟨l⟩⟩ := c
  have hl : l.length = 1 := h
  match l, hl with
  | [b], _ =>
    have e : byteAt ⟨⟨[b]⟩⟩ 0 = b.toNat := rfl
    rw [e] at ho
    unfold opB lowB upB at ho
    simp only [Bool.or_eq_true, Bool.and_eq_true, decide_eq_true_eq] at ho
    have h6 : b.toNat = 88 ∨ b.toNat = 89 ∨ b.toNat = 90 ∨ b.toNat = 120 ∨ b.toNat = 121 ∨ b.toNat = 122 := by omega
    rcases h6 with h | h | h | h | h | h
    · obtain rfl : b = 88 := UInt8.toNat_inj.1 h; exact .inl rfl
    · obtain rfl : b = 89 := UInt8.toNat_inj.1 h; exact .inr (.inl rfl)
    · obtain rfl : b = 90 := UInt8.toNat_inj.1 h; exact .inr (.inr (.inl rfl))
    · obtain rfl : b = 120 := UInt8.toNat_inj.1 h; exact .inr (.inr (.inr (.inl rfl)))
    · obtain rfl : b = 121 := UInt8.toNat_inj.1 h; exact .inr (.inr (.inr (.inr (.inl rfl))))
    · obtain rfl : b = 122 := UInt8.toNat_inj.1 h; exact .inr (.inr (.inr (.inr (.inr rfl))))
/-- which of five ways a letter goes -/
theorem sw_pick {x y c : ByteArray} (hx : isTm x = true) (hy : isTm y = true) (h : c.size = 1) (ho : opB (byteAt c 0) = true) :
    (c = x → letC (byteAt x 0) (byteAt y 0) (byteAt c 0) = y) ∧ (c ≠ x → c = y → letC (byteAt x 0) (byteAt y 0) (byteAt c 0) = x) ∧ (c ≠ x → c ≠ y → c = spoilT x → letC (byteAt x 0) (byteAt y 0) (byteAt c 0) = spoilT y) ∧
    (c ≠ x → c ≠ y → c ≠ spoilT x → c = spoilT y → letC (byteAt x 0) (byteAt y 0) (byteAt c 0) = spoilT x) ∧ (c ≠ x → c ≠ y → c ≠ spoilT x → c ≠ spoilT y → letC (byteAt x 0) (byteAt y 0) (byteAt c 0) = c) := by
  rcases isTm_iff.1 hx with rfl | rfl | rfl <;> rcases isTm_iff.1 hy with rfl | rfl | rfl <;> rcases one_of_size h ho with rfl | rfl | rfl | rfl | rfl | rfl <;> refine ⟨?_, ?_, ?_, ?_, ?_⟩ <;> decide
theorem byteAt_one {s : ByteArray} {i : Nat} (h : i < s.size) : byteAt (s.extract i (i + 1)) 0 = byteAt s i := by
  unfold byteAt
  rw [ByteArray.data_extract]
  simp only [Array.getD_eq_getD_getElem?]
  rw [Array.getElem?_extract]
  have h2 : 0 < min (i + 1) s.size - i := by omega
  simp [h2]
theorem swT_step {s : ByteArray} {t u i : Nat} (h : i < s.size) : swT s t u (i + 1) = swT s t u i ++ letC t u (byteAt (s.extract i (i + 1)) 0) := by
  rw [byteAt_one h]; exact swT_succ _ _ _ _
end Go.Proofs.YthkhccfemdjioaaDoor
end

section
/-
  Plain mathematics of chapter 1: programs with swapped terms are valid; swaps one behind the other, a swap taken back, a term swapped with itself. It names the program's types alone. Conditions: none.
-/
namespace Go.Proofs.YthkhccfemdjioaaDoor
open Go.RowKit Go.Maps

theorem bytes_eqW {a b : ByteArray} (hs : a.size = b.size) (h : ∀ i, i < a.size → byteAt a i = byteAt b i) : a = b := by
  apply ByteArray.ext
  apply Array.ext hs
  intro i h1 h2
  have h3 := h i h1
  unfold byteAt at h3
  rw [Array.getD_eq_getD_getElem?, Array.getD_eq_getD_getElem?, Array.getElem?_eq_getElem h1, Array.getElem?_eq_getElem h2] at h3
  exact UInt8.toNat_inj.1 h3
/-- letters that tell something -/
def OpAll (s : ByteArray) : Prop := ∀ i, i < s.size → opB (byteAt s i) = true
theorem op_six {c : Nat} (hc : opB c = true) : c = 88 ∨ c = 89 ∨ c = 90 ∨ c = 120 ∨ c = 121 ∨ c = 122 := by unfold opB lowB upB at hc; simp only [Bool.or_eq_true, Bool.and_eq_true, decide_eq_true_eq] at hc; omega
theorem low_three {t : Nat} (ht : lowB t = true) : t = 120 ∨ t = 121 ∨ t = 122 := by unfold lowB at ht; simp only [Bool.and_eq_true, decide_eq_true_eq] at ht; omega
theorem sw_at {s : ByteArray} {t u : Nat} (ht : lowB t = true) (hu : lowB u = true) (ho : OpAll s) {i : Nat} (hi : i < s.size) : byteAt (swT s t u s.size) i = swB t u (byteAt s i) := by
  rw [swT_at s t u s.size i hi, swC_nat ht hu (ho i hi)]
theorem sw_op {s : ByteArray} {t u : Nat} (ht : lowB t = true) (hu : lowB u = true) (ho : OpAll s) : OpAll (swT s t u s.size) := by
  intro i hi
  rw [swT_size] at hi
  rw [sw_at ht hu ho hi]
  exact (swB_le ht hu (ho i hi)).2.1
theorem swB_self {t c : Nat} (ht : lowB t = true) (hc : opB c = true) : swB t t c = c := by
  rcases low_three ht with rfl | rfl | rfl <;> rcases op_six hc with rfl | rfl | rfl | rfl | rfl | rfl <;> decide
theorem swB_back {t u c : Nat} (ht : lowB t = true) (hu : lowB u = true) (hc : opB c = true) : swB u t (swB t u c) = c := by
  rcases low_three ht with rfl | rfl | rfl <;> rcases low_three hu with rfl | rfl | rfl <;> rcases op_six hc with rfl | rfl | rfl | rfl | rfl | rfl <;> decide
theorem swB_three {c : Nat} (hc : opB c = true) : swB 120 121 (swB 121 122 (swB 120 121 c)) = swB 120 122 c := by
  rcases op_six hc with rfl | rfl | rfl | rfl | rfl | rfl <;> decide
theorem swT_self {s : ByteArray} {t : Nat} (ht : lowB t = true) (ho : OpAll s) : swT s t t s.size = s :=
  bytes_eqW (swT_size _ _ _ _) fun i hi => by rw [swT_size] at hi; rw [sw_at ht ht ho hi, swB_self ht (ho i hi)]
theorem swT_back {s : ByteArray} {t u : Nat} (ht : lowB t = true) (hu : lowB u = true) (ho : OpAll s) : swT (swT s t u s.size) u t (swT s t u s.size).size = s :=
  bytes_eqW (by rw [swT_size, swT_size]) fun i hi => by
    rw [swT_size] at hi
    have h1 := hi
    rw [swT_size] at hi
    rw [sw_at hu ht (sw_op ht hu ho) h1, sw_at ht hu ho hi, swB_back ht hu (ho i hi)]
theorem swT_three {s : ByteArray} (ho : OpAll s) : swT (swT (swT s 120 121 s.size) 121 122 (swT s 120 121 s.size).size) 120 121 (swT (swT s 120 121 s.size) 121 122 (swT s 120 121 s.size).size).size = swT s 120 122 s.size :=
  bytes_eqW (by rw [swT_size, swT_size, swT_size, swT_size]) fun i hi => by
    have h0 : i < s.size := by rw [swT_size, swT_size, swT_size] at hi; exact hi
    have o1 := sw_op (s := s) (t := 120) (u := 121) (by decide) (by decide) ho
    have o2 := sw_op (t := 121) (u := 122) (by decide) (by decide) o1
    rw [sw_at (by decide) (by decide) o2 (by rw [swT_size, swT_size]; exact h0), sw_at (by decide) (by decide) o1 (by rw [swT_size]; exact h0), sw_at (by decide) (by decide) ho h0, sw_at (by decide) (by decide) ho h0, swB_three (ho i h0)]

/-- a whole program's blocks, two terms swapped -/
def swA (bs : List Pr) (t u : Nat) : List Pr := swL bs t u bs.length
theorem swA_length (bs : List Pr) (t u : Nat) : (swA bs t u).length = bs.length := swL_length _ _ _ _
theorem swA_name {bs : List Pr} {t u i : Nat} (h : i < bs.length) : nameAt (swA bs t u) i = nameAt bs i := swL_name h
theorem swA_rest {bs : List Pr} {t u i : Nat} (h : i < bs.length) : restAt (swA bs t u) i = swT (restAt bs i) t u (restAt bs i).size := swL_rest h
theorem swA_names (bs : List Pr) (t u : Nat) : names (swA bs t u) = names bs := by
  apply List.ext_getElem?
  intro i
  by_cases h : i < bs.length
  · rw [names_at (by rw [swA_length]; exact h), names_at h, swA_name h]
  · rw [List.getElem?_eq_none (by rw [names_length, swA_length]; omega), List.getElem?_eq_none (by rw [names_length]; omega)]
theorem valid_op {bs es : List Pr} (hV : Valid bs es) {i : Nat} (h : i < bs.length) : OpAll (restAt bs i) := (hV.b.op _ (pair_mem h)).2
theorem Valid.swap {bs es : List Pr} (hV : Valid bs es) {t u : Nat} (ht : lowB t = true) (hu : lowB u = true) : Valid (swA bs t u) es := by
  have hlen := swA_length bs t u
  have h2 := hV.b.lo
  have hn0 : nameAt (swA bs t u) 0 = nameAt bs 0 := swA_name (by omega)
  have hnl : nameAt (swA bs t u) ((swA bs t u).length - 1) = nameAt bs (bs.length - 1) := by rw [hlen]; exact swA_name (by omega)
  have hmem : ∀ p ∈ swA bs t u, ∃ i, i < bs.length ∧ p.1 = nameAt bs i ∧ p.2 = swT (restAt bs i) t u (restAt bs i).size := by
    intro p hp
    obtain ⟨i, hi, e1, e2⟩ := mem_at hp
    rw [hlen] at hi
    exact ⟨i, hi, by rw [← e1, swA_name hi], by rw [← e2, swA_rest hi]⟩
  refine ⟨⟨by omega, by have := hV.b.hi; omega, ?_, ?_, by rw [swA_names]; exact hV.b.nd, ?_⟩, ⟨hV.e.hi, ?_, ?_, hV.e.nd, by rw [hn0]; exact hV.e.ne, by rw [hnl]; exact hV.e.nx⟩, ?_, ?_⟩
  · intro p hp
    obtain ⟨i, hi, e1, _⟩ := hmem p hp
    rw [e1]; exact hV.b.nm _ (pair_mem hi)
  · intro p hp
    obtain ⟨i, hi, _, e2⟩ := hmem p hp
    rw [e2]
    exact ⟨by rw [swT_size]; exact (hV.b.op _ (pair_mem hi)).1, sw_op ht hu (valid_op hV hi)⟩
  · rw [swA_rest (by omega), hV.b.en]; rfl
  · rw [swA_names]; exact hV.e.fr
  · rw [swA_names]; exact hV.e.to
  · intro p hp
    obtain ⟨i, hi, e1, _⟩ := hmem p hp
    rw [e1, hn0]; exact hV.ra _ (pair_mem hi)
  · intro p hp
    obtain ⟨i, hi, e1, _⟩ := hmem p hp
    rw [e1, hnl]; exact hV.rz _ (pair_mem hi)
theorem swA_ext {bs l : List Pr} {t u : Nat} (hl : l.length = bs.length) (hn : ∀ i, i < bs.length → nameAt l i = nameAt bs i) (hr : ∀ i, i < bs.length → restAt l i = swT (restAt bs i) t u (restAt bs i).size) : l = swA bs t u :=
  ext_at (by rw [hl, swA_length]) fun i hi => by
    rw [hl] at hi
    rw [swA_name hi, swA_rest hi]
    exact ⟨hn i hi, hr i hi⟩
theorem swA_self {bs es : List Pr} (hV : Valid bs es) {t : Nat} (ht : lowB t = true) : swA bs t t = bs :=
  ext_at (swA_length _ _ _) fun i hi => by
    rw [swA_length] at hi
    rw [swA_name hi, swA_rest hi, swT_self ht (valid_op hV hi)]
    exact ⟨rfl, rfl⟩
theorem swA_back {bs es : List Pr} (hV : Valid bs es) {t u : Nat} (ht : lowB t = true) (hu : lowB u = true) : swA (swA bs t u) u t = bs :=
  ext_at (by rw [swA_length, swA_length]) fun i hi => by
    rw [swA_length, swA_length] at hi
    have h1 : i < (swA bs t u).length := by rw [swA_length]; exact hi
    rw [swA_name h1, swA_rest h1, swA_name hi, swA_rest hi, swT_back ht hu (valid_op hV hi)]
    exact ⟨rfl, rfl⟩
theorem swA_three {bs es : List Pr} (hV : Valid bs es) : swA (swA (swA bs 120 121) 121 122) 120 121 = swA bs 120 122 :=
  ext_at (by rw [swA_length, swA_length, swA_length, swA_length]) fun i hi => by
    rw [swA_length, swA_length, swA_length] at hi
    have h1 : i < (swA bs 120 121).length := by rw [swA_length]; exact hi
    have h2 : i < (swA (swA bs 120 121) 121 122).length := by rw [swA_length]; exact h1
    rw [swA_name h2, swA_rest h2, swA_name h1, swA_rest h1, swA_name hi, swA_rest hi, swA_name hi, swA_rest hi, swT_three (valid_op hV hi)]
    exact ⟨rfl, rfl⟩
def xT : ByteArray := ⟨#[120]⟩
def yT : ByteArray := ⟨#[121]⟩
def zT : ByteArray := ⟨#[122]⟩
theorem swOk_yes {bs es : List Pr} (hV : Valid bs es) {x y : ByteArray} (hx : isTm x = true) (hy : isTm y = true) : swOk bs es x y = true := by
  unfold swOk
  rw [hx, hy, show validB bs es = true by simpa [validB] using hV]; rfl
theorem swOk_no {bs es : List Pr} (hV : ¬ Valid bs es) (x y : ByteArray) : swOk bs es x y = false := by
  unfold swOk
  rw [show validB bs es = false by simpa [validB] using hV]; rfl
theorem swRL_yes {bs es : List Pr} (hV : Valid bs es) {x y : ByteArray} (hx : isTm x = true) (hy : isTm y = true) : swRL bs es x y = swA bs (byteAt x 0) (byteAt y 0) := (swYes (swOk_yes hV hx hy)).1
theorem swRE_yes {bs es : List Pr} (hV : Valid bs es) {x y : ByteArray} (hx : isTm x = true) (hy : isTm y = true) : swRE bs es x y = es := (swYes (swOk_yes hV hx hy)).2
end Go.Proofs.YthkhccfemdjioaaDoor
end

section
/-
  SwapTerms of the model. Conditions: at most 1048576 blocks and edges, each text at most as many bytes.
-/
namespace Go.Proofs.YthkhccfemdjioaaDoor
open Go.RowKit Go.Maps

/-- the blocks that out stands in, ahead of the loop -/
structure SwA (w wr : World) (R Q q lo : Nat) (v ve : Value) (ab ae : Option Addr) (cb ce : Nat) (bs es : List Pr) : Prop where
  loop : TLoop w wr R Q lo v ve 0 es.length [] es
  p : Two wr q (.slice ab bs.length cb) (.slice ae es.length ce)
theorem SwA.below {w wr w' : World} {R Q q lo : Nat} {v ve : Value} {ab ae : Option Addr} {cb ce : Nat} {bs es : List Pr} (h : SwA w wr R Q q lo v ve ab ae cb ce bs es) (hb : Below wr.heap.size wr w') : SwA w w' R Q q lo v ve ab ae cb ce bs es :=
  ⟨h.loop.below hb, h.p.of_cells (hb.block _ h.p.cells.2.2.2.2)⟩
theorem Valid.es_pos {bs es : List Pr} (hV : Valid bs es) : 0 < es.length := by
  rcases Nat.eq_zero_or_pos es.length with h0 | h0
  · exfalso
    have he := List.length_eq_zero_iff.1 h0
    subst he
    have h2 := hV.b.lo
    have h3 := hV.ra _ (pair_mem (show bs.length - 1 < bs.length by omega))
    have h4 := h3.closed (S := fun x => x = nameAt bs 0) rfl (fun x y hm _ => by cases hm)
    have := names_inj hV.b.nd (show bs.length - 1 < bs.length by omega) (show 0 < bs.length by omega) h4
    omega
  · exact h0

set_option maxRecDepth 100000 in
set_option maxHeartbeats 6400000 in
theorem SwapTerms_spec (w : World) (bs es : List Pr) (ab ae : Option Addr) (cb ce : Nat) (x y : ByteArray) (hxs : x.size ≤ 1048576) (hys : y.size ≤ 1048576) (hpb : PairsAt w ab bs) (hpe : PairsAt w ae es) :
    Calls Tryd.prog 24 #[.agg #[.slice ab bs.length cb, .slice ae es.length ce], .string x, .string y] w (ProgRes w (swOk bs es x y) (swRL bs es x y) (swRE bs es x y)) := by
  have hA1 : Below w.heap.size w ((w.alloc (.cells #[.slice ab bs.length cb, .slice ae es.length ce] 32)).alloc (.cells #[.slice none 0 0, .slice none 0 0] 32)) := ((Below.refl _ _).alloc (Nat.le_refl _) _).alloc (by simp) _
  have hRA : Two ((w.alloc (.cells #[.slice ab bs.length cb, .slice ae es.length ce] 32)).alloc (.cells #[.slice none 0 0, .slice none 0 0] 32)) (w.heap.size + 1) (.slice none 0 0) (.slice none 0 0) := by
    rw [show w.heap.size + 1 = (w.alloc (.cells #[.slice ab bs.length cb, .slice ae es.length ce] 32)).heap.size by simp]; exact heap_alloc_new _ _
  have hPA : Two ((w.alloc (.cells #[.slice ab bs.length cb, .slice ae es.length ce] 32)).alloc (.cells #[.slice none 0 0, .slice none 0 0] 32)) w.heap.size (.slice ab bs.length cb) (.slice ae es.length ce) := (Below.heap_alloc _ _ _ (by simp)).trans (heap_alloc_new _ _)
  have hzA : ((w.alloc (.cells #[.slice ab bs.length cb, .slice ae es.length ce] 32)).alloc (.cells #[.slice none 0 0, .slice none 0 0] 32)).heap.size = w.heap.size + 2 := by simp
  have hl9 := hpb.len
  have hle := hpe.len
  obtain ⟨i0, hi, hz0, hz1, hz2⟩ := info_parts Tryd.infoBlock
  obtain ⟨j0, hj, yz0, yz1, yz2⟩ := info_parts Tryd.infoEdge
  go_enter Tryd.func24, Tryd.ntmps24
  have HT := Lib.hid (And.intro hxs hys)
  clear hxs hys
  rcases Nat.eq_zero_or_pos es.length with he0 | he0
  · obtain rfl := List.length_eq_zero_iff.1 he0
    have hno : validB bs [] = false := by
      cases hv : validB bs []
      · rfl
      · have hV : Valid bs [] := by simpa [validB] using hv
        exact absurd hV.es_pos (by simp)
    have HN := Lib.hid (show swOk bs [] x y = false by unfold swOk; rw [hno]; rfl)
    have HV := Lib.hid hno
    have HA := Lib.hid (And.intro hA1 (And.intro hRA (And.intro (hpb.below hA1) (hpe.below hA1))))
    have c1 := hPA.cells.2.1
    have c0 := hPA.cells.1
    have hwl := hPA.cells.2.2.2.2
    clear hno hA1 hRA hPA hpb hpe he0
    rcases ae with _ | ad
    all_goals
      go_wp2_with fail
      refine (ProgValid_spec _ bs [] _ _ _ _ (((HA.out.2.2.1.alloc _).alloc _).alloc _) (((HA.out.2.2.2.alloc _).alloc _).alloc _)).mono ?_
      rintro e w4 ⟨he, hb4⟩
      rw [HV.out] at he
      subst he
      have hz4 := hb4.size
      simp at hz4
      have hR4 : Two w4 (w.heap.size + 1) _ _ := HA.out.2.1.of_cells ((hb4.block _ (by simp <;> omega)).trans ((Below.heap_alloc _ _ _ (by simp)).trans ((Below.heap_alloc _ _ _ (by simp)).trans (Below.heap_alloc _ _ _ (by simp)))))
      have hB4 : Below w.heap.size w w4 := HA.out.1.trans (((((Below.refl _ _).alloc (by simp <;> omega) _).alloc (by simp <;> omega) _).alloc (by simp <;> omega) _).trans (hb4.mono (by simp <;> omega)))
      obtain ⟨r0, r1, t0, t1, _⟩ := hR4.cells
      have HB := Lib.hid hB4
      clear hb4 hR4 hB4 c0 c1
      go_wp2
      refine bodyPost_ret (v := .tuple #[.agg #[.slice none 0 0, .slice none 0 0], .bool false]) (by simp [results, Tryd.results24, go_sem, r0, r1]) rfl ?_
      exact ProgRes.swNo HN.out (by repeat (first | exact HB.out | refine Below.setCell ?_ (by simp <;> omega) _ | refine Below.alloc ?_ (by first | omega | (simp; omega)) _))
  · go_upto_region 1 with fail
    generalize hwA : (w.alloc (.cells #[.slice ab bs.length cb, .slice ae es.length ce] 32)).alloc (.cells #[.slice none 0 0, .slice none 0 0] 32) = wA at *
    have hA2 : Below wA.heap.size wA ((wA.alloc (.cells #[] 52)).alloc (.cells #[] 93)) := ((Below.refl _ _).alloc (Nat.le_refl _) _).alloc (by simp) _
    have hoB : ((wA.alloc (.cells #[] 52)).alloc (.cells #[] 93)).ownsRow (wA.heap.size) 52 2 (.slice (some ⟨wA.heap.size, 0, none⟩) 0 0) 0 [] := by
      have := (World.ownsRow_made wA (base := wA.heap.size) (e := 52) (size := 2) #[] 0 (Nat.le_refl _) (Nat.zero_le _) rfl).alloc (.cells #[] 93)
      exact this
    have hoE : ((wA.alloc (.cells #[] 52)).alloc (.cells #[] 93)).ownsRow (wA.heap.size + 1) 93 2 (.slice (some ⟨wA.heap.size + 1, 0, none⟩) 0 0) 0 [] := by
      have := World.ownsRow_made (wA.alloc (.cells #[] 52)) (base := wA.heap.size + 1) (e := 93) (size := 2) #[] 0 (by simp) (Nat.zero_le _) rfl
      simpa using this
    have hz3 : ((wA.alloc (.cells #[] 52)).alloc (.cells #[] 93)).heap.size = wA.heap.size + 2 := by simp
    have hpe3 := (hpe.below hA1).below hA2
    have hpb3 := (hpb.below hA1).below hA2
    obtain ⟨b1, o1, rfl, _⟩ := hpe3.cell 0 he0
    have hnews : ∀ j u, (cellsOf es)[j]? = some u → ((wA.alloc (.cells #[] 52)).alloc (.cells #[] 93)).cell? ((⟨b1, o1, none⟩ : Addr).add j) = some u := by
      intro j u hj
      obtain ⟨i, hi, ⟨rfl, rfl⟩ | ⟨rfl, rfl⟩⟩ := cellsOf_at hj
      · obtain ⟨b, off, e, hb, g1, g2⟩ := hpe3.cell i hi
        cases e
        rw [Addr.add_lit]; exact g1
      · obtain ⟨b, off, e, hb, g1, g2⟩ := hpe3.cell i hi
        cases e
        rw [Addr.add_lit]; exact g2
    have hR3 : Two ((wA.alloc (.cells #[] 52)).alloc (.cells #[] 93)) (w.heap.size + 1) _ _ := hRA.of_cells (hA2.block _ hRA.cells.2.2.2.2)
    have hP3 : Two ((wA.alloc (.cells #[] 52)).alloc (.cells #[] 93)) w.heap.size _ _ := hPA.of_cells (hA2.block _ hPA.cells.2.2.2.2)
    have c0 := hPA.cells.1
    have c1 := hPA.cells.2.1
    have hwl := hPA.cells.2.2.2.2
    have HA := Lib.hid (And.intro hoB (And.intro hoE (And.intro (hA1.trans (hA2.mono hA1.size)) (And.intro hR3 (And.intro hP3 (And.intro hpb3 (And.intro hpe3 (And.intro hnews (And.intro hz3 (And.intro hpb hpe))))))))))
    have HZA := Lib.hid hzA
    clear hzA hA1 hRA hPA hA2 hoB hoE hpe3 hpb3 hnews hR3 hP3 hz3 hpb hpe hwA
    go_wp2_with (at_builtin; refine wpList_append_lies _ rfl _ _ 30 rfl (wA.heap.size + 1) 93 j0 (.agg #[.string ⟨#[]⟩, .string ⟨#[]⟩]) 2 32 Tryd.underlying30 hj yz0 yz1 yz2 rfl (by decide) _ 0 [] rfl HA.out.2.1 ⟨b1, o1, none⟩ es.length ce (cellsOf es) rfl (cellsOf_length es) HA.out.2.2.2.2.2.2.2.1 (cellsOf_one es) (by omega) (by unfold maxLen; omega) (by omega) (by have := HA.out.2.2.2.2.2.2.2.2.1; omega) _ rfl ?_; intro ge cape w2 hown2 hgrow2 hlies2 _; have hP2 : Two w2 w.heap.size _ _ := HA.out.2.2.2.2.1.of_cells (hgrow2.block _ (by rw [HA.out.2.2.2.2.2.2.2.2.1]; omega) (fun e => own_neK HA.out.2.1 HA.out.2.2.2.2.1 (by decide) e.symm)); have kA := (fun q => (World.cell?_alloc_lt w2 q ⟨w.heap.size, 0, none⟩ hP2.cells.2.2.2.2).trans hP2.cells.1); have kB := (fun q => (World.cell?_alloc_lt w2 q ⟨w.heap.size, 1, none⟩ hP2.cells.2.2.2.2).trans hP2.cells.2.1); have HP2 := Lib.hid hP2; clear hP2)
    have hTL : SwA w (w2.alloc (.cells #[.slice (some ⟨wA.heap.size, 0, none⟩) 0 0, .slice (some ⟨ge, 0, none⟩) es.length cape] 32)) (w.heap.size + 1) w2.heap.size w.heap.size wA.heap.size (.slice (some ⟨wA.heap.size, 0, none⟩) 0 0) (.slice (some ⟨ge, 0, none⟩) es.length cape) ab (some ⟨b1, o1, none⟩) cb ce bs es := by
      have hb2 : Below w2.heap.size w2 (w2.alloc (.cells #[.slice (some ⟨wA.heap.size, 0, none⟩) 0 0, .slice (some ⟨ge, 0, none⟩) es.length cape] 32)) := (Below.refl _ _).alloc (Nat.le_refl _) _
      have hz9 := HA.out.2.2.2.2.2.2.2.2.1
      have hzA := HZA.out
      have hz2 := hgrow2.size
      have hR2 : Two w2 (w.heap.size + 1) _ _ := HA.out.2.2.2.1.of_cells (hgrow2.block _ (by omega) (fun e => own_neK HA.out.2.1 HA.out.2.2.2.1 (by decide) e.symm))
      have hob2 : w2.ownsRow wA.heap.size 52 2 (.slice (some ⟨wA.heap.size, 0, none⟩) 0 0) 0 [] := HA.out.1.kept (row := some (wA.heap.size + 1)) hgrow2 (Or.inr (by simp [Value.ownBlock]))
      have hbw : Below w.heap.size w w2 := HA.out.2.2.1.grown hgrow2 (by omega) (fun j hj => by have := (HA.out.2.1.lt j hj).1; omega)
      exact ⟨⟨heap_alloc_new _ _, hR2.of_cells (hb2.block _ (by omega)), ownsRow_below hob2 hb2, ownsRow_below (own_base (by simpa using hown2) (Nat.le_succ _)) hb2, hbw.trans (hb2.mono (by omega))⟩, HP2.out.of_cells (hb2.block _ (by omega))⟩
    have hzw2 : w.heap.size + 4 ≤ w2.heap.size := by have := hgrow2.size; rw [HA.out.2.2.2.2.2.2.2.2.1] at this; have := HZA.out; omega
    have hpbw := HA.out.2.2.2.2.2.2.2.2.2.1
    have hpew := HA.out.2.2.2.2.2.2.2.2.2.2
    have hlA : w.heap.size + 2 ≤ wA.heap.size := by have := HZA.out; omega
    have hAl : wA.heap.size < w2.heap.size := by have := hgrow2.size; rw [HA.out.2.2.2.2.2.2.2.2.1] at this; omega
    have HTL := Lib.hid hTL
    have HPB := Lib.hid (And.intro hpbw hpew)
    clear hTL hown2 hgrow2 hlies2 HP2 HA HZA kA kB hpbw hpew
    generalize hw3 : w2.alloc (.cells #[.slice (some ⟨wA.heap.size, 0, none⟩) 0 0, .slice (some ⟨ge, 0, none⟩) es.length cape] 32) = w3 at *
    have hz23 : w2.heap.size < w3.heap.size := by rw [← hw3]; simp
    generalize w2.heap.size = Q at *
    generalize wA.heap.size = lo at *
    clear hw3
    refine (ProgValid_spec w3 bs es _ _ _ _ (HPB.out.1.below HTL.out.loop.bw) (HPB.out.2.below HTL.out.loop.bw)).mono ?_
    rintro e w4 ⟨he, hb4⟩
    have HS4 := Lib.hid (HTL.out.below hb4)
    have HB := Lib.hid HS4.out.loop.bw
    obtain ⟨r0, r1, t0, t1, hrl⟩ := HS4.out.loop.res.cells
    obtain ⟨c0, c1, _, _, _⟩ := HS4.out.p.cells
    have hs4 := hb4.size
    clear hb4 HTL
    cases hv : validB bs es
    · have HN := Lib.hid (show swOk bs es x y = false by unfold swOk; rw [hv]; rfl)
      rw [hv] at he
      subst he
      clear hv
      go_wp2
      refine bodyPost_ret (v := .tuple #[.agg #[.slice none 0 0, .slice none 0 0], .bool false]) (by simp [results, Tryd.results24, go_sem, r0, r1]) rfl ?_
      exact ProgRes.swNo HN.out (by repeat (first | exact HB.out | refine Below.setCell ?_ (by simp <;> omega) _ | refine Below.alloc ?_ (by first | omega | (simp; omega)) _))
    rw [hv] at he
    subst he
    cases hx : isTm x
    · have HN := Lib.hid (show swOk bs es x y = false by unfold swOk; rw [hv, hx]; rfl)
      have HX := Lib.hid hx
      clear hv hx
      go_wp2_with fail
      refine (l1Term_any x _).mono ?_
      rintro e w5 ⟨he, rfl⟩
      rw [HX.out] at he
      subst he
      go_wp2
      refine bodyPost_ret (v := .tuple #[.agg #[.slice none 0 0, .slice none 0 0], .bool false]) (by simp [results, Tryd.results24, go_sem, r0, r1]) rfl ?_
      exact ProgRes.swNo HN.out (by repeat (first | exact HB.out | refine Below.setCell ?_ (by simp <;> omega) _ | refine Below.alloc ?_ (by first | omega | (simp; omega)) _))
    have HX := Lib.hid hx
    cases hy : isTm y
    · have HN := Lib.hid (show swOk bs es x y = false by unfold swOk; rw [hv, hx, hy]; rfl)
      have HY := Lib.hid hy
      clear hv hx hy
      go_wp2_with fail
      refine (l1Term_any x _).mono ?_
      rintro e w5 ⟨he, rfl⟩
      rw [HX.out] at he
      subst he
      go_wp2_with fail
      refine (l1Term_any y _).mono ?_
      rintro e w6 ⟨he, rfl⟩
      rw [HY.out] at he
      subst he
      go_wp2
      refine bodyPost_ret (v := .tuple #[.agg #[.slice none 0 0, .slice none 0 0], .bool false]) (by simp [results, Tryd.results24, go_sem, r0, r1]) rfl ?_
      exact ProgRes.swNo HN.out (by repeat (first | exact HB.out | refine Below.setCell ?_ (by simp <;> omega) _ | refine Below.alloc ?_ (by first | omega | (simp; omega)) _))
    have HY := Lib.hid hy
    have HV := Lib.hid (show swOk bs es x y = true by unfold swOk; rw [hv, hx, hy]; rfl)
    have HVal := Lib.hid (show Valid bs es by simpa [validB] using hv)
    have hx1 := isTm_size hx
    have hy1 := isTm_size hy
    clear hv hx hy
    go_wp2_with fail
    refine (l1Term_any x _).mono ?_
    rintro e w5 ⟨he, rfl⟩
    rw [HX.out] at he
    subst he
    go_wp2_with fail
    refine (l1Term_any y _).mono ?_
    rintro e w6 ⟨he, rfl⟩
    rw [HY.out] at he
    subst he
    clear r0 r1 t0 t1
    go_wp2
    go_loopw [36] (fun i wr => ∃ (k : Nat) (v : Value), k ≤ bs.length ∧ i = .int .i64 k ∧ TLoop w wr (w.heap.size + 1) Q lo v (.slice (some ⟨ge, 0, none⟩) es.length cape) k es.length (swL bs (byteAt x 0) (byteAt y 0) k) es) (fun i _ => bs.length - (intOf i).toNat)
    case atStart => exact ⟨0, _, Nat.zero_le _, rfl, HS4.out.loop⟩
    case round =>
      obtain ⟨k, v, hk, rfl, hT⟩ := hrel
      have hs3 := hT.bw.size
      obtain ⟨wa, wc, rfl⟩ := own_form hT.ob
      by_cases hlt : k < bs.length
      · obtain ⟨b, off, rfl, hb, g1, g2⟩ := HPB.out.1.cell k hlt
        have d1 := (hT.bw.cell (p := ⟨b, off + k * 2, none⟩) hb).trans g1
        have d2 := (hT.bw.cell (p := ⟨b, off + k * 2 + 1, none⟩) hb).trans g2
        have hok := HVal.out.b.op _ (pair_mem hlt)
        have hs6 : (restAt bs k).size ≤ 6 := hok.1
        have HOK := Lib.hid hok.2
        have hwB : Below wr.heap.size wr (wr.alloc (.cells #[.string (nameAt bs k), .string (restAt bs k)] 52)) := (Below.refl _ _).alloc (Nat.le_refl _) _
        have n0 : (wr.alloc (.cells #[.string (nameAt bs k), .string (restAt bs k)] 52)).cell? ⟨wr.heap.size, 0, none⟩ = some (.string (nameAt bs k)) := by go_simp
        have n1 : (wr.alloc (.cells #[.string (nameAt bs k), .string (restAt bs k)] 52)).cell? ⟨wr.heap.size, 1, none⟩ = some (.string (restAt bs k)) := by go_simp
        have hzb : (wr.alloc (.cells #[.string (nameAt bs k), .string (restAt bs k)] 52)).heap.size = wr.heap.size + 1 := by simp
        have HK := Lib.hid (And.intro (hT.below hwB) hzb)
        have HE := Lib.hid (swL_succ bs (byteAt x 0) (byteAt y 0) k)
        clear hT g1 g2 hwB hzb hok
        obtain ⟨wo, rfl⟩ : ∃ wo, wo = wr := ⟨_, rfl⟩
        go_wp2
        generalize hwB : wo.alloc (.cells #[.string (nameAt bs k), .string (restAt bs k)] 52) = wB at *
        have hlB : wo.heap.size < wB.heap.size := by rw [← hwB]; simp
        generalize wo.heap.size = ob at *
        generalize hsr : restAt bs k = s at *
        clear hwB hsr
        have hLt : ∀ c : Nat, c = 0 → True := fun _ _ => trivial
        go_loopw [43, 11] (fun i o wr => ∃ j : Nat, j ≤ s.size ∧ i = .int .i64 j ∧ o = .string (swT s (byteAt x 0) (byteAt y 0) j) ∧ Below wB.heap.size wB wr) (fun i _ _ => s.size - (intOf i).toNat)
        case atStart => exact ⟨0, Nat.zero_le _, rfl, rfl, Below.refl _ _⟩
        case round =>
          obtain ⟨j, hj, rfl, rfl, hbl⟩ := hrel
          have hbz := hbl.size
          have m1 := (hbl.cell (p := ⟨ob, 1, none⟩) hlB).trans n1
          by_cases hjl : j < s.size
          · have hw1 : IntKind.i64.wrap ((j : Int) + 1) = (j : Int) + 1 := IntWalk.i64_in _ (by omega)
            have hsl := run_slice_str s (j : Int) ((j : Int) + 1) j (j + 1) rfl (by omega) (by omega) (by omega)
            have hAz := swT_size s (byteAt x 0) (byteAt y 0) j
            have hst := swT_step (t := byteAt x 0) (u := byteAt y 0) hjl
            have hc1 : (s.extract j (j + 1)).size = 1 := by rw [ByteArray.size_extract]; omega
            have hpk := sw_pick HX.out HY.out hc1 (by rw [byteAt_one hjl]; exact HOK.out j hjl)
            generalize s.extract j (j + 1) = c at *
            generalize swT s (byteAt x 0) (byteAt y 0) j = A at *
            have HS := Lib.hid (And.intro hst (And.intro hpk hbl))
            have hA6 : A.size ≤ 6 := by omega
            have t1 : ¬ 9223372036854775807 < A.size + y.size := by omega
            have t2 : ¬ 9223372036854775807 < A.size + x.size := by omega
            have t3 : ¬ 9223372036854775807 < A.size + (spoilT y).size := by rw [spoilT_size]; omega
            have t4 : ¬ 9223372036854775807 < A.size + (spoilT x).size := by rw [spoilT_size]; omega
            have t5 : ¬ 9223372036854775807 < A.size + c.size := by omega
            have x1 : (0 : Int) ≤ (j : Int) := by omega
            clear hst hpk hbl hAz hc1
            obtain ⟨wi, rfl⟩ : ∃ wi, wi = wr := ⟨_, rfl⟩
            by_cases e1 : c = x
            · have d1 : (c.toList == x.toList) = true := by rw [toList_eq_iff]; exact decide_eq_true e1
              have HR := Lib.hid (HS.out.2.1.1 e1)
              clear e1
              go_wp2
              go_roundw
              case rel => exact ⟨j + 1, by omega, by go_num, by rw [HS.out.1, HR.out], HS.out.2.2⟩
              case measure => simp [intOf]; omega
            have d1 : (c.toList == x.toList) = false := by rw [toList_eq_iff]; exact decide_eq_false e1
            by_cases e2 : c = y
            · have d2 : (c.toList == y.toList) = true := by rw [toList_eq_iff]; exact decide_eq_true e2
              have HR := Lib.hid (HS.out.2.1.2.1 e1 e2)
              clear e1 e2
              go_wp2
              go_roundw
              case rel => exact ⟨j + 1, by omega, by go_num, by rw [HS.out.1, HR.out], HS.out.2.2⟩
              case measure => simp [intOf]; omega
            have d2 : (c.toList == y.toList) = false := by rw [toList_eq_iff]; exact decide_eq_false e2
            by_cases e3 : c = spoilT x
            · have d3 : (c.toList == (spoilT x).toList) = true := by rw [toList_eq_iff]; exact decide_eq_true e3
              have HR := Lib.hid (HS.out.2.1.2.2.1 e1 e2 e3)
              clear e1 e2 e3
              go_wp2_with fail
              refine (l1Spoil_any x _ HX.out).mono ?_
              rintro e w7 ⟨rfl, hb7⟩
              have h7 := below_new HS.out.2.2 hb7
              go_wp2_with fail
              refine (l1Spoil_any y _ HY.out).mono ?_
              rintro e w8 ⟨rfl, hb8⟩
              have H8 := Lib.hid (below_new h7 hb8)
              clear h7 hb7 hb8
              go_wp2
              go_roundw
              case rel => exact ⟨j + 1, by omega, by go_num, by rw [HS.out.1, HR.out], H8.out⟩
              case measure => simp [intOf]; omega
            have d3 : (c.toList == (spoilT x).toList) = false := by rw [toList_eq_iff]; exact decide_eq_false e3
            by_cases e4 : c = spoilT y
            · have d4 : (c.toList == (spoilT y).toList) = true := by rw [toList_eq_iff]; exact decide_eq_true e4
              have HR := Lib.hid (HS.out.2.1.2.2.2.1 e1 e2 e3 e4)
              clear e1 e2 e3 e4
              go_wp2_with fail
              refine (l1Spoil_any x _ HX.out).mono ?_
              rintro e w7 ⟨rfl, hb7⟩
              have h7 := below_new HS.out.2.2 hb7
              go_wp2_with fail
              refine (l1Spoil_any y _ HY.out).mono ?_
              rintro e w8 ⟨rfl, hb8⟩
              have h8 := below_new h7 hb8
              go_wp2_with fail
              refine (l1Spoil_any x _ HX.out).mono ?_
              rintro e w9 ⟨rfl, hb9⟩
              have H8 := Lib.hid (below_new h8 hb9)
              clear h7 h8 hb7 hb8 hb9
              go_wp2
              go_roundw
              case rel => exact ⟨j + 1, by omega, by go_num, by rw [HS.out.1, HR.out], H8.out⟩
              case measure => simp [intOf]; omega
            · have d4 : (c.toList == (spoilT y).toList) = false := by rw [toList_eq_iff]; exact decide_eq_false e4
              have HR := Lib.hid (HS.out.2.1.2.2.2.2 e1 e2 e3 e4)
              clear e1 e2 e3 e4
              go_wp2_with fail
              refine (l1Spoil_any x _ HX.out).mono ?_
              rintro e w7 ⟨rfl, hb7⟩
              have h7 := below_new HS.out.2.2 hb7
              go_wp2_with fail
              refine (l1Spoil_any y _ HY.out).mono ?_
              rintro e w8 ⟨rfl, hb8⟩
              have h8 := below_new h7 hb8
              have m1 := (h8.cell (p := ⟨ob, 1, none⟩) hlB).trans n1
              have H8 := Lib.hid h8
              clear h7 h8 hb7 hb8
              go_wp2
              go_roundw
              case rel => exact ⟨j + 1, by omega, by go_num, by rw [HS.out.1, HR.out], H8.out⟩
              case measure => simp [intOf]; omega
          · obtain rfl : j = s.size := by omega
            have hTi := HK.out.1.below hbl
            have m0 := (hbl.cell (p := ⟨ob, 0, none⟩) hlB).trans n0
            obtain ⟨q0, q1, _, _, hlt2⟩ := hTi.two.cells
            have HTI := Lib.hid hTi
            have hsw := swT_size s (byteAt x 0) (byteAt y 0) s.size
            generalize swT s (byteAt x 0) (byteAt y 0) s.size = A at *
            have HA := Lib.hid hsw
            have hszi := hTi.bw.size
            have hA6 : A.size ≤ 6 := by omega
            clear hTi hsw hbl n0 n1
            obtain ⟨wi, rfl⟩ : ∃ wi, wi = wr := ⟨_, rfl⟩
            go_wp2_with (at_builtin; refine wpList_append_lies _ rfl _ _ 29 rfl lo 52 i0 (.agg #[.string ⟨#[]⟩, .string ⟨#[]⟩]) 2 32 Tryd.underlying29 hi hz0 hz1 hz2 rfl (by decide) _ k (cellsOf (swL bs (byteAt x 0) (byteAt y 0) k)) rfl (HTI.out.ob.alloc _) ⟨wi.heap.size, 0, none⟩ 1 1 [.string (nameAt bs k), .string A] rfl rfl (cell_two_new _ _ _ _) (two_one _ _ rfl rfl) (by decide) (by unfold maxLen; omega) (by omega) (by simp <;> omega) _ rfl ?_; intro g' cap' w5 hown5 hgrow5 hlies5 _; have hT5 : Two w5 Q _ _ := HTI.out.two.of_cells ((hgrow5.block _ (by simp <;> omega) (fun e => own_neK HTI.out.ob HTI.out.two (by decide) e.symm)).trans (Lib.alloc_old wi _ _ hlt2)); have e5 := hT5.cells.1; have f5 := hT5.cells.2.2.1)
            have hTN := HTI.out.step (L' := swL bs (byteAt x 0) (byteAt y 0) (k + 1)) (v' := .slice (some ⟨g', 0, none⟩) (k + 1) cap') ((Below.refl _ _).alloc (Nat.le_refl _) _) hgrow5 (by rw [HE.out]; exact hown5) (by omega) (by omega) (by omega)
            have HX5 := Lib.hid hTN
            clear hTN hown5 hgrow5 hT5 e5 f5 hlies5
            go_wp2
            go_roundw
            case rel => exact ⟨k + 1, _, by omega, by go_num, HX5.out⟩
            case measure => simp [intOf]; omega
      · obtain rfl : k = bs.length := by omega
        obtain ⟨r0, r1, t0, t1, _⟩ := hT.res.cells
        obtain ⟨q0, q1, _, _, _⟩ := hT.two.cells
        have HXX := Lib.hid hT
        clear hT
        go_wp2
        refine bodyPost_ret (v := .tuple #[.agg #[.slice wa bs.length wc, .slice (some ⟨ge, 0, none⟩) es.length cape], .bool true]) (by simp [results, Tryd.results24, go_sem, r0, r1]) rfl ?_
        refine ProgRes.swYes HV.out (by repeat (first | exact HXX.out.bw | refine Below.setCell ?_ (by simp <;> omega) _ | refine Below.alloc ?_ (by first | omega | (simp; omega)) _)) ?_ ?_
        · exact own_base (own_farT (own_farT HXX.out.ob (own_neK HXX.out.ob HXX.out.res (by decide)) _) (own_neK HXX.out.ob HXX.out.res (by decide)) _) (by omega)
        · exact own_base (own_farT (own_farT HXX.out.oe (own_neK HXX.out.oe HXX.out.res (by decide)) _) (own_neK HXX.out.oe HXX.out.res (by decide)) _) (by omega)
end Go.Proofs.YthkhccfemdjioaaDoor
end

section
/-
  The program's otherTerm and swapIn. Conditions: at most 1000 letters, each a term or what spoils one.
-/
namespace Go.Proofs.YthkhccfemdjioaaDoor
open Go.RowKit Go.Maps

theorem otherTerm_any (c t u : Nat) (w : World) :
    Calls Tryd.prog 132 #[.int .u8 (c : Int), .int .u8 (t : Int), .int .u8 (u : Int)] w fun e w' => e = .returned (.int .u8 (othN c t u : Int)) ∧ w = w' := by
  unfold othN
  by_cases h1 : c = t
  · rw [if_pos h1]
    subst h1
    go_enter Tryd.func132, Tryd.ntmps132
    go_wp2
    go_ret
    exact ⟨rfl, rfl⟩
  · have d1 : ((c : Int) == (t : Int)) = false := by simp; omega
    rw [if_neg h1]
    by_cases h2 : c = u
    · rw [if_pos h2]
      subst h2
      clear h1
      go_enter Tryd.func132, Tryd.ntmps132
      go_wp2
      go_ret
      exact ⟨rfl, rfl⟩
    · have d2 : ((c : Int) == (u : Int)) = false := by simp; omega
      rw [if_neg h2]
      clear h1 h2
      go_enter Tryd.func132, Tryd.ntmps132
      go_wp2
      go_ret
      exact ⟨rfl, rfl⟩
theorem opVal_swC {t u c : Nat} (ht : lowB t = true) (hu : lowB u = true) (hl : lowB c = true) : opVal (swC t u c).toNat = .iface 83 (.agg #[.int .u8 (othN c t u : Int)]) := by
  have hc : opB c = true := by unfold opB; rw [hl]; rfl
  rw [swC_nat ht hu hc]
  have h := (swB_le ht hu hc).2.2
  rw [hl] at h
  unfold opVal
  rw [if_pos h]
  unfold swB
  rw [if_pos hl]
theorem opVal_swS {t u c : Nat} (ht : lowB t = true) (hu : lowB u = true) (hl : lowB c = false) (hc : opB c = true) : opVal (swC t u c).toNat = .iface 84 (.agg #[.int .u8 (othN (c + 32) t u : Int)]) := by
  rw [swC_nat ht hu hc]
  have h := (swB_le ht hu hc).2.2
  rw [hl] at h
  unfold opVal
  rw [if_neg (by rw [h]; simp)]
  unfold swB
  rw [if_neg (by rw [hl]; simp)]
  have h1 : 120 ≤ othN (c + 32) t u := by
    unfold othN
    unfold opB lowB upB at *
    simp only [Bool.or_eq_true, Bool.and_eq_true, decide_eq_true_eq, Bool.and_eq_false_iff, decide_eq_false_iff_not] at *
    split
    · omega
    · split <;> omega
  rw [show (((othN (c + 32) t u - 32 : Nat) : Int) - 88 + 120) = (othN (c + 32) t u : Int) by omega]
theorem rowAt_cell {w : World} {v : Value} {xs : List Value} (h : RowAt w v xs) {i : Nat} (hi : i < xs.length) : ∃ g c, v = .slice (some ⟨g, 0, none⟩) xs.length c ∧ g < w.heap.size ∧ w.cell? ⟨g, i, none⟩ = xs[i]? := by
  obtain ⟨m, hm⟩ : ∃ m, xs.length = m + 1 := ⟨xs.length - 1, by omega⟩
  have h' : w.ownsRow 0 81 1 v (m + 1) xs := by rw [← hm]; exact h
  obtain ⟨g, cap, rfl, _, hg, _, _, hc⟩ := own_lastS h'
  exact ⟨g, cap, by rw [hm], hg, by rw [List.getElem?_eq_getElem hi]; exact hc i _ (List.getElem?_eq_getElem hi)⟩

set_option maxRecDepth 100000 in
set_option maxHeartbeats 3200000 in
theorem swapIn_any (w : World) (v : Value) (s : ByteArray) (t u : Nat) (ht : lowB t = true) (hu : lowB u = true) (hs : s.size ≤ 1000) (hop : ∀ i, i < s.size → opB (byteAt s i) = true) (hr : RowAt w v (opVals s s.size)) :
    Calls Tryd.prog 76 #[v, .int .u8 (t : Int), .int .u8 (u : Int)] w fun e w' => (∃ v', e = .returned v' ∧ w'.ownsRow w.heap.size 81 1 v' s.size (opVals (swT s t u s.size) s.size)) ∧ Below w.heap.size w w' := by
  have hCC := fun b w => Tryd.isCC b w
  have hSC := fun b w => Tryd.isSC b w
  have hSS := fun b w => Tryd.isSS b w
  obtain ⟨i0, hi, hz0, hz1, hz2⟩ := info_parts Tryd.infoOp
  obtain ⟨va, vc, rfl⟩ := row_len3 hr
  have HI := Lib.hid (And.intro hop (And.intro hr (opVals_length s s.size)))
  have HT := Lib.hid (And.intro ht hu)
  have HTb : t ≤ 122 ∧ u ≤ 122 := by unfold lowB at ht hu; simp only [Bool.and_eq_true, decide_eq_true_eq] at ht hu; omega
  obtain ⟨ht2, hu2⟩ := HTb
  rw [opVals_length]
  clear hop hr ht hu
  go_enter Tryd.func76, Tryd.ntmps76
  go_wp2
  go_loopw [14, 7] (fun i o wr => ∃ k : Nat, k ≤ s.size ∧ i = .int .i64 k ∧ wr.ownsRow w.heap.size 81 1 o k (opVals (swT s t u s.size) k) ∧ Below w.heap.size w wr) (fun i _ _ => s.size - (intOf i).toNat)
  case atStart => exact ⟨0, Nat.zero_le _, rfl, World.ownsRow_nil _ _ _ _, Below.refl _ _⟩
  case round =>
    obtain ⟨k, hk, rfl, hown, hbl⟩ := hrel
    have hsz := hbl.size
    by_cases hlt : k < s.size
    · obtain ⟨g, c, hv, hg, hcell⟩ := rowAt_cell HI.out.2.1 (i := k) (by rw [HI.out.2.2]; exact hlt)
      rw [HI.out.2.2] at hv
      simp only [Value.slice.injEq, true_and] at hv
      obtain ⟨rfl, rfl⟩ := hv
      have hcv : (opVals s s.size)[k]? = some (opVal (byteAt s k)) := by unfold opVals; simp [hlt]
      have d0 := (hbl.cell (p := ⟨g, k, none⟩) hg).trans (hcell.trans hcv)
      have HE := Lib.hid (opVals_succ (swT s t u s.size) k)
      have HA := Lib.hid (swT_at s t u s.size k hlt)
      have hopk := HI.out.1 k hlt
      have HO := Lib.hid (And.intro hown hbl)
      have x1 : (0 : Int) ≤ (k : Int) := by omega
      have x2 : (k : Int) < (s.size : Int) := by omega
      clear hcell hcv hown hbl
      cases hl : lowB (byteAt s k)
      · have HV := Lib.hid (opVal_swS HT.out.1 HT.out.2 hl hopk)
        rw [show opVal (byteAt s k) = .iface 84 (.agg #[.int .u8 (((byteAt s k + 32 : Nat)) : Int)]) by
          unfold opVal; rw [if_neg (by rw [hl]; simp)]
          unfold opB lowB upB at *
          simp only [Bool.or_eq_true, Bool.and_eq_true, decide_eq_true_eq, Bool.and_eq_false_iff, decide_eq_false_iff_not] at *
          rw [show ((byteAt s k : Int) - 88 + 120) = ((byteAt s k + 32 : Nat) : Int) by omega]] at d0
        generalize byteAt s k + 32 = b at *
        clear hl hopk
        go_wp2_with (first
          | (go_at_call 132; refine (otherTerm_any b t u _).mono ?_; rintro e w' ⟨rfl, rfl⟩)
          | (at_builtin; refine wpList_append_own _ rfl _ _ 79 rfl w.heap.size 81 i0 .nilIface 1 16 Tryd.underlying79 hi hz0 hz1 hz2 rfl (by decide) _ _ _ rfl ((HO.out.1.alloc _).alloc _) ⟨wr.heap.size + 1, 0, none⟩ 1 1 [.iface 84 (.agg #[.int .u8 (othN b t u : Int)])] rfl rfl (one_new2 _ _ _ _) (one_one _ rfl) (by unfold maxLen; omega) (by omega) (by simp; omega) ?_; intro v' w1 hown1 hgrow1 _))
        have hb1 : Below w.heap.size w w1 := ((HO.out.2.alloc hsz _).alloc (by simp; omega) _).grown hgrow1 (by simp; omega) (fun j hj => (HO.out.1.lt j hj).1)
        go_roundw
        case rel => exact ⟨k + 1, by omega, by go_num, by rw [HE.out, HA.out, HV.out]; exact hown1, hb1⟩
        case measure => simp [intOf]; omega
      · have HV := Lib.hid (opVal_swC HT.out.1 HT.out.2 hl)
        rw [show opVal (byteAt s k) = .iface 83 (.agg #[.int .u8 (byteAt s k : Int)]) by unfold opVal; rw [if_pos hl]] at d0
        generalize byteAt s k = b at *
        clear hl hopk
        go_wp2_with (first
          | (go_at_call 132; refine (otherTerm_any b t u _).mono ?_; rintro e w' ⟨rfl, rfl⟩)
          | (at_builtin; refine wpList_append_own _ rfl _ _ 79 rfl w.heap.size 81 i0 .nilIface 1 16 Tryd.underlying79 hi hz0 hz1 hz2 rfl (by decide) _ _ _ rfl ((HO.out.1.alloc _).alloc _) ⟨wr.heap.size + 1, 0, none⟩ 1 1 [.iface 83 (.agg #[.int .u8 (othN b t u : Int)])] rfl rfl (one_new2 _ _ _ _) (one_one _ rfl) (by unfold maxLen; omega) (by omega) (by simp; omega) ?_; intro v' w1 hown1 hgrow1 _))
        have hb1 : Below w.heap.size w w1 := ((HO.out.2.alloc hsz _).alloc (by simp; omega) _).grown hgrow1 (by simp; omega) (fun j hj => (HO.out.1.lt j hj).1)
        go_roundw
        case rel => exact ⟨k + 1, by omega, by go_num, by rw [HE.out, HA.out, HV.out]; exact hown1, hb1⟩
        case measure => simp [intOf]; omega
    · obtain rfl : k = s.size := by omega
      have HO := Lib.hid (And.intro hown hbl)
      clear hown hbl
      go_wp2
      go_ret
      exact ⟨⟨_, rfl, HO.out.1⟩, HO.out.2⟩
end Go.Proofs.YthkhccfemdjioaaDoor
end

section
/-
  Plain mathematics of chapter 3: swapped terms have each other's facts, any other term its own, and the letters are as tidy. It names the program's types alone. Conditions: a valid program.
-/
namespace Go.Proofs.YthkhccfemdjioaaDoor
open Go.RowKit Go.Maps

/-- the term a term stands for -/
theorem othN_low {c t u : Nat} (hc : lowB c = true) (ht : lowB t = true) (hu : lowB u = true) : lowB (othN c t u) = true := by
  rcases low_three hc with rfl | rfl | rfl <;> rcases low_three ht with rfl | rfl | rfl <;> rcases low_three hu with rfl | rfl | rfl <;> decide
theorem swB_hit {v t u c : Nat} (hv : lowB v = true) (ht : lowB t = true) (hu : lowB u = true) (hc : opB c = true) : (swB t u c = othN v t u ↔ c = v) ∧ (swB t u c + 32 = othN v t u ↔ c + 32 = v) := by
  rcases low_three hv with rfl | rfl | rfl <;> rcases low_three ht with rfl | rfl | rfl <;> rcases low_three hu with rfl | rfl | rfl <;> rcases op_six hc with rfl | rfl | rfl | rfl | rfl | rfl <;> decide
theorem FS.step_congr {a b c d : Nat} {s : FS} (h1 : c = d ↔ a = b) (h2 : c + 32 = d ↔ a + 32 = b) : s.step d c = s.step b a := by
  unfold FS.step
  by_cases h : a = b
  · rw [if_pos h, if_pos (h1.2 h)]
  · rw [if_neg h, if_neg (fun e => h (h1.1 e))]
    by_cases h' : a + 32 = b
    · rw [if_pos h', if_pos (h2.2 h')]
    · rw [if_neg h', if_neg (fun e => h' (h2.1 e))]
theorem sw_fsA {s : ByteArray} {v t u : Nat} (hv : lowB v = true) (ht : lowB t = true) (hu : lowB u = true) (ho : OpAll s) : ∀ k, k ≤ s.size → fsA (swT s t u s.size) (othN v t u) k = fsA s v k
  | 0, _ => rfl
  | k + 1, h => by
    rw [fsA_succ, fsA_succ, sw_fsA hv ht hu ho k (by omega), sw_at ht hu ho (by omega)]
    have := swB_hit hv ht hu (ho k (by omega))
    exact FS.step_congr this.1 this.2
theorem sw_fsOf {s : ByteArray} {v t u : Nat} {x y : ByteArray} (hv : lowB v = true) (ht : lowB t = true) (hu : lowB u = true) (ho : OpAll s) (hx : byteAt x 0 = v) (hy : byteAt y 0 = othN v t u) : fsOf (swT s t u s.size) y = fsOf s x := by
  unfold fsOf
  rw [hx, hy, swT_size, sw_fsA hv ht hu ho _ (Nat.le_refl _)]
theorem swA_acc {bs es : List Pr} (hV : Valid bs es) {v t u : Nat} {x y : ByteArray} (hv : lowB v = true) (ht : lowB t = true) (hu : lowB u = true) (hx : byteAt x 0 = v) (hy : byteAt y 0 = othN v t u) : ∀ k, k ≤ bs.length → accF (swA bs t u) y k = accF bs x k
  | 0, _ => rfl
  | k + 1, hk => by
    have ih := swA_acc hV hv ht hu hx hy k (by omega)
    have hp : partT (swA bs t u) y k = partT bs x k := by
      unfold partT
      rw [swA_name (by omega), swA_rest (by omega), sw_fsOf hv ht hu (valid_op hV (by omega)) hx hy]
    by_cases h0 : 0 < k
    · rw [accF_next h0, accF_next h0, ih, hp]
    · rw [accF_first h0, accF_first h0, ih, hp]
theorem swA_facts {bs es : List Pr} (hV : Valid bs es) {v t u : Nat} {x y : ByteArray} (ht : lowB t = true) (hu : lowB u = true) (tx : isTm x = true) (ty : isTm y = true) (hx : byteAt x 0 = v) (hv : lowB v = true) (hy : byteAt y 0 = othN v t u) : factsV (swA bs t u) es y = factsV bs es x := by
  rw [factsV_yes (show validB bs es = true by simpa [validB] using hV) tx, factsV_yes (show validB (swA bs t u) es = true by simpa [validB] using hV.swap ht hu) ty, swA_length, swA_acc hV hv ht hu hx hy _ (Nat.le_refl _)]
/-- a letter is spare in the swapped text where it is in the text -/
theorem sw_spare {s : ByteArray} {t u k : Nat} (ht : lowB t = true) (hu : lowB u = true) (ho : OpAll s) (hk : k < s.size) : spareB (swT s t u s.size) k = spareB s k := by
  unfold spareB
  have h1 := swB_le ht hu (ho k hk)
  rw [sw_at ht hu ho hk, h1.2.2]
  cases hl : lowB (byteAt s k)
  · rfl
  · have e : swB t u (byteAt s k) = othN (byteAt s k) t u := by unfold swB; rw [hl]; rfl
    rw [e, sw_fsA hl ht hu ho _ (by omega)]
theorem sw_tidyA {s : ByteArray} {t u : Nat} (ht : lowB t = true) (hu : lowB u = true) (ho : OpAll s) : ∀ k, k ≤ s.size → (tidyA (swT s t u s.size) k).size = (tidyA s k).size
  | 0, _ => rfl
  | k + 1, h => by
    have ih := sw_tidyA ht hu ho k (by omega)
    have hs := sw_spare ht hu ho (k := k) (by omega)
    cases hb : spareB s k
    · rw [tidyA_more (hs.trans hb), tidyA_more hb, ByteArray.size_append, ByteArray.size_append, ByteArray.size_extract, ByteArray.size_extract, swT_size, ih]
    · rw [tidyA_spare (hs.trans hb), tidyA_spare hb, ih]
/-- a tidied text is the text exactly if it is as long -/
theorem tidyA_whole {s : ByteArray} : ∀ k, k ≤ s.size → (tidyA s k).size = k → tidyA s k = s.extract 0 k
  | 0, _, _ => by
    apply ByteArray.ext
    rw [ByteArray.data_extract]
    simp [tidyA_zero]
  | k + 1, h, hz => by
    cases hb : spareB s k
    · rw [tidyA_more hb, ByteArray.size_append, ByteArray.size_extract] at hz
      rw [tidyA_more hb, tidyA_whole k (by omega) (by omega)]
      apply ByteArray.ext
      simp only [ByteArray.data_append, ByteArray.data_extract]
      rw [Array.extract_append_extract]
      congr 1 <;> omega
    · rw [tidyA_spare hb] at hz
      have := tidyA_size s k (by omega)
      omega
theorem tidyA_fix {s : ByteArray} : tidyA s s.size = s ↔ (tidyA s s.size).size = s.size := by
  constructor
  · intro h; rw [h]
  · intro h
    rw [tidyA_whole s.size (Nat.le_refl _) h]
    apply ByteArray.ext
    rw [ByteArray.data_extract]
    exact Array.extract_eq_self_of_le (Nat.le_refl _)
theorem swA_tidy {bs es : List Pr} (hV : Valid bs es) {t u : Nat} (ht : lowB t = true) (hu : lowB u = true) : isTidyV (swA bs t u) es = isTidyV bs es := by
  have hv : validB bs es = true := by simpa [validB] using hV
  have hv' : validB (swA bs t u) es = true := by simpa [validB] using hV.swap ht hu
  unfold isTidyV
  rw [hv, hv', Bool.and_true, Bool.and_true, swA_length, Bool.eq_iff_iff, tidyB_iff, tidyB_iff]
  have key : ∀ k, k < bs.length → (tidyA (restAt (swA bs t u) k) (restAt (swA bs t u) k).size = restAt (swA bs t u) k ↔ tidyA (restAt bs k) (restAt bs k).size = restAt bs k) := by
    intro k hk
    rw [tidyA_fix, tidyA_fix, swA_rest hk, swT_size, sw_tidyA ht hu (valid_op hV hk) _ (Nat.le_refl _)]
  exact ⟨fun h k hk => (key k hk).1 (h k hk), fun h k hk => (key k hk).2 (h k hk)⟩
end Go.Proofs.YthkhccfemdjioaaDoor
end
