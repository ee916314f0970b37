import Derived.Test.YtngcmjfkeageiaaDoorBlkT
import Derived.Test.YtngcmjfkeageiaaDoorTidyM
import Derived.Test.YtngcmjfkeageiaaDoorWith
import Derived.Test.YtngcmjfkeageiaaDoorBlkJ
import Derived.Test.YtngcmjfkeageiaaDoorTidyP
section
/-
  The model's l1Term, its answer as a literal. Conditions: none.
-/
namespace Go.Proofs.YtngcmjfkeageiaaDoor
open Go.RowKit Go.Maps

theorem l1Term_lit (s : ByteArray) (b : Bool) (h : isTm s = b) (w : World) :
    Calls Tryd.prog 76 #[.string s] w fun e w' => e = .returned (.bool b) ∧ w = w' :=
  (l1Term_any s w).mono fun e w' k => ⟨by rw [k.1, h], k.2⟩
end Go.Proofs.YtngcmjfkeageiaaDoor
end

section
/-
  The model's l3Tidy and IsTidy. Conditions: at most 1048576 blocks and edges, each text at most as many bytes.
-/
namespace Go.Proofs.YtngcmjfkeageiaaDoor
open Go.RowKit Go.Maps

theorem isTm_ch {s : ByteArray} {k : Nat} (h : k < s.size) : isTm (s.extract k (k + 1)) = lowB (byteAt s k) := by
  unfold isTm
  rw [byteAt_ch h, show (s.extract k (k + 1)).size = 1 from ch_size h]; rfl
theorem l3Down_lit (s t : ByteArray) (b : Bool) (h : (fsOf s t).dn = b) (w : World) (hs : s.size ≤ 1048576) (ht : isTm t = true) :
    Calls Tryd.prog 95 #[.string s, .string t] w fun e w' => e = .returned (.bool b) ∧ Below w.heap.size w w' :=
  (l3Down_any s t w hs ht).mono fun e w' k => ⟨by rw [k.1, h], k.2⟩

set_option maxRecDepth 100000 in
set_option maxHeartbeats 1600000 in
theorem l3Tidy_any (s : ByteArray) (w : World) (hs : s.size ≤ 1048576) :
    Calls Tryd.prog 98 #[.string s] w fun e w' => e = .returned (.string (tidyA s s.size)) ∧ Below w.heap.size w w' := by
  go_enter Tryd.func98, Tryd.ntmps98
  go_wp2
  go_loopw [8, 3] (fun i o wr => ∃ k : Nat, k ≤ s.size ∧ i = .int .i64 k ∧ o = .string (tidyA s k) ∧ Below w.heap.size w wr) (fun i _ _ => s.size - (intOf i).toNat)
  case atStart => exact ⟨0, Nat.zero_le _, rfl, rfl, Below.refl _ _⟩
  case round =>
    obtain ⟨k, hk, rfl, rfl, hbl⟩ := hrel
    have hsz := hbl.size
    by_cases hlt : k < s.size
    · have s3 := run_slice_str s ((k : Int)) ((k : Int) + 1) k (k + 1) rfl (by omega) (by omega) (by omega)
      have w3 : IntKind.i64.wrap ((k : Int) + 1) = (k : Int) + 1 := IntWalk.i64_in _ (by omega)
      have hn := tidyA_size s k hk
      have hc1 : (s.extract k (k + 1)).size = 1 := ch_size hlt
      have t0 : ¬ 9223372036854775807 < (tidyA s k).size + (s.extract k (k + 1)).size := by omega
      have q1 := isTm_ch hlt
      cases hl : lowB (byteAt s k)
      · have HS := Lib.hid (tidyA_more (s := s) (k := k) (by unfold spareB; rw [hl]; rfl))
        have HT := Lib.hid (q1.trans hl)
        clear q1 hl hc1
        go_wp2_with (go_at_call 76; refine (l1Term_lit _ _ HT.out _).mono ?_; rintro e w' ⟨rfl, rfl⟩)
        go_roundw
        case rel => exact ⟨k + 1, by omega, by go_num, by rw [HS.out], hbl⟩
        case measure => simp [intOf]; omega
      · have HT := Lib.hid (q1.trans hl)
        have hd := tidyA_dn s (t := byteAt s k) (by unfold lowB at hl; simp only [Bool.and_eq_true, decide_eq_true_eq] at hl; exact hl.2) k hk
        obtain ⟨d, hdd⟩ : ∃ d, (fsA s (byteAt s k) k).dn = d := ⟨_, rfl⟩
        have HD := Lib.hid (show (fsOf (tidyA s k) (s.extract k (k + 1))).dn = d by unfold fsOf; rw [byteAt_ch hlt, hd, hdd])
        have HL := Lib.hid (show (tidyA s k).size ≤ 1048576 by omega)
        have HS := Lib.hid (show tidyA s (k + 1) = if d then tidyA s k else tidyA s k ++ s.extract k (k + 1) by
          cases d
          · exact tidyA_more (by unfold spareB; rw [hl, hdd]; rfl)
          · exact tidyA_spare (by unfold spareB; rw [hl, hdd]; rfl))
        clear q1 hl hc1 hd hdd hn
        cases d
        all_goals
          go_wp2_with (go_at_call 76; refine (l1Term_lit _ _ HT.out _).mono ?_; rintro e w' ⟨rfl, rfl⟩)
          refine (l3Down_lit _ _ _ HD.out _ HL.out HT.out).mono ?_
          rintro e w1 ⟨rfl, hb1⟩
          have hall := hbl.trans (hb1.mono hsz)
          go_wp2
          go_roundw
          case rel => exact ⟨k + 1, by omega, by go_num, by rw [HS.out]; rfl, hall⟩
          case measure => simp [intOf]; omega
    · obtain rfl : k = s.size := by omega
      go_wp2
      go_ret
      exact ⟨rfl, hbl⟩

theorem l3Tidy_lit (s T : ByteArray) (h : tidyA s s.size = T) (w : World) (hs : s.size ≤ 1048576) :
    Calls Tryd.prog 98 #[.string s] w fun e w' => e = .returned (.string T) ∧ Below w.heap.size w w' :=
  (l3Tidy_any s w hs).mono fun e w' k => ⟨by rw [k.1, h], k.2⟩
noncomputable def isTidyV (bs es : List Pr) : Bool := tidyB bs bs.length && validB bs es
theorem isTidyV_no {bs es : List Pr} {k : Nat} (hk : k < bs.length) (h : tidyA (restAt bs k) (restAt bs k).size ≠ restAt bs k) : isTidyV bs es = false := by unfold isTidyV; rw [tidyB_no h _ hk]; rfl
theorem isTidyV_yes {bs es : List Pr} (h : tidyB bs bs.length = true) : isTidyV bs es = validB bs es := by unfold isTidyV; rw [h, Bool.true_and]

set_option maxRecDepth 100000 in
set_option maxHeartbeats 1600000 in
theorem IsTidy_spec (w : World) (bs es : List Pr) (ab ae : Option Addr) (cb ce : Nat) (hpb : PairsAt w ab bs) (hpe : PairsAt w ae es) :
    Calls Tryd.prog 40 #[.agg #[.slice ab bs.length cb, .slice ae es.length ce]] w fun e w' => e = .returned (.bool (isTidyV bs es)) ∧ Below w.heap.size w w' := by
  have h1 : Below w.heap.size w (w.alloc (.cells #[.slice ab bs.length cb, .slice ae es.length ce] 32)) := (Below.refl _ _).alloc (Nat.le_refl _) _
  have hpb1 := hpb.below h1
  have hpe1 := hpe.below h1
  have hl9 := hpb.len
  have c0 : (w.alloc (.cells #[.slice ab bs.length cb, .slice ae es.length ce] 32)).cell? ⟨w.heap.size, 0, none⟩ = some (.slice ab bs.length cb) := by go_simp
  have c1 : (w.alloc (.cells #[.slice ab bs.length cb, .slice ae es.length ce] 32)).cell? ⟨w.heap.size, 1, none⟩ = some (.slice ae es.length ce) := by go_simp
  have hzA : w.heap.size < (w.alloc (.cells #[.slice ab bs.length cb, .slice ae es.length ce] 32)).heap.size := by simp
  have H1 := Lib.hid h1; clear h1
  go_enter Tryd.func40, Tryd.ntmps40
  go_wp2
  generalize w.alloc (.cells #[.slice ab bs.length cb, .slice ae es.length ce] 32) = wA at *
  go_loopw [8] (fun i wr => ∃ k : Nat, k ≤ bs.length ∧ i = .int .i64 k ∧ tidyB bs k = true ∧ Below wA.heap.size wA wr) (fun i _ => bs.length - (intOf i).toNat)
  case atStart => exact ⟨0, Nat.zero_le _, rfl, rfl, Below.refl _ _⟩
  case round =>
    obtain ⟨k, hk, rfl, hty, hbl⟩ := hrel
    have hz2 := hbl.size
    by_cases hlt : k < bs.length
    · obtain ⟨b, off, rfl, hb, g1, g2⟩ := hpb1.cell k hlt
      have d1 := (hbl.cell (p := ⟨b, off + k * 2, none⟩) hb).trans g1
      have d2 := (hbl.cell (p := ⟨b, off + k * 2 + 1, none⟩) hb).trans g2
      have HS := Lib.hid (hpb1.size k hlt).2
      have hyA : Below wA.heap.size wA (wr.alloc (.cells #[.string (nameAt bs k), .string (restAt bs k)] 40)) := hbl.alloc hz2 _
      have y1 : (wr.alloc (.cells #[.string (nameAt bs k), .string (restAt bs k)] 40)).cell? ⟨wr.heap.size, 1, none⟩ = some (.string (restAt bs k)) := by go_simp
      have hzB : wr.heap.size < (wr.alloc (.cells #[.string (nameAt bs k), .string (restAt bs k)] 40)).heap.size := by simp
      have HY := Lib.hid hyA; clear hyA
      obtain ⟨T, hT⟩ : ∃ T, tidyA (restAt bs k) (restAt bs k).size = T := ⟨_, rfl⟩
      have HT := Lib.hid hT
      have HB := Lib.hid hbl
      have HTy := Lib.hid hty
      have HH := Lib.hid (And.intro H1.out (And.intro hzA (And.intro hz2 (And.intro hpb1 hpe1))))
      by_cases e1 : T = restAt bs k
      · have q1 : (T.toList == (restAt bs k).toList) = true := by rw [toList_eq_iff]; exact decide_eq_true e1
        have HE := Lib.hid e1
        clear e1 hT hty
        go_wp2
        generalize wr.alloc (.cells #[.string (nameAt bs k), .string (restAt bs k)] 40) = wB at *
        have hsB := HY.out.size
        go_region_held3 (fun w' => w'.cell? ⟨wr.heap.size, 1, none⟩ = some (.string (restAt bs k)) ∧ Below wB.heap.size wB w')
          (first
            | exact ⟨y1, (Below.refl _ _).drew⟩
            | (have hq := below_new (‹_ ∧ Below wB.heap.size wB _›).2 hbN; exact ⟨(hq.cell (p := ⟨wr.heap.size, 1, none⟩) hzB).trans y1, hq⟩))
          (first
            | (go_at_call 98; refine (l3Tidy_lit _ _ HT.out _ HS.out).mono ?_; rintro e wN ⟨rfl, hbN⟩))
        have hfin : Below wA.heap.size wA wN := HY.out.trans ((‹_ ∧ Below wB.heap.size wB wN›).2.mono hsB)
        go_wp2
        go_roundw
        case rel => exact ⟨k + 1, by omega, by go_num, tidyB_yes HTy.out (HT.out.trans HE.out), hfin⟩
        case measure => simp [intOf]; omega
      · have q1 : (T.toList == (restAt bs k).toList) = false := by rw [toList_eq_iff]; exact decide_eq_false e1
        have HE := Lib.hid e1
        clear e1 hT hty
        go_wp2
        generalize wr.alloc (.cells #[.string (nameAt bs k), .string (restAt bs k)] 40) = wB at *
        have hsB := HY.out.size
        go_region_held3 (fun w' => w'.cell? ⟨wr.heap.size, 1, none⟩ = some (.string (restAt bs k)) ∧ Below wB.heap.size wB w')
          (first
            | exact ⟨y1, (Below.refl _ _).drew⟩
            | (have hq := below_new (‹_ ∧ Below wB.heap.size wB _›).2 hbN; exact ⟨(hq.cell (p := ⟨wr.heap.size, 1, none⟩) hzB).trans y1, hq⟩))
          (first
            | (go_at_call 98; refine (l3Tidy_lit _ _ HT.out _ HS.out).mono ?_; rintro e wN ⟨rfl, hbN⟩))
        have hfin : Below wA.heap.size wA wN := HY.out.trans ((‹_ ∧ Below wB.heap.size wB wN›).2.mono hsB)
        have HN := Lib.hid (isTidyV_no (es := es) hlt (fun h => HE.out (HT.out.symm.trans h)))
        go_wp2
        go_ret
        exact ⟨ret_bool HN.out.symm, H1.out.trans (hfin.mono H1.out.size)⟩
    · obtain rfl : k = bs.length := by omega
      have hall : Below w.heap.size w wr := H1.out.trans (hbl.mono H1.out.size)
      have c2 := (hbl.cell (p := ⟨w.heap.size, 0, none⟩) hzA).trans c0
      have c3 := (hbl.cell (p := ⟨w.heap.size, 1, none⟩) hzA).trans c1
      have HN := Lib.hid (isTidyV_yes (es := es) hty)
      have hpb2 := hpb1.below hbl
      have hpe2 := hpe1.below hbl
      have hz3 := hall.size
      clear hty
      go_wp2_with fail
      refine (ProgValid_spec _ bs es _ _ _ _ hpb2 hpe2).mono ?_
      rintro e w3 ⟨rfl, hb3⟩
      go_wp2
      go_ret
      exact ⟨ret_bool HN.out.symm, hall.trans (hb3.mono hz3)⟩
end Go.Proofs.YtngcmjfkeageiaaDoor
end

section
/-
  Plain mathematics: the names at the other ends of a block's edges, in the order of the edges; Conditions: at most 1048576 blocks and edges, each text at most as many bytes.
-/
namespace Go.Proofs.YtngcmjfkeageiaaDoor
open Go.RowKit Go.Maps

/-- texts one behind the other -/
def cat (l : List ByteArray) : ByteArray := l.foldl (· ++ ·) e0
theorem cat_nil : cat [] = e0 := rfl
theorem cat_snoc (l : List ByteArray) (x : ByteArray) : cat (l ++ [x]) = cat l ++ x := by simp [cat, List.foldl_append]
open Classical in
noncomputable def outL (E : List Pr) (x : ByteArray) : List ByteArray := (E.filter fun e => decide (e.1 = x)).map (·.2)
theorem outL_nil (x : ByteArray) : outL [] x = [] := rfl
theorem outL_hit {E : List Pr} {x : ByteArray} {p : Pr} (h : p.1 = x) : outL (E ++ [p]) x = outL E x ++ [p.2] := by simp [outL, h]
theorem outL_miss {E : List Pr} {x : ByteArray} {p : Pr} (h : p.1 ≠ x) : outL (E ++ [p]) x = outL E x := by simp [outL, h]
theorem mem_outL {E : List Pr} {x y : ByteArray} : y ∈ outL E x ↔ (x, y) ∈ E := by
  unfold outL
  rw [List.mem_map]
  constructor
  · rintro ⟨p, hp, rfl⟩
    have h := List.mem_filter.1 hp
    have e : p.1 = x := by simpa using h.2
    rw [← e]; exact h.1
  · intro h
    exact ⟨(x, y), List.mem_filter.2 ⟨h, by simp⟩, rfl⟩
theorem outL_length (E : List Pr) (x : ByteArray) : (outL E x).length ≤ E.length := by
  unfold outL
  rw [List.length_map]
  exact List.length_filter_le _ _
theorem cat_size {l : List ByteArray} (h : ∀ x ∈ l, x.size = 1) : (cat l).size = l.length := by
  have key : ∀ (l : List ByteArray) (a : ByteArray), (∀ x ∈ l, x.size = 1) → (l.foldl (· ++ ·) a).size = a.size + l.length := by
    intro l
    induction l with
    | nil => intro a _; simp
    | cons x r ih =>
      intro a h
      rw [List.foldl_cons, ih _ (fun y hy => h y (List.mem_cons_of_mem _ hy)), ByteArray.size_append, h x (List.mem_cons_self ..), List.length_cons]
      omega
  have := key l e0 h
  unfold cat
  rw [this]
  show 0 + _ = _
  omega
theorem isNm_size {s : ByteArray} (h : isNm s = true) : s.size = 1 := by
  unfold isNm at h
  simp at h
  exact h.1
theorem Valid.name_size {bs es : List Pr} (h : Valid bs es) {s : ByteArray} (hs : s ∈ names bs) : s.size = 1 := by
  obtain ⟨p, hp, rfl⟩ := List.mem_map.1 hs
  exact isNm_size (h.b.nm p hp)
theorem Valid.to_size {bs es : List Pr} (h : Valid bs es) {k : Nat} (hk : k < es.length) : (restAt es k).size = 1 := h.name_size (h.e.to _ (pair_mem hk))
theorem Valid.from_size {bs es : List Pr} (h : Valid bs es) {k : Nat} (hk : k < es.length) : (nameAt es k).size = 1 := h.name_size (h.e.fr _ (pair_mem hk))
theorem flip_take (es : List Pr) (k : Nat) : (flip es).take k = flip (es.take k) := by simp [flip, List.map_take]
theorem flip_succ {es : List Pr} {k : Nat} (h : k < es.length) : flip (es.take (k + 1)) = flip (es.take k) ++ [(restAt es k, nameAt es k)] := by rw [take_succ_pr h, flip_snoc]
noncomputable def outV (bs es E : List Pr) (x : ByteArray) : Value := if hasB bs es x = true then .tuple #[.string (cat (outL E x)), .bool true] else .tuple #[.string e0, .bool false]
theorem outV_yes {bs es E : List Pr} {x : ByteArray} (h : hasB bs es x = true) : outV bs es E x = .tuple #[.string (cat (outL E x)), .bool true] := by unfold outV; rw [if_pos h]
theorem outV_no {bs es E : List Pr} {x : ByteArray} (h : hasB bs es x = false) : outV bs es E x = .tuple #[.string e0, .bool false] := by unfold outV; rw [if_neg (by rw [h]; simp)]
/-- the names to, or from, as values of a law's two results -/
noncomputable def outOfV (bs es : List Pr) (x : ByteArray) : Value := outV bs es es x
noncomputable def inOfV (bs es : List Pr) (x : ByteArray) : Value := outV bs es (flip es) x
theorem outOfV_form (bs es : List Pr) (x : ByteArray) : ∃ (r : ByteArray) (ok : Bool), outOfV bs es x = .tuple #[.string r, .bool ok] := by
  cases h : hasB bs es x
  · exact ⟨_, _, outV_no h⟩
  · exact ⟨_, _, outV_yes h⟩
theorem inOfV_form (bs es : List Pr) (x : ByteArray) : ∃ (r : ByteArray) (ok : Bool), inOfV bs es x = .tuple #[.string r, .bool ok] := by
  cases h : hasB bs es x
  · exact ⟨_, _, outV_no h⟩
  · exact ⟨_, _, outV_yes h⟩

end Go.Proofs.YtngcmjfkeageiaaDoor
end

section
/-
  Plain mathematics: texts by their bytes. Conditions: none.
-/
namespace Go.Proofs.YtngcmjfkeageiaaDoor
open Go.RowKit Go.Maps

theorem bytes_ext2 {a b : ByteArray} (h : a.data.toList = b.data.toList) : a = b := ByteArray.ext (Array.toList_inj.1 h)
theorem cat_flat (l : List ByteArray) : (cat l).data.toList = (l.map (·.data.toList)).flatten := by
  have key : ∀ (l : List ByteArray) (a : ByteArray), (l.foldl (· ++ ·) a).data.toList = a.data.toList ++ (l.map (·.data.toList)).flatten := by
    intro l
    induction l with
    | nil => intro a; simp
    | cons x r ih =>
      intro a
      rw [List.foldl_cons, ih]
      simp [ByteArray.data_append]
  have := key l e0
  unfold cat
  rw [this]
  rfl
end Go.Proofs.YtngcmjfkeageiaaDoor
end

section
/-
  Texts of numbers of one digit and of facts, the model's and the program's. Conditions: a number of at most six.
-/
namespace Go.Proofs.YtngcmjfkeageiaaDoor
open Go.RowKit Go.Maps

/-- a digit -/
def dg (n : Nat) : ByteArray := ⟨#[UInt8.ofNat (48 + n)]⟩
/-- the letters of facts -/
def mkB (a b c : Bool) : ByteArray := ⟨((if a then [117] else []) ++ (if b then [100] else []) ++ (if c then [99] else []) : List UInt8).toArray⟩
def mkT (s : FS) : ByteArray := mkB s.up s.dn s.cl
theorem has_up_lit (s : FS) (b : Bool) (h : s.up = b) (w : World) : Calls Tryd.prog 176 #[.int .u8 (fv s), .int .u8 1] w fun e w' => e = .returned (.bool b) ∧ w = w' := by subst h; exact has_up s w
theorem has_dn_lit (s : FS) (b : Bool) (h : s.dn = b) (w : World) : Calls Tryd.prog 176 #[.int .u8 (fv s), .int .u8 2] w fun e w' => e = .returned (.bool b) ∧ w = w' := by subst h; exact has_dn s w
theorem has_cl_lit (s : FS) (b : Bool) (h : s.cl = b) (w : World) : Calls Tryd.prog 176 #[.int .u8 (fv s), .int .u8 4] w fun e w' => e = .returned (.bool b) ∧ w = w' := by subst h; exact has_cl s w
set_option maxRecDepth 100000 in
set_option maxHeartbeats 1600000 in
theorem marks_any (s : FS) (w : World) : Calls Tryd.prog 146 #[.int .u8 (fv s)] w fun e w' => e = .returned (.string (mkT s)) ∧ w = w' := by
  obtain ⟨hu, ha⟩ : ∃ a, s.up = a := ⟨_, rfl⟩
  obtain ⟨hd, hb⟩ : ∃ a, s.dn = a := ⟨_, rfl⟩
  obtain ⟨hc, hcl⟩ : ∃ a, s.cl = a := ⟨_, rfl⟩
  have HM := Lib.hid (show mkT s = mkB hu hd hc by unfold mkT; rw [ha, hb, hcl])
  have HA := Lib.hid (And.intro ha (And.intro hb hcl)); clear ha hb hcl
  cases hu <;> cases hd <;> cases hc
  all_goals
    go_enter Tryd.func146, Tryd.ntmps146
    go_wp2_with fail
    refine (has_up_lit s _ HA.out.1 _).mono ?_
    rintro e w1 ⟨rfl, rfl⟩
    go_wp2_with fail
    refine (has_dn_lit s _ HA.out.2.1 _).mono ?_
    rintro e w2 ⟨rfl, rfl⟩
    go_wp2_with fail
    refine (has_cl_lit s _ HA.out.2.2 _).mono ?_
    rintro e w3 ⟨rfl, rfl⟩
    go_wp2
    go_ret
    exact ⟨by rw [HM.out]; rfl, rfl⟩

def digs : ByteArray := ⟨#[48, 49, 50, 51, 52, 53, 54, 55, 56, 57, 97, 98, 99, 100, 101, 102, 103, 104, 105, 106, 107, 108, 109, 110, 111, 112, 113, 114, 115, 116, 117, 118, 119, 120, 121, 122]⟩
theorem digs_at {n : Nat} (hn : n ≤ 6) : digs.extract n (n + 1) = dg n := by
  match n, hn with
  | 0, _ => rfl
  | 1, _ => rfl
  | 2, _ => rfl
  | 3, _ => rfl
  | 4, _ => rfl
  | 5, _ => rfl
  | 6, _ => rfl
theorem wrap_small (n : Nat) (hn : n ≤ 6) : IntKind.i64.wrap (n : Int) = (n : Int) := IntWalk.i64_in _ (by omega)
set_option maxRecDepth 100000 in
theorem small_any (n : Nat) (hn : n ≤ 6) (w : World) : Calls Tryd.prog 218 #[.int .i64 (n : Int)] w fun e w' => e = .returned (.string (dg n)) ∧ w = w' := by
  have w3 : IntKind.i64.wrap ((n : Int) + 1) = (n : Int) + 1 := IntWalk.i64_in _ (by omega)
  go_enter Tryd.func218, Tryd.ntmps218
  go_wp2
  go_ret
  exact ⟨congrArg (fun z => Ending.returned (.string z)) (digs_at hn), rfl⟩
set_option maxRecDepth 100000 in
theorem FormatInt_any (n : Nat) (hn : n ≤ 6) (w : World) : Calls Tryd.prog 201 #[.int .i64 (n : Int), .int .i64 10] w fun e w' => e = .returned (.string (dg n)) ∧ w = w' := by
  have h1 : (0 : Int) ≤ (n : Int) := by omega
  have h2 : (n : Int) < 100 := by omega
  go_enter Tryd.func201, Tryd.ntmps201
  go_wp2_with fail
  refine (small_any n hn _).mono ?_
  rintro e w1 ⟨rfl, rfl⟩
  go_wp2
  go_ret
  exact ⟨rfl, rfl⟩
set_option maxRecDepth 100000 in
theorem ItoaI_any (n : Nat) (hn : n ≤ 6) (w : World) : Calls Tryd.prog 175 #[.int .i64 (n : Int)] w fun e w' => e = .returned (.string (dg n)) ∧ w = w' := by
  go_enter Tryd.func175, Tryd.ntmps175
  go_wp2_with fail
  refine (FormatInt_any n hn _).mono ?_
  rintro e w1 ⟨rfl, rfl⟩
  go_wp2
  go_ret
  exact ⟨rfl, rfl⟩
set_option maxRecDepth 100000 in
theorem Itoa_any (n : Nat) (hn : n ≤ 6) (w : World) : Calls Tryd.prog 145 #[.int .i64 (n : Int)] w fun e w' => e = .returned (.string (dg n)) ∧ w = w' := by
  go_enter Tryd.func145, Tryd.ntmps145
  go_wp2_with fail
  refine (ItoaI_any n hn _).mono ?_
  rintro e w1 ⟨rfl, rfl⟩
  go_wp2
  go_ret
  exact ⟨rfl, rfl⟩
theorem dg_val {n : Nat} (hn : n ≤ 6) : ∃ c : UInt8, dg n = ⟨#[c]⟩ ∧ 48 + (n : Int) = (c.toNat : Int) := by
  refine ⟨_, rfl, ?_⟩
  match n, hn with
  | 0, _ => rfl
  | 1, _ => rfl
  | 2, _ => rfl
  | 3, _ => rfl
  | 4, _ => rfl
  | 5, _ => rfl
  | 6, _ => rfl
set_option maxRecDepth 100000 in
theorem l15Dec_any (n : Nat) (hn : n ≤ 6) (w : World) : Calls Tryd.prog 92 #[.int .i64 (n : Int)] w fun e w' => e = .returned (.string (dg n)) ∧ Below w.heap.size w w' := by
  obtain ⟨c, hs, hv⟩ := dg_val hn
  have HS := Lib.hid hs; clear hs
  have kc := conv_one w _ _ hv
  clear hv
  go_enter Tryd.func92, Tryd.ntmps92
  go_wp2
  refine wp_loop_rounds 1 ?_
  rw [rounds_succ]
  go_wp2
  go_ret
  exact ⟨by rw [HS.out]; rfl, (Below.refl _ _).alloc (Nat.le_refl _) _⟩
end Go.Proofs.YtngcmjfkeageiaaDoor
end

section
/-
  FactsOf of the model: what all blocks do to a term, as a text. Conditions: at most 1048576 blocks and edges, each text at most as many bytes.
-/
namespace Go.Proofs.YtngcmjfkeageiaaDoor
open Go.RowKit Go.Maps

/-- what is told of a block -/
def partT (bs : List Pr) (t : ByteArray) (k : Nat) : ByteArray := nameAt bs k ++ dg (fsOf (restAt bs k) t).n ++ mkT (fsOf (restAt bs k) t)
/-- of the first blocks, with spaces between them -/
def accF (bs : List Pr) (t : ByteArray) : Nat → ByteArray
  | 0 => e0
  | k + 1 => (if 0 < k then accF bs t k ++ ⟨#[32]⟩ else accF bs t k) ++ partT bs t k
theorem accF_first {bs : List Pr} {t : ByteArray} {k : Nat} (h : ¬ 0 < k) : accF bs t (k + 1) = accF bs t k ++ partT bs t k := by rw [accF, if_neg h]
theorem accF_next {bs : List Pr} {t : ByteArray} {k : Nat} (h : 0 < k) : accF bs t (k + 1) = accF bs t k ++ ⟨#[32]⟩ ++ partT bs t k := by rw [accF, if_pos h]
theorem mkB_size (a b c : Bool) : (mkB a b c).size ≤ 3 := by cases a <;> cases b <;> cases c <;> decide
theorem dg_size (n : Nat) : (dg n).size = 1 := rfl
theorem partT_size {bs es : List Pr} (hV : Valid bs es) (t : ByteArray) {k : Nat} (hk : k < bs.length) : (partT bs t k).size ≤ 5 := by
  have h1 := hV.name_size (nameAt_mem hk)
  have h2 := mkB_size (fsOf (restAt bs k) t).up (fsOf (restAt bs k) t).dn (fsOf (restAt bs k) t).cl
  unfold partT mkT
  rw [ByteArray.size_append, ByteArray.size_append, dg_size]
  omega
theorem accF_size {bs es : List Pr} (hV : Valid bs es) (t : ByteArray) : ∀ k, k ≤ bs.length → (accF bs t k).size ≤ 6 * k
  | 0, _ => by show e0.size ≤ 0; exact Nat.le_refl _
  | k + 1, hk => by
    have h1 := accF_size hV t k (by omega)
    have h2 := partT_size hV t (k := k) (by omega)
    have h3 : (⟨#[32]⟩ : ByteArray).size = 1 := rfl
    by_cases h0 : 0 < k
    · rw [accF_next h0, ByteArray.size_append, ByteArray.size_append]; omega
    · rw [accF_first h0, ByteArray.size_append]; omega
noncomputable def factsV (bs es : List Pr) (t : ByteArray) : Value := if (validB bs es && isTm t) = true then .tuple #[.string (accF bs t bs.length), .bool true] else .tuple #[.string e0, .bool false]
theorem factsV_yes {bs es : List Pr} {t : ByteArray} (h : validB bs es = true) (h' : isTm t = true) : factsV bs es t = .tuple #[.string (accF bs t bs.length), .bool true] := by unfold factsV; rw [h, h']; rfl
theorem factsV_no1 {bs es : List Pr} {t : ByteArray} (h : validB bs es = false) : factsV bs es t = .tuple #[.string e0, .bool false] := by unfold factsV; rw [h]; rfl
theorem factsV_no2 {bs es : List Pr} {t : ByteArray} (h : isTm t = false) : factsV bs es t = .tuple #[.string e0, .bool false] := by unfold factsV; rw [h, Bool.and_false]; rfl
theorem factsV_form (bs es : List Pr) (t : ByteArray) : ∃ (r : ByteArray) (ok : Bool), factsV bs es t = .tuple #[.string r, .bool ok] := by
  cases h : validB bs es
  · exact ⟨_, _, factsV_no1 h⟩
  · cases h' : isTm t
    · exact ⟨_, _, factsV_no2 h'⟩
    · exact ⟨_, _, factsV_yes h h'⟩
/-- the letters of facts behind a text, one by one -/
def letT (o : ByteArray) (a b c : Bool) : ByteArray :=
  let p := if a then o ++ ⟨#[117]⟩ else o
  let q := if b then p ++ ⟨#[100]⟩ else p
  if c then q ++ ⟨#[99]⟩ else q
theorem letT_eq (o : ByteArray) (a b c : Bool) : letT o a b c = o ++ mkB a b c := by
  cases a <;> cases b <;> cases c <;> (apply bytes_ext2; simp [letT, mkB, ByteArray.data_append])
theorem l3Up_lit (s t : ByteArray) (b : Bool) (h : (fsOf s t).up = b) (w : World) (hs : s.size ≤ 1048576) (ht : isTm t = true) :
    Calls Tryd.prog 94 #[.string s, .string t] w fun e w' => e = .returned (.bool b) ∧ Below w.heap.size w w' := by subst h; exact l3Up_any s t w hs ht
theorem l3Clear_lit (s t : ByteArray) (b : Bool) (h : (fsOf s t).cl = b) (w : World) (hs : s.size ≤ 1048576) (ht : isTm t = true) :
    Calls Tryd.prog 96 #[.string s, .string t] w fun e w' => e = .returned (.bool b) ∧ Below w.heap.size w w' := by subst h; exact l3Clear_any s t w hs ht
end Go.Proofs.YtngcmjfkeageiaaDoor
end

section
/-
  Plain mathematics of chapter 3: tidy programs are valid and have the same facts; a program is tidy exactly if it is its tidied one. It names the program's types alone. Conditions: a valid program.
-/
namespace Go.Proofs.YtngcmjfkeageiaaDoor
open Go.RowKit Go.Maps

/-- what is computed last and never spoilt is computed first -/
def FS.Fair (s : FS) : Prop := s.dn = true → s.cl = true → s.up = true
theorem FS.Fair.step {t u : Nat} {s : FS} (h : s.Fair) : (s.step t u).Fair := by
  unfold FS.step
  split
  · intro _ hc
    show (s.up || s.cl) = true
    rw [show s.cl = true from hc, Bool.or_true]
  · split
    · intro hd; cases hd
    · exact h
theorem fsA_fair (s : ByteArray) (t : Nat) : ∀ k, (fsA s t k).Fair
  | 0 => fun h => by cases h
  | k + 1 => (fsA_fair s t k).step
theorem FS.step_same {t u : Nat} {s : FS} (h : s.Fair) (hu : u = t) (hd : s.dn = true) : s.step t u = s := by
  rw [FS.step_hit hu]
  obtain ⟨n, up, dn, cl⟩ := s
  simp only at hd
  subst hd
  have h' : cl = true → up = true := h rfl
  cases cl
  · simp
  · rw [h' rfl]; rfl
/-- the tidy letters have the letters' facts -/
theorem tidyA_fs (s : ByteArray) {t : Nat} (ht : t ≤ 122) : ∀ k, k ≤ s.size → fsA (tidyA s k) t (tidyA s k).size = fsA s t k
  | 0, _ => rfl
  | k + 1, h => by
    have ih := tidyA_fs s ht k (by omega)
    cases hb : spareB s k
    · have hs : (tidyA s (k + 1)).size = (tidyA s k).size + 1 := by rw [tidyA_more hb, ByteArray.size_append, ByteArray.size_extract]; omega
      rw [hs, fsA_succ, fsA_succ, tidyA_more hb, byteAt_oneT (by omega), fsA_left (Nat.le_refl _), ih]
    · rw [tidyA_spare hb, ih, fsA_succ]
      unfold spareB lowB at hb
      simp only [Bool.and_eq_true, decide_eq_true_eq] at hb
      by_cases e : byteAt s k = t
      · rw [FS.step_same (fsA_fair s t k) e (by rw [← e]; exact hb.2)]
      · rw [FS.step_none e (by omega)]
theorem tidyA_fsOf (s : ByteArray) {t : ByteArray} (ht : isTm t = true) : fsOf (tidyA s s.size) t = fsOf s t := tidyA_fs s (isTm_bd ht).2 _ (Nat.le_refl _)
theorem tidyA_op {s : ByteArray} (ho : ∀ i, i < s.size → opB (byteAt s i) = true) : ∀ k, k ≤ s.size → ∀ i, i < (tidyA s k).size → opB (byteAt (tidyA s k) i) = true
  | 0, _ => fun i hi => absurd hi (Nat.not_lt_zero _)
  | k + 1, h => by
    intro i hi
    have ih := tidyA_op ho k (by omega)
    cases hb : spareB s k
    · rw [tidyA_more hb] at hi ⊢
      rw [ByteArray.size_append, ByteArray.size_extract] at hi
      by_cases hl : i < (tidyA s k).size
      · rw [byteAt_left hl]; exact ih i hl
      · obtain rfl : i = (tidyA s k).size := by omega
        rw [byteAt_oneT (by omega)]
        exact ho k (by omega)
    · rw [tidyA_spare hb] at hi ⊢
      exact ih i hi
/-- a whole program's blocks, tidied -/
def tidW (bs : List Pr) : List Pr := tidL bs bs.length
theorem tidW_length (bs : List Pr) : (tidW bs).length = bs.length := tidL_length _ _
theorem tidW_name {bs : List Pr} {i : Nat} (h : i < bs.length) : nameAt (tidW bs) i = nameAt bs i := tidL_name h
theorem tidW_rest {bs : List Pr} {i : Nat} (h : i < bs.length) : restAt (tidW bs) i = tidyA (restAt bs i) (restAt bs i).size := tidL_rest h
theorem tidW_names (bs : List Pr) : names (tidW bs) = names bs := by
  apply List.ext_getElem?
  intro i
  by_cases h : i < bs.length
  · rw [names_at (by rw [tidW_length]; exact h), names_at h, tidW_name h]
  · rw [List.getElem?_eq_none (by rw [names_length, tidW_length]; omega), List.getElem?_eq_none (by rw [names_length]; omega)]
theorem Valid.tidy {bs es : List Pr} (hV : Valid bs es) : Valid (tidW bs) es := by
  have hlen := tidW_length bs
  have h2 := hV.b.lo
  have hn0 : nameAt (tidW bs) 0 = nameAt bs 0 := tidW_name (by omega)
  have hnl : nameAt (tidW bs) ((tidW bs).length - 1) = nameAt bs (bs.length - 1) := by rw [hlen]; exact tidW_name (by omega)
  have hmem : ∀ p ∈ tidW bs, ∃ i, i < bs.length ∧ p.1 = nameAt bs i ∧ p.2 = tidyA (restAt bs i) (restAt bs i).size := by
    intro p hp
    obtain ⟨i, hi, e1, e2⟩ := mem_at hp
    rw [hlen] at hi
    exact ⟨i, hi, by rw [← e1, tidW_name hi], by rw [← e2, tidW_rest hi]⟩
  refine ⟨⟨by omega, by have := hV.b.hi; omega, ?_, ?_, by rw [tidW_names]; exact hV.b.nd, ?_⟩, ⟨hV.e.hi, ?_, ?_, hV.e.nd, by rw [hn0]; exact hV.e.ne, by rw [hnl]; exact hV.e.nx⟩, ?_, ?_⟩
  · intro p hp
    obtain ⟨i, hi, e1, _⟩ := hmem p hp
    rw [e1]; exact hV.b.nm _ (pair_mem hi)
  · intro p hp
    obtain ⟨i, hi, _, e2⟩ := hmem p hp
    rw [e2]
    have ho := hV.b.op _ (pair_mem hi)
    exact ⟨Nat.le_trans (tidyA_size _ _ (Nat.le_refl _)) ho.1, tidyA_op ho.2 _ (Nat.le_refl _)⟩
  · rw [tidW_rest (by omega), hV.b.en]; rfl
  · rw [tidW_names]; exact hV.e.fr
  · rw [tidW_names]; exact hV.e.to
  · intro p hp
    obtain ⟨i, hi, e1, _⟩ := hmem p hp
    rw [e1, hn0]; exact hV.ra _ (pair_mem hi)
  · intro p hp
    obtain ⟨i, hi, e1, _⟩ := hmem p hp
    rw [e1, hnl]; exact hV.rz _ (pair_mem hi)
theorem tidW_part {bs : List Pr} {t : ByteArray} (ht : isTm t = true) {k : Nat} (hk : k < bs.length) : partT (tidW bs) t k = partT bs t k := by
  unfold partT
  rw [tidW_name hk, tidW_rest hk, tidyA_fsOf _ ht]
theorem tidW_acc {bs : List Pr} {t : ByteArray} (ht : isTm t = true) : ∀ k, k ≤ bs.length → accF (tidW bs) t k = accF bs t k
  | 0, _ => rfl
  | k + 1, hk => by
    have ih := tidW_acc (bs := bs) ht k (by omega)
    have hp := tidW_part (bs := bs) ht (k := k) (by omega)
    by_cases h0 : 0 < k
    · rw [accF_next h0, accF_next h0, ih, hp]
    · rw [accF_first h0, accF_first h0, ih, hp]
theorem tidW_facts {bs es : List Pr} (hV : Valid bs es) {t : ByteArray} (ht : isTm t = true) : factsV (tidW bs) es t = factsV bs es t := by
  rw [factsV_yes (show validB bs es = true by simpa [validB] using hV) ht, factsV_yes (show validB (tidW bs) es = true by simpa [validB] using hV.tidy) ht, tidW_length, tidW_acc ht _ (Nat.le_refl _)]
theorem tidyB_iff (bs : List Pr) : ∀ n, tidyB bs n = true ↔ ∀ k, k < n → tidyA (restAt bs k) (restAt bs k).size = restAt bs k
  | 0 => ⟨fun _ k hk => absurd hk (Nat.not_lt_zero _), fun _ => rfl⟩
  | n + 1 => by
    rw [tidyB_succ, Bool.and_eq_true, decide_eq_true_eq, tidyB_iff bs n]
    constructor
    · rintro ⟨h1, h2⟩ k hk
      rcases Nat.lt_or_ge k n with h | h
      · exact h1 k h
      · obtain rfl : k = n := by omega
        exact h2
    · intro h
      exact ⟨fun k hk => h k (by omega), h n (by omega)⟩
/-- tidy programs are those that tidying leaves as they are -/
theorem isTidy_iff {bs es : List Pr} (hV : Valid bs es) : isTidyV bs es = true ↔ tidW bs = bs := by
  have hv : validB bs es = true := by simpa [validB] using hV
  unfold isTidyV
  rw [hv, Bool.and_true, tidyB_iff]
  constructor
  · intro h
    refine ext_at (tidW_length bs) fun i hi => ?_
    rw [tidW_length] at hi
    rw [tidW_name hi, tidW_rest hi]
    exact ⟨rfl, h i hi⟩
  · intro h k hk
    have := tidW_rest (bs := bs) hk
    rw [h] at this
    exact this.symm
end Go.Proofs.YtngcmjfkeageiaaDoor
end
