/-
  slices.Sorted over the keys of a map of terms. Conditions: none but what the statements say.
-/
import Derived.Test.YtngcmjfkeageiaaDoorSortB
namespace Go.Proofs.YtngcmjfkeageiaaDoor
open Go.RowKit Go.Maps

set_option maxRecDepth 100000 in
theorem collectB_any (w : World) (Bm b nn : Nat) (S : Int → Bool) (D0 : DataW Value) (hS : ∀ x, Maps.has D0 (.int .u8 x) = S x) (hBm : Bm < w.heap.size) (hm : w.cell? ⟨Bm, 0, none⟩ = some (.map (some b))) (hown : w.ownsMap Tryd.prog 5 hR b nn D0) (hN : Maps.size D0 ≤ 1048576) :
    Calls Tryd.prog 126 #[.func (.func 128) #[] #[.pointer (some ⟨Bm, 0, none⟩)]] w fun e w' =>
      ∃ (v : Value) (ss : List Int), e = .returned v ∧ KeyL S ss ∧ w'.ownsRow w.heap.size 5 1 v ss.length (ss.map encB) ∧ (v = .slice none 0 0 ↔ ss = []) ∧ Below w.heap.size w w' := by
  go_enter Tryd.func126, Tryd.ntmps126
  go_wp2_with fail
  refine (appendSeqB_any w Bm b nn S D0 hS hBm hm hown hN).mono ?_
  rintro e w1 ⟨v, ss, rfl, hK, ho, hn, hb⟩
  have HX := Lib.hid (And.intro hK (And.intro ho (And.intro hn hb)))
  clear hK ho hn hb
  go_wp2
  go_ret
  exact ⟨v, ss, rfl, HX.out.1, HX.out.2.1, HX.out.2.2.1, HX.out.2.2.2⟩

set_option maxRecDepth 100000 in
theorem insNil_any (w : World) : Calls Tryd.prog 182 #[.slice none 0 0, .int .i64 0, .int .i64 0] w fun e w' => e = .returned (.tuple #[]) ∧ w = w' := by
  go_enter Tryd.func182, Tryd.ntmps182
  go_wp2
  refine wp_loop_rounds 1 ?_
  rw [rounds_succ]
  go_wp2
  go_end0
  exact ⟨rfl, rfl⟩
set_option maxRecDepth 100000 in
theorem pdqNil_any (w : World) (m : Int) : Calls Tryd.prog 167 #[.slice none 0 0, .int .i64 0, .int .i64 0, .int .i64 m] w fun e w' => e = .returned (.tuple #[]) ∧ w = w' := by
  go_enter Tryd.func167, Tryd.ntmps167
  go_wp2
  refine wp_loop_rounds 1 ?_
  rw [rounds_succ]
  go_wp2_with fail
  refine (insNil_any _).mono ?_
  rintro e w1 ⟨rfl, rfl⟩
  go_wp2
  refine bodyPost_ret (results_none rfl _ _ _) rfl ?_
  exact ⟨rfl, rfl⟩
set_option maxRecDepth 100000 in
theorem pdqB_any (w : World) (g cap B : Nat) (l : List Int) (m : Int) (hl : l.length ≤ 12) (hc : CellsB w g l) (hB : B ≤ g) (h0 : Below B w w) :
    Calls Tryd.prog 167 #[.slice (some ⟨g, 0, none⟩) l.length cap, .int .i64 0, .int .i64 (l.length : Int), .int .i64 m] w fun e w' => e = .returned (.tuple #[]) ∧ CellsB w' g (insS l l.length) ∧ Below B w w' := by
  have e1 : IntKind.i64.wrap (l.length : Int) = (l.length : Int) := IntWalk.i64_in _ (by omega)
  have e2 : (l.length : Int) ≤ 12 := by omega
  go_enter Tryd.func167, Tryd.ntmps167
  go_wp2
  refine wp_loop_rounds 1 ?_
  rw [rounds_succ]
  go_wp2_with fail
  refine (insSort_any w g cap B l (by omega) hc hB h0).mono ?_
  rintro e w1 ⟨rfl, hc1, hb1⟩
  go_wp2
  refine bodyPost_ret (results_none rfl _ _ _) rfl ?_
  exact ⟨rfl, hc1, hb1⟩
set_option maxRecDepth 100000 in
theorem len64_few (n : Nat) (hn : n ≤ 3) (w : World) : Calls Tryd.prog 192 #[.int .u64 (n : Int)] w fun e w' => (∃ r, e = .returned (.int .i64 r)) ∧ w = w' := by
  obtain rfl | rfl | rfl | rfl : n = 0 ∨ n = 1 ∨ n = 2 ∨ n = 3 := by omega
  all_goals
    go_enter Tryd.func192, Tryd.ntmps192
    go_wp2
    go_ret
    exact ⟨⟨_, rfl⟩, rfl⟩
set_option maxRecDepth 100000 in
theorem len_few (n : Nat) (hn : n ≤ 3) (w : World) : Calls Tryd.prog 168 #[.int .u64 (n : Int)] w fun e w' => (∃ r, e = .returned (.int .i64 r)) ∧ w = w' := by
  go_enter Tryd.func168, Tryd.ntmps168
  go_wp2_with fail
  refine (len64_few n hn _).mono ?_
  rintro e w1 ⟨⟨r, rfl⟩, rfl⟩
  go_wp2
  go_ret
  exact ⟨⟨_, rfl⟩, rfl⟩
set_option maxRecDepth 100000 in
theorem sortNil_any (w : World) : Calls Tryd.prog 127 #[.slice none 0 0] w fun e w' => e = .returned (.tuple #[]) ∧ w = w' := by
  go_enter Tryd.func127, Tryd.ntmps127
  go_wp2_with fail
  refine (len_few 0 (by omega) _).mono ?_
  rintro e w1 ⟨⟨r, rfl⟩, rfl⟩
  go_wp2_with fail
  refine (pdqNil_any _ _).mono ?_
  rintro e w1 ⟨rfl, rfl⟩
  go_wp2
  go_end0
  exact ⟨rfl, rfl⟩
set_option maxRecDepth 100000 in
theorem sortB_any (w : World) (g cap B : Nat) (l : List Int) (hl : l.length ≤ 3) (hc : CellsB w g l) (hB : B ≤ g) (h0 : Below B w w) :
    Calls Tryd.prog 127 #[.slice (some ⟨g, 0, none⟩) l.length cap] w fun e w' => e = .returned (.tuple #[]) ∧ CellsB w' g (insS l l.length) ∧ Below B w w' := by
  have e1 : IntKind.u64.wrap (l.length : Int) = (l.length : Int) := by
    have : l.length = 0 ∨ l.length = 1 ∨ l.length = 2 ∨ l.length = 3 := by omega
    rcases this with h | h | h | h <;> rw [h] <;> rfl
  go_enter Tryd.func127, Tryd.ntmps127
  go_wp2_with fail
  refine (len_few l.length hl _).mono ?_
  rintro e w1 ⟨⟨r, rfl⟩, rfl⟩
  go_wp2_with fail
  refine (pdqB_any w g cap B l r (by omega) hc hB h0).mono ?_
  rintro e w1 ⟨rfl, hc1, hb1⟩
  go_wp2
  go_end0
  exact ⟨rfl, hc1, hb1⟩

/-- what slices.Sorted hands back -/
def SortedPost (w : World) (S : Int → Bool) (e : Ending) (w' : World) : Prop :=
  Below w.heap.size w w' ∧ ∃ v, e = .returned v ∧ ((v = .slice none 0 0 ∧ [120, 121, 122].filter S = []) ∨ ∃ g n cap, v = .slice (some ⟨g, 0, none⟩) n cap ∧ n = ([120, 121, 122].filter S).length ∧ CellsB w' g ([120, 121, 122].filter S))
set_option maxRecDepth 100000 in
theorem sortedB_any (w : World) (Bm b nn : Nat) (S : Int → Bool) (D0 : DataW Value) (hS : ∀ x, Maps.has D0 (.int .u8 x) = S x) (h3 : ∀ x, S x = true → x = 120 ∨ x = 121 ∨ x = 122) (hBm : Bm < w.heap.size) (hm : w.cell? ⟨Bm, 0, none⟩ = some (.map (some b))) (hown : w.ownsMap Tryd.prog 5 hR b nn D0) (hN : Maps.size D0 ≤ 1048576) :
    Calls Tryd.prog 64 #[.func (.func 128) #[] #[.pointer (some ⟨Bm, 0, none⟩)]] w (SortedPost w S) := by
  go_enter Tryd.func64, Tryd.ntmps64
  go_wp2_with fail
  refine (collectB_any w Bm b nn S D0 hS hBm hm hown hN).mono ?_
  rintro e w1 ⟨v, ss, rfl, hK, ho, hn, hb⟩
  have h16 := in16 hK.1 (fun x hx => h3 x ((hK.2 x).1 hx))
  have hsrt := srt_of hK.2
  have hins := insS_all16 ss h16
  by_cases hs : ss = []
  · have hv := hn.2 hs
    subst hv
    have HX := Lib.hid (And.intro hb (show [120, 121, 122].filter S = [] by rw [← hsrt, hs]; rfl))
    clear hb hsrt hins h16 hK ho hn hS hown
    go_wp2_with fail
    refine (sortNil_any _).mono ?_
    rintro e w2 ⟨rfl, rfl⟩
    go_wp2
    go_ret
    exact ⟨HX.out.1, _, rfl, .inl ⟨rfl, HX.out.2⟩⟩
  · have hpos : ss.length ≠ 0 := by simpa using hs
    have hl3 : ss.length ≤ 3 := by
      have : ∀ l ∈ all16, l.length ≤ 3 := by decide
      exact this ss h16
    have hco : ∃ g cap, v = .slice (some ⟨g, 0, none⟩) ss.length cap ∧ w.heap.size ≤ g := by
      rcases ho.2 with ⟨_, h0⟩ | ⟨g, cap, _, rfl, hg, _⟩
      · exact absurd h0 hpos
      · exact ⟨g, cap, rfl, hg⟩
    obtain ⟨g, cap, rfl, hg⟩ := hco
    have hc := CellsB.of_own ho rfl
    have HX := Lib.hid (And.intro hb (And.intro hc (And.intro hsrt hins)))
    have hlen : ss.length = ([120, 121, 122].filter S).length := by
      rw [← hsrt, ← hins, insS_length]
    have HL := Lib.hid hlen
    clear hb hsrt hins h16 hK ho hn hS hown hc hlen
    go_wp2_with fail
    refine (sortB_any w1 g cap w.heap.size ss hl3 HX.out.2.1 hg ((Below.refl _ _).mono HX.out.1.size)).mono ?_
    rintro e w2 ⟨rfl, hc2, hb2⟩
    have HY := Lib.hid (And.intro hc2 hb2)
    clear hc2 hb2
    go_wp2
    go_ret
    refine ⟨HX.out.1.trans HY.out.2, _, rfl, .inr ⟨g, _, cap, rfl, HL.out, ?_⟩⟩
    rw [← HX.out.2.2.1, ← HX.out.2.2.2]
    exact HY.out.1
end Go.Proofs.YtngcmjfkeageiaaDoor
