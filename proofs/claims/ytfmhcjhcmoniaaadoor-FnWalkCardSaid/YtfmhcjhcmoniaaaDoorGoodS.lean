/-
  The model's l1Good: a valid program, drawn. Conditions: at most 900000 numbers drawn before.
-/
import Derived.Test.YtfmhcjhcmoniaaaDoorGoodM
namespace Go.Proofs.YtfmhcjhcmoniaaaDoor
open Go.RowKit Go.Maps

/-- a valid program in memory; only the source is written -/
def GoodDraw (w : World) (g : Nat) (a : Option Addr) (n cap p : Nat) (e : Ending) (w' : World) : Prop := ∃ bs es ab ae cb ce, e = .returned (.agg #[.slice ab bs.length cb, .slice ae es.length ce]) ∧ Valid bs es ∧ PairsAt w' ab bs ∧ PairsAt w' ae es ∧ Drawn w w' g a n cap p 80
theorem PairsAt.setS {w : World} {a : Option Addr} {l : List Pr} (h : PairsAt w a l) {p : Addr} {v u : Value} (hc : w.cell? p = some v) (hv : ∀ s, v ≠ .string s) : PairsAt (w.setCell p u) a l :=
  ⟨h.len, h.size, fun i hi => by
    obtain ⟨b, off, e, hb, h1, h2⟩ := h.cell i hi
    refine ⟨b, off, e, by simpa [World.setCell] using hb, ?_, ?_⟩
    · rw [World.cell?_setCell_other]
      · exact h1
      · rintro rfl; rw [hc] at h1; exact hv _ (Option.some.inj h1)
    · rw [World.cell?_setCell_other]
      · exact h2
      · rintro rfl; rw [hc] at h2; exact hv _ (Option.some.inj h2)⟩
theorem l1Link_int (w : World) (bs es : List Pr) (ab ae : Option Addr) (cb ce : Nat) (base i j : Nat) (I J : Int) (hI : I = i) (hJ : J = j) (hi : i < bs.length) (hj : j < bs.length) (hpb : PairsAt w ab bs) (hn : ∀ k, k < bs.length → (nameAt bs k).size ≤ 1) (hbase : base ≤ w.heap.size)
    (ho : w.ownsRow base 81 2 (.slice ae es.length ce) es.length (cellsOf es)) (hl : es.length ≤ 1000) (h1 : Ed1 es) :
    Calls Tryd.prog 72 #[.agg #[.slice ab bs.length cb, .slice ae es.length ce], .int .i64 I, .int .i64 J] w (LinkPost w (.slice ab bs.length cb) ae ce es base) := by
  subst hI hJ; exact l1Link_any w bs es ab ae cb ce base i j hi hj hpb hn hbase ho hl h1
theorem num_in1 : ∀ x ∈ [(5 : Int), 4, 6, 3, 7, 5], 3 ≤ x ∧ x ≤ 7 := by decide
theorem num_in2 : ∀ x ∈ [(1 : Int), 0, 1, 2, 0, 3], 0 ≤ x ∧ x ≤ 3 := by decide
theorem num_in3 : ∀ x ∈ [(2 : Int), 3, 1, 4, 0], 0 ≤ x ∧ x ≤ 4 := by decide
def opsL : List ByteArray := [⟨#[120]⟩, ⟨#[120]⟩, ⟨#[88]⟩, ⟨#[120]⟩, ⟨#[121]⟩, ⟨#[89]⟩, ⟨#[120]⟩]
theorem opsL_one {x : ByteArray} (h : x ∈ opsL) : x.size = 1 := by
  unfold opsL at h
  repeat (rcases List.mem_cons.1 h with rfl | h; · rfl)
  cases h
def abcT : ByteArray := ⟨#[65, 66, 67, 68, 69, 70, 71, 72, 73]⟩

set_option maxRecDepth 100000 in
set_option maxHeartbeats 6400000 in
theorem l1Good_any (w : World) (g : Nat) (a : Option Addr) (n cap p : Nat) (hp : p ≤ 900000) (h : RdAt w g a n cap p) :
    Calls Tryd.prog 55 #[.pointer (some ⟨g, 0, none⟩)] w (GoodDraw w g a n cap p) := by
  have hA : Below w.heap.size w (w.alloc (.cells #[.slice none 0 0, .slice none 0 0] 32)) := (Below.refl _ _).alloc (Nat.le_refl _) _
  have hR : Two (w.alloc (.cells #[.slice none 0 0, .slice none 0 0] 32)) w.heap.size (.slice none 0 0) (.slice none 0 0) := heap_alloc_new _ _
  have hgl := h.lt
  have hrA := h.below hA
  have H0 := Lib.hid (And.intro h (And.intro (Turns.of_below (S := fun k => k = g) hA) hR))
  clear h hA hR
  obtain ⟨i0, hi, hz0, hz1, hz2⟩ := info_parts Tryd.infoBlock
  go_enter Tryd.func55, Tryd.ntmps55
  go_wp2_with fail
  refine (pick_any _ g a n cap p 3 (by decide) (by decide) (by omega) hrA).mono ?_
  rintro e w1 ⟨r, rfl, hr0, hr1, hrd, htu⟩
  have hr2 := hr1 (by decide)
  have hR1 : Two w1 w.heap.size _ _ := htu.rd H0.out.2.2 (by omega)
  have hsz1 := htu.size
  simp at hsz1
  have H1 := Lib.hid (And.intro hrd (And.intro (H0.out.2.1.trans htu) hR1))
  clear hr1 htu hrA hrd hR1
  by_cases hz : r = 0
  · subst hz
    have hrd := H1.out.1
    go_wp2_with fail
    refine (pick_any _ g a n cap (p + 1) 12 (by decide) (by decide) (by omega) hrd).mono ?_
    rintro e w2 ⟨r2, rfl, hr20, hr21, hrd2, htu2⟩
    obtain ⟨k, rfl⟩ := Int.eq_ofNat_of_zero_le hr20
    have hk : k < 12 := by have := hr21 (by decide); omega
    have H2 := Lib.hid (And.intro hrd2 (And.intro (H1.out.2.1.trans htu2) (htu2.rd H1.out.2.2 (by omega))))
    have hs2 := htu2.size
    clear hr20 hr21 htu2 hrd hrd2
    go_wp2_with fail
    refine (l1Sample_any _ k hk).mono ?_
    rintro e w3 ⟨bs, es, ab, ae, cb, ce, rfl, hV, hPb, hPe, hb3⟩
    have hR3 : Two w3 w.heap.size _ _ := (hb3.block _ (by omega)).trans H2.out.2.2
    obtain ⟨r0, r1, t0, t1, _⟩ := hR3.cells
    have hn : ∀ s, Value.slice none 0 0 ≠ .string s := fun s h => by cases h
    have hPb' := (hPb.setS (u := .slice ab bs.length cb) r0 hn).setS (p := ⟨w.heap.size, 1, none⟩) (u := .slice ae es.length ce) ((hR3.set0 (.slice ab bs.length cb)).cells.2.1) hn
    have hPe' := (hPe.setS (u := .slice ab bs.length cb) r0 hn).setS (p := ⟨w.heap.size, 1, none⟩) (u := .slice ae es.length ce) ((hR3.set0 (.slice ab bs.length cb)).cells.2.1) hn
    have htf := ((H2.out.2.1.trans (Turns.of_below hb3)).setNew (p := ⟨w.heap.size, 0, none⟩) (Nat.le_refl _) (.slice ab bs.length cb)).setNew (p := ⟨w.heap.size, 1, none⟩) (Nat.le_refl _) (.slice ae es.length ce)
    have hh3 := (hb3.block g (by omega)).trans H2.out.1.here
    have hhf : ((w3.setCell ⟨w.heap.size, 0, none⟩ (.slice ab bs.length cb)).setCell ⟨w.heap.size, 1, none⟩ (.slice ae es.length ce)).heap[g]? = w3.heap[g]? := (Below.heap_setCell _ _ _ _ (by simp; omega)).trans (Below.heap_setCell _ _ _ _ (by simp; omega))
    have HX := Lib.hid (And.intro hV (And.intro hPb' (And.intro hPe' (And.intro htf (H0.out.1.turns htf (hhf.trans hh3))))))
    clear hV hPb hPe hPb' hPe' htf hh3 hhf hb3 hR3 hn
    go_wp2
    refine bodyPost_ret (v := .agg #[.slice ab bs.length cb, .slice ae es.length ce]) (by simp [results, Tryd.results55, go_sem, r0, r1]) rfl ?_
    exact ⟨bs, es, ab, ae, cb, ce, rfl, HX.out.1, HX.out.2.1, HX.out.2.2.1, (p + 1) + 1, by omega, HX.out.2.2.2.2, HX.out.2.2.2.1⟩
  · have d1 : (r == 0) = false := by simpa using hz
    clear hz
    go_wp2_with fail
    refine (num_new w1 g a n cap (p + 1) [5, 4, 6, 3, 7, 5] (by omega) H1.out.1 (by decide) (by decide)).mono ?_
    rintro e w2 ⟨nn, hnn, rfl, hrd2, htu2⟩
    obtain ⟨hn3, hn7⟩ := num_in1 nn hnn
    obtain ⟨N, rfl⟩ := Int.eq_ofNat_of_zero_le (show 0 ≤ nn by omega)
    have hs2 := htu2.size
    have hR2 : Two w2 w.heap.size _ _ := htu2.rd H1.out.2.2 (by omega)
    have hG : GS w (((w2.alloc (.cells #[] 51)).alloc (.cells #[] 81)).alloc (.cells #[.slice (some ⟨w2.heap.size, 0, none⟩) 0 0, .slice (some ⟨w2.heap.size + 1, 0, none⟩) 0 0] 32)) g a n cap (p + 1 + 1) w.heap.size (w2.heap.size + 1 + 1) (.slice (some ⟨w2.heap.size, 0, none⟩) 0 0) (.slice (some ⟨w2.heap.size + 1, 0, none⟩) 0 0) [] [] := by
      have hb : Below w2.heap.size w2 (((w2.alloc (.cells #[] 51)).alloc (.cells #[] 81)).alloc (.cells #[.slice (some ⟨w2.heap.size, 0, none⟩) 0 0, .slice (some ⟨w2.heap.size + 1, 0, none⟩) 0 0] 32)) := (((Below.refl _ _).alloc (Nat.le_refl _) _).alloc (by simp) _).alloc (by simp; omega) _
      refine ⟨⟨p, H0.out.1⟩, hrd2.below hb, (hb.block _ (by omega)).trans hR2, ?_, ?_, ?_, (H1.out.2.1.trans htu2).trans (.of_below hb)⟩
      · unfold Two
        rw [show w2.heap.size + 1 + 1 = ((w2.alloc (.cells #[] 51)).alloc (.cells #[] 81)).heap.size by simp]; exact heap_alloc_new _ _
      · exact ((World.ownsRow_made w2 #[] 0 (by omega) (Nat.zero_le _) rfl).alloc _).alloc _
      · have := ((World.ownsRow_made (w2.alloc (.cells #[] 51)) (base := w.heap.size) (e := 81) (size := 2) #[] 0 (by simp; omega) (Nat.zero_le _) rfl).alloc (.cells #[.slice (some ⟨w2.heap.size, 0, none⟩) 0 0, .slice (some ⟨w2.heap.size + 1, 0, none⟩) 0 0] 32))
        simpa [cellsOf] using this
    have HG := Lib.hid hG
    have hRQ : w.heap.size < w2.heap.size + 1 + 1 := by omega
    clear hG hR2 htu2 hrd2 hnn
    go_wp2
    go_loopw [21] (fun i wr => ∃ (k p' : Nat) (vb : Value) (L : List Pr), k ≤ N ∧ i = .int .i64 k ∧ L.length = k ∧ Bk1 L ∧ p' ≤ p + 2 + 4 * k ∧ GS w wr g a n cap p' w.heap.size (w2.heap.size + 1 + 1) vb (.slice (some ⟨w2.heap.size + 1, 0, none⟩) 0 0) L []) (fun i _ => N - (intOf i).toNat)
    case atStart => exact ⟨0, p + 1 + 1, _, [], Nat.zero_le _, rfl, rfl, fun i h => absurd h (Nat.not_lt_zero _), by omega, HG.out⟩
    case round =>
      obtain ⟨k, p', vb, L, hk, rfl, hLl, hB, hp', hG⟩ := hrel
      have HLl := Lib.hid (And.intro hLl hB); clear hLl hB
      have HGr := Lib.hid hG
      have hgr := hG.tu.size
      by_cases hlt : k < N
      · have w3 : IntKind.i64.wrap ((k : Int) + 1) = (k : Int) + 1 := IntWalk.i64_in _ (by omega)
        have s3 := run_slice_str abcT (k : Int) ((k : Int) + 1) k (k + 1) rfl (by omega) (by omega) (show k + 1 ≤ 9 by omega)
        have HX := Lib.hid (show (abcT.extract k (k + 1)).size ≤ 1 by rw [ByteArray.size_extract]; omega)
        generalize abcT.extract k (k + 1) = X at *
        unfold abcT at s3
        by_cases hk0 : (0 : Int) < (k : Int)
        · clear hG
          go_wp2_with fail
          refine (num_new wr g a n cap p' [1, 0, 1, 2, 0, 3] (by omega) HGr.out.rd (by decide) (by decide)).mono ?_
          rintro e w4 ⟨mm, hmm, rfl, hrd4, htu4⟩
          obtain ⟨hm0, hm3⟩ := num_in2 mm hmm
          obtain ⟨M, rfl⟩ := Int.eq_ofNat_of_zero_le hm0
          have HG4 := Lib.hid (HGr.out.draw htu4 hrd4)
          clear htu4 hrd4 hmm
          obtain ⟨wo, rfl⟩ : ∃ wo, wo = wr := ⟨_, rfl⟩
          go_wp2
          go_loopw [29, 6] (fun i o wr => ∃ (j p'' : Nat) (s : ByteArray), j ≤ M ∧ i = .int .i64 j ∧ o = .string s ∧ s.size ≤ j ∧ p'' ≤ p' + 1 + j ∧ GS w wr g a n cap p'' w.heap.size (w2.heap.size + 1 + 1) vb (.slice (some ⟨w2.heap.size + 1, 0, none⟩) 0 0) L []) (fun i _ _ => M - (intOf i).toNat)
          case atStart => exact ⟨0, p' + 1, _, Nat.zero_le _, rfl, rfl, Nat.le_refl _, by omega, HG4.out⟩
          case round =>
            obtain ⟨j, p'', s, hj, rfl, rfl, hsj, hp'', hG⟩ := hrel
            have HGi := Lib.hid hG
            by_cases hjl : j < M
            · clear hG
              go_wp2_with fail
              refine (of_new wr g a n cap p'' opsL (by omega) HGi.out.rd (by decide) (by decide)).mono ?_
              rintro e w5 ⟨x, hx, rfl, hrd5, htu5⟩
              have hx1 := opsL_one hx
              have HGj := Lib.hid (HGi.out.draw htu5 hrd5)
              have t0 : ¬ 9223372036854775807 < s.size + x.size := by omega
              have HS := Lib.hid (show (s ++ x).size ≤ j + 1 by rw [ByteArray.size_append]; omega)
              clear hx hx1 hrd5 htu5
              go_wp2
              go_roundw
              case rel => exact ⟨j + 1, p'' + 1, _, by omega, by go_num, rfl, HS.out, by omega, HGj.out⟩
              case measure => simp [intOf]; omega
            · have hwz := hG.tu.size
              have hs9 : s.size ≤ 1000 := by omega
              have hpz : p'' ≤ p + 2 + 4 * (k + 1) := by omega
              obtain ⟨wa, wc, rfl⟩ := own_form hG.ob
              obtain ⟨c0, c1, f0, f1, hQl⟩ := hG.two.cells
              have hb1 : some (w2.heap.size + 1 + 1) ≠ (Value.slice wa L.length wc).ownBlock := fun e => own_neK hG.ob hG.two (by decide) e.symm
              have e0' : wr.drew.cell? ⟨w2.heap.size + 1 + 1, 0, none⟩ = some (.slice wa L.length wc) := c0
              have hLk : L.length = k := HLl.out.1
              have hLs : L.length ≤ 7 := by omega
              have HK := Lib.hid hLk
              have x1 : (0 : Int) ≤ (k : Int) := by omega
              have x2 : (0 : Int) ≤ (k : Int) + 1 := by omega
              clear hG hLk c1 f1
              go_wp2
              go_region_law (first
                | (refine step_append_lies _ rfl (.tmp 38) (.tmp 45) 29 rfl w.heap.size 51 i0 (.agg #[.string ⟨#[]⟩, .string ⟨#[]⟩]) 2 32 Tryd.underlying29 hi hz0 hz1 hz2 rfl (by decide) _ L.length (cellsOf L) rfl ((ownsRow_below HGi.out.ob (Below.refl _ _).drew).alloc _) ⟨wr.heap.size, 0, none⟩ 1 1 [.string X, .string s] rfl rfl (cell_two_new _ _ _ _) (two_one _ _ rfl rfl) (by decide) (by unfold maxLen; omega) (by omega) (by simp; omega) _ rfl ?_
                   intro g' cap' w6 hown6 hgrow6 hlies6 _
                   have hT6 : Two w6 (w2.heap.size + 1 + 1) (.slice wa L.length wc) _ := HGi.out.two.of_cells ((hgrow6.block _ (by simp; omega) hb1).trans (Lib.alloc_old wr.drew _ _ hQl))
                   have e6 := hT6.cells.1
                   have f6 := hT6.cells.2.2.1))
              all_goals
                have hGN := HGi.out.growB (v' := .slice (some ⟨g', 0, none⟩) (L.length + 1) cap') (L' := L ++ [(X, s)]) (((Below.refl _ _).drew).alloc (Nat.le_refl _) _) hgrow6 (by rw [cellsOf_snoc, List.length_append]; exact hown6) (by omega) (by omega)
                have HGN := Lib.hid hGN
                clear hGN hown6 hgrow6 hlies6 hT6 e6 f6
                go_wp2
                go_roundw
                case rel => exact ⟨k + 1, p'', _, L ++ [(X, s)], by omega, by go_num, by rw [List.length_append, HK.out]; rfl, HLl.out.2.snoc HX.out hs9, hpz, HGN.out⟩
                case measure => simp [intOf]; omega
        · have hG' := hG
          obtain ⟨p'', hpe⟩ : ∃ p'', p'' = p' := ⟨_, rfl⟩
          obtain ⟨s, hse⟩ : ∃ s : ByteArray, s = ⟨#[]⟩ := ⟨_, rfl⟩
          have HGi := HGr
          rw [← hpe] at HGi
          have hwz := hG.tu.size
          have hs9 : s.size ≤ 1000 := by rw [hse]; exact Nat.zero_le _
          have hpz : p'' ≤ p + 2 + 4 * (k + 1) := by omega
          rw [← hpe] at hG
          have HPE := Lib.hid (And.intro hpe hse)
          clear hpe hG'
          subst hse
          obtain ⟨wa, wc, rfl⟩ := own_form hG.ob
          obtain ⟨c0, c1, f0, f1, hQl⟩ := hG.two.cells
          have hb1 : some (w2.heap.size + 1 + 1) ≠ (Value.slice wa L.length wc).ownBlock := fun e => own_neK hG.ob hG.two (by decide) e.symm
          have e0' : wr.drew.cell? ⟨w2.heap.size + 1 + 1, 0, none⟩ = some (.slice wa L.length wc) := c0
          have hLk : L.length = k := HLl.out.1
          have hLs : L.length ≤ 7 := by omega
          have HK := Lib.hid hLk
          have x1 : (0 : Int) ≤ (k : Int) := by omega
          have x2 : (0 : Int) ≤ (k : Int) + 1 := by omega
          clear hG hLk c1 f1
          go_wp2
          go_region_law (first
            | (refine step_append_lies _ rfl (.tmp 38) (.tmp 45) 29 rfl w.heap.size 51 i0 (.agg #[.string ⟨#[]⟩, .string ⟨#[]⟩]) 2 32 Tryd.underlying29 hi hz0 hz1 hz2 rfl (by decide) _ L.length (cellsOf L) rfl ((ownsRow_below HGi.out.ob (Below.refl _ _).drew).alloc _) ⟨wr.heap.size, 0, none⟩ 1 1 [.string X, .string ⟨#[]⟩] rfl rfl (cell_two_new _ _ _ _) (two_one _ _ rfl rfl) (by decide) (by unfold maxLen; omega) (by omega) (by simp; omega) _ rfl ?_
               intro g' cap' w6 hown6 hgrow6 hlies6 _
               have hT6 : Two w6 (w2.heap.size + 1 + 1) (.slice wa L.length wc) _ := HGi.out.two.of_cells ((hgrow6.block _ (by simp; omega) hb1).trans (Lib.alloc_old wr.drew _ _ hQl))
               have e6 := hT6.cells.1
               have f6 := hT6.cells.2.2.1))
          all_goals
            have hGN := HGi.out.growB (v' := .slice (some ⟨g', 0, none⟩) (L.length + 1) cap') (L' := L ++ [(X, ⟨#[]⟩)]) (((Below.refl _ _).drew).alloc (Nat.le_refl _) _) hgrow6 (by rw [cellsOf_snoc, List.length_append]; exact hown6) (by omega) (by omega)
            have HGN := Lib.hid hGN
            clear hGN hown6 hgrow6 hlies6 hT6 e6 f6
            go_wp2
            go_roundw
            case rel => exact ⟨k + 1, p'', _, L ++ [(X, ⟨#[]⟩)], by omega, by go_num, by rw [List.length_append, HK.out]; rfl, HLl.out.2.snoc HX.out hs9, hpz, HGN.out⟩
            case measure => simp [intOf]; omega
      · obtain ⟨N1, hN1⟩ : ∃ N1, N = N1 + 1 := ⟨N - 1, by omega⟩
        have hwN : IntKind.i64.wrap ((N : Int) - 1) = (N1 : Int) := by rw [show (N : Int) - 1 = (N1 : Int) by omega]; exact IntWalk.i64_in _ (by omega)
        have hkN : N1 + 1 ≤ k := by omega
        have hN6 : N1 ≤ 6 := by omega
        have hN2 : 2 ≤ N1 := by omega
        have hk7 : k ≤ 7 := by omega
        have hpk : p' ≤ p + 30 := by omega
        have HNN := Lib.hid hN1
        obtain ⟨xa, xc, rfl⟩ := own_form hG.ob
        have hltN := hlt
        clear hN1 hlt hk hG hp'
        have HGr' := HGr
        clear HGr
        obtain ⟨w7, rfl⟩ : ∃ w7, w7 = wr := ⟨_, rfl⟩
        go_wp2
        go_loopw [51] (fun i wr => ∃ (q : Nat) (ve : Value) (E : List Pr), q ≤ N1 ∧ i = .int .i64 q ∧ E.length ≤ q ∧ Ed1 E ∧ GS w wr g a n cap p' w.heap.size (w2.heap.size + 1 + 1) (.slice xa L.length xc) ve L E) (fun i _ => N1 - (intOf i).toNat)
        case atStart => exact ⟨0, _, [], Nat.zero_le _, rfl, Nat.le_refl _, fun i h => absurd h (Nat.not_lt_zero _), HGr'.out⟩
        case round =>
          obtain ⟨q, ve, E, hq, rfl, hEl, hE1, hG⟩ := hrel
          have hgr7 := hG.tu.size
          obtain ⟨ya, yc, rfl⟩ := own_form hG.oe
          obtain ⟨c0, c1, f0, f1, hQl⟩ := hG.two.cells
          have HL2 := Lib.hid (And.intro hG (And.intro hE1 hEl))
          by_cases hlt : q < N1
          · have wq : IntKind.i64.wrap ((q : Int) + 1) = (q : Int) + 1 := IntWalk.i64_in _ (by omega)
            clear hG hE1 hEl
            go_wp2_with fail
            refine (l1Link_int wr L E _ _ _ _ w.heap.size q (q + 1) _ _ rfl (by omega) (by rw [HLl.out.1]; omega) (by rw [HLl.out.1]; omega) (own_at rfl HL2.out.1.ob (by rw [HLl.out.1]; omega) HLl.out.2.small) (fun k h => (HLl.out.2 k h).1) (by omega) HL2.out.1.oe (by have := HL2.out.2.2; omega) HL2.out.2.1).mono ?_
            rintro e w8 ⟨ya', yc', E', rfl, ho8, ht8, hl8, hlen8, hE8⟩
            have hT8 : Two w8 (w2.heap.size + 1 + 1) _ _ := ht8.two HL2.out.1.two (fun e => own_neK HL2.out.1.oe HL2.out.1.two (by decide) e.symm)
            obtain ⟨d0, d1, g0, g1, _⟩ := hT8.cells
            have hGN := HL2.out.1.link ht8 ho8 (by omega) (by omega)
            have HGN := Lib.hid (And.intro hGN (And.intro hE8 (show E'.length ≤ q + 1 by have := HL2.out.2.2; omega)))
            clear hGN hT8 ho8 ht8 hl8 hlen8 hE8 c0 c1 f0 f1
            go_wp2
            go_roundw
            case rel => exact ⟨q + 1, _, E', by omega, by go_num, HGN.out.2.2, HGN.out.2.1, HGN.out.1⟩
            case measure => simp [intOf]; omega
          · clear hG hE1 hEl c0 c1 f0 f1
            obtain ⟨w9, rfl⟩ : ∃ w9, w9 = wr := ⟨_, rfl⟩
            go_wp2_with fail
            refine (num_new w9 g a n cap p' [2, 3, 1, 4, 0] (by omega) HL2.out.1.rd (by decide) (by decide)).mono ?_
            rintro e w10 ⟨mm, hmm, rfl, hrd4, htu4⟩
            obtain ⟨hm0, hm3⟩ := num_in3 mm hmm
            obtain ⟨M, rfl⟩ := Int.eq_ofNat_of_zero_le hm0
            have HG4 := Lib.hid (And.intro (HL2.out.1.draw htu4 hrd4) (And.intro HL2.out.2.1 (show E.length ≤ 6 by have := HL2.out.2.2; omega)))
            clear htu4 hrd4 hmm HL2 hQl
            go_wp2
            go_loopw [63] (fun i wr => ∃ (q pp : Nat) (ve : Value) (E : List Pr), q ≤ M ∧ i = .int .i64 q ∧ E.length ≤ 6 + q ∧ Ed1 E ∧ pp ≤ p' + 1 + 2 * q ∧ GS w wr g a n cap pp w.heap.size (w2.heap.size + 1 + 1) (.slice xa L.length xc) ve L E) (fun i _ => M - (intOf i).toNat)
            case atStart => exact ⟨0, p' + 1, _, E, Nat.zero_le _, rfl, HG4.out.2.2, HG4.out.2.1, by omega, HG4.out.1⟩
            case round =>
              obtain ⟨q, pp, ve, E, hq, rfl, hEl, hE1, hpp, hG⟩ := hrel
              have hgr8 := hG.tu.size
              obtain ⟨za, zc, rfl⟩ := own_form hG.oe
              obtain ⟨c0, c1, f0, f1, hQl⟩ := hG.two.cells
              have HL2 := Lib.hid (And.intro hG (And.intro hE1 hEl))
              by_cases hlt : q < M
              · have e0' : wr.drew.cell? ⟨w2.heap.size + 1 + 1, 0, none⟩ = some (.slice xa L.length xc) := c0
                have e1' : wr.drew.cell? ⟨w2.heap.size + 1 + 1, 1, none⟩ = some (.slice za E.length zc) := c1
                have hdr : Below wr.heap.size wr wr.drew := (Below.refl _ _).drew
                have hrd0 := HL2.out.1.rd.below hdr
                have HD := Lib.hid (HL2.out.1.below hdr)
                have hEq : E.length ≤ 6 + q := hEl
                clear hG hE1 hEl hdr
                have hLl := HLl.out.1
                have HLk := Lib.hid hLl
                have hN1i : (1 : Int) ≤ (N1 : Int) := by omega
                have hN1j : (N1 : Int) ≤ 1000 := by omega
                clear hLl
                go_wp2
                go_region_law (first
                  | (go_simp; go_at_call 34; refine (pick_any _ g a n cap (pp + 1) _ hN1j (by omega) (by omega) hrdN).mono ?_; rintro e wM ⟨r2, rfl, hr20, hr21, hrdM, htuM⟩; have hr22 := hr21 hN1i; have hGM := HD.out.draw (htuN.trans htuM) hrdM; have a0 := hGM.two.cells.1; have a1 := hGM.two.cells.2.1; have hw9 : IntKind.i64.wrap (1 + r2) = 1 + r2 := IntWalk.i64_in _ (by omega); obtain ⟨j2, hj2⟩ := Int.eq_ofNat_of_zero_le hr20; have hj3 : 1 + r2 = ((j2 + 1 : Nat) : Int) := (by omega); have hj4 : j2 + 1 < N1 + 1 := (by omega); have HM := Lib.hid (And.intro hGM (And.intro hj3 hj4)); clear hr21 hGM hj2 hj3 hj4)
                  | (go_simp; go_at_call 34; refine (pick_any _ g a n cap pp _ hN1j (by omega) (by omega) hrd0).mono ?_; rintro e wN ⟨r1, rfl, hr10, hr11, hrdN, htuN⟩; have hr12 := hr11 hN1i; have hGN := HD.out.draw htuN hrdN; have b0 := hGN.two.cells.1; have b1 := hGN.two.cells.2.1; obtain ⟨j1, hj1⟩ := Int.eq_ofNat_of_zero_le hr10; have hj5 : j1 < N1 := (by omega); have HN9 := Lib.hid (And.intro hj1 hj5); clear hr11 hGN hj1 hj5)
                  | (go_simp; go_at_call 72; refine (l1Link_int wM L E _ _ _ _ w.heap.size j1 (j2 + 1) _ _ HN9.out.1 HM.out.2.1 (by rw [HLk.out]; have := HN9.out.2; omega) (by rw [HLk.out]; have := HM.out.2.2; omega) (own_at rfl HM.out.1.ob (by rw [HLk.out]; omega) HLl.out.2.small) (fun k h => (HLl.out.2 k h).1) HM.out.1.tu.size HM.out.1.oe (by omega) HL2.out.2.1).mono ?_; rintro e w8 ⟨ya', yc', E', rfl, ho8, ht8, hl8, hlen8, hE8⟩; have hT8 : Two w8 (w2.heap.size + 1 + 1) _ _ := ht8.two HM.out.1.two (fun e => own_neK HM.out.1.oe HM.out.1.two (by decide) e.symm); obtain ⟨d0, d1, g0, g1, _⟩ := hT8.cells))
                all_goals
                  have hGN := HM.out.1.link ht8 ho8 (by omega) (by omega)
                  have HGN := Lib.hid (And.intro hGN (And.intro hE8 (show E'.length ≤ 6 + (q + 1) by omega)))
                  clear hGN hT8 ho8 ht8 hl8 hlen8 hE8 d0 d1 g0 g1 a0 a1 b0 b1 hrdN hrdM htuN htuM
                  go_wp2
                  go_roundw
                  case rel => exact ⟨q + 1, pp + 1 + 1, _, E', by omega, by go_num, HGN.out.2.2, HGN.out.2.1, by omega, HGN.out.1⟩
                  case measure => simp [intOf]; omega
              · have hPL := own_at rfl HL2.out.1.ob (by rw [HLl.out.1]; omega) HLl.out.2.small
                have hPE := own_at rfl HL2.out.1.oe (by have := HL2.out.2.2; omega) HL2.out.2.1.small
                have HP := Lib.hid (And.intro hPL hPE)
                have hppB : pp ≤ p + 40 := by omega
                clear hG hE1 hEl hPL hPE f0 f1
                go_wp2_with fail
                refine (ProgValid_spec wr L E _ _ _ _ HP.out.1 HP.out.2).mono ?_
                rintro e w11 ⟨rfl, hb11⟩
                have hz11 := hb11.size
                have hGf := HL2.out.1.below hb11
                have u0 := (hb11.cell (p := ⟨w2.heap.size + 1 + 1, 0, none⟩) hQl).trans c0
                have u1 := (hb11.cell (p := ⟨w2.heap.size + 1 + 1, 1, none⟩) hQl).trans c1
                have H9 := Lib.hid (And.intro hGf.rd (And.intro hGf.tu hGf.res))
                have HPf := Lib.hid (And.intro (HP.out.1.below hb11) (HP.out.2.below hb11))
                have hgw : g < w11.heap.size := by omega
                clear hb11 hGf
                cases hv : validB L E
                · clear hv u0 u1 c0 c1
                  have hrd := H9.out.1
                  go_wp2_with fail
                  refine (pick_any _ g a n cap pp 12 (by decide) (by decide) (by omega) hrd).mono ?_
                  rintro e w12 ⟨r2, rfl, hr20, hr21, hrd2, htu2⟩
                  obtain ⟨k2, rfl⟩ := Int.eq_ofNat_of_zero_le hr20
                  have hk : k2 < 12 := by have := hr21 (by decide); omega
                  have H2 := Lib.hid (And.intro hrd2 (And.intro (H9.out.2.1.trans htu2) (htu2.rd H9.out.2.2 (by omega))))
                  have hs2 := htu2.size
                  clear hr20 hr21 htu2 hrd hrd2
                  go_wp2_with fail
                  refine (l1Sample_any _ k2 hk).mono ?_
                  rintro e w13 ⟨bs, es, ab, ae, cb, ce, rfl, hV, hPb, hPe, hb3⟩
                  have hR3 : Two w13 w.heap.size _ _ := (hb3.block _ (by omega)).trans H2.out.2.2
                  obtain ⟨r0, r1, t0, t1, _⟩ := hR3.cells
                  have hn : ∀ s, Value.slice none 0 0 ≠ .string s := fun s h => by cases h
                  have hPb' := (hPb.setS (u := .slice ab bs.length cb) r0 hn).setS (p := ⟨w.heap.size, 1, none⟩) (u := .slice ae es.length ce) ((hR3.set0 (.slice ab bs.length cb)).cells.2.1) hn
                  have hPe' := (hPe.setS (u := .slice ab bs.length cb) r0 hn).setS (p := ⟨w.heap.size, 1, none⟩) (u := .slice ae es.length ce) ((hR3.set0 (.slice ab bs.length cb)).cells.2.1) hn
                  have htf := ((H2.out.2.1.trans (Turns.of_below hb3)).setNew (p := ⟨w.heap.size, 0, none⟩) (Nat.le_refl _) (.slice ab bs.length cb)).setNew (p := ⟨w.heap.size, 1, none⟩) (Nat.le_refl _) (.slice ae es.length ce)
                  have hh3 := (hb3.block g (by omega)).trans H2.out.1.here
                  have hhf : ((w13.setCell ⟨w.heap.size, 0, none⟩ (.slice ab bs.length cb)).setCell ⟨w.heap.size, 1, none⟩ (.slice ae es.length ce)).heap[g]? = w13.heap[g]? := (Below.heap_setCell _ _ _ _ (by simp; omega)).trans (Below.heap_setCell _ _ _ _ (by simp; omega))
                  have HX := Lib.hid (And.intro hV (And.intro hPb' (And.intro hPe' (And.intro htf (H0.out.1.turns htf (hhf.trans hh3))))))
                  clear hV hPb hPe hPb' hPe' htf hh3 hhf hb3 hR3 hn
                  go_wp2
                  refine bodyPost_ret (v := .agg #[.slice ab bs.length cb, .slice ae es.length ce]) (by simp [results, Tryd.results55, go_sem, r0, r1]) rfl ?_
                  exact ⟨bs, es, ab, ae, cb, ce, rfl, HX.out.1, HX.out.2.1, HX.out.2.2.1, pp + 1, by omega, HX.out.2.2.2.2, HX.out.2.2.2.1⟩
                · have hV : Valid L E := by simpa [validB] using hv
                  obtain ⟨r0, r1, t0, t1, _⟩ := Two.cells H9.out.2.2
                  have hn : ∀ s, Value.slice none 0 0 ≠ .string s := fun s h => by cases h
                  have hPb' := (HPf.out.1.setS (u := .slice xa L.length xc) r0 hn).setS (p := ⟨w.heap.size, 1, none⟩) (u := .slice za E.length zc) ((Two.set0 H9.out.2.2 (.slice xa L.length xc)).cells.2.1) hn
                  have hPe' := (HPf.out.2.setS (u := .slice xa L.length xc) r0 hn).setS (p := ⟨w.heap.size, 1, none⟩) (u := .slice za E.length zc) ((Two.set0 H9.out.2.2 (.slice xa L.length xc)).cells.2.1) hn
                  have htf := (H9.out.2.1.setNew (p := ⟨w.heap.size, 0, none⟩) (Nat.le_refl _) (.slice xa L.length xc)).setNew (p := ⟨w.heap.size, 1, none⟩) (Nat.le_refl _) (.slice za E.length zc)
                  have hhf : ((w11.setCell ⟨w.heap.size, 0, none⟩ (.slice xa L.length xc)).setCell ⟨w.heap.size, 1, none⟩ (.slice za E.length zc)).heap[g]? = w11.heap[g]? := (Below.heap_setCell _ _ _ _ (by simp; omega)).trans (Below.heap_setCell _ _ _ _ (by simp; omega))
                  have HX := Lib.hid (And.intro hV (And.intro hPb' (And.intro hPe' (And.intro htf (H0.out.1.turns htf (hhf.trans H9.out.1.here))))))
                  clear hv hV hPb' hPe' htf hhf hn c0 c1
                  go_wp2
                  refine bodyPost_ret (v := .agg #[.slice xa L.length xc, .slice za E.length zc]) (by simp [results, Tryd.results55, go_sem, r0, r1]) rfl ?_
                  exact ⟨L, E, xa, za, xc, zc, rfl, HX.out.1, HX.out.2.1, HX.out.2.2.1, pp, by omega, HX.out.2.2.2.2, HX.out.2.2.2.1⟩
end Go.Proofs.YtfmhcjhcmoniaaaDoor
