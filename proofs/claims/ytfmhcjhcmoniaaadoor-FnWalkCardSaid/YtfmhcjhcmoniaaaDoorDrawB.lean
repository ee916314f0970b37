/-
  The model's known programs, drawn words. Conditions: at most 1000000 numbers drawn before.
-/
import Derived.Test.YtfmhcjhcmoniaaaDoorDrawA
namespace Go.Proofs.YtfmhcjhcmoniaaaDoor
open Go.RowKit Go.Maps

theorem own_at {w : World} {B : Nat} {e : TypeId} {a : Option Addr} {c n : Nat} {l : List Pr} (hn : n = l.length) (h : w.ownsRow B e 2 (.slice a n c) n (cellsOf l)) (hl : l.length ≤ 1048576) (hs : ∀ i, i < l.length → (nameAt l i).size ≤ 1048576 ∧ (restAt l i).size ≤ 1048576) : PairsAt w a l := by
  obtain ⟨a', c', e, hP⟩ := own_pairs hn h hl hs
  simp only [Value.slice.injEq] at e
  rw [e.1]; exact hP
/-- a valid program in memory, what was there as it was -/
def GoodPost (w : World) (e : Ending) (w' : World) : Prop := ∃ bs es ab ae cb ce, e = .returned (.agg #[.slice ab bs.length cb, .slice ae es.length ce]) ∧ Valid bs es ∧ PairsAt w' ab bs ∧ PairsAt w' ae es ∧ Below w.heap.size w w'
def sampL : List ByteArray := [⟨#[65, 44, 66, 120, 44, 67, 44, 68, 120, 44, 69, 58, 65, 66, 44, 65, 67, 44, 66, 68, 44, 67, 68, 44, 68, 69]⟩, ⟨#[65, 44, 66, 44, 67, 120, 44, 68, 58, 65, 66, 44, 66, 67, 44, 67, 67, 44, 67, 68]⟩, ⟨#[65, 44, 66, 44, 67, 120, 44, 68, 44, 69, 120, 44, 70, 58, 65, 66, 44, 66, 67, 44, 66, 68, 44, 67, 69, 44, 68, 69, 44, 69, 70]⟩, ⟨#[65, 44, 66, 120, 44, 67, 88, 44, 68, 120, 44, 69, 58, 65, 66, 44, 66, 67, 44, 66, 68, 44, 67, 68, 44, 68, 69]⟩, ⟨#[65, 44, 66, 120, 44, 67, 120, 44, 68, 58, 65, 66, 44, 65, 67, 44, 66, 68, 44, 67, 68]⟩, ⟨#[65, 44, 66, 44, 67, 44, 68, 120, 44, 69, 58, 65, 66, 44, 66, 67, 44, 67, 66, 44, 67, 68, 44, 68, 69, 44, 66, 69]⟩, ⟨#[65, 44, 66, 120, 88, 120, 44, 67, 120, 44, 68, 58, 65, 66, 44, 66, 67, 44, 67, 66, 44, 67, 68]⟩, ⟨#[65, 44, 66, 120, 44, 67, 121, 44, 68, 120, 121, 44, 69, 58, 65, 66, 44, 65, 67, 44, 66, 68, 44, 67, 68, 44, 68, 69]⟩, ⟨#[65, 44, 66, 44, 67, 44, 68, 44, 69, 120, 44, 70, 58, 65, 66, 44, 65, 67, 44, 66, 68, 44, 66, 69, 44, 67, 69, 44, 68, 70, 44, 69, 70]⟩, ⟨#[65, 44, 66, 44, 67, 120, 44, 68, 88, 44, 69, 120, 44, 70, 58, 65, 66, 44, 66, 67, 44, 67, 68, 44, 67, 69, 44, 68, 69, 44, 69, 66, 44, 69, 70]⟩, ⟨#[65, 44, 66, 58, 65, 66]⟩, ⟨#[65, 44, 66, 120, 44, 67, 44, 68, 44, 69, 120, 44, 70, 120, 44, 71, 58, 65, 66, 44, 65, 67, 44, 66, 68, 44, 67, 68, 44, 68, 69, 44, 68, 70, 44, 69, 71, 44, 70, 71]⟩]
theorem sampL_at : ∀ k, k < 12 → (sampL.map Value.string).toArray[k]? = some (.string (sampleT k)) := by
  intro k hk
  match k, hk with
  | 0, _ | 1, _ | 2, _ | 3, _ | 4, _ | 5, _ | 6, _ | 7, _ | 8, _ | 9, _ | 10, _ | 11, _ => rfl

set_option maxRecDepth 100000 in
set_option maxHeartbeats 1600000 in
theorem l1Sample_any (w : World) (k : Nat) (hk : k < 12) :
    Calls Tryd.prog 71 #[.int .i64 (k : Int)] w (GoodPost w) := by
  have h1 : Below w.heap.size w (w.alloc (.cells #[.slice none 0 0, .slice none 0 0] 32)) := (Below.refl _ _).alloc (Nat.le_refl _) _
  have hR : Two (w.alloc (.cells #[.slice none 0 0, .slice none 0 0] 32)) w.heap.size (.slice none 0 0) (.slice none 0 0) := heap_alloc_new _ _
  have hc : ((w.alloc (.cells #[.slice none 0 0, .slice none 0 0] 32)).alloc (.cells (sampL.map Value.string).toArray 9)).cell? ⟨w.heap.size + 1, k, none⟩ = some (.string (sampleT k)) := by
    have h2 := heap_alloc_new (w.alloc (.cells #[.slice none 0 0, .slice none 0 0] 32)) (.cells (sampL.map Value.string).toArray 9)
    rw [show (w.alloc (.cells #[.slice none 0 0, .slice none 0 0] 32)).heap.size = w.heap.size + 1 by simp] at h2
    rw [cell_of_row _ _ k _ _ (0, 0) h2]
    exact sampL_at k hk
  have hB : Below (w.heap.size + 1) (w.alloc (.cells #[.slice none 0 0, .slice none 0 0] 32)) ((w.alloc (.cells #[.slice none 0 0, .slice none 0 0] 32)).alloc (.cells (sampL.map Value.string).toArray 9)) := (Below.refl _ _).alloc (by simp) _
  have hz : ((w.alloc (.cells #[.slice none 0 0, .slice none 0 0] 32)).alloc (.cells (sampL.map Value.string).toArray 9)).heap.size = w.heap.size + 2 := by simp
  obtain ⟨wL, hwL⟩ : ∃ wL, wL = ((w.alloc (.cells #[.slice none 0 0, .slice none 0 0] 32)).alloc (.cells (sampL.map Value.string).toArray 9)) := ⟨_, rfl⟩
  rw [← hwL] at hB hz
  have H1 := Lib.hid (And.intro h1 (And.intro hR (And.intro hB (And.intro hz hwL))))
  clear h1 hR hB hz hwL
  have m1 : (k : Int) % 12 = k := by omega
  have m2 : (0 : Int) ≤ (k : Int) := by omega
  have m3 : (k : Int) < 12 := by omega
  go_enter Tryd.func71, Tryd.ntmps71
  simp only [sampL, List.map_cons, List.map_nil] at hc
  go_wp2_with fail
  refine (ParseProg_spec _ (sampleT k) (Nat.le_trans (sample_size k hk) (by decide))).mono ?_
  rintro e w1 ⟨hb1, hcase⟩
  have hb1' : Below wL.heap.size wL w1 := by rw [H1.out.2.2.2.2]; exact hb1
  clear hb1
  have hb1 := hb1'
  clear hb1'
  obtain ⟨hpp, hVV⟩ := sample_ok k hk
  rcases hcase with ⟨_, hV, v, ve, rfl, ho, hoe⟩ | ⟨hno, rfl⟩
  · have hsz := H1.out.2.2.2.1
    have hR1 : Two w1 w.heap.size _ _ := H1.out.2.1.of_cells ((hb1.block _ (by rw [hsz]; omega)).trans (H1.out.2.2.1.block _ (by omega)))
    have hall : Below w.heap.size w w1 := (H1.out.1.trans (H1.out.2.2.1.mono (by omega))).trans (hb1.mono (by rw [hsz]; omega))
    have hz9 := hb1.size
    have hts : (sampleT k).size ≤ 1048576 := Nat.le_trans (sample_size k hk) (by decide)
    have hlb : (bsOf (sampleT k)).length ≤ 9 := hV.b.hi
    have hle : (esOf (sampleT k)).length ≤ 14 := hV.e.hi
    obtain ⟨xa, xc, rfl, hPb⟩ := own_pairs rfl ho (by omega) (blks_sizes hts (L := partAt (sampleT k) 0) (fun s h => partAt_size h))
    obtain ⟨ya, yc, rfl, hPe⟩ := own_pairs rfl hoe (by omega) (blks_sizes hts (L := partAt (sampleT k) 1) (fun s h => partAt_size h))
    rw [hsz] at hz9
    have hzw : w.heap.size < w1.heap.size := by omega
    obtain ⟨r0, r1, t0, t1, _⟩ := hR1.cells
    have k0 := fun q => (World.cell?_alloc_lt w1 q ⟨w.heap.size, 0, none⟩ hzw).trans r0
    have k1 := fun q => (World.cell?_alloc_lt w1 q ⟨w.heap.size, 1, none⟩ hzw).trans r1
    have k2 := fun q => (show (w1.alloc q).frozen? ⟨w.heap.size, 0, none⟩ = w1.frozen? ⟨w.heap.size, 0, none⟩ from ((Below.refl w1.heap.size w1).alloc (Nat.le_refl _) q).frozen (p := ⟨w.heap.size, 0, none⟩) hzw).trans t0
    have k3 := fun q => (show (w1.alloc q).frozen? ⟨w.heap.size, 1, none⟩ = w1.frozen? ⟨w.heap.size, 1, none⟩ from ((Below.refl w1.heap.size w1).alloc (Nat.le_refl _) q).frozen (p := ⟨w.heap.size, 1, none⟩) hzw).trans t1
    have G := fun a b q => hR1.reads a b q
    have HG := Lib.hid G; clear G
    have HX := Lib.hid (And.intro hV (And.intro hPb (And.intro hPe (And.intro hall (And.intro ho hoe)))))
    clear hV hPb hPe hall ho hoe hb1 hR1 hpp hVV
    go_wp2
    refine bodyPost_ret (v := .agg #[.slice xa (bsOf (sampleT k)).length xc, .slice ya (esOf (sampleT k)).length yc]) (by simp [results, Tryd.results71, go_sem, (HG.out _ _ _).1, (HG.out _ _ _).2]) rfl ?_
    refine ⟨_, _, _, _, _, _, rfl, HX.out.1, ?_, ?_, by repeat (first | exact HX.out.2.2.2.1 | refine Below.setCell ?_ (by simp) _ | refine Below.alloc ?_ (by first | omega | (simp; omega)) _)⟩
    · refine own_at rfl (B := w.heap.size + 1) (e := 51) (c := xc) ?_ (by omega) (blks_sizes hts (L := partAt (sampleT k) 0) (fun s h => partAt_size h))
      repeat (first | exact own_base HX.out.2.2.2.2.1 (by simp) | refine own_setCell ?_ (by simp) | refine World.ownsRow.alloc ?_ _)
    · refine own_at rfl (B := w.heap.size + 1) (e := 81) (c := yc) ?_ (by omega) (blks_sizes hts (L := partAt (sampleT k) 1) (fun s h => partAt_size h))
      repeat (first | exact own_base HX.out.2.2.2.2.2 (by simp) | refine own_setCell ?_ (by simp) | refine World.ownsRow.alloc ?_ _)
  · exact absurd ⟨hpp, hVV⟩ hno

end Go.Proofs.YtfmhcjhcmoniaaaDoor
