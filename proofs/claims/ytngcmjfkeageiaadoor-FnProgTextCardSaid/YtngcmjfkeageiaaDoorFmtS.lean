/-
  FormatProg of the model: the text of a valid program, else the empty text. Conditions: at most 1048576 blocks and edges, each text at most as many bytes.
-/
import Derived.Test.YtngcmjfkeageiaaDoorWith
namespace Go.Proofs.YtngcmjfkeageiaaDoor
open Go.RowKit Go.Maps

/-- the text of the first pairs behind a text, with commas between them -/
def acc (l : List Pr) (p : ByteArray) : Nat → ByteArray
  | 0 => p
  | k + 1 => (if 0 < k then acc l p k ++ ⟨#[44]⟩ else acc l p k) ++ nameAt l k ++ restAt l k
theorem acc_first {l : List Pr} {p : ByteArray} {k : Nat} (h : ¬ 0 < k) : acc l p (k + 1) = acc l p k ++ nameAt l k ++ restAt l k := by rw [acc, if_neg h]
theorem acc_next {l : List Pr} {p : ByteArray} {k : Nat} (h : 0 < k) : acc l p (k + 1) = acc l p k ++ ⟨#[44]⟩ ++ nameAt l k ++ restAt l k := by rw [acc, if_pos h]
theorem acc_size {l : List Pr} {p : ByteArray} (h : ∀ i, i < l.length → (nameAt l i).size ≤ 1 ∧ (restAt l i).size ≤ 6) : ∀ k, k ≤ l.length → (acc l p k).size ≤ p.size + k * 8
  | 0, _ => by simp [acc]
  | k + 1, hk => by
    have h1 := acc_size (p := p) h k (by omega)
    have h2 := h k (by omega)
    by_cases hk0 : 0 < k
    · rw [acc_next hk0]
      simp only [ByteArray.size_append]
      have : (⟨#[44]⟩ : ByteArray).size = 1 := rfl
      omega
    · rw [acc_first hk0]
      simp only [ByteArray.size_append]
      omega
theorem Valid.smallB {bs es : List Pr} (h : Valid bs es) : ∀ i, i < bs.length → (nameAt bs i).size ≤ 1 ∧ (restAt bs i).size ≤ 6 := by
  intro i hi
  have h1 := h.b.nm _ (pair_mem hi)
  have h2 := (h.b.op _ (pair_mem hi)).1
  refine ⟨?_, h2⟩
  simp [isNm] at h1
  omega
theorem Valid.smallE {bs es : List Pr} (h : Valid bs es) : ∀ i, i < es.length → (nameAt es i).size ≤ 1 ∧ (restAt es i).size ≤ 6 := by
  intro i hi
  have one : ∀ x, x ∈ names bs → x.size ≤ 1 := fun x hx => by
    obtain ⟨p, hp, rfl⟩ := List.mem_map.1 hx
    have := h.b.nm p hp
    simp [isNm] at this
    omega
  exact ⟨one _ (h.e.fr _ (pair_mem hi)), Nat.le_trans (one _ (h.e.to _ (pair_mem hi))) (by omega)⟩
noncomputable def fmtV (bs es : List Pr) : ByteArray := if validB bs es = true then acc es (acc bs e0 bs.length ++ ⟨#[58]⟩) es.length else e0

set_option maxHeartbeats 1600000 in
set_option maxRecDepth 100000 in
theorem FormatProg_spec (w : World) (bs es : List Pr) (ab ae : Option Addr) (cb ce : Nat) (hpb : PairsAt w ab bs) (hpe : PairsAt w ae es) :
    Calls Tryd.prog 31 #[.agg #[.slice ab bs.length cb, .slice ae es.length ce]] w fun e w' => e = .returned (.string (fmtV bs es)) ∧ Below w.heap.size w w' := by
  have h1 : Below w.heap.size w (w.alloc (.cells #[.slice ab bs.length cb, .slice ae es.length ce] 32)) := (Below.refl _ _).alloc (Nat.le_refl _) _
  have hpb1 := hpb.below h1
  have hpe1 := hpe.below h1
  have H1 := Lib.hid h1; clear h1
  go_enter Tryd.func31, Tryd.ntmps31
  go_wp2_with fail
  refine (ProgValid_spec _ bs es _ _ _ _ hpb1 hpe1).mono ?_
  rintro e w1 ⟨rfl, hb1⟩
  have hall : Below w.heap.size w w1 := H1.out.trans (hb1.mono (by simp))
  have hpb2 := hpb1.below hb1
  have hpe2 := hpe1.below hb1
  have c0 := (hb1.cell (p := ⟨w.heap.size, 0, none⟩) (by simp)).trans (show _ = some (.slice ab bs.length cb) by go_simp)
  have c1 := (hb1.cell (p := ⟨w.heap.size, 1, none⟩) (by simp)).trans (show _ = some (.slice ae es.length ce) by go_simp)
  have hz := hall.size
  cases hv : validB bs es
  · have HV := Lib.hid hv
    clear hv
    go_wp2
    go_ret
    exact ⟨by unfold fmtV; rw [if_neg (by rw [HV.out]; simp)]; rfl, hall⟩
  · have HV := Lib.hid hv
    clear hv
    have HVV := Lib.hid (show Valid bs es by simpa [validB] using HV.out)
    have hlb := HVV.out.b.hi
    have hle := HVV.out.e.hi
    have HSB := Lib.hid (fun k hk => acc_size (p := e0) HVV.out.smallB k hk)
    have HSE := Lib.hid (fun k hk => acc_size (p := acc bs e0 bs.length ++ ⟨#[58]⟩) HVV.out.smallE k hk)
    have HB := Lib.hid HVV.out.smallB
    have HE := Lib.hid HVV.out.smallE
    go_wp2
    go_loopw [14, 3] (fun i v wr => ∃ k : Nat, k ≤ bs.length ∧ i = .int .i64 k ∧ v = .string (acc bs e0 k) ∧ Below w1.heap.size w1 wr) (fun i _ _ => bs.length - (intOf i).toNat)
    case atStart => exact ⟨0, Nat.zero_le _, rfl, rfl, Below.refl _ _⟩
    case round =>
      obtain ⟨k, hk, rfl, rfl, hbl⟩ := hrel
      by_cases hlt : k < bs.length
      · obtain ⟨b, off, rfl, hb, g1, g2⟩ := hpb2.cell k hlt
        have d1 := (hbl.cell (p := ⟨b, off + k * 2, none⟩) hb).trans g1
        have d2 := (hbl.cell (p := ⟨b, off + k * 2 + 1, none⟩) hb).trans g2
        have s1 := HSB.out k hk
        have s2 := HB.out k hlt
        have hz2 := hbl.size
        clear g1 g2
        by_cases hk0 : 0 < k
        · have t0 : ¬ 9223372036854775807 < (acc bs e0 k).size + (⟨#[44]⟩ : ByteArray).size := by have : (⟨#[44]⟩ : ByteArray).size = 1 := rfl; have : e0.size = 0 := rfl; omega
          have t1 : ¬ 9223372036854775807 < (acc bs e0 k ++ ⟨#[44]⟩).size + (nameAt bs k).size := by have : (⟨#[44]⟩ : ByteArray).size = 1 := rfl; have : e0.size = 0 := rfl; rw [ByteArray.size_append]; omega
          have t2 : ¬ 9223372036854775807 < (acc bs e0 k ++ ⟨#[44]⟩ ++ nameAt bs k).size + (restAt bs k).size := by have : (⟨#[44]⟩ : ByteArray).size = 1 := rfl; have : e0.size = 0 := rfl; rw [ByteArray.size_append, ByteArray.size_append]; omega
          simp only [ByteArray.size_append] at t1 t2
          go_wp2
          go_roundw
          case rel => exact ⟨k + 1, by omega, by go_num, by rw [acc_next hk0], hbl.alloc hz2 _⟩
          case measure => simp [intOf]; omega
        · have t1 : ¬ 9223372036854775807 < (acc bs e0 k).size + (nameAt bs k).size := by have : e0.size = 0 := rfl; omega
          have t2 : ¬ 9223372036854775807 < (acc bs e0 k ++ nameAt bs k).size + (restAt bs k).size := by have : e0.size = 0 := rfl; rw [ByteArray.size_append]; omega
          simp only [ByteArray.size_append] at t1 t2
          go_wp2
          go_roundw
          case rel => exact ⟨k + 1, by omega, by go_num, by rw [acc_first hk0], hbl.alloc hz2 _⟩
          case measure => simp [intOf]; omega
      · obtain rfl : k = bs.length := by omega
        have hz2 := hbl.size
        have e0z : e0.size = 0 := rfl
        have oz : (⟨#[44]⟩ : ByteArray).size = 1 := rfl
        have cz : (⟨#[58]⟩ : ByteArray).size = 1 := rfl
        have s0 := HSB.out bs.length (Nat.le_refl _)
        have t3 : ¬ 9223372036854775807 < (acc bs e0 bs.length).size + (⟨#[58]⟩ : ByteArray).size := by omega
        have y1 := (hbl.cell (p := ⟨w.heap.size, 1, none⟩) (by have := hb1.size; simp at this; exact this)).trans c1
        have hwr := hall.trans (hbl.mono hz)
        go_wp2
        go_loopw [36, 3] (fun i v wq => ∃ k : Nat, k ≤ es.length ∧ i = .int .i64 k ∧ v = .string (acc es (acc bs e0 bs.length ++ ⟨#[58]⟩) k) ∧ Below w1.heap.size w1 wq) (fun i _ _ => es.length - (intOf i).toNat)
        case atStart => exact ⟨0, Nat.zero_le _, rfl, rfl, hbl⟩
        case round =>
          clear hbl hz2 hwr y1
          obtain ⟨k, hk, rfl, rfl, hbl⟩ := hrel
          by_cases hlt : k < es.length
          · obtain ⟨b, off, rfl, hb, g1, g2⟩ := hpe2.cell k hlt
            have d1 := (hbl.cell (p := ⟨b, off + k * 2, none⟩) hb).trans g1
            have d2 := (hbl.cell (p := ⟨b, off + k * 2 + 1, none⟩) hb).trans g2
            have s1 := HSE.out k hk
            rw [ByteArray.size_append] at s1
            have s2 := HE.out k hlt
            have hz2 := hbl.size
            clear g1 g2
            by_cases hk0 : 0 < k
            · have t0 : ¬ 9223372036854775807 < (acc es (acc bs e0 bs.length ++ ⟨#[58]⟩) k).size + (⟨#[44]⟩ : ByteArray).size := by omega
              have t1 : ¬ 9223372036854775807 < (acc es (acc bs e0 bs.length ++ ⟨#[58]⟩) k ++ ⟨#[44]⟩).size + (nameAt es k).size := by rw [ByteArray.size_append]; omega
              have t2 : ¬ 9223372036854775807 < (acc es (acc bs e0 bs.length ++ ⟨#[58]⟩) k ++ ⟨#[44]⟩ ++ nameAt es k).size + (restAt es k).size := by rw [ByteArray.size_append, ByteArray.size_append]; omega
              simp only [ByteArray.size_append] at t1 t2
              clear t3 s0
              go_wp2
              go_roundw
              case rel => exact ⟨k + 1, by omega, by go_num, by rw [acc_next hk0], hbl.alloc hz2 _⟩
              case measure => simp [intOf]; omega
            · have t1 : ¬ 9223372036854775807 < (acc es (acc bs e0 bs.length ++ ⟨#[58]⟩) k).size + (nameAt es k).size := by omega
              have t2 : ¬ 9223372036854775807 < (acc es (acc bs e0 bs.length ++ ⟨#[58]⟩) k ++ nameAt es k).size + (restAt es k).size := by rw [ByteArray.size_append]; omega
              simp only [ByteArray.size_append] at t1 t2
              clear t3 s0
              go_wp2
              go_roundw
              case rel => exact ⟨k + 1, by omega, by go_num, by rw [acc_first hk0], hbl.alloc hz2 _⟩
              case measure => simp [intOf]; omega
          · obtain rfl : k = es.length := by omega
            have hz2 := hbl.size
            go_wp2
            go_ret
            exact ⟨by unfold fmtV; rw [if_pos HV.out]; rfl, hall.trans (hbl.mono hz)⟩
end Go.Proofs.YtngcmjfkeageiaaDoor
