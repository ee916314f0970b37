/-
  Plain mathematics of a program's text: what is written of a valid program is read as it, and what is read is written as it stood. It names the program's types alone. Conditions: none.
-/
import Derived.Test.YtngcmjfkeageiaaDoorPtS
import Derived.Test.YtngcmjfkeageiaaDoorFmtI
namespace Go.Proofs.YtngcmjfkeageiaaDoor

theorem join_two (x y : List UInt8) (r : List (List UInt8)) (sep : List UInt8) : Lib.join (x :: y :: r) sep = x ++ (sep ++ Lib.join (y :: r) sep) := by
  rw [Lib.join_cons, Lib.join_cons]; simp [Lib.joinTail, List.append_assoc]
theorem spl_join {c : UInt8} : ∀ {L : List (List UInt8)}, L ≠ [] → (∀ x ∈ L, c ∉ x) → spl c (Lib.join L [c]) = L
  | [], h, _ => absurd rfl h
  | [x], _, h => by rw [Lib.join_one, spl_none (h x (by simp))]
  | x :: y :: r, _, h => by
    have ih : spl c (Lib.join (y :: r) [c]) = y :: r := spl_join (by simp) fun z hz => h z (List.mem_cons_of_mem _ hz)
    rw [join_two, List.singleton_append, spl_first _ (h x (by simp)), ih]
theorem join_spl (c : UInt8) : ∀ l : List UInt8, Lib.join (spl c l) [c] = l
  | [] => by show Lib.join [[]] [c] = []; rw [Lib.join_one]
  | x :: r => by
    obtain ⟨p, q, e⟩ := spl_form c r
    have ih := join_spl c r
    rw [e] at ih
    by_cases h : x = c
    · subst h; rw [spl_hit, e, join_two, ih]; rfl
    · rw [spl_miss h, e]
      show Lib.join ((x :: p) :: q) [c] = x :: r
      cases q with
      | nil => rw [Lib.join_one] at ih ⊢; rw [ih]
      | cons y q => rw [join_two] at ih ⊢; rw [← ih]; rfl
theorem mem_join {c x : UInt8} : ∀ {L : List (List UInt8)}, x ∈ Lib.join L [c] → x = c ∨ ∃ y ∈ L, x ∈ y
  | [], h => by rw [Lib.join_nil] at h; cases h
  | [y], h => by rw [Lib.join_one] at h; exact .inr ⟨y, by simp, h⟩
  | y :: z :: r, h => by
    rw [join_two, List.mem_append, List.mem_append] at h
    rcases h with h | h | h
    · exact .inr ⟨y, by simp, h⟩
    · exact .inl (by simpa using h)
    · rcases mem_join h with h | ⟨u, hu, hx⟩
      · exact .inl h
      · exact .inr ⟨u, List.mem_cons_of_mem _ hu, hx⟩

/-- the pieces of a row, as bytes -/
def pcs (l : List Pr) : List (List UInt8) := l.map fun p => p.1.data.toList ++ p.2.data.toList
theorem cats_pcs (l : List Pr) : (cats l l.length).map (·.data.toList) = pcs l := by
  unfold cats pcs
  rw [List.map_map]
  refine List.ext_getElem (by simp) fun i h1 h2 => ?_
  have hi : i < l.length := by simpa using h1
  have hp := pair_at hi
  simp only [List.getElem_map, List.getElem_range, Function.comp]
  rw [bytes_app, hp]
theorem joined_pcs (l : List Pr) : (joined l l.length).data.toList = Lib.join (pcs l) [44] := by
  unfold joined; rw [cats_pcs]
/-- the text of a valid program, as bytes -/
theorem fmt_bytes {bs es : List Pr} (hv : validB bs es = true) : (fmtV bs es).data.toList = Lib.join (pcs bs) [44] ++ 58 :: Lib.join (pcs es) [44] := by
  unfold fmtV
  rw [if_pos hv, acc_joined, acc_joined, bytes_app, bytes_app, bytes_app, joined_pcs, joined_pcs]
  simp [e0]
theorem byte_val {s : ByteArray} {x : UInt8} (h : x ∈ s.data.toList) : ∃ i, i < s.size ∧ byteAt s i = x.toNat := by
  obtain ⟨i, hi, e⟩ := List.getElem_of_mem h
  have hl : s.data.toList.length = s.size := by simp
  refine ⟨i, by omega, ?_⟩
  unfold byteAt
  rw [Array.getD_eq_getD_getElem?, Array.getElem?_eq_getElem (by simpa using hi), ← e]
  simp
theorem nm_byte {s : ByteArray} (h : isNm s = true) {x : UInt8} (hx : x ∈ s.data.toList) : 65 ≤ x.toNat ∧ x.toNat ≤ 73 := by
  unfold isNm at h
  simp only [Bool.and_eq_true, decide_eq_true_eq, beq_iff_eq] at h
  obtain ⟨i, hi, e⟩ := byte_val hx
  obtain rfl : i = 0 := by omega
  rw [← e]; exact h.2
theorem op_byte {s : ByteArray} (h : opsOk s) {x : UInt8} (hx : x ∈ s.data.toList) : 88 ≤ x.toNat := by
  obtain ⟨i, hi, e⟩ := byte_val hx
  have := h.2 i hi
  rw [e] at this
  simp only [opB, lowB, upB, Bool.or_eq_true, Bool.and_eq_true, decide_eq_true_eq] at this
  omega
theorem Valid.pcsB {bs es : List Pr} (h : Valid bs es) : ∀ y ∈ pcs bs, ∀ x ∈ y, 65 ≤ x.toNat := by
  intro y hy x hx
  obtain ⟨p, hp, rfl⟩ := List.mem_map.1 hy
  rcases List.mem_append.1 hx with hx | hx
  · exact (nm_byte (h.b.nm p hp) hx).1
  · have := op_byte (h.b.op p hp) hx; omega
theorem Valid.nmE {bs es : List Pr} (h : Valid bs es) : ∀ e ∈ es, isNm e.1 = true ∧ isNm e.2 = true := by
  have nm : ∀ x ∈ names bs, isNm x = true := fun x hx => by
    obtain ⟨p, hp, rfl⟩ := List.mem_map.1 hx
    exact h.b.nm p hp
  exact fun e he => ⟨nm _ (h.e.fr e he), nm _ (h.e.to e he)⟩
theorem Valid.pcsE {bs es : List Pr} (h : Valid bs es) : ∀ y ∈ pcs es, ∀ x ∈ y, 65 ≤ x.toNat := by
  intro y hy x hx
  obtain ⟨p, hp, rfl⟩ := List.mem_map.1 hy
  rcases List.mem_append.1 hx with hx | hx
  · exact (nm_byte (h.nmE p hp).1 hx).1
  · exact (nm_byte (h.nmE p hp).2 hx).1
theorem Valid.edge {bs es : List Pr} (h : Valid bs es) : es ≠ [] := by
  intro e
  subst e
  have hl := h.b.lo
  have h1 := h.ra _ (pair_mem (l := bs) (i := 1) (by omega))
  have h2 : nameAt bs 1 = nameAt bs 0 := h1.closed (S := fun x => x = nameAt bs 0) rfl (fun x y hm => by cases hm)
  have := names_inj h.b.nd (i := 1) (j := 0) (by omega) (by omega) h2
  omega
theorem isNm_size {s : ByteArray} (h : isNm s = true) : s.size = 1 := by
  unfold isNm at h
  simp only [Bool.and_eq_true, beq_iff_eq] at h
  exact h.1
/-- a piece is read as its pair -/
theorem blk_piece {p : Pr} (h : p.1.size = 1) (s : ByteArray) (hs : s.data.toList = p.1.data.toList ++ p.2.data.toList) : blkOf s = p := by
  have hl : p.1.data.toList.length = 1 := by have : p.1.data.toList.length = p.1.size := by simp
                                             omega
  have hz : s.data.toList.length = s.size := by simp
  refine Prod.ext (bytes_ext ?_) (bytes_ext ?_)
  · show (s.extract 0 1).data.toList = _
    rw [extr_list, hs, List.drop_zero, List.take_append_of_le_length (by omega), List.take_of_length_le (by omega)]
  · show (s.extract 1 s.size).data.toList = _
    rw [extr_list, ← hz, List.take_length, hs, List.drop_append, List.drop_of_length_le (by omega), hl]; simp
theorem blks_back {l : List Pr} (h : ∀ p ∈ l, p.1.size = 1) {L : List ByteArray} (hL : L.map (·.data.toList) = pcs l) : L.map blkOf = l := by
  have hlen : L.length = l.length := by
    have := congrArg List.length hL
    unfold pcs at this
    simpa using this
  refine List.ext_getElem (by simpa using hlen) fun i h1 h2 => ?_
  rw [List.getElem_map]
  refine blk_piece (h _ (List.getElem_mem h2)) _ ?_
  have hi : i < L.length := by simpa using h1
  have e := congrArg (fun q : List (List UInt8) => q[i]?) hL
  unfold pcs at e
  simp only [List.getElem?_map, List.getElem?_eq_getElem hi, List.getElem?_eq_getElem h2, Option.map_some, Option.some.injEq] at e
  exact e
/-- what is written is read -/
theorem fmt_read {bs es : List Pr} (hV : Valid bs es) : partsB (fmtV bs es) = true ∧ bsOf (fmtV bs es) = bs ∧ esOf (fmtV bs es) = es := by
  have hv : validB bs es = true := by simpa [validB] using hV
  have hF := fmt_bytes hv
  obtain ⟨T, hT⟩ : ∃ T, fmtV bs es = T := ⟨_, rfl⟩
  rw [hT] at hF ⊢
  have nB : (58 : UInt8) ∉ Lib.join (pcs bs) [44] := fun hm => by
    rcases mem_join hm with h | ⟨y, hy, hx⟩
    · cases h
    · exact absurd (hV.pcsB y hy _ hx) (by decide)
  have nE : (58 : UInt8) ∉ Lib.join (pcs es) [44] := fun hm => by
    rcases mem_join hm with h | ⟨y, hy, hx⟩
    · cases h
    · exact absurd (hV.pcsE y hy _ hx) (by decide)
  have cB : ∀ y ∈ pcs bs, (44 : UInt8) ∉ y := fun y hy hx => absurd (hV.pcsB y hy _ hx) (by decide)
  have cE : ∀ y ∈ pcs es, (44 : UInt8) ∉ y := fun y hy hx => absurd (hV.pcsE y hy _ hx) (by decide)
  have neB : pcs bs ≠ [] := fun h => by
    have h1 := congrArg List.length h
    have := hV.b.lo
    unfold pcs at h1
    simp at h1
    rw [h1] at this; simp at this
  have neE : pcs es ≠ [] := fun h => hV.edge (by unfold pcs at h; simpa using h)
  have h58 := cutL_spl T 58 (by decide)
  rw [hF, show UInt8.ofNat 58 = 58 from rfl, spl_first _ nB, spl_none nE] at h58
  obtain ⟨H, G, hHG⟩ : ∃ H G, cutL T 58 = [H, G] := by
    have hl : (cutL T 58).length = 2 := by have := congrArg List.length h58; simpa using this
    match hc : cutL T 58, hl with
    | [a, b], _ => exact ⟨a, b, rfl⟩
  rw [hHG] at h58
  simp only [List.map_cons, List.map_nil, List.cons.injEq, and_true] at h58
  have p0 : partAt T 0 = cutL H 44 := by unfold partAt; rw [hHG]; rfl
  have p1 : partAt T 1 = cutL G 44 := by unfold partAt; rw [hHG]; rfl
  have m0 := cutL_spl H 44 (by decide)
  rw [h58.1, show UInt8.ofNat 44 = 44 from rfl, spl_join neB cB] at m0
  have m1 := cutL_spl G 44 (by decide)
  rw [h58.2, show UInt8.ofNat 44 = 44 from rfl, spl_join neE cE] at m1
  have b0 := blks_back (fun p hp => isNm_size (hV.b.nm p hp)) m0
  have b1 := blks_back (fun p hp => isNm_size (hV.nmE p hp).1) m1
  refine ⟨partsB_mk (by rw [hHG]; rfl) ?_ ?_, by unfold bsOf; rw [p0, b0], by unfold esOf; rw [p1, b1]⟩
  · rw [p0]
    intro s hs e
    have : s.data.toList ∈ pcs bs := by rw [← m0]; exact List.mem_map.2 ⟨s, hs, rfl⟩
    obtain ⟨p, hp, he⟩ := List.mem_map.1 this
    have h1 := isNm_size (hV.b.nm p hp)
    have h2 : p.1.data.toList.length = p.1.size := by simp
    rw [e] at he
    have := congrArg List.length he
    rw [List.length_append] at this
    have h0 : e0.data.toList.length = 0 := rfl
    omega
  · rw [p1]
    intro s hs
    have : s.data.toList ∈ pcs es := by rw [← m1]; exact List.mem_map.2 ⟨s, hs, rfl⟩
    obtain ⟨p, hp, he⟩ := List.mem_map.1 this
    have h1 := isNm_size (hV.nmE p hp).1
    have h2 := isNm_size (hV.nmE p hp).2
    have h3 : p.1.data.toList.length = p.1.size := by simp
    have h4 : p.2.data.toList.length = p.2.size := by simp
    have h5 : s.data.toList.length = s.size := by simp
    have := congrArg List.length he
    rw [List.length_append] at this
    omega
/-- what is read is written -/
theorem read_fmt {text : ByteArray} (hp : partsB text = true) (hV : Valid (bsOf text) (esOf text)) : fmtV (bsOf text) (esOf text) = text := by
  have hv : validB (bsOf text) (esOf text) = true := by simpa [validB] using hV
  refine bytes_ext ?_
  rw [fmt_bytes hv]
  have hl := partsB_len hp
  obtain ⟨H, G, hHG⟩ : ∃ H G, cutL text 58 = [H, G] := by
    match hc : cutL text 58, hl with
    | [a, b], _ => exact ⟨a, b, rfl⟩
  have p0 : partAt text 0 = cutL H 44 := by unfold partAt; rw [hHG]; rfl
  have p1 : partAt text 1 = cutL G 44 := by unfold partAt; rw [hHG]; rfl
  have one : ∀ s : ByteArray, (blkOf s).1.data.toList ++ (blkOf s).2.data.toList = s.data.toList := fun s => by
    have hz : s.data.toList.length = s.size := by simp
    show (s.extract 0 1).data.toList ++ (s.extract 1 s.size).data.toList = _
    rw [extr_list, extr_list, ← hz, List.take_length, List.drop_zero, List.take_append_drop]
  have pc : ∀ L : List ByteArray, pcs (L.map blkOf) = L.map (·.data.toList) := fun L => by
    unfold pcs
    rw [List.map_map]
    exact List.map_congr_left fun s _ => one s
  unfold bsOf esOf
  rw [p0, p1, pc, pc, cutL_spl H 44 (by decide), cutL_spl G 44 (by decide), show UInt8.ofNat 44 = 44 from rfl, join_spl, join_spl]
  have h58 := cutL_spl text 58 (by decide)
  have hj := join_spl 58 text.data.toList
  rw [hHG] at h58
  rw [show UInt8.ofNat 58 = 58 from rfl] at h58
  rw [← h58] at hj
  simp only [List.map_cons, List.map_nil] at hj
  rw [join_two, Lib.join_one] at hj
  rw [← hj]; rfl
end Go.Proofs.YtngcmjfkeageiaaDoor
