/-
  The program's GroupsIn, UpIn, DownIn, ClearIn. Conditions: at most 1048576 blocks and edges, each text at most as many bytes; the errors' variables hold errors.
-/
import Derived.Test.YtdepangkeeehpaaDoorBlkJ
namespace Go.Proofs.YtdepangkeeehpaaDoor
open Go.RowKit Go.Maps

set_option maxRecDepth 100000 in
theorem GroupsIn_impl (w : World) (bs es : List Pr) (ab ae : Option Addr) (cb ce : Nat) (x t : ByteArray) (hx : x.size ≤ 1048576) (_ht : t.size ≤ 1048576) (hpb : PairsAt w ab bs) (hpe : PairsAt w ae es) (hg : Errs w) :
    Calls Tryd.prog 50 #[.agg #[.slice ab bs.length cb, .slice ae es.length ce], .string x, .string t] w fun e w' => e = .returned (.int .i64 (groupsV bs es x t)) ∧ Below w.heap.size w w' := by
  have h1 : Below w.heap.size w (w.alloc (.cells #[.slice ab bs.length cb, .slice ae es.length ce] 30)) := (Below.refl _ _).alloc (Nat.le_refl _) _
  have hpb1 := hpb.below h1
  have hpe1 := hpe.below h1
  have hg1 := hg.keep h1
  have H1 := Lib.hid h1; clear h1
  cases hv : blkB bs es x t
  · have HN := Lib.hid (And.intro (tbV_no hv) (show groupsV bs es x t = -1 by unfold groupsV; rw [hv]; rfl))
    clear hv
    go_enter Tryd.func50, Tryd.ntmps50
    go_wp2_with fail
    refine (termBlockOf_any _ bs es _ _ _ _ x t hx hpb1 hpe1 hg1).mono ?_
    rintro e w1 ⟨he, hb1⟩
    rw [HN.out.1] at he
    subst he
    have hall : Below w.heap.size w w1 := H1.out.trans (hb1.mono (by simp))
    have hz := hall.size
    go_wp2
    go_ret
    exact ⟨by first | (rw [HN.out.2]; rfl) | rw [HN.out.2], hall.alloc hz _⟩
  · have HN := Lib.hid (And.intro (tbV_yes hv) (show groupsV bs es x t = ((fsOf (blkOps bs x) t).n : Int) by unfold groupsV; rw [hv]; rfl))
    clear hv
    go_enter Tryd.func50, Tryd.ntmps50
    go_wp2_with fail
    refine (termBlockOf_any _ bs es _ _ _ _ x t hx hpb1 hpe1 hg1).mono ?_
    rintro e w1 ⟨he, hb1⟩
    rw [HN.out.1] at he
    subst he
    have hall : Below w.heap.size w w1 := H1.out.trans (hb1.mono (by simp))
    have hz := hall.size
    go_wp2
    go_ret
    exact ⟨by first | (rw [HN.out.2]; rfl) | rw [HN.out.2], hall.alloc hz _⟩

set_option maxRecDepth 100000 in
theorem UpIn_impl (w : World) (bs es : List Pr) (ab ae : Option Addr) (cb ce : Nat) (x t : ByteArray) (hx : x.size ≤ 1048576) (_ht : t.size ≤ 1048576) (hpb : PairsAt w ab bs) (hpe : PairsAt w ae es) (hg : Errs w) :
    Calls Tryd.prog 47 #[.agg #[.slice ab bs.length cb, .slice ae es.length ce], .string x, .string t] w fun e w' => e = .returned (.bool (upV bs es x t)) ∧ Below w.heap.size w w' := by
  have h1 : Below w.heap.size w (w.alloc (.cells #[.slice ab bs.length cb, .slice ae es.length ce] 30)) := (Below.refl _ _).alloc (Nat.le_refl _) _
  have hpb1 := hpb.below h1
  have hpe1 := hpe.below h1
  have hg1 := hg.keep h1
  have H1 := Lib.hid h1; clear h1
  cases hv : blkB bs es x t
  · have HN := Lib.hid (And.intro (tbV_no hv) (show upV bs es x t = false by unfold upV; rw [hv]; rfl))
    clear hv
    go_enter Tryd.func47, Tryd.ntmps47
    go_wp2_with fail
    refine (termBlockOf_any _ bs es _ _ _ _ x t hx hpb1 hpe1 hg1).mono ?_
    rintro e w1 ⟨he, hb1⟩
    rw [HN.out.1] at he
    subst he
    have hall : Below w.heap.size w w1 := H1.out.trans (hb1.mono (by simp))
    have hz := hall.size
    go_wp2
    go_ret
    exact ⟨by first | (rw [HN.out.2]; rfl) | rw [HN.out.2], hall.alloc hz _⟩
  · have HN := Lib.hid (And.intro (tbV_yes hv) (show upV bs es x t = (fsOf (blkOps bs x) t).up by unfold upV; rw [hv]; rfl))
    clear hv
    go_enter Tryd.func47, Tryd.ntmps47
    go_wp2_with fail
    refine (termBlockOf_any _ bs es _ _ _ _ x t hx hpb1 hpe1 hg1).mono ?_
    rintro e w1 ⟨he, hb1⟩
    rw [HN.out.1] at he
    subst he
    have hall : Below w.heap.size w w1 := H1.out.trans (hb1.mono (by simp))
    have hz := hall.size
    go_wp2_with (go_at_call 117; refine (has_up (fsOf (blkOps bs x) t) _).mono ?_; rintro e w' ⟨rfl, rfl⟩)
    go_ret
    exact ⟨by first | (rw [HN.out.2]; rfl) | rw [HN.out.2], hall.alloc hz _⟩

set_option maxRecDepth 100000 in
theorem DownIn_impl (w : World) (bs es : List Pr) (ab ae : Option Addr) (cb ce : Nat) (x t : ByteArray) (hx : x.size ≤ 1048576) (_ht : t.size ≤ 1048576) (hpb : PairsAt w ab bs) (hpe : PairsAt w ae es) (hg : Errs w) :
    Calls Tryd.prog 48 #[.agg #[.slice ab bs.length cb, .slice ae es.length ce], .string x, .string t] w fun e w' => e = .returned (.bool (downV bs es x t)) ∧ Below w.heap.size w w' := by
  have h1 : Below w.heap.size w (w.alloc (.cells #[.slice ab bs.length cb, .slice ae es.length ce] 30)) := (Below.refl _ _).alloc (Nat.le_refl _) _
  have hpb1 := hpb.below h1
  have hpe1 := hpe.below h1
  have hg1 := hg.keep h1
  have H1 := Lib.hid h1; clear h1
  cases hv : blkB bs es x t
  · have HN := Lib.hid (And.intro (tbV_no hv) (show downV bs es x t = false by unfold downV; rw [hv]; rfl))
    clear hv
    go_enter Tryd.func48, Tryd.ntmps48
    go_wp2_with fail
    refine (termBlockOf_any _ bs es _ _ _ _ x t hx hpb1 hpe1 hg1).mono ?_
    rintro e w1 ⟨he, hb1⟩
    rw [HN.out.1] at he
    subst he
    have hall : Below w.heap.size w w1 := H1.out.trans (hb1.mono (by simp))
    have hz := hall.size
    go_wp2
    go_ret
    exact ⟨by first | (rw [HN.out.2]; rfl) | rw [HN.out.2], hall.alloc hz _⟩
  · have HN := Lib.hid (And.intro (tbV_yes hv) (show downV bs es x t = (fsOf (blkOps bs x) t).dn by unfold downV; rw [hv]; rfl))
    clear hv
    go_enter Tryd.func48, Tryd.ntmps48
    go_wp2_with fail
    refine (termBlockOf_any _ bs es _ _ _ _ x t hx hpb1 hpe1 hg1).mono ?_
    rintro e w1 ⟨he, hb1⟩
    rw [HN.out.1] at he
    subst he
    have hall : Below w.heap.size w w1 := H1.out.trans (hb1.mono (by simp))
    have hz := hall.size
    go_wp2_with (go_at_call 117; refine (has_dn (fsOf (blkOps bs x) t) _).mono ?_; rintro e w' ⟨rfl, rfl⟩)
    go_ret
    exact ⟨by first | (rw [HN.out.2]; rfl) | rw [HN.out.2], hall.alloc hz _⟩

set_option maxRecDepth 100000 in
theorem ClearIn_impl (w : World) (bs es : List Pr) (ab ae : Option Addr) (cb ce : Nat) (x t : ByteArray) (hx : x.size ≤ 1048576) (_ht : t.size ≤ 1048576) (hpb : PairsAt w ab bs) (hpe : PairsAt w ae es) (hg : Errs w) :
    Calls Tryd.prog 49 #[.agg #[.slice ab bs.length cb, .slice ae es.length ce], .string x, .string t] w fun e w' => e = .returned (.bool (clearV bs es x t)) ∧ Below w.heap.size w w' := by
  have h1 : Below w.heap.size w (w.alloc (.cells #[.slice ab bs.length cb, .slice ae es.length ce] 30)) := (Below.refl _ _).alloc (Nat.le_refl _) _
  have hpb1 := hpb.below h1
  have hpe1 := hpe.below h1
  have hg1 := hg.keep h1
  have H1 := Lib.hid h1; clear h1
  cases hv : blkB bs es x t
  · have HN := Lib.hid (And.intro (tbV_no hv) (show clearV bs es x t = false by unfold clearV; rw [hv]; rfl))
    clear hv
    go_enter Tryd.func49, Tryd.ntmps49
    go_wp2_with fail
    refine (termBlockOf_any _ bs es _ _ _ _ x t hx hpb1 hpe1 hg1).mono ?_
    rintro e w1 ⟨he, hb1⟩
    rw [HN.out.1] at he
    subst he
    have hall : Below w.heap.size w w1 := H1.out.trans (hb1.mono (by simp))
    have hz := hall.size
    go_wp2
    go_ret
    exact ⟨by first | (rw [HN.out.2]; rfl) | rw [HN.out.2], hall.alloc hz _⟩
  · have HN := Lib.hid (And.intro (tbV_yes hv) (show clearV bs es x t = (fsOf (blkOps bs x) t).cl by unfold clearV; rw [hv]; rfl))
    clear hv
    go_enter Tryd.func49, Tryd.ntmps49
    go_wp2_with fail
    refine (termBlockOf_any _ bs es _ _ _ _ x t hx hpb1 hpe1 hg1).mono ?_
    rintro e w1 ⟨he, hb1⟩
    rw [HN.out.1] at he
    subst he
    have hall : Below w.heap.size w w1 := H1.out.trans (hb1.mono (by simp))
    have hz := hall.size
    go_wp2_with (go_at_call 117; refine (has_cl (fsOf (blkOps bs x) t) _).mono ?_; rintro e w' ⟨rfl, rfl⟩)
    go_ret
    exact ⟨by first | (rw [HN.out.2]; rfl) | rw [HN.out.2], hall.alloc hz _⟩

end Go.Proofs.YtdepangkeeehpaaDoor
