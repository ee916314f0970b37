/-
  The walk of the law FnFacts. Conditions: what came in are bytes; the errors' variables hold errors.
-/
import Derived.Test.YtdepangkeeehpaaDoorValid
import Derived.Test.YtdepangkeeehpaaDoorDrawC
import Derived.Test.YtdepangkeeehpaaDoorBlkK
import Derived.Test.YtdepangkeeehpaaDoorFactsM
import Derived.Deep.RegionHeldLaw
import Derived.Deep.CutRange
namespace Go.Proofs.YtdepangkeeehpaaDoor
open Go.RowKit Go.Maps

section
variable (w : World) (bs es : List Pr) (ab ae : Option Addr) (cb ce : Nat) (x t : ByteArray)
theorem UpIn_implB (b : Bool) (h : upV bs es x t = b) (hx : x.size ≤ 1048576) (ht : t.size ≤ 1048576) (hpb : PairsAt w ab bs) (hpe : PairsAt w ae es) (hg : Errs w) :
    Calls Tryd.prog 47 #[.agg #[.slice ab bs.length cb, .slice ae es.length ce], .string x, .string t] w fun e w' => e = .returned (.bool b) ∧ Below w.heap.size w w' := by
  subst h; exact UpIn_impl w bs es ab ae cb ce x t hx ht hpb hpe hg
theorem DownIn_implB (b : Bool) (h : downV bs es x t = b) (hx : x.size ≤ 1048576) (ht : t.size ≤ 1048576) (hpb : PairsAt w ab bs) (hpe : PairsAt w ae es) (hg : Errs w) :
    Calls Tryd.prog 48 #[.agg #[.slice ab bs.length cb, .slice ae es.length ce], .string x, .string t] w fun e w' => e = .returned (.bool b) ∧ Below w.heap.size w w' := by
  subst h; exact DownIn_impl w bs es ab ae cb ce x t hx ht hpb hpe hg
theorem ClearIn_implB (b : Bool) (h : clearV bs es x t = b) (hx : x.size ≤ 1048576) (ht : t.size ≤ 1048576) (hpb : PairsAt w ab bs) (hpe : PairsAt w ae es) (hg : Errs w) :
    Calls Tryd.prog 49 #[.agg #[.slice ab bs.length cb, .slice ae es.length ce], .string x, .string t] w fun e w' => e = .returned (.bool b) ∧ Below w.heap.size w w' := by
  subst h; exact ClearIn_impl w bs es ab ae cb ce x t hx ht hpb hpe hg
theorem GroupsIn_implB (b : Int) (h : groupsV bs es x t = b) (hx : x.size ≤ 1048576) (ht : t.size ≤ 1048576) (hpb : PairsAt w ab bs) (hpe : PairsAt w ae es) (hg : Errs w) :
    Calls Tryd.prog 50 #[.agg #[.slice ab bs.length cb, .slice ae es.length ce], .string x, .string t] w fun e w' => e = .returned (.int .i64 b) ∧ Below w.heap.size w w' := by
  subst h; exact GroupsIn_impl w bs es ab ae cb ce x t hx ht hpb hpe hg
theorem UpIn_specB (b : Bool) (h : upV bs es x t = b) (hpb : PairsAt w ab bs) (hpe : PairsAt w ae es) :
    Calls Tryd.prog 51 #[.agg #[.slice ab bs.length cb, .slice ae es.length ce], .string x, .string t] w fun e w' => e = .returned (.bool b) ∧ Below w.heap.size w w' := by
  subst h; exact UpIn_spec w bs es ab ae cb ce x t hpb hpe
theorem DownIn_specB (b : Bool) (h : downV bs es x t = b) (hpb : PairsAt w ab bs) (hpe : PairsAt w ae es) :
    Calls Tryd.prog 52 #[.agg #[.slice ab bs.length cb, .slice ae es.length ce], .string x, .string t] w fun e w' => e = .returned (.bool b) ∧ Below w.heap.size w w' := by
  subst h; exact DownIn_spec w bs es ab ae cb ce x t hpb hpe
theorem ClearIn_specB (b : Bool) (h : clearV bs es x t = b) (hpb : PairsAt w ab bs) (hpe : PairsAt w ae es) :
    Calls Tryd.prog 53 #[.agg #[.slice ab bs.length cb, .slice ae es.length ce], .string x, .string t] w fun e w' => e = .returned (.bool b) ∧ Below w.heap.size w w' := by
  subst h; exact ClearIn_spec w bs es ab ae cb ce x t hpb hpe
theorem GroupsIn_specB (b : Int) (h : groupsV bs es x t = b) (hpb : PairsAt w ab bs) (hpe : PairsAt w ae es) :
    Calls Tryd.prog 54 #[.agg #[.slice ab bs.length cb, .slice ae es.length ce], .string x, .string t] w fun e w' => e = .returned (.int .i64 b) ∧ Below w.heap.size w w' := by
  subst h; exact GroupsIn_spec w bs es ab ae cb ce x t hpb hpe
end
/-- the seven ways in which the four facts stand -/
theorem facts_ways (bs es : List Pr) (x t : ByteArray) :
    (groupsV bs es x t = -1 ∧ upV bs es x t = false ∧ downV bs es x t = false ∧ clearV bs es x t = false) ∨
    (groupsV bs es x t = 0 ∧ upV bs es x t = false ∧ downV bs es x t = false ∧ clearV bs es x t = true) ∨
    (groupsV bs es x t = 1 ∧ upV bs es x t = true ∧ downV bs es x t = true ∧ clearV bs es x t = true) ∨
    (∃ n : Nat, groupsV bs es x t = (n : Int) ∧ n ≤ 6 ∧ clearV bs es x t = false ∧ ((upV bs es x t = false ∧ downV bs es x t = false) ∨ (upV bs es x t = true ∧ downV bs es x t = false ∧ 1 ≤ n) ∨ (upV bs es x t = false ∧ downV bs es x t = true ∧ 1 ≤ n) ∨ (upV bs es x t = true ∧ downV bs es x t = true ∧ 2 ≤ n))) := by
  unfold groupsV upV downV clearV
  cases hb : blkB bs es x t
  · exact .inl ⟨rfl, rfl, rfl, rfl⟩
  · right
    obtain ⟨hh, ht⟩ := blkB_iff.1 hb
    have h6 := (blkOps_ok hh).1
    have hn := fsOf_n (blkOps bs x) t
    obtain ⟨h1, h2⟩ := fsOf_okF (blkOps bs x) t
    generalize fsOf (blkOps bs x) t = f at *
    obtain ⟨n, up, dn, cl⟩ := f
    simp only [if_true, Bool.true_and] at *
    cases cl
    · right; right
      have h3 := h2 rfl
      refine ⟨n, rfl, by omega, rfl, ?_⟩
      cases up <;> cases dn <;> simp at h3 ⊢ <;> omega
    · obtain ⟨e1, e2⟩ := h1 rfl
      subst e1
      cases up
      · left; simp at e2; subst e2; exact ⟨rfl, rfl, rfl, rfl⟩
      · right; left; simp at e2; subst e2; exact ⟨rfl, rfl, rfl, rfl⟩

set_option maxRecDepth 100000 in
set_option maxHeartbeats 6400000 in
theorem LawFnFacts_any (w : World) (a : Option Addr) (n cap : Nat) (hby : BytesRaw w a n cap) (hg : Errs w) :
    Calls Tryd.prog 10 #[.slice a n cap] w fun e w' => e = .returned (.bool true) ∧ Below w.heap.size w w' := by
  go_enter Tryd.func10, Tryd.ntmps10
  by_cases hL : (1048576 : Int) < (n : Int)
  · go_wp2
    go_ret
    exact ⟨rfl, Below.refl _ _⟩
  have HG := Lib.hid hg
  clear hg
  go_wp2_with fail
  refine (DrawUpIn_any w a n cap hby).mono ?_
  rintro e w1 ⟨bs, es, ab, ae, cb, ce, x, t, rfl, hSb, hSe, hxs, hts, hPb, hPe, hb1⟩
  have hx : x.size ≤ 1048576 := by omega
  have ht : t.size ≤ 1048576 := by omega
  have hW : Below w1.heap.size w1 (w1.alloc (.cells #[.slice ab bs.length cb, .slice ae es.length ce] 30)) := (Below.refl _ _).alloc (Nat.le_refl _) _
  have hP := PAt.new ab ae cb ce hPb hPe
  have hall : Below w.heap.size w (w1.alloc (.cells #[.slice ab bs.length cb, .slice ae es.length ce] 30)) := hb1.trans (hW.mono hb1.size)
  go_upto_region 4 with fail
  generalize hwP : w1.alloc (.cells #[.slice ab bs.length cb, .slice ae es.length ce] 30) = wP at *
  have hz1 : w1.heap.size < wP.heap.size := by rw [← hwP]; simp
  have HSm := Lib.hid (show ∀ W', Below wP.heap.size wP W' → (W'.cell? ⟨w1.heap.size, 0, none⟩ = some (.slice ab bs.length cb) ∧ W'.cell? ⟨w1.heap.size, 1, none⟩ = some (.slice ae es.length ce) ∧ Below wP.heap.size wP W') from fun W' hB => ⟨(hP.below hB).c0, (hP.below hB).c1, hB⟩)
  have HPP := Lib.hid (show ∀ W', Below wP.heap.size wP W' → (PairsAt W' ab bs ∧ PairsAt W' ae es ∧ Errs W') from fun W' hB => ⟨(hP.below hB).b, (hP.below hB).e, HG.out.keep (hall.trans (hB.mono hall.size))⟩)
  have HF := Lib.hid (show ∀ W', Below wP.heap.size wP W' → Below w.heap.size w W' from fun W' hB => hall.trans (hB.mono hall.size))
  obtain ⟨c0, c1, _⟩ := HSm.out _ (Below.refl _ _)
  generalize w1.heap.size = q at *
  clear hwP hW hP hPb hPe hb1 hSb hSe hxs hts hby hall HG hz1
  have main : ∀ (U D C : Bool) (G : Int), upV bs es x t = U → downV bs es x t = D → clearV bs es x t = C → groupsV bs es x t = G → True := fun _ _ _ _ _ _ _ _ => trivial
  clear main
  obtain ⟨G, hG⟩ : ∃ G, groupsV bs es x t = G := ⟨_, rfl⟩
  have hways := facts_ways bs es x t
  rw [hG] at hways
  rcases hways with ⟨rfl, hU, hD, hC⟩ | ⟨rfl, hU, hD, hC⟩ | ⟨rfl, hU, hD, hC⟩ | ⟨n', rfl, hn6, hC, ⟨hU, hD⟩ | ⟨hU, hD, hn1⟩ | ⟨hU, hD, hn1⟩ | ⟨hU, hD, hn1⟩⟩
  all_goals
    have HV := Lib.hid (And.intro hU (And.intro hD (And.intro hC hG)))
    have hn6' := True.intro
    (try have hn7 : ((n' : Nat) : Int) ≤ 6 := by omega)
    (try have hn8 : ¬ ((n' : Nat) : Int) < 0 := by omega)
    (try have hn9 : (1 : Int) ≤ ((n' : Nat) : Int) := by omega)
    (try have hn10 : (2 : Int) ≤ ((n' : Nat) : Int) := by omega)
    (try have hn11 : (0 : Int) ≤ ((n' : Nat) : Int) := by omega)
    clear hU hD hC hG
    go_wp2
    go_region_held_law (fun w' => w'.cell? ⟨q, 0, none⟩ = some (.slice ab bs.length cb) ∧ w'.cell? ⟨q, 1, none⟩ = some (.slice ae es.length ce) ∧ Below wP.heap.size wP w')
      (first
        | with_reducible exact HSm.out _ (Below.refl _ _).drew
        | with_reducible exact HSm.out _ qU
        | with_reducible exact HSm.out _ qD
        | with_reducible exact HSm.out _ qC)
      (first
        | (go_at_call 47; refine (UpIn_implB _ bs es _ _ _ _ x t _ HV.out.1 hx ht (HPP.out _ (Below.refl _ _).drew).1 (HPP.out _ (Below.refl _ _).drew).2.1 (HPP.out _ (Below.refl _ _).drew).2.2).mono ?_; rintro e wU ⟨rfl, hbU⟩; have qU : Below wP.heap.size wP wU := below_new (Below.refl _ _).drew hbU)
        | (go_at_call 48; refine (DownIn_implB wU bs es _ _ _ _ x t _ HV.out.2.1 hx ht (HPP.out _ qU).1 (HPP.out _ qU).2.1 (HPP.out _ qU).2.2).mono ?_; rintro e wD ⟨rfl, hbD⟩; have qD : Below wP.heap.size wP wD := below_new qU hbD)
        | (go_at_call 49; refine (ClearIn_implB wD bs es _ _ _ _ x t _ HV.out.2.2.1 hx ht (HPP.out _ qD).1 (HPP.out _ qD).2.1 (HPP.out _ qD).2.2).mono ?_; rintro e wC ⟨rfl, hbC⟩; have qC : Below wP.heap.size wP wC := below_new qD hbC))
    have HQ := Lib.hid qC
    obtain ⟨c0, c1, _⟩ := HSm.out _ HQ.out
    clear qU qD qC hbU hbD hbC
    go_wp2_with fail
    refine (GroupsIn_implB _ bs es _ _ _ _ x t _ HV.out.2.2.2 hx ht (HPP.out _ HQ.out).1 (HPP.out _ HQ.out).2.1 (HPP.out _ HQ.out).2.2).mono ?_
    rintro e w2 ⟨rfl, hb2⟩
    have HQ2 := Lib.hid (below_new HQ.out hb2)
    obtain ⟨c0, c1, _⟩ := HSm.out _ HQ2.out
    clear hb2 HQ
    go_wp2_with fail
    refine (UpIn_specB _ bs es _ _ _ _ x t _ HV.out.1 (HPP.out _ HQ2.out).1 (HPP.out _ HQ2.out).2.1).mono ?_
    rintro e w3 ⟨rfl, hb3⟩
    have HQ3 := Lib.hid (below_new HQ2.out hb3)
    obtain ⟨c0, c1, _⟩ := HSm.out _ HQ3.out
    clear hb3 HQ2
    go_wp2_with fail
    refine (DownIn_specB _ bs es _ _ _ _ x t _ HV.out.2.1 (HPP.out _ HQ3.out).1 (HPP.out _ HQ3.out).2.1).mono ?_
    rintro e w4 ⟨rfl, hb4⟩
    have HQ4 := Lib.hid (below_new HQ3.out hb4)
    obtain ⟨c0, c1, _⟩ := HSm.out _ HQ4.out
    clear hb4 HQ3
    go_wp2_with fail
    refine (ClearIn_specB _ bs es _ _ _ _ x t _ HV.out.2.2.1 (HPP.out _ HQ4.out).1 (HPP.out _ HQ4.out).2.1).mono ?_
    rintro e w5 ⟨rfl, hb5⟩
    have HQ5 := Lib.hid (below_new HQ4.out hb5)
    obtain ⟨c0, c1, _⟩ := HSm.out _ HQ5.out
    clear hb5 HQ4
    go_wp2_with fail
    refine (GroupsIn_specB _ bs es _ _ _ _ x t _ HV.out.2.2.2 (HPP.out _ HQ5.out).1 (HPP.out _ HQ5.out).2.1).mono ?_
    rintro e w6 ⟨rfl, hb6⟩
    have HQ6 := Lib.hid (HF.out _ (below_new HQ5.out hb6))
    clear hb6 HQ5 c0 c1
    go_wp2
    go_ret
    exact ⟨rfl, HQ6.out⟩
end Go.Proofs.YtdepangkeeehpaaDoor
