/-
  Texts of numbers of one digit and of facts, the model's and the program's. Conditions: a number of at most six.
-/
import Derived.Test.YtoppcppinjmjeaaDoorBlkJ
import Derived.Test.YtoppcppinjmjeaaDoorBytes
namespace Go.Proofs.YtoppcppinjmjeaaDoor
open Go.RowKit Go.Maps

/-- a digit -/
def dg (n : Nat) : ByteArray := ⟨#[UInt8.ofNat (48 + n)]⟩
/-- the letters of facts -/
def mkB (a b c : Bool) : ByteArray := ⟨((if a then [117] else []) ++ (if b then [100] else []) ++ (if c then [99] else []) : List UInt8).toArray⟩
def mkT (s : FS) : ByteArray := mkB s.up s.dn s.cl
theorem has_up_lit (s : FS) (b : Bool) (h : s.up = b) (w : World) : Calls Tryd.prog 54 #[.int .u8 (fv s), .int .u8 1] w fun e w' => e = .returned (.bool b) ∧ w = w' := by subst h; exact has_up s w
theorem has_dn_lit (s : FS) (b : Bool) (h : s.dn = b) (w : World) : Calls Tryd.prog 54 #[.int .u8 (fv s), .int .u8 2] w fun e w' => e = .returned (.bool b) ∧ w = w' := by subst h; exact has_dn s w
theorem has_cl_lit (s : FS) (b : Bool) (h : s.cl = b) (w : World) : Calls Tryd.prog 54 #[.int .u8 (fv s), .int .u8 4] w fun e w' => e = .returned (.bool b) ∧ w = w' := by subst h; exact has_cl s w
set_option maxRecDepth 100000 in
set_option maxHeartbeats 1600000 in
theorem marks_any (s : FS) (w : World) : Calls Tryd.prog 102 #[.int .u8 (fv s)] w fun e w' => e = .returned (.string (mkT s)) ∧ w = w' := by
  obtain ⟨hu, ha⟩ : ∃ a, s.up = a := ⟨_, rfl⟩
  obtain ⟨hd, hb⟩ : ∃ a, s.dn = a := ⟨_, rfl⟩
  obtain ⟨hc, hcl⟩ : ∃ a, s.cl = a := ⟨_, rfl⟩
  have HM := Lib.hid (show mkT s = mkB hu hd hc by unfold mkT; rw [ha, hb, hcl])
  have HA := Lib.hid (And.intro ha (And.intro hb hcl)); clear ha hb hcl
  cases hu <;> cases hd <;> cases hc
  all_goals
    go_enter Tryd.func102, Tryd.ntmps102
    go_wp2_with fail
    refine (has_up_lit s _ HA.out.1 _).mono ?_
    rintro e w1 ⟨rfl, rfl⟩
    go_wp2_with fail
    refine (has_dn_lit s _ HA.out.2.1 _).mono ?_
    rintro e w2 ⟨rfl, rfl⟩
    go_wp2_with fail
    refine (has_cl_lit s _ HA.out.2.2 _).mono ?_
    rintro e w3 ⟨rfl, rfl⟩
    go_wp2
    go_ret
    exact ⟨by rw [HM.out]; rfl, rfl⟩

def digs : ByteArray := ⟨#[48, 49, 50, 51, 52, 53, 54, 55, 56, 57, 97, 98, 99, 100, 101, 102, 103, 104, 105, 106, 107, 108, 109, 110, 111, 112, 113, 114, 115, 116, 117, 118, 119, 120, 121, 122]⟩
theorem digs_at {n : Nat} (hn : n ≤ 6) : digs.extract n (n + 1) = dg n := by
  match n, hn with
  | 0, _ => rfl
  | 1, _ => rfl
  | 2, _ => rfl
  | 3, _ => rfl
  | 4, _ => rfl
  | 5, _ => rfl
  | 6, _ => rfl
theorem wrap_small (n : Nat) (hn : n ≤ 6) : IntKind.i64.wrap (n : Int) = (n : Int) := IntWalk.i64_in _ (by omega)
set_option maxRecDepth 100000 in
theorem small_any (n : Nat) (hn : n ≤ 6) (w : World) : Calls Tryd.prog 148 #[.int .i64 (n : Int)] w fun e w' => e = .returned (.string (dg n)) ∧ w = w' := by
  have w3 : IntKind.i64.wrap ((n : Int) + 1) = (n : Int) + 1 := IntWalk.i64_in _ (by omega)
  go_enter Tryd.func148, Tryd.ntmps148
  go_wp2
  go_ret
  exact ⟨congrArg (fun z => Ending.returned (.string z)) (digs_at hn), rfl⟩
set_option maxRecDepth 100000 in
theorem FormatInt_any (n : Nat) (hn : n ≤ 6) (w : World) : Calls Tryd.prog 141 #[.int .i64 (n : Int), .int .i64 10] w fun e w' => e = .returned (.string (dg n)) ∧ w = w' := by
  have h1 : (0 : Int) ≤ (n : Int) := by omega
  have h2 : (n : Int) < 100 := by omega
  go_enter Tryd.func141, Tryd.ntmps141
  go_wp2_with fail
  refine (small_any n hn _).mono ?_
  rintro e w1 ⟨rfl, rfl⟩
  go_wp2
  go_ret
  exact ⟨rfl, rfl⟩
set_option maxRecDepth 100000 in
theorem ItoaI_any (n : Nat) (hn : n ≤ 6) (w : World) : Calls Tryd.prog 128 #[.int .i64 (n : Int)] w fun e w' => e = .returned (.string (dg n)) ∧ w = w' := by
  go_enter Tryd.func128, Tryd.ntmps128
  go_wp2_with fail
  refine (FormatInt_any n hn _).mono ?_
  rintro e w1 ⟨rfl, rfl⟩
  go_wp2
  go_ret
  exact ⟨rfl, rfl⟩
set_option maxRecDepth 100000 in
theorem Itoa_any (n : Nat) (hn : n ≤ 6) (w : World) : Calls Tryd.prog 101 #[.int .i64 (n : Int)] w fun e w' => e = .returned (.string (dg n)) ∧ w = w' := by
  go_enter Tryd.func101, Tryd.ntmps101
  go_wp2_with fail
  refine (ItoaI_any n hn _).mono ?_
  rintro e w1 ⟨rfl, rfl⟩
  go_wp2
  go_ret
  exact ⟨rfl, rfl⟩
theorem dg_val {n : Nat} (hn : n ≤ 6) : ∃ c : UInt8, dg n = ⟨#[c]⟩ ∧ 48 + (n : Int) = (c.toNat : Int) := by
  refine ⟨_, rfl, ?_⟩
  match n, hn with
  | 0, _ => rfl
  | 1, _ => rfl
  | 2, _ => rfl
  | 3, _ => rfl
  | 4, _ => rfl
  | 5, _ => rfl
  | 6, _ => rfl
set_option maxRecDepth 100000 in
theorem l15Dec_any (n : Nat) (hn : n ≤ 6) (w : World) : Calls Tryd.prog 59 #[.int .i64 (n : Int)] w fun e w' => e = .returned (.string (dg n)) ∧ Below w.heap.size w w' := by
  obtain ⟨c, hs, hv⟩ := dg_val hn
  have HS := Lib.hid hs; clear hs
  have kc := conv_one w _ _ hv
  clear hv
  go_enter Tryd.func59, Tryd.ntmps59
  go_wp2
  refine wp_loop_rounds 1 ?_
  rw [rounds_succ]
  go_wp2
  go_ret
  exact ⟨by rw [HS.out]; rfl, (Below.refl _ _).alloc (Nat.le_refl _) _⟩
end Go.Proofs.YtoppcppinjmjeaaDoor
