/-
  That 'begun' tells yes: some calls with fixed numbers, by the contracts of the functions.
-/
import Derived.Test.YtnhbodloiimagaaLoops
import Derived.WalkKit
import Derived.ProofKit
import Derived.Outline
import Derived.WalkLawsBesides
namespace Go.Proofs.Ytnhbodloiimagaa
open Go.ChangeShapes Go.WideShapes Go.ChangeAt Go.RowKit

theorem set_lit (r : Nat) (a i c : Int) (w : World) (ha : a = (r : Int)) (hr : r < 18446744073709551616) (h0 : -9223372036854775808 ≤ i) (h1 : i ≤ 9223372036854775807) (hc : (setv r i : Int) = c) :
    Calls Try.prog 10 #[.int .u64 a, .int .i64 i] w fun e w' => e = .returned (.int .u64 c) ∧ w' = w := by
  subst ha; subst hc; exact set_any r i w hr h0 h1
theorem clear_lit (r : Nat) (a i c : Int) (w : World) (ha : a = (r : Int)) (hr : r < 18446744073709551616) (h0 : -9223372036854775808 ≤ i) (h1 : i ≤ 9223372036854775807) (hc : (clrv r i : Int) = c) :
    Calls Try.prog 12 #[.int .u64 a, .int .i64 i] w fun e w' => e = .returned (.int .u64 c) ∧ w' = w := by
  subst ha; subst hc; exact clear_any r i w hr h0 h1
theorem is_lit (r : Nat) (a i : Int) (b : Bool) (w : World) (ha : a = (r : Int)) (hr : r < 18446744073709551616) (h0 : -9223372036854775808 ≤ i) (h1 : i ≤ 9223372036854775807) (hc : isv r i = b) :
    Calls Try.prog 14 #[.int .u64 a, .int .i64 i] w fun e w' => e = .returned (.bool b) ∧ w' = w := by
  subst ha; subst hc; exact is_any r i w hr h0 h1
theorem first_lit (r : Nat) (a c : Int) (w : World) (ha : a = (r : Int)) (hr : r < 18446744073709551616) (hn : r ≠ 0) (hc : (firstv r : Int) = c) :
    Calls Try.prog 8 #[.int .u64 a] w fun e w' => e = .returned (.tuple #[.int .i64 c, .bool true]) ∧ w' = w := by
  subst ha; subst hc; exact first_yes r w hr hn
theorem count_lit (r : Nat) (a c : Int) (w : World) (ha : a = (r : Int)) (hr : r < 18446744073709551616) (hc : (cntv r : Int) = c) :
    Calls Try.prog 16 #[.int .u64 a] w fun e w' => e = .returned (.int .i64 c) ∧ w' = w := by
  subst ha; subst hc; exact count_any r w hr

theorem set_0_3 (w : World) : Calls Try.prog 10 #[.int .u64 0, .int .i64 3] w fun e w' => e = .returned (.int .u64 8) ∧ w' = w :=
  set_lit 0 0 3 8 w rfl (by decide) (by decide) (by decide) (by decide)
theorem set_8_2 (w : World) : Calls Try.prog 10 #[.int .u64 8, .int .i64 2] w fun e w' => e = .returned (.int .u64 12) ∧ w' = w :=
  set_lit 8 8 2 12 w rfl (by decide) (by decide) (by decide) (by decide)
theorem first_12 (w : World) : Calls Try.prog 8 #[.int .u64 12] w fun e w' => e = .returned (.tuple #[.int .i64 2, .bool true]) ∧ w' = w :=
  first_lit 12 12 2 w rfl (by decide) (by decide) (by rw [firstv_eq (i := 2) ⟨by decide, by decide⟩]; rfl)
theorem is_12_3 (w : World) : Calls Try.prog 14 #[.int .u64 12, .int .i64 3] w fun e w' => e = .returned (.bool true) ∧ w' = w :=
  is_lit 12 12 3 true w rfl (by decide) (by decide) (by decide) (by decide)
theorem is_12_1 (w : World) : Calls Try.prog 14 #[.int .u64 12, .int .i64 1] w fun e w' => e = .returned (.bool false) ∧ w' = w :=
  is_lit 12 12 1 false w rfl (by decide) (by decide) (by decide) (by decide)
theorem count_12 (w : World) : Calls Try.prog 16 #[.int .u64 12] w fun e w' => e = .returned (.int .i64 2) ∧ w' = w :=
  count_lit 12 12 2 w rfl (by decide) (by decide)
theorem clear_12_2 (w : World) : Calls Try.prog 12 #[.int .u64 12, .int .i64 2] w fun e w' => e = .returned (.int .u64 8) ∧ w' = w :=
  clear_lit 12 12 2 8 w rfl (by decide) (by decide) (by decide) (by decide)

theorem begun_any (w : World) : Calls Try.prog 7 #[] w fun e w' => e = .returned (.bool true) ∧ w' = w := by
  go_enter Try.func7, Try.ntmps7
  go_wp2_with (first
    | (go_at_call 10; with_reducible refine (set_0_3 _).mono ?_; rintro e w' ⟨rfl, rfl⟩)
    | (go_at_call 10; with_reducible refine (set_8_2 _).mono ?_; rintro e w' ⟨rfl, rfl⟩)
    | (go_at_call 8; with_reducible refine (first_12 _).mono ?_; rintro e w' ⟨rfl, rfl⟩)
    | (go_at_call 8; with_reducible refine (first_no _).mono ?_; rintro e w' ⟨rfl, rfl⟩)
    | (go_at_call 14; with_reducible refine (is_12_3 _).mono ?_; rintro e w' ⟨rfl, rfl⟩)
    | (go_at_call 14; with_reducible refine (is_12_1 _).mono ?_; rintro e w' ⟨rfl, rfl⟩)
    | (go_at_call 16; with_reducible refine (count_12 _).mono ?_; rintro e w' ⟨rfl, rfl⟩)
    | (go_at_call 12; with_reducible refine (clear_12_2 _).mono ?_; rintro e w' ⟨rfl, rfl⟩))
  go_ret
  exact ⟨rfl, rfl⟩
end Go.Proofs.Ytnhbodloiimagaa
