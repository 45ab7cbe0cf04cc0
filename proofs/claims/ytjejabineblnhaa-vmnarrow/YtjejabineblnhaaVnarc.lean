/-
  The law VmNarrow, walked at each number of bits from 27 to 39.
-/
import Derived.Test.YtjejabineblnhaaVbegun
import Derived.WalkSpells
namespace Go.Proofs.Ytjejabineblnhaa
open Go.ChangeShapes Go.WideShapes Go.ChangeAt Go.RowKit
attribute [local go_sem ↓] Go.wp_at_zero Go.wp_at_succ

set_option maxRecDepth 100000 in
set_option maxHeartbeats 8000000 in
theorem nar_27 (v u x : Int) (w : World) (ej : u.tmod 63 = 26) (d1 : decide (x < -67108864) = false) (d2 : decide (67108864 ≤ x) = false) (e8 : ((IntKind.u64.wrap (IntKind.u64.wrap v - IntKind.u64.wrap x)).tmod 134217728 == 0) = true)
    (H1 : ∀ w, Calls Try.prog 10 #[.int .i64 v, .int .i64 27] w fun e w' => e = .returned (.int .i64 x) ∧ w' = w) (H2 : ∀ w, Calls Try.prog 10 #[.int .i64 x, .int .i64 27] w fun e w' => e = .returned (.int .i64 x) ∧ w' = w) (H3 : ∀ w, Calls Try.prog 10 #[.int .i64 v, .int .i64 64] w fun e w' => e = .returned (.int .i64 v) ∧ w' = w) :
    Calls Try.prog 5 #[.int .i64 v, .int .u8 u] w fun e w' => e = .returned (.bool true) ∧ Below w.heap.size w w' := by
  have hxe : (x == x) = true := by simp
  have hve : (v == v) = true := by simp
  go_enter Try.func5, Try.ntmps5
  go_wp2_with (first
    | (go_at_call 9; refine (begun_any _).mono ?_; rintro e w1 ⟨rfl, b1⟩)
    | (go_at_call 10; (with_reducible (refine (H1 _).mono ?_)); rintro e w2 ⟨rfl, rfl⟩)
    | (go_at_call 10; (with_reducible (refine (H2 _).mono ?_)); rintro e w2 ⟨rfl, rfl⟩)
    | (go_at_call 10; (with_reducible (refine (H3 _).mono ?_)); rintro e w2 ⟨rfl, rfl⟩))
  go_ret
  exact ⟨rfl, b1⟩

set_option maxRecDepth 100000 in
set_option maxHeartbeats 8000000 in
theorem nar_28 (v u x : Int) (w : World) (ej : u.tmod 63 = 27) (d1 : decide (x < -134217728) = false) (d2 : decide (134217728 ≤ x) = false) (e8 : ((IntKind.u64.wrap (IntKind.u64.wrap v - IntKind.u64.wrap x)).tmod 268435456 == 0) = true)
    (H1 : ∀ w, Calls Try.prog 10 #[.int .i64 v, .int .i64 28] w fun e w' => e = .returned (.int .i64 x) ∧ w' = w) (H2 : ∀ w, Calls Try.prog 10 #[.int .i64 x, .int .i64 28] w fun e w' => e = .returned (.int .i64 x) ∧ w' = w) (H3 : ∀ w, Calls Try.prog 10 #[.int .i64 v, .int .i64 64] w fun e w' => e = .returned (.int .i64 v) ∧ w' = w) :
    Calls Try.prog 5 #[.int .i64 v, .int .u8 u] w fun e w' => e = .returned (.bool true) ∧ Below w.heap.size w w' := by
  have hxe : (x == x) = true := by simp
  have hve : (v == v) = true := by simp
  go_enter Try.func5, Try.ntmps5
  go_wp2_with (first
    | (go_at_call 9; refine (begun_any _).mono ?_; rintro e w1 ⟨rfl, b1⟩)
    | (go_at_call 10; (with_reducible (refine (H1 _).mono ?_)); rintro e w2 ⟨rfl, rfl⟩)
    | (go_at_call 10; (with_reducible (refine (H2 _).mono ?_)); rintro e w2 ⟨rfl, rfl⟩)
    | (go_at_call 10; (with_reducible (refine (H3 _).mono ?_)); rintro e w2 ⟨rfl, rfl⟩))
  go_ret
  exact ⟨rfl, b1⟩

set_option maxRecDepth 100000 in
set_option maxHeartbeats 8000000 in
theorem nar_29 (v u x : Int) (w : World) (ej : u.tmod 63 = 28) (d1 : decide (x < -268435456) = false) (d2 : decide (268435456 ≤ x) = false) (e8 : ((IntKind.u64.wrap (IntKind.u64.wrap v - IntKind.u64.wrap x)).tmod 536870912 == 0) = true)
    (H1 : ∀ w, Calls Try.prog 10 #[.int .i64 v, .int .i64 29] w fun e w' => e = .returned (.int .i64 x) ∧ w' = w) (H2 : ∀ w, Calls Try.prog 10 #[.int .i64 x, .int .i64 29] w fun e w' => e = .returned (.int .i64 x) ∧ w' = w) (H3 : ∀ w, Calls Try.prog 10 #[.int .i64 v, .int .i64 64] w fun e w' => e = .returned (.int .i64 v) ∧ w' = w) :
    Calls Try.prog 5 #[.int .i64 v, .int .u8 u] w fun e w' => e = .returned (.bool true) ∧ Below w.heap.size w w' := by
  have hxe : (x == x) = true := by simp
  have hve : (v == v) = true := by simp
  go_enter Try.func5, Try.ntmps5
  go_wp2_with (first
    | (go_at_call 9; refine (begun_any _).mono ?_; rintro e w1 ⟨rfl, b1⟩)
    | (go_at_call 10; (with_reducible (refine (H1 _).mono ?_)); rintro e w2 ⟨rfl, rfl⟩)
    | (go_at_call 10; (with_reducible (refine (H2 _).mono ?_)); rintro e w2 ⟨rfl, rfl⟩)
    | (go_at_call 10; (with_reducible (refine (H3 _).mono ?_)); rintro e w2 ⟨rfl, rfl⟩))
  go_ret
  exact ⟨rfl, b1⟩

set_option maxRecDepth 100000 in
set_option maxHeartbeats 8000000 in
theorem nar_30 (v u x : Int) (w : World) (ej : u.tmod 63 = 29) (d1 : decide (x < -536870912) = false) (d2 : decide (536870912 ≤ x) = false) (e8 : ((IntKind.u64.wrap (IntKind.u64.wrap v - IntKind.u64.wrap x)).tmod 1073741824 == 0) = true)
    (H1 : ∀ w, Calls Try.prog 10 #[.int .i64 v, .int .i64 30] w fun e w' => e = .returned (.int .i64 x) ∧ w' = w) (H2 : ∀ w, Calls Try.prog 10 #[.int .i64 x, .int .i64 30] w fun e w' => e = .returned (.int .i64 x) ∧ w' = w) (H3 : ∀ w, Calls Try.prog 10 #[.int .i64 v, .int .i64 64] w fun e w' => e = .returned (.int .i64 v) ∧ w' = w) :
    Calls Try.prog 5 #[.int .i64 v, .int .u8 u] w fun e w' => e = .returned (.bool true) ∧ Below w.heap.size w w' := by
  have hxe : (x == x) = true := by simp
  have hve : (v == v) = true := by simp
  go_enter Try.func5, Try.ntmps5
  go_wp2_with (first
    | (go_at_call 9; refine (begun_any _).mono ?_; rintro e w1 ⟨rfl, b1⟩)
    | (go_at_call 10; (with_reducible (refine (H1 _).mono ?_)); rintro e w2 ⟨rfl, rfl⟩)
    | (go_at_call 10; (with_reducible (refine (H2 _).mono ?_)); rintro e w2 ⟨rfl, rfl⟩)
    | (go_at_call 10; (with_reducible (refine (H3 _).mono ?_)); rintro e w2 ⟨rfl, rfl⟩))
  go_ret
  exact ⟨rfl, b1⟩

set_option maxRecDepth 100000 in
set_option maxHeartbeats 8000000 in
theorem nar_31 (v u x : Int) (w : World) (ej : u.tmod 63 = 30) (d1 : decide (x < -1073741824) = false) (d2 : decide (1073741824 ≤ x) = false) (e8 : ((IntKind.u64.wrap (IntKind.u64.wrap v - IntKind.u64.wrap x)).tmod 2147483648 == 0) = true)
    (H1 : ∀ w, Calls Try.prog 10 #[.int .i64 v, .int .i64 31] w fun e w' => e = .returned (.int .i64 x) ∧ w' = w) (H2 : ∀ w, Calls Try.prog 10 #[.int .i64 x, .int .i64 31] w fun e w' => e = .returned (.int .i64 x) ∧ w' = w) (H3 : ∀ w, Calls Try.prog 10 #[.int .i64 v, .int .i64 64] w fun e w' => e = .returned (.int .i64 v) ∧ w' = w) :
    Calls Try.prog 5 #[.int .i64 v, .int .u8 u] w fun e w' => e = .returned (.bool true) ∧ Below w.heap.size w w' := by
  have hxe : (x == x) = true := by simp
  have hve : (v == v) = true := by simp
  go_enter Try.func5, Try.ntmps5
  go_wp2_with (first
    | (go_at_call 9; refine (begun_any _).mono ?_; rintro e w1 ⟨rfl, b1⟩)
    | (go_at_call 10; (with_reducible (refine (H1 _).mono ?_)); rintro e w2 ⟨rfl, rfl⟩)
    | (go_at_call 10; (with_reducible (refine (H2 _).mono ?_)); rintro e w2 ⟨rfl, rfl⟩)
    | (go_at_call 10; (with_reducible (refine (H3 _).mono ?_)); rintro e w2 ⟨rfl, rfl⟩))
  go_ret
  exact ⟨rfl, b1⟩

set_option maxRecDepth 100000 in
set_option maxHeartbeats 8000000 in
theorem nar_32 (v u x : Int) (w : World) (ej : u.tmod 63 = 31) (d1 : decide (x < -2147483648) = false) (d2 : decide (2147483648 ≤ x) = false) (e8 : ((IntKind.u64.wrap (IntKind.u64.wrap v - IntKind.u64.wrap x)).tmod 4294967296 == 0) = true)
    (H1 : ∀ w, Calls Try.prog 10 #[.int .i64 v, .int .i64 32] w fun e w' => e = .returned (.int .i64 x) ∧ w' = w) (H2 : ∀ w, Calls Try.prog 10 #[.int .i64 x, .int .i64 32] w fun e w' => e = .returned (.int .i64 x) ∧ w' = w) (H3 : ∀ w, Calls Try.prog 10 #[.int .i64 v, .int .i64 64] w fun e w' => e = .returned (.int .i64 v) ∧ w' = w) :
    Calls Try.prog 5 #[.int .i64 v, .int .u8 u] w fun e w' => e = .returned (.bool true) ∧ Below w.heap.size w w' := by
  have hxe : (x == x) = true := by simp
  have hve : (v == v) = true := by simp
  go_enter Try.func5, Try.ntmps5
  go_wp2_with (first
    | (go_at_call 9; refine (begun_any _).mono ?_; rintro e w1 ⟨rfl, b1⟩)
    | (go_at_call 10; (with_reducible (refine (H1 _).mono ?_)); rintro e w2 ⟨rfl, rfl⟩)
    | (go_at_call 10; (with_reducible (refine (H2 _).mono ?_)); rintro e w2 ⟨rfl, rfl⟩)
    | (go_at_call 10; (with_reducible (refine (H3 _).mono ?_)); rintro e w2 ⟨rfl, rfl⟩))
  go_ret
  exact ⟨rfl, b1⟩

set_option maxRecDepth 100000 in
set_option maxHeartbeats 8000000 in
theorem nar_33 (v u x : Int) (w : World) (ej : u.tmod 63 = 32) (d1 : decide (x < -4294967296) = false) (d2 : decide (4294967296 ≤ x) = false) (e8 : ((IntKind.u64.wrap (IntKind.u64.wrap v - IntKind.u64.wrap x)).tmod 8589934592 == 0) = true)
    (H1 : ∀ w, Calls Try.prog 10 #[.int .i64 v, .int .i64 33] w fun e w' => e = .returned (.int .i64 x) ∧ w' = w) (H2 : ∀ w, Calls Try.prog 10 #[.int .i64 x, .int .i64 33] w fun e w' => e = .returned (.int .i64 x) ∧ w' = w) (H3 : ∀ w, Calls Try.prog 10 #[.int .i64 v, .int .i64 64] w fun e w' => e = .returned (.int .i64 v) ∧ w' = w) :
    Calls Try.prog 5 #[.int .i64 v, .int .u8 u] w fun e w' => e = .returned (.bool true) ∧ Below w.heap.size w w' := by
  have hxe : (x == x) = true := by simp
  have hve : (v == v) = true := by simp
  go_enter Try.func5, Try.ntmps5
  go_wp2_with (first
    | (go_at_call 9; refine (begun_any _).mono ?_; rintro e w1 ⟨rfl, b1⟩)
    | (go_at_call 10; (with_reducible (refine (H1 _).mono ?_)); rintro e w2 ⟨rfl, rfl⟩)
    | (go_at_call 10; (with_reducible (refine (H2 _).mono ?_)); rintro e w2 ⟨rfl, rfl⟩)
    | (go_at_call 10; (with_reducible (refine (H3 _).mono ?_)); rintro e w2 ⟨rfl, rfl⟩))
  go_ret
  exact ⟨rfl, b1⟩

set_option maxRecDepth 100000 in
set_option maxHeartbeats 8000000 in
theorem nar_34 (v u x : Int) (w : World) (ej : u.tmod 63 = 33) (d1 : decide (x < -8589934592) = false) (d2 : decide (8589934592 ≤ x) = false) (e8 : ((IntKind.u64.wrap (IntKind.u64.wrap v - IntKind.u64.wrap x)).tmod 17179869184 == 0) = true)
    (H1 : ∀ w, Calls Try.prog 10 #[.int .i64 v, .int .i64 34] w fun e w' => e = .returned (.int .i64 x) ∧ w' = w) (H2 : ∀ w, Calls Try.prog 10 #[.int .i64 x, .int .i64 34] w fun e w' => e = .returned (.int .i64 x) ∧ w' = w) (H3 : ∀ w, Calls Try.prog 10 #[.int .i64 v, .int .i64 64] w fun e w' => e = .returned (.int .i64 v) ∧ w' = w) :
    Calls Try.prog 5 #[.int .i64 v, .int .u8 u] w fun e w' => e = .returned (.bool true) ∧ Below w.heap.size w w' := by
  have hxe : (x == x) = true := by simp
  have hve : (v == v) = true := by simp
  go_enter Try.func5, Try.ntmps5
  go_wp2_with (first
    | (go_at_call 9; refine (begun_any _).mono ?_; rintro e w1 ⟨rfl, b1⟩)
    | (go_at_call 10; (with_reducible (refine (H1 _).mono ?_)); rintro e w2 ⟨rfl, rfl⟩)
    | (go_at_call 10; (with_reducible (refine (H2 _).mono ?_)); rintro e w2 ⟨rfl, rfl⟩)
    | (go_at_call 10; (with_reducible (refine (H3 _).mono ?_)); rintro e w2 ⟨rfl, rfl⟩))
  go_ret
  exact ⟨rfl, b1⟩

set_option maxRecDepth 100000 in
set_option maxHeartbeats 8000000 in
theorem nar_35 (v u x : Int) (w : World) (ej : u.tmod 63 = 34) (d1 : decide (x < -17179869184) = false) (d2 : decide (17179869184 ≤ x) = false) (e8 : ((IntKind.u64.wrap (IntKind.u64.wrap v - IntKind.u64.wrap x)).tmod 34359738368 == 0) = true)
    (H1 : ∀ w, Calls Try.prog 10 #[.int .i64 v, .int .i64 35] w fun e w' => e = .returned (.int .i64 x) ∧ w' = w) (H2 : ∀ w, Calls Try.prog 10 #[.int .i64 x, .int .i64 35] w fun e w' => e = .returned (.int .i64 x) ∧ w' = w) (H3 : ∀ w, Calls Try.prog 10 #[.int .i64 v, .int .i64 64] w fun e w' => e = .returned (.int .i64 v) ∧ w' = w) :
    Calls Try.prog 5 #[.int .i64 v, .int .u8 u] w fun e w' => e = .returned (.bool true) ∧ Below w.heap.size w w' := by
  have hxe : (x == x) = true := by simp
  have hve : (v == v) = true := by simp
  go_enter Try.func5, Try.ntmps5
  go_wp2_with (first
    | (go_at_call 9; refine (begun_any _).mono ?_; rintro e w1 ⟨rfl, b1⟩)
    | (go_at_call 10; (with_reducible (refine (H1 _).mono ?_)); rintro e w2 ⟨rfl, rfl⟩)
    | (go_at_call 10; (with_reducible (refine (H2 _).mono ?_)); rintro e w2 ⟨rfl, rfl⟩)
    | (go_at_call 10; (with_reducible (refine (H3 _).mono ?_)); rintro e w2 ⟨rfl, rfl⟩))
  go_ret
  exact ⟨rfl, b1⟩

set_option maxRecDepth 100000 in
set_option maxHeartbeats 8000000 in
theorem nar_36 (v u x : Int) (w : World) (ej : u.tmod 63 = 35) (d1 : decide (x < -34359738368) = false) (d2 : decide (34359738368 ≤ x) = false) (e8 : ((IntKind.u64.wrap (IntKind.u64.wrap v - IntKind.u64.wrap x)).tmod 68719476736 == 0) = true)
    (H1 : ∀ w, Calls Try.prog 10 #[.int .i64 v, .int .i64 36] w fun e w' => e = .returned (.int .i64 x) ∧ w' = w) (H2 : ∀ w, Calls Try.prog 10 #[.int .i64 x, .int .i64 36] w fun e w' => e = .returned (.int .i64 x) ∧ w' = w) (H3 : ∀ w, Calls Try.prog 10 #[.int .i64 v, .int .i64 64] w fun e w' => e = .returned (.int .i64 v) ∧ w' = w) :
    Calls Try.prog 5 #[.int .i64 v, .int .u8 u] w fun e w' => e = .returned (.bool true) ∧ Below w.heap.size w w' := by
  have hxe : (x == x) = true := by simp
  have hve : (v == v) = true := by simp
  go_enter Try.func5, Try.ntmps5
  go_wp2_with (first
    | (go_at_call 9; refine (begun_any _).mono ?_; rintro e w1 ⟨rfl, b1⟩)
    | (go_at_call 10; (with_reducible (refine (H1 _).mono ?_)); rintro e w2 ⟨rfl, rfl⟩)
    | (go_at_call 10; (with_reducible (refine (H2 _).mono ?_)); rintro e w2 ⟨rfl, rfl⟩)
    | (go_at_call 10; (with_reducible (refine (H3 _).mono ?_)); rintro e w2 ⟨rfl, rfl⟩))
  go_ret
  exact ⟨rfl, b1⟩

set_option maxRecDepth 100000 in
set_option maxHeartbeats 8000000 in
theorem nar_37 (v u x : Int) (w : World) (ej : u.tmod 63 = 36) (d1 : decide (x < -68719476736) = false) (d2 : decide (68719476736 ≤ x) = false) (e8 : ((IntKind.u64.wrap (IntKind.u64.wrap v - IntKind.u64.wrap x)).tmod 137438953472 == 0) = true)
    (H1 : ∀ w, Calls Try.prog 10 #[.int .i64 v, .int .i64 37] w fun e w' => e = .returned (.int .i64 x) ∧ w' = w) (H2 : ∀ w, Calls Try.prog 10 #[.int .i64 x, .int .i64 37] w fun e w' => e = .returned (.int .i64 x) ∧ w' = w) (H3 : ∀ w, Calls Try.prog 10 #[.int .i64 v, .int .i64 64] w fun e w' => e = .returned (.int .i64 v) ∧ w' = w) :
    Calls Try.prog 5 #[.int .i64 v, .int .u8 u] w fun e w' => e = .returned (.bool true) ∧ Below w.heap.size w w' := by
  have hxe : (x == x) = true := by simp
  have hve : (v == v) = true := by simp
  go_enter Try.func5, Try.ntmps5
  go_wp2_with (first
    | (go_at_call 9; refine (begun_any _).mono ?_; rintro e w1 ⟨rfl, b1⟩)
    | (go_at_call 10; (with_reducible (refine (H1 _).mono ?_)); rintro e w2 ⟨rfl, rfl⟩)
    | (go_at_call 10; (with_reducible (refine (H2 _).mono ?_)); rintro e w2 ⟨rfl, rfl⟩)
    | (go_at_call 10; (with_reducible (refine (H3 _).mono ?_)); rintro e w2 ⟨rfl, rfl⟩))
  go_ret
  exact ⟨rfl, b1⟩

set_option maxRecDepth 100000 in
set_option maxHeartbeats 8000000 in
theorem nar_38 (v u x : Int) (w : World) (ej : u.tmod 63 = 37) (d1 : decide (x < -137438953472) = false) (d2 : decide (137438953472 ≤ x) = false) (e8 : ((IntKind.u64.wrap (IntKind.u64.wrap v - IntKind.u64.wrap x)).tmod 274877906944 == 0) = true)
    (H1 : ∀ w, Calls Try.prog 10 #[.int .i64 v, .int .i64 38] w fun e w' => e = .returned (.int .i64 x) ∧ w' = w) (H2 : ∀ w, Calls Try.prog 10 #[.int .i64 x, .int .i64 38] w fun e w' => e = .returned (.int .i64 x) ∧ w' = w) (H3 : ∀ w, Calls Try.prog 10 #[.int .i64 v, .int .i64 64] w fun e w' => e = .returned (.int .i64 v) ∧ w' = w) :
    Calls Try.prog 5 #[.int .i64 v, .int .u8 u] w fun e w' => e = .returned (.bool true) ∧ Below w.heap.size w w' := by
  have hxe : (x == x) = true := by simp
  have hve : (v == v) = true := by simp
  go_enter Try.func5, Try.ntmps5
  go_wp2_with (first
    | (go_at_call 9; refine (begun_any _).mono ?_; rintro e w1 ⟨rfl, b1⟩)
    | (go_at_call 10; (with_reducible (refine (H1 _).mono ?_)); rintro e w2 ⟨rfl, rfl⟩)
    | (go_at_call 10; (with_reducible (refine (H2 _).mono ?_)); rintro e w2 ⟨rfl, rfl⟩)
    | (go_at_call 10; (with_reducible (refine (H3 _).mono ?_)); rintro e w2 ⟨rfl, rfl⟩))
  go_ret
  exact ⟨rfl, b1⟩

set_option maxRecDepth 100000 in
set_option maxHeartbeats 8000000 in
theorem nar_39 (v u x : Int) (w : World) (ej : u.tmod 63 = 38) (d1 : decide (x < -274877906944) = false) (d2 : decide (274877906944 ≤ x) = false) (e8 : ((IntKind.u64.wrap (IntKind.u64.wrap v - IntKind.u64.wrap x)).tmod 549755813888 == 0) = true)
    (H1 : ∀ w, Calls Try.prog 10 #[.int .i64 v, .int .i64 39] w fun e w' => e = .returned (.int .i64 x) ∧ w' = w) (H2 : ∀ w, Calls Try.prog 10 #[.int .i64 x, .int .i64 39] w fun e w' => e = .returned (.int .i64 x) ∧ w' = w) (H3 : ∀ w, Calls Try.prog 10 #[.int .i64 v, .int .i64 64] w fun e w' => e = .returned (.int .i64 v) ∧ w' = w) :
    Calls Try.prog 5 #[.int .i64 v, .int .u8 u] w fun e w' => e = .returned (.bool true) ∧ Below w.heap.size w w' := by
  have hxe : (x == x) = true := by simp
  have hve : (v == v) = true := by simp
  go_enter Try.func5, Try.ntmps5
  go_wp2_with (first
    | (go_at_call 9; refine (begun_any _).mono ?_; rintro e w1 ⟨rfl, b1⟩)
    | (go_at_call 10; (with_reducible (refine (H1 _).mono ?_)); rintro e w2 ⟨rfl, rfl⟩)
    | (go_at_call 10; (with_reducible (refine (H2 _).mono ?_)); rintro e w2 ⟨rfl, rfl⟩)
    | (go_at_call 10; (with_reducible (refine (H3 _).mono ?_)); rintro e w2 ⟨rfl, rfl⟩))
  go_ret
  exact ⟨rfl, b1⟩
end Go.Proofs.Ytjejabineblnhaa
