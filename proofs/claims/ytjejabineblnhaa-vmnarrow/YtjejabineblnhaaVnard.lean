/-
  The law VmNarrow, walked at each number of bits from 40 to 51.
-/
import Derived.Test.YtjejabineblnhaaVbegun
import Derived.WalkSpells
namespace Go.Proofs.Ytjejabineblnhaa
open Go.ChangeShapes Go.WideShapes Go.ChangeAt Go.RowKit
attribute [local go_sem ↓] Go.wp_at_zero Go.wp_at_succ

set_option maxRecDepth 100000 in
set_option maxHeartbeats 8000000 in
theorem nar_40 (v u x : Int) (w : World) (ej : u.tmod 63 = 39) (d1 : decide (x < -549755813888) = false) (d2 : decide (549755813888 ≤ x) = false) (e8 : ((IntKind.u64.wrap (IntKind.u64.wrap v - IntKind.u64.wrap x)).tmod 1099511627776 == 0) = true)
    (H1 : ∀ w, Calls Try.prog 10 #[.int .i64 v, .int .i64 40] w fun e w' => e = .returned (.int .i64 x) ∧ w' = w) (H2 : ∀ w, Calls Try.prog 10 #[.int .i64 x, .int .i64 40] w fun e w' => e = .returned (.int .i64 x) ∧ w' = w) (H3 : ∀ w, Calls Try.prog 10 #[.int .i64 v, .int .i64 64] w fun e w' => e = .returned (.int .i64 v) ∧ w' = w) :
    Calls Try.prog 5 #[.int .i64 v, .int .u8 u] w fun e w' => e = .returned (.bool true) ∧ Below w.heap.size w w' := by
  have hxe : (x == x) = true := by simp
  have hve : (v == v) = true := by simp
  go_enter Try.func5, Try.ntmps5
  go_wp2_with (first
    | (go_at_call 9; refine (begun_any _).mono ?_; rintro e w1 ⟨rfl, b1⟩)
    | (go_at_call 10; (with_reducible (refine (H1 _).mono ?_)); rintro e w2 ⟨rfl, rfl⟩)
    | (go_at_call 10; (with_reducible (refine (H2 _).mono ?_)); rintro e w2 ⟨rfl, rfl⟩)
    | (go_at_call 10; (with_reducible (refine (H3 _).mono ?_)); rintro e w2 ⟨rfl, rfl⟩))
  go_ret
  exact ⟨rfl, b1⟩

set_option maxRecDepth 100000 in
set_option maxHeartbeats 8000000 in
theorem nar_41 (v u x : Int) (w : World) (ej : u.tmod 63 = 40) (d1 : decide (x < -1099511627776) = false) (d2 : decide (1099511627776 ≤ x) = false) (e8 : ((IntKind.u64.wrap (IntKind.u64.wrap v - IntKind.u64.wrap x)).tmod 2199023255552 == 0) = true)
    (H1 : ∀ w, Calls Try.prog 10 #[.int .i64 v, .int .i64 41] w fun e w' => e = .returned (.int .i64 x) ∧ w' = w) (H2 : ∀ w, Calls Try.prog 10 #[.int .i64 x, .int .i64 41] w fun e w' => e = .returned (.int .i64 x) ∧ w' = w) (H3 : ∀ w, Calls Try.prog 10 #[.int .i64 v, .int .i64 64] w fun e w' => e = .returned (.int .i64 v) ∧ w' = w) :
    Calls Try.prog 5 #[.int .i64 v, .int .u8 u] w fun e w' => e = .returned (.bool true) ∧ Below w.heap.size w w' := by
  have hxe : (x == x) = true := by simp
  have hve : (v == v) = true := by simp
  go_enter Try.func5, Try.ntmps5
  go_wp2_with (first
    | (go_at_call 9; refine (begun_any _).mono ?_; rintro e w1 ⟨rfl, b1⟩)
    | (go_at_call 10; (with_reducible (refine (H1 _).mono ?_)); rintro e w2 ⟨rfl, rfl⟩)
    | (go_at_call 10; (with_reducible (refine (H2 _).mono ?_)); rintro e w2 ⟨rfl, rfl⟩)
    | (go_at_call 10; (with_reducible (refine (H3 _).mono ?_)); rintro e w2 ⟨rfl, rfl⟩))
  go_ret
  exact ⟨rfl, b1⟩

set_option maxRecDepth 100000 in
set_option maxHeartbeats 8000000 in
theorem nar_42 (v u x : Int) (w : World) (ej : u.tmod 63 = 41) (d1 : decide (x < -2199023255552) = false) (d2 : decide (2199023255552 ≤ x) = false) (e8 : ((IntKind.u64.wrap (IntKind.u64.wrap v - IntKind.u64.wrap x)).tmod 4398046511104 == 0) = true)
    (H1 : ∀ w, Calls Try.prog 10 #[.int .i64 v, .int .i64 42] w fun e w' => e = .returned (.int .i64 x) ∧ w' = w) (H2 : ∀ w, Calls Try.prog 10 #[.int .i64 x, .int .i64 42] w fun e w' => e = .returned (.int .i64 x) ∧ w' = w) (H3 : ∀ w, Calls Try.prog 10 #[.int .i64 v, .int .i64 64] w fun e w' => e = .returned (.int .i64 v) ∧ w' = w) :
    Calls Try.prog 5 #[.int .i64 v, .int .u8 u] w fun e w' => e = .returned (.bool true) ∧ Below w.heap.size w w' := by
  have hxe : (x == x) = true := by simp
  have hve : (v == v) = true := by simp
  go_enter Try.func5, Try.ntmps5
  go_wp2_with (first
    | (go_at_call 9; refine (begun_any _).mono ?_; rintro e w1 ⟨rfl, b1⟩)
    | (go_at_call 10; (with_reducible (refine (H1 _).mono ?_)); rintro e w2 ⟨rfl, rfl⟩)
    | (go_at_call 10; (with_reducible (refine (H2 _).mono ?_)); rintro e w2 ⟨rfl, rfl⟩)
    | (go_at_call 10; (with_reducible (refine (H3 _).mono ?_)); rintro e w2 ⟨rfl, rfl⟩))
  go_ret
  exact ⟨rfl, b1⟩

set_option maxRecDepth 100000 in
set_option maxHeartbeats 8000000 in
theorem nar_43 (v u x : Int) (w : World) (ej : u.tmod 63 = 42) (d1 : decide (x < -4398046511104) = false) (d2 : decide (4398046511104 ≤ x) = false) (e8 : ((IntKind.u64.wrap (IntKind.u64.wrap v - IntKind.u64.wrap x)).tmod 8796093022208 == 0) = true)
    (H1 : ∀ w, Calls Try.prog 10 #[.int .i64 v, .int .i64 43] w fun e w' => e = .returned (.int .i64 x) ∧ w' = w) (H2 : ∀ w, Calls Try.prog 10 #[.int .i64 x, .int .i64 43] w fun e w' => e = .returned (.int .i64 x) ∧ w' = w) (H3 : ∀ w, Calls Try.prog 10 #[.int .i64 v, .int .i64 64] w fun e w' => e = .returned (.int .i64 v) ∧ w' = w) :
    Calls Try.prog 5 #[.int .i64 v, .int .u8 u] w fun e w' => e = .returned (.bool true) ∧ Below w.heap.size w w' := by
  have hxe : (x == x) = true := by simp
  have hve : (v == v) = true := by simp
  go_enter Try.func5, Try.ntmps5
  go_wp2_with (first
    | (go_at_call 9; refine (begun_any _).mono ?_; rintro e w1 ⟨rfl, b1⟩)
    | (go_at_call 10; (with_reducible (refine (H1 _).mono ?_)); rintro e w2 ⟨rfl, rfl⟩)
    | (go_at_call 10; (with_reducible (refine (H2 _).mono ?_)); rintro e w2 ⟨rfl, rfl⟩)
    | (go_at_call 10; (with_reducible (refine (H3 _).mono ?_)); rintro e w2 ⟨rfl, rfl⟩))
  go_ret
  exact ⟨rfl, b1⟩

set_option maxRecDepth 100000 in
set_option maxHeartbeats 8000000 in
theorem nar_44 (v u x : Int) (w : World) (ej : u.tmod 63 = 43) (d1 : decide (x < -8796093022208) = false) (d2 : decide (8796093022208 ≤ x) = false) (e8 : ((IntKind.u64.wrap (IntKind.u64.wrap v - IntKind.u64.wrap x)).tmod 17592186044416 == 0) = true)
    (H1 : ∀ w, Calls Try.prog 10 #[.int .i64 v, .int .i64 44] w fun e w' => e = .returned (.int .i64 x) ∧ w' = w) (H2 : ∀ w, Calls Try.prog 10 #[.int .i64 x, .int .i64 44] w fun e w' => e = .returned (.int .i64 x) ∧ w' = w) (H3 : ∀ w, Calls Try.prog 10 #[.int .i64 v, .int .i64 64] w fun e w' => e = .returned (.int .i64 v) ∧ w' = w) :
    Calls Try.prog 5 #[.int .i64 v, .int .u8 u] w fun e w' => e = .returned (.bool true) ∧ Below w.heap.size w w' := by
  have hxe : (x == x) = true := by simp
  have hve : (v == v) = true := by simp
  go_enter Try.func5, Try.ntmps5
  go_wp2_with (first
    | (go_at_call 9; refine (begun_any _).mono ?_; rintro e w1 ⟨rfl, b1⟩)
    | (go_at_call 10; (with_reducible (refine (H1 _).mono ?_)); rintro e w2 ⟨rfl, rfl⟩)
    | (go_at_call 10; (with_reducible (refine (H2 _).mono ?_)); rintro e w2 ⟨rfl, rfl⟩)
    | (go_at_call 10; (with_reducible (refine (H3 _).mono ?_)); rintro e w2 ⟨rfl, rfl⟩))
  go_ret
  exact ⟨rfl, b1⟩

set_option maxRecDepth 100000 in
set_option maxHeartbeats 8000000 in
theorem nar_45 (v u x : Int) (w : World) (ej : u.tmod 63 = 44) (d1 : decide (x < -17592186044416) = false) (d2 : decide (17592186044416 ≤ x) = false) (e8 : ((IntKind.u64.wrap (IntKind.u64.wrap v - IntKind.u64.wrap x)).tmod 35184372088832 == 0) = true)
    (H1 : ∀ w, Calls Try.prog 10 #[.int .i64 v, .int .i64 45] w fun e w' => e = .returned (.int .i64 x) ∧ w' = w) (H2 : ∀ w, Calls Try.prog 10 #[.int .i64 x, .int .i64 45] w fun e w' => e = .returned (.int .i64 x) ∧ w' = w) (H3 : ∀ w, Calls Try.prog 10 #[.int .i64 v, .int .i64 64] w fun e w' => e = .returned (.int .i64 v) ∧ w' = w) :
    Calls Try.prog 5 #[.int .i64 v, .int .u8 u] w fun e w' => e = .returned (.bool true) ∧ Below w.heap.size w w' := by
  have hxe : (x == x) = true := by simp
  have hve : (v == v) = true := by simp
  go_enter Try.func5, Try.ntmps5
  go_wp2_with (first
    | (go_at_call 9; refine (begun_any _).mono ?_; rintro e w1 ⟨rfl, b1⟩)
    | (go_at_call 10; (with_reducible (refine (H1 _).mono ?_)); rintro e w2 ⟨rfl, rfl⟩)
    | (go_at_call 10; (with_reducible (refine (H2 _).mono ?_)); rintro e w2 ⟨rfl, rfl⟩)
    | (go_at_call 10; (with_reducible (refine (H3 _).mono ?_)); rintro e w2 ⟨rfl, rfl⟩))
  go_ret
  exact ⟨rfl, b1⟩

set_option maxRecDepth 100000 in
set_option maxHeartbeats 8000000 in
theorem nar_46 (v u x : Int) (w : World) (ej : u.tmod 63 = 45) (d1 : decide (x < -35184372088832) = false) (d2 : decide (35184372088832 ≤ x) = false) (e8 : ((IntKind.u64.wrap (IntKind.u64.wrap v - IntKind.u64.wrap x)).tmod 70368744177664 == 0) = true)
    (H1 : ∀ w, Calls Try.prog 10 #[.int .i64 v, .int .i64 46] w fun e w' => e = .returned (.int .i64 x) ∧ w' = w) (H2 : ∀ w, Calls Try.prog 10 #[.int .i64 x, .int .i64 46] w fun e w' => e = .returned (.int .i64 x) ∧ w' = w) (H3 : ∀ w, Calls Try.prog 10 #[.int .i64 v, .int .i64 64] w fun e w' => e = .returned (.int .i64 v) ∧ w' = w) :
    Calls Try.prog 5 #[.int .i64 v, .int .u8 u] w fun e w' => e = .returned (.bool true) ∧ Below w.heap.size w w' := by
  have hxe : (x == x) = true := by simp
  have hve : (v == v) = true := by simp
  go_enter Try.func5, Try.ntmps5
  go_wp2_with (first
    | (go_at_call 9; refine (begun_any _).mono ?_; rintro e w1 ⟨rfl, b1⟩)
    | (go_at_call 10; (with_reducible (refine (H1 _).mono ?_)); rintro e w2 ⟨rfl, rfl⟩)
    | (go_at_call 10; (with_reducible (refine (H2 _).mono ?_)); rintro e w2 ⟨rfl, rfl⟩)
    | (go_at_call 10; (with_reducible (refine (H3 _).mono ?_)); rintro e w2 ⟨rfl, rfl⟩))
  go_ret
  exact ⟨rfl, b1⟩

set_option maxRecDepth 100000 in
set_option maxHeartbeats 8000000 in
theorem nar_47 (v u x : Int) (w : World) (ej : u.tmod 63 = 46) (d1 : decide (x < -70368744177664) = false) (d2 : decide (70368744177664 ≤ x) = false) (e8 : ((IntKind.u64.wrap (IntKind.u64.wrap v - IntKind.u64.wrap x)).tmod 140737488355328 == 0) = true)
    (H1 : ∀ w, Calls Try.prog 10 #[.int .i64 v, .int .i64 47] w fun e w' => e = .returned (.int .i64 x) ∧ w' = w) (H2 : ∀ w, Calls Try.prog 10 #[.int .i64 x, .int .i64 47] w fun e w' => e = .returned (.int .i64 x) ∧ w' = w) (H3 : ∀ w, Calls Try.prog 10 #[.int .i64 v, .int .i64 64] w fun e w' => e = .returned (.int .i64 v) ∧ w' = w) :
    Calls Try.prog 5 #[.int .i64 v, .int .u8 u] w fun e w' => e = .returned (.bool true) ∧ Below w.heap.size w w' := by
  have hxe : (x == x) = true := by simp
  have hve : (v == v) = true := by simp
  go_enter Try.func5, Try.ntmps5
  go_wp2_with (first
    | (go_at_call 9; refine (begun_any _).mono ?_; rintro e w1 ⟨rfl, b1⟩)
    | (go_at_call 10; (with_reducible (refine (H1 _).mono ?_)); rintro e w2 ⟨rfl, rfl⟩)
    | (go_at_call 10; (with_reducible (refine (H2 _).mono ?_)); rintro e w2 ⟨rfl, rfl⟩)
    | (go_at_call 10; (with_reducible (refine (H3 _).mono ?_)); rintro e w2 ⟨rfl, rfl⟩))
  go_ret
  exact ⟨rfl, b1⟩

set_option maxRecDepth 100000 in
set_option maxHeartbeats 8000000 in
theorem nar_48 (v u x : Int) (w : World) (ej : u.tmod 63 = 47) (d1 : decide (x < -140737488355328) = false) (d2 : decide (140737488355328 ≤ x) = false) (e8 : ((IntKind.u64.wrap (IntKind.u64.wrap v - IntKind.u64.wrap x)).tmod 281474976710656 == 0) = true)
    (H1 : ∀ w, Calls Try.prog 10 #[.int .i64 v, .int .i64 48] w fun e w' => e = .returned (.int .i64 x) ∧ w' = w) (H2 : ∀ w, Calls Try.prog 10 #[.int .i64 x, .int .i64 48] w fun e w' => e = .returned (.int .i64 x) ∧ w' = w) (H3 : ∀ w, Calls Try.prog 10 #[.int .i64 v, .int .i64 64] w fun e w' => e = .returned (.int .i64 v) ∧ w' = w) :
    Calls Try.prog 5 #[.int .i64 v, .int .u8 u] w fun e w' => e = .returned (.bool true) ∧ Below w.heap.size w w' := by
  have hxe : (x == x) = true := by simp
  have hve : (v == v) = true := by simp
  go_enter Try.func5, Try.ntmps5
  go_wp2_with (first
    | (go_at_call 9; refine (begun_any _).mono ?_; rintro e w1 ⟨rfl, b1⟩)
    | (go_at_call 10; (with_reducible (refine (H1 _).mono ?_)); rintro e w2 ⟨rfl, rfl⟩)
    | (go_at_call 10; (with_reducible (refine (H2 _).mono ?_)); rintro e w2 ⟨rfl, rfl⟩)
    | (go_at_call 10; (with_reducible (refine (H3 _).mono ?_)); rintro e w2 ⟨rfl, rfl⟩))
  go_ret
  exact ⟨rfl, b1⟩

set_option maxRecDepth 100000 in
set_option maxHeartbeats 8000000 in
theorem nar_49 (v u x : Int) (w : World) (ej : u.tmod 63 = 48) (d1 : decide (x < -281474976710656) = false) (d2 : decide (281474976710656 ≤ x) = false) (e8 : ((IntKind.u64.wrap (IntKind.u64.wrap v - IntKind.u64.wrap x)).tmod 562949953421312 == 0) = true)
    (H1 : ∀ w, Calls Try.prog 10 #[.int .i64 v, .int .i64 49] w fun e w' => e = .returned (.int .i64 x) ∧ w' = w) (H2 : ∀ w, Calls Try.prog 10 #[.int .i64 x, .int .i64 49] w fun e w' => e = .returned (.int .i64 x) ∧ w' = w) (H3 : ∀ w, Calls Try.prog 10 #[.int .i64 v, .int .i64 64] w fun e w' => e = .returned (.int .i64 v) ∧ w' = w) :
    Calls Try.prog 5 #[.int .i64 v, .int .u8 u] w fun e w' => e = .returned (.bool true) ∧ Below w.heap.size w w' := by
  have hxe : (x == x) = true := by simp
  have hve : (v == v) = true := by simp
  go_enter Try.func5, Try.ntmps5
  go_wp2_with (first
    | (go_at_call 9; refine (begun_any _).mono ?_; rintro e w1 ⟨rfl, b1⟩)
    | (go_at_call 10; (with_reducible (refine (H1 _).mono ?_)); rintro e w2 ⟨rfl, rfl⟩)
    | (go_at_call 10; (with_reducible (refine (H2 _).mono ?_)); rintro e w2 ⟨rfl, rfl⟩)
    | (go_at_call 10; (with_reducible (refine (H3 _).mono ?_)); rintro e w2 ⟨rfl, rfl⟩))
  go_ret
  exact ⟨rfl, b1⟩

set_option maxRecDepth 100000 in
set_option maxHeartbeats 8000000 in
theorem nar_50 (v u x : Int) (w : World) (ej : u.tmod 63 = 49) (d1 : decide (x < -562949953421312) = false) (d2 : decide (562949953421312 ≤ x) = false) (e8 : ((IntKind.u64.wrap (IntKind.u64.wrap v - IntKind.u64.wrap x)).tmod 1125899906842624 == 0) = true)
    (H1 : ∀ w, Calls Try.prog 10 #[.int .i64 v, .int .i64 50] w fun e w' => e = .returned (.int .i64 x) ∧ w' = w) (H2 : ∀ w, Calls Try.prog 10 #[.int .i64 x, .int .i64 50] w fun e w' => e = .returned (.int .i64 x) ∧ w' = w) (H3 : ∀ w, Calls Try.prog 10 #[.int .i64 v, .int .i64 64] w fun e w' => e = .returned (.int .i64 v) ∧ w' = w) :
    Calls Try.prog 5 #[.int .i64 v, .int .u8 u] w fun e w' => e = .returned (.bool true) ∧ Below w.heap.size w w' := by
  have hxe : (x == x) = true := by simp
  have hve : (v == v) = true := by simp
  go_enter Try.func5, Try.ntmps5
  go_wp2_with (first
    | (go_at_call 9; refine (begun_any _).mono ?_; rintro e w1 ⟨rfl, b1⟩)
    | (go_at_call 10; (with_reducible (refine (H1 _).mono ?_)); rintro e w2 ⟨rfl, rfl⟩)
    | (go_at_call 10; (with_reducible (refine (H2 _).mono ?_)); rintro e w2 ⟨rfl, rfl⟩)
    | (go_at_call 10; (with_reducible (refine (H3 _).mono ?_)); rintro e w2 ⟨rfl, rfl⟩))
  go_ret
  exact ⟨rfl, b1⟩

set_option maxRecDepth 100000 in
set_option maxHeartbeats 8000000 in
theorem nar_51 (v u x : Int) (w : World) (ej : u.tmod 63 = 50) (d1 : decide (x < -1125899906842624) = false) (d2 : decide (1125899906842624 ≤ x) = false) (e8 : ((IntKind.u64.wrap (IntKind.u64.wrap v - IntKind.u64.wrap x)).tmod 2251799813685248 == 0) = true)
    (H1 : ∀ w, Calls Try.prog 10 #[.int .i64 v, .int .i64 51] w fun e w' => e = .returned (.int .i64 x) ∧ w' = w) (H2 : ∀ w, Calls Try.prog 10 #[.int .i64 x, .int .i64 51] w fun e w' => e = .returned (.int .i64 x) ∧ w' = w) (H3 : ∀ w, Calls Try.prog 10 #[.int .i64 v, .int .i64 64] w fun e w' => e = .returned (.int .i64 v) ∧ w' = w) :
    Calls Try.prog 5 #[.int .i64 v, .int .u8 u] w fun e w' => e = .returned (.bool true) ∧ Below w.heap.size w w' := by
  have hxe : (x == x) = true := by simp
  have hve : (v == v) = true := by simp
  go_enter Try.func5, Try.ntmps5
  go_wp2_with (first
    | (go_at_call 9; refine (begun_any _).mono ?_; rintro e w1 ⟨rfl, b1⟩)
    | (go_at_call 10; (with_reducible (refine (H1 _).mono ?_)); rintro e w2 ⟨rfl, rfl⟩)
    | (go_at_call 10; (with_reducible (refine (H2 _).mono ?_)); rintro e w2 ⟨rfl, rfl⟩)
    | (go_at_call 10; (with_reducible (refine (H3 _).mono ?_)); rintro e w2 ⟨rfl, rfl⟩))
  go_ret
  exact ⟨rfl, b1⟩
end Go.Proofs.Ytjejabineblnhaa
