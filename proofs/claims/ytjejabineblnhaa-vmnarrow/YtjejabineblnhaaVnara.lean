/-
  The law VmNarrow, walked at each number of bits from 1 to 13.
-/
import Derived.Test.YtjejabineblnhaaVbegun
import Derived.WalkSpells
namespace Go.Proofs.Ytjejabineblnhaa
open Go.ChangeShapes Go.WideShapes Go.ChangeAt Go.RowKit
attribute [local go_sem ↓] Go.wp_at_zero Go.wp_at_succ

set_option maxRecDepth 100000 in
set_option maxHeartbeats 8000000 in
theorem nar_1 (v u x : Int) (w : World) (ej : u.tmod 63 = 0) (d1 : decide (x < -1) = false) (d2 : decide (1 ≤ x) = false) (e8 : ((IntKind.u64.wrap (IntKind.u64.wrap v - IntKind.u64.wrap x)).tmod 2 == 0) = true)
    (H1 : ∀ w, Calls Try.prog 10 #[.int .i64 v, .int .i64 1] w fun e w' => e = .returned (.int .i64 x) ∧ w' = w) (H2 : ∀ w, Calls Try.prog 10 #[.int .i64 x, .int .i64 1] w fun e w' => e = .returned (.int .i64 x) ∧ w' = w) (H3 : ∀ w, Calls Try.prog 10 #[.int .i64 v, .int .i64 64] w fun e w' => e = .returned (.int .i64 v) ∧ w' = w) :
    Calls Try.prog 5 #[.int .i64 v, .int .u8 u] w fun e w' => e = .returned (.bool true) ∧ Below w.heap.size w w' := by
  have hxe : (x == x) = true := by simp
  have hve : (v == v) = true := by simp
  go_enter Try.func5, Try.ntmps5
  go_wp2_with (first
    | (go_at_call 9; refine (begun_any _).mono ?_; rintro e w1 ⟨rfl, b1⟩)
    | (go_at_call 10; (with_reducible (refine (H1 _).mono ?_)); rintro e w2 ⟨rfl, rfl⟩)
    | (go_at_call 10; (with_reducible (refine (H2 _).mono ?_)); rintro e w2 ⟨rfl, rfl⟩)
    | (go_at_call 10; (with_reducible (refine (H3 _).mono ?_)); rintro e w2 ⟨rfl, rfl⟩))
  go_ret
  exact ⟨rfl, b1⟩

set_option maxRecDepth 100000 in
set_option maxHeartbeats 8000000 in
theorem nar_2 (v u x : Int) (w : World) (ej : u.tmod 63 = 1) (d1 : decide (x < -2) = false) (d2 : decide (2 ≤ x) = false) (e8 : ((IntKind.u64.wrap (IntKind.u64.wrap v - IntKind.u64.wrap x)).tmod 4 == 0) = true)
    (H1 : ∀ w, Calls Try.prog 10 #[.int .i64 v, .int .i64 2] w fun e w' => e = .returned (.int .i64 x) ∧ w' = w) (H2 : ∀ w, Calls Try.prog 10 #[.int .i64 x, .int .i64 2] w fun e w' => e = .returned (.int .i64 x) ∧ w' = w) (H3 : ∀ w, Calls Try.prog 10 #[.int .i64 v, .int .i64 64] w fun e w' => e = .returned (.int .i64 v) ∧ w' = w) :
    Calls Try.prog 5 #[.int .i64 v, .int .u8 u] w fun e w' => e = .returned (.bool true) ∧ Below w.heap.size w w' := by
  have hxe : (x == x) = true := by simp
  have hve : (v == v) = true := by simp
  go_enter Try.func5, Try.ntmps5
  go_wp2_with (first
    | (go_at_call 9; refine (begun_any _).mono ?_; rintro e w1 ⟨rfl, b1⟩)
    | (go_at_call 10; (with_reducible (refine (H1 _).mono ?_)); rintro e w2 ⟨rfl, rfl⟩)
    | (go_at_call 10; (with_reducible (refine (H2 _).mono ?_)); rintro e w2 ⟨rfl, rfl⟩)
    | (go_at_call 10; (with_reducible (refine (H3 _).mono ?_)); rintro e w2 ⟨rfl, rfl⟩))
  go_ret
  exact ⟨rfl, b1⟩

set_option maxRecDepth 100000 in
set_option maxHeartbeats 8000000 in
theorem nar_3 (v u x : Int) (w : World) (ej : u.tmod 63 = 2) (d1 : decide (x < -4) = false) (d2 : decide (4 ≤ x) = false) (e8 : ((IntKind.u64.wrap (IntKind.u64.wrap v - IntKind.u64.wrap x)).tmod 8 == 0) = true)
    (H1 : ∀ w, Calls Try.prog 10 #[.int .i64 v, .int .i64 3] w fun e w' => e = .returned (.int .i64 x) ∧ w' = w) (H2 : ∀ w, Calls Try.prog 10 #[.int .i64 x, .int .i64 3] w fun e w' => e = .returned (.int .i64 x) ∧ w' = w) (H3 : ∀ w, Calls Try.prog 10 #[.int .i64 v, .int .i64 64] w fun e w' => e = .returned (.int .i64 v) ∧ w' = w) :
    Calls Try.prog 5 #[.int .i64 v, .int .u8 u] w fun e w' => e = .returned (.bool true) ∧ Below w.heap.size w w' := by
  have hxe : (x == x) = true := by simp
  have hve : (v == v) = true := by simp
  go_enter Try.func5, Try.ntmps5
  go_wp2_with (first
    | (go_at_call 9; refine (begun_any _).mono ?_; rintro e w1 ⟨rfl, b1⟩)
    | (go_at_call 10; (with_reducible (refine (H1 _).mono ?_)); rintro e w2 ⟨rfl, rfl⟩)
    | (go_at_call 10; (with_reducible (refine (H2 _).mono ?_)); rintro e w2 ⟨rfl, rfl⟩)
    | (go_at_call 10; (with_reducible (refine (H3 _).mono ?_)); rintro e w2 ⟨rfl, rfl⟩))
  go_ret
  exact ⟨rfl, b1⟩

set_option maxRecDepth 100000 in
set_option maxHeartbeats 8000000 in
theorem nar_4 (v u x : Int) (w : World) (ej : u.tmod 63 = 3) (d1 : decide (x < -8) = false) (d2 : decide (8 ≤ x) = false) (e8 : ((IntKind.u64.wrap (IntKind.u64.wrap v - IntKind.u64.wrap x)).tmod 16 == 0) = true)
    (H1 : ∀ w, Calls Try.prog 10 #[.int .i64 v, .int .i64 4] w fun e w' => e = .returned (.int .i64 x) ∧ w' = w) (H2 : ∀ w, Calls Try.prog 10 #[.int .i64 x, .int .i64 4] w fun e w' => e = .returned (.int .i64 x) ∧ w' = w) (H3 : ∀ w, Calls Try.prog 10 #[.int .i64 v, .int .i64 64] w fun e w' => e = .returned (.int .i64 v) ∧ w' = w) :
    Calls Try.prog 5 #[.int .i64 v, .int .u8 u] w fun e w' => e = .returned (.bool true) ∧ Below w.heap.size w w' := by
  have hxe : (x == x) = true := by simp
  have hve : (v == v) = true := by simp
  go_enter Try.func5, Try.ntmps5
  go_wp2_with (first
    | (go_at_call 9; refine (begun_any _).mono ?_; rintro e w1 ⟨rfl, b1⟩)
    | (go_at_call 10; (with_reducible (refine (H1 _).mono ?_)); rintro e w2 ⟨rfl, rfl⟩)
    | (go_at_call 10; (with_reducible (refine (H2 _).mono ?_)); rintro e w2 ⟨rfl, rfl⟩)
    | (go_at_call 10; (with_reducible (refine (H3 _).mono ?_)); rintro e w2 ⟨rfl, rfl⟩))
  go_ret
  exact ⟨rfl, b1⟩

set_option maxRecDepth 100000 in
set_option maxHeartbeats 8000000 in
theorem nar_5 (v u x : Int) (w : World) (ej : u.tmod 63 = 4) (d1 : decide (x < -16) = false) (d2 : decide (16 ≤ x) = false) (e8 : ((IntKind.u64.wrap (IntKind.u64.wrap v - IntKind.u64.wrap x)).tmod 32 == 0) = true)
    (H1 : ∀ w, Calls Try.prog 10 #[.int .i64 v, .int .i64 5] w fun e w' => e = .returned (.int .i64 x) ∧ w' = w) (H2 : ∀ w, Calls Try.prog 10 #[.int .i64 x, .int .i64 5] w fun e w' => e = .returned (.int .i64 x) ∧ w' = w) (H3 : ∀ w, Calls Try.prog 10 #[.int .i64 v, .int .i64 64] w fun e w' => e = .returned (.int .i64 v) ∧ w' = w) :
    Calls Try.prog 5 #[.int .i64 v, .int .u8 u] w fun e w' => e = .returned (.bool true) ∧ Below w.heap.size w w' := by
  have hxe : (x == x) = true := by simp
  have hve : (v == v) = true := by simp
  go_enter Try.func5, Try.ntmps5
  go_wp2_with (first
    | (go_at_call 9; refine (begun_any _).mono ?_; rintro e w1 ⟨rfl, b1⟩)
    | (go_at_call 10; (with_reducible (refine (H1 _).mono ?_)); rintro e w2 ⟨rfl, rfl⟩)
    | (go_at_call 10; (with_reducible (refine (H2 _).mono ?_)); rintro e w2 ⟨rfl, rfl⟩)
    | (go_at_call 10; (with_reducible (refine (H3 _).mono ?_)); rintro e w2 ⟨rfl, rfl⟩))
  go_ret
  exact ⟨rfl, b1⟩

set_option maxRecDepth 100000 in
set_option maxHeartbeats 8000000 in
theorem nar_6 (v u x : Int) (w : World) (ej : u.tmod 63 = 5) (d1 : decide (x < -32) = false) (d2 : decide (32 ≤ x) = false) (e8 : ((IntKind.u64.wrap (IntKind.u64.wrap v - IntKind.u64.wrap x)).tmod 64 == 0) = true)
    (H1 : ∀ w, Calls Try.prog 10 #[.int .i64 v, .int .i64 6] w fun e w' => e = .returned (.int .i64 x) ∧ w' = w) (H2 : ∀ w, Calls Try.prog 10 #[.int .i64 x, .int .i64 6] w fun e w' => e = .returned (.int .i64 x) ∧ w' = w) (H3 : ∀ w, Calls Try.prog 10 #[.int .i64 v, .int .i64 64] w fun e w' => e = .returned (.int .i64 v) ∧ w' = w) :
    Calls Try.prog 5 #[.int .i64 v, .int .u8 u] w fun e w' => e = .returned (.bool true) ∧ Below w.heap.size w w' := by
  have hxe : (x == x) = true := by simp
  have hve : (v == v) = true := by simp
  go_enter Try.func5, Try.ntmps5
  go_wp2_with (first
    | (go_at_call 9; refine (begun_any _).mono ?_; rintro e w1 ⟨rfl, b1⟩)
    | (go_at_call 10; (with_reducible (refine (H1 _).mono ?_)); rintro e w2 ⟨rfl, rfl⟩)
    | (go_at_call 10; (with_reducible (refine (H2 _).mono ?_)); rintro e w2 ⟨rfl, rfl⟩)
    | (go_at_call 10; (with_reducible (refine (H3 _).mono ?_)); rintro e w2 ⟨rfl, rfl⟩))
  go_ret
  exact ⟨rfl, b1⟩

set_option maxRecDepth 100000 in
set_option maxHeartbeats 8000000 in
theorem nar_7 (v u x : Int) (w : World) (ej : u.tmod 63 = 6) (d1 : decide (x < -64) = false) (d2 : decide (64 ≤ x) = false) (e8 : ((IntKind.u64.wrap (IntKind.u64.wrap v - IntKind.u64.wrap x)).tmod 128 == 0) = true)
    (H1 : ∀ w, Calls Try.prog 10 #[.int .i64 v, .int .i64 7] w fun e w' => e = .returned (.int .i64 x) ∧ w' = w) (H2 : ∀ w, Calls Try.prog 10 #[.int .i64 x, .int .i64 7] w fun e w' => e = .returned (.int .i64 x) ∧ w' = w) (H3 : ∀ w, Calls Try.prog 10 #[.int .i64 v, .int .i64 64] w fun e w' => e = .returned (.int .i64 v) ∧ w' = w) :
    Calls Try.prog 5 #[.int .i64 v, .int .u8 u] w fun e w' => e = .returned (.bool true) ∧ Below w.heap.size w w' := by
  have hxe : (x == x) = true := by simp
  have hve : (v == v) = true := by simp
  go_enter Try.func5, Try.ntmps5
  go_wp2_with (first
    | (go_at_call 9; refine (begun_any _).mono ?_; rintro e w1 ⟨rfl, b1⟩)
    | (go_at_call 10; (with_reducible (refine (H1 _).mono ?_)); rintro e w2 ⟨rfl, rfl⟩)
    | (go_at_call 10; (with_reducible (refine (H2 _).mono ?_)); rintro e w2 ⟨rfl, rfl⟩)
    | (go_at_call 10; (with_reducible (refine (H3 _).mono ?_)); rintro e w2 ⟨rfl, rfl⟩))
  go_ret
  exact ⟨rfl, b1⟩

set_option maxRecDepth 100000 in
set_option maxHeartbeats 8000000 in
theorem nar_8 (v u x : Int) (w : World) (ej : u.tmod 63 = 7) (d1 : decide (x < -128) = false) (d2 : decide (128 ≤ x) = false) (e8 : ((IntKind.u64.wrap (IntKind.u64.wrap v - IntKind.u64.wrap x)).tmod 256 == 0) = true)
    (H1 : ∀ w, Calls Try.prog 10 #[.int .i64 v, .int .i64 8] w fun e w' => e = .returned (.int .i64 x) ∧ w' = w) (H2 : ∀ w, Calls Try.prog 10 #[.int .i64 x, .int .i64 8] w fun e w' => e = .returned (.int .i64 x) ∧ w' = w) (H3 : ∀ w, Calls Try.prog 10 #[.int .i64 v, .int .i64 64] w fun e w' => e = .returned (.int .i64 v) ∧ w' = w) :
    Calls Try.prog 5 #[.int .i64 v, .int .u8 u] w fun e w' => e = .returned (.bool true) ∧ Below w.heap.size w w' := by
  have hxe : (x == x) = true := by simp
  have hve : (v == v) = true := by simp
  go_enter Try.func5, Try.ntmps5
  go_wp2_with (first
    | (go_at_call 9; refine (begun_any _).mono ?_; rintro e w1 ⟨rfl, b1⟩)
    | (go_at_call 10; (with_reducible (refine (H1 _).mono ?_)); rintro e w2 ⟨rfl, rfl⟩)
    | (go_at_call 10; (with_reducible (refine (H2 _).mono ?_)); rintro e w2 ⟨rfl, rfl⟩)
    | (go_at_call 10; (with_reducible (refine (H3 _).mono ?_)); rintro e w2 ⟨rfl, rfl⟩))
  go_ret
  exact ⟨rfl, b1⟩

set_option maxRecDepth 100000 in
set_option maxHeartbeats 8000000 in
theorem nar_9 (v u x : Int) (w : World) (ej : u.tmod 63 = 8) (d1 : decide (x < -256) = false) (d2 : decide (256 ≤ x) = false) (e8 : ((IntKind.u64.wrap (IntKind.u64.wrap v - IntKind.u64.wrap x)).tmod 512 == 0) = true)
    (H1 : ∀ w, Calls Try.prog 10 #[.int .i64 v, .int .i64 9] w fun e w' => e = .returned (.int .i64 x) ∧ w' = w) (H2 : ∀ w, Calls Try.prog 10 #[.int .i64 x, .int .i64 9] w fun e w' => e = .returned (.int .i64 x) ∧ w' = w) (H3 : ∀ w, Calls Try.prog 10 #[.int .i64 v, .int .i64 64] w fun e w' => e = .returned (.int .i64 v) ∧ w' = w) :
    Calls Try.prog 5 #[.int .i64 v, .int .u8 u] w fun e w' => e = .returned (.bool true) ∧ Below w.heap.size w w' := by
  have hxe : (x == x) = true := by simp
  have hve : (v == v) = true := by simp
  go_enter Try.func5, Try.ntmps5
  go_wp2_with (first
    | (go_at_call 9; refine (begun_any _).mono ?_; rintro e w1 ⟨rfl, b1⟩)
    | (go_at_call 10; (with_reducible (refine (H1 _).mono ?_)); rintro e w2 ⟨rfl, rfl⟩)
    | (go_at_call 10; (with_reducible (refine (H2 _).mono ?_)); rintro e w2 ⟨rfl, rfl⟩)
    | (go_at_call 10; (with_reducible (refine (H3 _).mono ?_)); rintro e w2 ⟨rfl, rfl⟩))
  go_ret
  exact ⟨rfl, b1⟩

set_option maxRecDepth 100000 in
set_option maxHeartbeats 8000000 in
theorem nar_10 (v u x : Int) (w : World) (ej : u.tmod 63 = 9) (d1 : decide (x < -512) = false) (d2 : decide (512 ≤ x) = false) (e8 : ((IntKind.u64.wrap (IntKind.u64.wrap v - IntKind.u64.wrap x)).tmod 1024 == 0) = true)
    (H1 : ∀ w, Calls Try.prog 10 #[.int .i64 v, .int .i64 10] w fun e w' => e = .returned (.int .i64 x) ∧ w' = w) (H2 : ∀ w, Calls Try.prog 10 #[.int .i64 x, .int .i64 10] w fun e w' => e = .returned (.int .i64 x) ∧ w' = w) (H3 : ∀ w, Calls Try.prog 10 #[.int .i64 v, .int .i64 64] w fun e w' => e = .returned (.int .i64 v) ∧ w' = w) :
    Calls Try.prog 5 #[.int .i64 v, .int .u8 u] w fun e w' => e = .returned (.bool true) ∧ Below w.heap.size w w' := by
  have hxe : (x == x) = true := by simp
  have hve : (v == v) = true := by simp
  go_enter Try.func5, Try.ntmps5
  go_wp2_with (first
    | (go_at_call 9; refine (begun_any _).mono ?_; rintro e w1 ⟨rfl, b1⟩)
    | (go_at_call 10; (with_reducible (refine (H1 _).mono ?_)); rintro e w2 ⟨rfl, rfl⟩)
    | (go_at_call 10; (with_reducible (refine (H2 _).mono ?_)); rintro e w2 ⟨rfl, rfl⟩)
    | (go_at_call 10; (with_reducible (refine (H3 _).mono ?_)); rintro e w2 ⟨rfl, rfl⟩))
  go_ret
  exact ⟨rfl, b1⟩

set_option maxRecDepth 100000 in
set_option maxHeartbeats 8000000 in
theorem nar_11 (v u x : Int) (w : World) (ej : u.tmod 63 = 10) (d1 : decide (x < -1024) = false) (d2 : decide (1024 ≤ x) = false) (e8 : ((IntKind.u64.wrap (IntKind.u64.wrap v - IntKind.u64.wrap x)).tmod 2048 == 0) = true)
    (H1 : ∀ w, Calls Try.prog 10 #[.int .i64 v, .int .i64 11] w fun e w' => e = .returned (.int .i64 x) ∧ w' = w) (H2 : ∀ w, Calls Try.prog 10 #[.int .i64 x, .int .i64 11] w fun e w' => e = .returned (.int .i64 x) ∧ w' = w) (H3 : ∀ w, Calls Try.prog 10 #[.int .i64 v, .int .i64 64] w fun e w' => e = .returned (.int .i64 v) ∧ w' = w) :
    Calls Try.prog 5 #[.int .i64 v, .int .u8 u] w fun e w' => e = .returned (.bool true) ∧ Below w.heap.size w w' := by
  have hxe : (x == x) = true := by simp
  have hve : (v == v) = true := by simp
  go_enter Try.func5, Try.ntmps5
  go_wp2_with (first
    | (go_at_call 9; refine (begun_any _).mono ?_; rintro e w1 ⟨rfl, b1⟩)
    | (go_at_call 10; (with_reducible (refine (H1 _).mono ?_)); rintro e w2 ⟨rfl, rfl⟩)
    | (go_at_call 10; (with_reducible (refine (H2 _).mono ?_)); rintro e w2 ⟨rfl, rfl⟩)
    | (go_at_call 10; (with_reducible (refine (H3 _).mono ?_)); rintro e w2 ⟨rfl, rfl⟩))
  go_ret
  exact ⟨rfl, b1⟩

set_option maxRecDepth 100000 in
set_option maxHeartbeats 8000000 in
theorem nar_12 (v u x : Int) (w : World) (ej : u.tmod 63 = 11) (d1 : decide (x < -2048) = false) (d2 : decide (2048 ≤ x) = false) (e8 : ((IntKind.u64.wrap (IntKind.u64.wrap v - IntKind.u64.wrap x)).tmod 4096 == 0) = true)
    (H1 : ∀ w, Calls Try.prog 10 #[.int .i64 v, .int .i64 12] w fun e w' => e = .returned (.int .i64 x) ∧ w' = w) (H2 : ∀ w, Calls Try.prog 10 #[.int .i64 x, .int .i64 12] w fun e w' => e = .returned (.int .i64 x) ∧ w' = w) (H3 : ∀ w, Calls Try.prog 10 #[.int .i64 v, .int .i64 64] w fun e w' => e = .returned (.int .i64 v) ∧ w' = w) :
    Calls Try.prog 5 #[.int .i64 v, .int .u8 u] w fun e w' => e = .returned (.bool true) ∧ Below w.heap.size w w' := by
  have hxe : (x == x) = true := by simp
  have hve : (v == v) = true := by simp
  go_enter Try.func5, Try.ntmps5
  go_wp2_with (first
    | (go_at_call 9; refine (begun_any _).mono ?_; rintro e w1 ⟨rfl, b1⟩)
    | (go_at_call 10; (with_reducible (refine (H1 _).mono ?_)); rintro e w2 ⟨rfl, rfl⟩)
    | (go_at_call 10; (with_reducible (refine (H2 _).mono ?_)); rintro e w2 ⟨rfl, rfl⟩)
    | (go_at_call 10; (with_reducible (refine (H3 _).mono ?_)); rintro e w2 ⟨rfl, rfl⟩))
  go_ret
  exact ⟨rfl, b1⟩

set_option maxRecDepth 100000 in
set_option maxHeartbeats 8000000 in
theorem nar_13 (v u x : Int) (w : World) (ej : u.tmod 63 = 12) (d1 : decide (x < -4096) = false) (d2 : decide (4096 ≤ x) = false) (e8 : ((IntKind.u64.wrap (IntKind.u64.wrap v - IntKind.u64.wrap x)).tmod 8192 == 0) = true)
    (H1 : ∀ w, Calls Try.prog 10 #[.int .i64 v, .int .i64 13] w fun e w' => e = .returned (.int .i64 x) ∧ w' = w) (H2 : ∀ w, Calls Try.prog 10 #[.int .i64 x, .int .i64 13] w fun e w' => e = .returned (.int .i64 x) ∧ w' = w) (H3 : ∀ w, Calls Try.prog 10 #[.int .i64 v, .int .i64 64] w fun e w' => e = .returned (.int .i64 v) ∧ w' = w) :
    Calls Try.prog 5 #[.int .i64 v, .int .u8 u] w fun e w' => e = .returned (.bool true) ∧ Below w.heap.size w w' := by
  have hxe : (x == x) = true := by simp
  have hve : (v == v) = true := by simp
  go_enter Try.func5, Try.ntmps5
  go_wp2_with (first
    | (go_at_call 9; refine (begun_any _).mono ?_; rintro e w1 ⟨rfl, b1⟩)
    | (go_at_call 10; (with_reducible (refine (H1 _).mono ?_)); rintro e w2 ⟨rfl, rfl⟩)
    | (go_at_call 10; (with_reducible (refine (H2 _).mono ?_)); rintro e w2 ⟨rfl, rfl⟩)
    | (go_at_call 10; (with_reducible (refine (H3 _).mono ?_)); rintro e w2 ⟨rfl, rfl⟩))
  go_ret
  exact ⟨rfl, b1⟩
end Go.Proofs.Ytjejabineblnhaa
