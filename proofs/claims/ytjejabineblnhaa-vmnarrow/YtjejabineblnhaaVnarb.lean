/-
  The law VmNarrow, walked at each number of bits from 14 to 26.
-/
import Derived.Test.YtjejabineblnhaaVbegun
import Derived.WalkSpells
namespace Go.Proofs.Ytjejabineblnhaa
open Go.ChangeShapes Go.WideShapes Go.ChangeAt Go.RowKit
attribute [local go_sem ↓] Go.wp_at_zero Go.wp_at_succ

set_option maxRecDepth 100000 in
set_option maxHeartbeats 8000000 in
theorem nar_14 (v u x : Int) (w : World) (ej : u.tmod 63 = 13) (d1 : decide (x < -8192) = false) (d2 : decide (8192 ≤ x) = false) (e8 : ((IntKind.u64.wrap (IntKind.u64.wrap v - IntKind.u64.wrap x)).tmod 16384 == 0) = true)
    (H1 : ∀ w, Calls Try.prog 10 #[.int .i64 v, .int .i64 14] w fun e w' => e = .returned (.int .i64 x) ∧ w' = w) (H2 : ∀ w, Calls Try.prog 10 #[.int .i64 x, .int .i64 14] w fun e w' => e = .returned (.int .i64 x) ∧ w' = w) (H3 : ∀ w, Calls Try.prog 10 #[.int .i64 v, .int .i64 64] w fun e w' => e = .returned (.int .i64 v) ∧ w' = w) :
    Calls Try.prog 5 #[.int .i64 v, .int .u8 u] w fun e w' => e = .returned (.bool true) ∧ Below w.heap.size w w' := by
  have hxe : (x == x) = true := by simp
  have hve : (v == v) = true := by simp
  go_enter Try.func5, Try.ntmps5
  go_wp2_with (first
    | (go_at_call 9; refine (begun_any _).mono ?_; rintro e w1 ⟨rfl, b1⟩)
    | (go_at_call 10; (with_reducible (refine (H1 _).mono ?_)); rintro e w2 ⟨rfl, rfl⟩)
    | (go_at_call 10; (with_reducible (refine (H2 _).mono ?_)); rintro e w2 ⟨rfl, rfl⟩)
    | (go_at_call 10; (with_reducible (refine (H3 _).mono ?_)); rintro e w2 ⟨rfl, rfl⟩))
  go_ret
  exact ⟨rfl, b1⟩

set_option maxRecDepth 100000 in
set_option maxHeartbeats 8000000 in
theorem nar_15 (v u x : Int) (w : World) (ej : u.tmod 63 = 14) (d1 : decide (x < -16384) = false) (d2 : decide (16384 ≤ x) = false) (e8 : ((IntKind.u64.wrap (IntKind.u64.wrap v - IntKind.u64.wrap x)).tmod 32768 == 0) = true)
    (H1 : ∀ w, Calls Try.prog 10 #[.int .i64 v, .int .i64 15] w fun e w' => e = .returned (.int .i64 x) ∧ w' = w) (H2 : ∀ w, Calls Try.prog 10 #[.int .i64 x, .int .i64 15] w fun e w' => e = .returned (.int .i64 x) ∧ w' = w) (H3 : ∀ w, Calls Try.prog 10 #[.int .i64 v, .int .i64 64] w fun e w' => e = .returned (.int .i64 v) ∧ w' = w) :
    Calls Try.prog 5 #[.int .i64 v, .int .u8 u] w fun e w' => e = .returned (.bool true) ∧ Below w.heap.size w w' := by
  have hxe : (x == x) = true := by simp
  have hve : (v == v) = true := by simp
  go_enter Try.func5, Try.ntmps5
  go_wp2_with (first
    | (go_at_call 9; refine (begun_any _).mono ?_; rintro e w1 ⟨rfl, b1⟩)
    | (go_at_call 10; (with_reducible (refine (H1 _).mono ?_)); rintro e w2 ⟨rfl, rfl⟩)
    | (go_at_call 10; (with_reducible (refine (H2 _).mono ?_)); rintro e w2 ⟨rfl, rfl⟩)
    | (go_at_call 10; (with_reducible (refine (H3 _).mono ?_)); rintro e w2 ⟨rfl, rfl⟩))
  go_ret
  exact ⟨rfl, b1⟩

set_option maxRecDepth 100000 in
set_option maxHeartbeats 8000000 in
theorem nar_16 (v u x : Int) (w : World) (ej : u.tmod 63 = 15) (d1 : decide (x < -32768) = false) (d2 : decide (32768 ≤ x) = false) (e8 : ((IntKind.u64.wrap (IntKind.u64.wrap v - IntKind.u64.wrap x)).tmod 65536 == 0) = true)
    (H1 : ∀ w, Calls Try.prog 10 #[.int .i64 v, .int .i64 16] w fun e w' => e = .returned (.int .i64 x) ∧ w' = w) (H2 : ∀ w, Calls Try.prog 10 #[.int .i64 x, .int .i64 16] w fun e w' => e = .returned (.int .i64 x) ∧ w' = w) (H3 : ∀ w, Calls Try.prog 10 #[.int .i64 v, .int .i64 64] w fun e w' => e = .returned (.int .i64 v) ∧ w' = w) :
    Calls Try.prog 5 #[.int .i64 v, .int .u8 u] w fun e w' => e = .returned (.bool true) ∧ Below w.heap.size w w' := by
  have hxe : (x == x) = true := by simp
  have hve : (v == v) = true := by simp
  go_enter Try.func5, Try.ntmps5
  go_wp2_with (first
    | (go_at_call 9; refine (begun_any _).mono ?_; rintro e w1 ⟨rfl, b1⟩)
    | (go_at_call 10; (with_reducible (refine (H1 _).mono ?_)); rintro e w2 ⟨rfl, rfl⟩)
    | (go_at_call 10; (with_reducible (refine (H2 _).mono ?_)); rintro e w2 ⟨rfl, rfl⟩)
    | (go_at_call 10; (with_reducible (refine (H3 _).mono ?_)); rintro e w2 ⟨rfl, rfl⟩))
  go_ret
  exact ⟨rfl, b1⟩

set_option maxRecDepth 100000 in
set_option maxHeartbeats 8000000 in
theorem nar_17 (v u x : Int) (w : World) (ej : u.tmod 63 = 16) (d1 : decide (x < -65536) = false) (d2 : decide (65536 ≤ x) = false) (e8 : ((IntKind.u64.wrap (IntKind.u64.wrap v - IntKind.u64.wrap x)).tmod 131072 == 0) = true)
    (H1 : ∀ w, Calls Try.prog 10 #[.int .i64 v, .int .i64 17] w fun e w' => e = .returned (.int .i64 x) ∧ w' = w) (H2 : ∀ w, Calls Try.prog 10 #[.int .i64 x, .int .i64 17] w fun e w' => e = .returned (.int .i64 x) ∧ w' = w) (H3 : ∀ w, Calls Try.prog 10 #[.int .i64 v, .int .i64 64] w fun e w' => e = .returned (.int .i64 v) ∧ w' = w) :
    Calls Try.prog 5 #[.int .i64 v, .int .u8 u] w fun e w' => e = .returned (.bool true) ∧ Below w.heap.size w w' := by
  have hxe : (x == x) = true := by simp
  have hve : (v == v) = true := by simp
  go_enter Try.func5, Try.ntmps5
  go_wp2_with (first
    | (go_at_call 9; refine (begun_any _).mono ?_; rintro e w1 ⟨rfl, b1⟩)
    | (go_at_call 10; (with_reducible (refine (H1 _).mono ?_)); rintro e w2 ⟨rfl, rfl⟩)
    | (go_at_call 10; (with_reducible (refine (H2 _).mono ?_)); rintro e w2 ⟨rfl, rfl⟩)
    | (go_at_call 10; (with_reducible (refine (H3 _).mono ?_)); rintro e w2 ⟨rfl, rfl⟩))
  go_ret
  exact ⟨rfl, b1⟩

set_option maxRecDepth 100000 in
set_option maxHeartbeats 8000000 in
theorem nar_18 (v u x : Int) (w : World) (ej : u.tmod 63 = 17) (d1 : decide (x < -131072) = false) (d2 : decide (131072 ≤ x) = false) (e8 : ((IntKind.u64.wrap (IntKind.u64.wrap v - IntKind.u64.wrap x)).tmod 262144 == 0) = true)
    (H1 : ∀ w, Calls Try.prog 10 #[.int .i64 v, .int .i64 18] w fun e w' => e = .returned (.int .i64 x) ∧ w' = w) (H2 : ∀ w, Calls Try.prog 10 #[.int .i64 x, .int .i64 18] w fun e w' => e = .returned (.int .i64 x) ∧ w' = w) (H3 : ∀ w, Calls Try.prog 10 #[.int .i64 v, .int .i64 64] w fun e w' => e = .returned (.int .i64 v) ∧ w' = w) :
    Calls Try.prog 5 #[.int .i64 v, .int .u8 u] w fun e w' => e = .returned (.bool true) ∧ Below w.heap.size w w' := by
  have hxe : (x == x) = true := by simp
  have hve : (v == v) = true := by simp
  go_enter Try.func5, Try.ntmps5
  go_wp2_with (first
    | (go_at_call 9; refine (begun_any _).mono ?_; rintro e w1 ⟨rfl, b1⟩)
    | (go_at_call 10; (with_reducible (refine (H1 _).mono ?_)); rintro e w2 ⟨rfl, rfl⟩)
    | (go_at_call 10; (with_reducible (refine (H2 _).mono ?_)); rintro e w2 ⟨rfl, rfl⟩)
    | (go_at_call 10; (with_reducible (refine (H3 _).mono ?_)); rintro e w2 ⟨rfl, rfl⟩))
  go_ret
  exact ⟨rfl, b1⟩

set_option maxRecDepth 100000 in
set_option maxHeartbeats 8000000 in
theorem nar_19 (v u x : Int) (w : World) (ej : u.tmod 63 = 18) (d1 : decide (x < -262144) = false) (d2 : decide (262144 ≤ x) = false) (e8 : ((IntKind.u64.wrap (IntKind.u64.wrap v - IntKind.u64.wrap x)).tmod 524288 == 0) = true)
    (H1 : ∀ w, Calls Try.prog 10 #[.int .i64 v, .int .i64 19] w fun e w' => e = .returned (.int .i64 x) ∧ w' = w) (H2 : ∀ w, Calls Try.prog 10 #[.int .i64 x, .int .i64 19] w fun e w' => e = .returned (.int .i64 x) ∧ w' = w) (H3 : ∀ w, Calls Try.prog 10 #[.int .i64 v, .int .i64 64] w fun e w' => e = .returned (.int .i64 v) ∧ w' = w) :
    Calls Try.prog 5 #[.int .i64 v, .int .u8 u] w fun e w' => e = .returned (.bool true) ∧ Below w.heap.size w w' := by
  have hxe : (x == x) = true := by simp
  have hve : (v == v) = true := by simp
  go_enter Try.func5, Try.ntmps5
  go_wp2_with (first
    | (go_at_call 9; refine (begun_any _).mono ?_; rintro e w1 ⟨rfl, b1⟩)
    | (go_at_call 10; (with_reducible (refine (H1 _).mono ?_)); rintro e w2 ⟨rfl, rfl⟩)
    | (go_at_call 10; (with_reducible (refine (H2 _).mono ?_)); rintro e w2 ⟨rfl, rfl⟩)
    | (go_at_call 10; (with_reducible (refine (H3 _).mono ?_)); rintro e w2 ⟨rfl, rfl⟩))
  go_ret
  exact ⟨rfl, b1⟩

set_option maxRecDepth 100000 in
set_option maxHeartbeats 8000000 in
theorem nar_20 (v u x : Int) (w : World) (ej : u.tmod 63 = 19) (d1 : decide (x < -524288) = false) (d2 : decide (524288 ≤ x) = false) (e8 : ((IntKind.u64.wrap (IntKind.u64.wrap v - IntKind.u64.wrap x)).tmod 1048576 == 0) = true)
    (H1 : ∀ w, Calls Try.prog 10 #[.int .i64 v, .int .i64 20] w fun e w' => e = .returned (.int .i64 x) ∧ w' = w) (H2 : ∀ w, Calls Try.prog 10 #[.int .i64 x, .int .i64 20] w fun e w' => e = .returned (.int .i64 x) ∧ w' = w) (H3 : ∀ w, Calls Try.prog 10 #[.int .i64 v, .int .i64 64] w fun e w' => e = .returned (.int .i64 v) ∧ w' = w) :
    Calls Try.prog 5 #[.int .i64 v, .int .u8 u] w fun e w' => e = .returned (.bool true) ∧ Below w.heap.size w w' := by
  have hxe : (x == x) = true := by simp
  have hve : (v == v) = true := by simp
  go_enter Try.func5, Try.ntmps5
  go_wp2_with (first
    | (go_at_call 9; refine (begun_any _).mono ?_; rintro e w1 ⟨rfl, b1⟩)
    | (go_at_call 10; (with_reducible (refine (H1 _).mono ?_)); rintro e w2 ⟨rfl, rfl⟩)
    | (go_at_call 10; (with_reducible (refine (H2 _).mono ?_)); rintro e w2 ⟨rfl, rfl⟩)
    | (go_at_call 10; (with_reducible (refine (H3 _).mono ?_)); rintro e w2 ⟨rfl, rfl⟩))
  go_ret
  exact ⟨rfl, b1⟩

set_option maxRecDepth 100000 in
set_option maxHeartbeats 8000000 in
theorem nar_21 (v u x : Int) (w : World) (ej : u.tmod 63 = 20) (d1 : decide (x < -1048576) = false) (d2 : decide (1048576 ≤ x) = false) (e8 : ((IntKind.u64.wrap (IntKind.u64.wrap v - IntKind.u64.wrap x)).tmod 2097152 == 0) = true)
    (H1 : ∀ w, Calls Try.prog 10 #[.int .i64 v, .int .i64 21] w fun e w' => e = .returned (.int .i64 x) ∧ w' = w) (H2 : ∀ w, Calls Try.prog 10 #[.int .i64 x, .int .i64 21] w fun e w' => e = .returned (.int .i64 x) ∧ w' = w) (H3 : ∀ w, Calls Try.prog 10 #[.int .i64 v, .int .i64 64] w fun e w' => e = .returned (.int .i64 v) ∧ w' = w) :
    Calls Try.prog 5 #[.int .i64 v, .int .u8 u] w fun e w' => e = .returned (.bool true) ∧ Below w.heap.size w w' := by
  have hxe : (x == x) = true := by simp
  have hve : (v == v) = true := by simp
  go_enter Try.func5, Try.ntmps5
  go_wp2_with (first
    | (go_at_call 9; refine (begun_any _).mono ?_; rintro e w1 ⟨rfl, b1⟩)
    | (go_at_call 10; (with_reducible (refine (H1 _).mono ?_)); rintro e w2 ⟨rfl, rfl⟩)
    | (go_at_call 10; (with_reducible (refine (H2 _).mono ?_)); rintro e w2 ⟨rfl, rfl⟩)
    | (go_at_call 10; (with_reducible (refine (H3 _).mono ?_)); rintro e w2 ⟨rfl, rfl⟩))
  go_ret
  exact ⟨rfl, b1⟩

set_option maxRecDepth 100000 in
set_option maxHeartbeats 8000000 in
theorem nar_22 (v u x : Int) (w : World) (ej : u.tmod 63 = 21) (d1 : decide (x < -2097152) = false) (d2 : decide (2097152 ≤ x) = false) (e8 : ((IntKind.u64.wrap (IntKind.u64.wrap v - IntKind.u64.wrap x)).tmod 4194304 == 0) = true)
    (H1 : ∀ w, Calls Try.prog 10 #[.int .i64 v, .int .i64 22] w fun e w' => e = .returned (.int .i64 x) ∧ w' = w) (H2 : ∀ w, Calls Try.prog 10 #[.int .i64 x, .int .i64 22] w fun e w' => e = .returned (.int .i64 x) ∧ w' = w) (H3 : ∀ w, Calls Try.prog 10 #[.int .i64 v, .int .i64 64] w fun e w' => e = .returned (.int .i64 v) ∧ w' = w) :
    Calls Try.prog 5 #[.int .i64 v, .int .u8 u] w fun e w' => e = .returned (.bool true) ∧ Below w.heap.size w w' := by
  have hxe : (x == x) = true := by simp
  have hve : (v == v) = true := by simp
  go_enter Try.func5, Try.ntmps5
  go_wp2_with (first
    | (go_at_call 9; refine (begun_any _).mono ?_; rintro e w1 ⟨rfl, b1⟩)
    | (go_at_call 10; (with_reducible (refine (H1 _).mono ?_)); rintro e w2 ⟨rfl, rfl⟩)
    | (go_at_call 10; (with_reducible (refine (H2 _).mono ?_)); rintro e w2 ⟨rfl, rfl⟩)
    | (go_at_call 10; (with_reducible (refine (H3 _).mono ?_)); rintro e w2 ⟨rfl, rfl⟩))
  go_ret
  exact ⟨rfl, b1⟩

set_option maxRecDepth 100000 in
set_option maxHeartbeats 8000000 in
theorem nar_23 (v u x : Int) (w : World) (ej : u.tmod 63 = 22) (d1 : decide (x < -4194304) = false) (d2 : decide (4194304 ≤ x) = false) (e8 : ((IntKind.u64.wrap (IntKind.u64.wrap v - IntKind.u64.wrap x)).tmod 8388608 == 0) = true)
    (H1 : ∀ w, Calls Try.prog 10 #[.int .i64 v, .int .i64 23] w fun e w' => e = .returned (.int .i64 x) ∧ w' = w) (H2 : ∀ w, Calls Try.prog 10 #[.int .i64 x, .int .i64 23] w fun e w' => e = .returned (.int .i64 x) ∧ w' = w) (H3 : ∀ w, Calls Try.prog 10 #[.int .i64 v, .int .i64 64] w fun e w' => e = .returned (.int .i64 v) ∧ w' = w) :
    Calls Try.prog 5 #[.int .i64 v, .int .u8 u] w fun e w' => e = .returned (.bool true) ∧ Below w.heap.size w w' := by
  have hxe : (x == x) = true := by simp
  have hve : (v == v) = true := by simp
  go_enter Try.func5, Try.ntmps5
  go_wp2_with (first
    | (go_at_call 9; refine (begun_any _).mono ?_; rintro e w1 ⟨rfl, b1⟩)
    | (go_at_call 10; (with_reducible (refine (H1 _).mono ?_)); rintro e w2 ⟨rfl, rfl⟩)
    | (go_at_call 10; (with_reducible (refine (H2 _).mono ?_)); rintro e w2 ⟨rfl, rfl⟩)
    | (go_at_call 10; (with_reducible (refine (H3 _).mono ?_)); rintro e w2 ⟨rfl, rfl⟩))
  go_ret
  exact ⟨rfl, b1⟩

set_option maxRecDepth 100000 in
set_option maxHeartbeats 8000000 in
theorem nar_24 (v u x : Int) (w : World) (ej : u.tmod 63 = 23) (d1 : decide (x < -8388608) = false) (d2 : decide (8388608 ≤ x) = false) (e8 : ((IntKind.u64.wrap (IntKind.u64.wrap v - IntKind.u64.wrap x)).tmod 16777216 == 0) = true)
    (H1 : ∀ w, Calls Try.prog 10 #[.int .i64 v, .int .i64 24] w fun e w' => e = .returned (.int .i64 x) ∧ w' = w) (H2 : ∀ w, Calls Try.prog 10 #[.int .i64 x, .int .i64 24] w fun e w' => e = .returned (.int .i64 x) ∧ w' = w) (H3 : ∀ w, Calls Try.prog 10 #[.int .i64 v, .int .i64 64] w fun e w' => e = .returned (.int .i64 v) ∧ w' = w) :
    Calls Try.prog 5 #[.int .i64 v, .int .u8 u] w fun e w' => e = .returned (.bool true) ∧ Below w.heap.size w w' := by
  have hxe : (x == x) = true := by simp
  have hve : (v == v) = true := by simp
  go_enter Try.func5, Try.ntmps5
  go_wp2_with (first
    | (go_at_call 9; refine (begun_any _).mono ?_; rintro e w1 ⟨rfl, b1⟩)
    | (go_at_call 10; (with_reducible (refine (H1 _).mono ?_)); rintro e w2 ⟨rfl, rfl⟩)
    | (go_at_call 10; (with_reducible (refine (H2 _).mono ?_)); rintro e w2 ⟨rfl, rfl⟩)
    | (go_at_call 10; (with_reducible (refine (H3 _).mono ?_)); rintro e w2 ⟨rfl, rfl⟩))
  go_ret
  exact ⟨rfl, b1⟩

set_option maxRecDepth 100000 in
set_option maxHeartbeats 8000000 in
theorem nar_25 (v u x : Int) (w : World) (ej : u.tmod 63 = 24) (d1 : decide (x < -16777216) = false) (d2 : decide (16777216 ≤ x) = false) (e8 : ((IntKind.u64.wrap (IntKind.u64.wrap v - IntKind.u64.wrap x)).tmod 33554432 == 0) = true)
    (H1 : ∀ w, Calls Try.prog 10 #[.int .i64 v, .int .i64 25] w fun e w' => e = .returned (.int .i64 x) ∧ w' = w) (H2 : ∀ w, Calls Try.prog 10 #[.int .i64 x, .int .i64 25] w fun e w' => e = .returned (.int .i64 x) ∧ w' = w) (H3 : ∀ w, Calls Try.prog 10 #[.int .i64 v, .int .i64 64] w fun e w' => e = .returned (.int .i64 v) ∧ w' = w) :
    Calls Try.prog 5 #[.int .i64 v, .int .u8 u] w fun e w' => e = .returned (.bool true) ∧ Below w.heap.size w w' := by
  have hxe : (x == x) = true := by simp
  have hve : (v == v) = true := by simp
  go_enter Try.func5, Try.ntmps5
  go_wp2_with (first
    | (go_at_call 9; refine (begun_any _).mono ?_; rintro e w1 ⟨rfl, b1⟩)
    | (go_at_call 10; (with_reducible (refine (H1 _).mono ?_)); rintro e w2 ⟨rfl, rfl⟩)
    | (go_at_call 10; (with_reducible (refine (H2 _).mono ?_)); rintro e w2 ⟨rfl, rfl⟩)
    | (go_at_call 10; (with_reducible (refine (H3 _).mono ?_)); rintro e w2 ⟨rfl, rfl⟩))
  go_ret
  exact ⟨rfl, b1⟩

set_option maxRecDepth 100000 in
set_option maxHeartbeats 8000000 in
theorem nar_26 (v u x : Int) (w : World) (ej : u.tmod 63 = 25) (d1 : decide (x < -33554432) = false) (d2 : decide (33554432 ≤ x) = false) (e8 : ((IntKind.u64.wrap (IntKind.u64.wrap v - IntKind.u64.wrap x)).tmod 67108864 == 0) = true)
    (H1 : ∀ w, Calls Try.prog 10 #[.int .i64 v, .int .i64 26] w fun e w' => e = .returned (.int .i64 x) ∧ w' = w) (H2 : ∀ w, Calls Try.prog 10 #[.int .i64 x, .int .i64 26] w fun e w' => e = .returned (.int .i64 x) ∧ w' = w) (H3 : ∀ w, Calls Try.prog 10 #[.int .i64 v, .int .i64 64] w fun e w' => e = .returned (.int .i64 v) ∧ w' = w) :
    Calls Try.prog 5 #[.int .i64 v, .int .u8 u] w fun e w' => e = .returned (.bool true) ∧ Below w.heap.size w w' := by
  have hxe : (x == x) = true := by simp
  have hve : (v == v) = true := by simp
  go_enter Try.func5, Try.ntmps5
  go_wp2_with (first
    | (go_at_call 9; refine (begun_any _).mono ?_; rintro e w1 ⟨rfl, b1⟩)
    | (go_at_call 10; (with_reducible (refine (H1 _).mono ?_)); rintro e w2 ⟨rfl, rfl⟩)
    | (go_at_call 10; (with_reducible (refine (H2 _).mono ?_)); rintro e w2 ⟨rfl, rfl⟩)
    | (go_at_call 10; (with_reducible (refine (H3 _).mono ?_)); rintro e w2 ⟨rfl, rfl⟩))
  go_ret
  exact ⟨rfl, b1⟩
end Go.Proofs.Ytjejabineblnhaa
