/-
  The law VmNarrow, walked at each number of bits from 52 to 63.
-/
import Derived.Test.YtjejabineblnhaaVbegun
import Derived.WalkSpells
namespace Go.Proofs.Ytjejabineblnhaa
open Go.ChangeShapes Go.WideShapes Go.ChangeAt Go.RowKit
attribute [local go_sem ↓] Go.wp_at_zero Go.wp_at_succ

set_option maxRecDepth 100000 in
set_option maxHeartbeats 8000000 in
theorem nar_52 (v u x : Int) (w : World) (ej : u.tmod 63 = 51) (d1 : decide (x < -2251799813685248) = false) (d2 : decide (2251799813685248 ≤ x) = false) (e8 : ((IntKind.u64.wrap (IntKind.u64.wrap v - IntKind.u64.wrap x)).tmod 4503599627370496 == 0) = true)
    (H1 : ∀ w, Calls Try.prog 10 #[.int .i64 v, .int .i64 52] w fun e w' => e = .returned (.int .i64 x) ∧ w' = w) (H2 : ∀ w, Calls Try.prog 10 #[.int .i64 x, .int .i64 52] w fun e w' => e = .returned (.int .i64 x) ∧ w' = w) (H3 : ∀ w, Calls Try.prog 10 #[.int .i64 v, .int .i64 64] w fun e w' => e = .returned (.int .i64 v) ∧ w' = w) :
    Calls Try.prog 5 #[.int .i64 v, .int .u8 u] w fun e w' => e = .returned (.bool true) ∧ Below w.heap.size w w' := by
  have hxe : (x == x) = true := by simp
  have hve : (v == v) = true := by simp
  go_enter Try.func5, Try.ntmps5
  go_wp2_with (first
    | (go_at_call 9; refine (begun_any _).mono ?_; rintro e w1 ⟨rfl, b1⟩)
    | (go_at_call 10; (with_reducible (refine (H1 _).mono ?_)); rintro e w2 ⟨rfl, rfl⟩)
    | (go_at_call 10; (with_reducible (refine (H2 _).mono ?_)); rintro e w2 ⟨rfl, rfl⟩)
    | (go_at_call 10; (with_reducible (refine (H3 _).mono ?_)); rintro e w2 ⟨rfl, rfl⟩))
  go_ret
  exact ⟨rfl, b1⟩

set_option maxRecDepth 100000 in
set_option maxHeartbeats 8000000 in
theorem nar_53 (v u x : Int) (w : World) (ej : u.tmod 63 = 52) (d1 : decide (x < -4503599627370496) = false) (d2 : decide (4503599627370496 ≤ x) = false) (e8 : ((IntKind.u64.wrap (IntKind.u64.wrap v - IntKind.u64.wrap x)).tmod 9007199254740992 == 0) = true)
    (H1 : ∀ w, Calls Try.prog 10 #[.int .i64 v, .int .i64 53] w fun e w' => e = .returned (.int .i64 x) ∧ w' = w) (H2 : ∀ w, Calls Try.prog 10 #[.int .i64 x, .int .i64 53] w fun e w' => e = .returned (.int .i64 x) ∧ w' = w) (H3 : ∀ w, Calls Try.prog 10 #[.int .i64 v, .int .i64 64] w fun e w' => e = .returned (.int .i64 v) ∧ w' = w) :
    Calls Try.prog 5 #[.int .i64 v, .int .u8 u] w fun e w' => e = .returned (.bool true) ∧ Below w.heap.size w w' := by
  have hxe : (x == x) = true := by simp
  have hve : (v == v) = true := by simp
  go_enter Try.func5, Try.ntmps5
  go_wp2_with (first
    | (go_at_call 9; refine (begun_any _).mono ?_; rintro e w1 ⟨rfl, b1⟩)
    | (go_at_call 10; (with_reducible (refine (H1 _).mono ?_)); rintro e w2 ⟨rfl, rfl⟩)
    | (go_at_call 10; (with_reducible (refine (H2 _).mono ?_)); rintro e w2 ⟨rfl, rfl⟩)
    | (go_at_call 10; (with_reducible (refine (H3 _).mono ?_)); rintro e w2 ⟨rfl, rfl⟩))
  go_ret
  exact ⟨rfl, b1⟩

set_option maxRecDepth 100000 in
set_option maxHeartbeats 8000000 in
theorem nar_54 (v u x : Int) (w : World) (ej : u.tmod 63 = 53) (d1 : decide (x < -9007199254740992) = false) (d2 : decide (9007199254740992 ≤ x) = false) (e8 : ((IntKind.u64.wrap (IntKind.u64.wrap v - IntKind.u64.wrap x)).tmod 18014398509481984 == 0) = true)
    (H1 : ∀ w, Calls Try.prog 10 #[.int .i64 v, .int .i64 54] w fun e w' => e = .returned (.int .i64 x) ∧ w' = w) (H2 : ∀ w, Calls Try.prog 10 #[.int .i64 x, .int .i64 54] w fun e w' => e = .returned (.int .i64 x) ∧ w' = w) (H3 : ∀ w, Calls Try.prog 10 #[.int .i64 v, .int .i64 64] w fun e w' => e = .returned (.int .i64 v) ∧ w' = w) :
    Calls Try.prog 5 #[.int .i64 v, .int .u8 u] w fun e w' => e = .returned (.bool true) ∧ Below w.heap.size w w' := by
  have hxe : (x == x) = true := by simp
  have hve : (v == v) = true := by simp
  go_enter Try.func5, Try.ntmps5
  go_wp2_with (first
    | (go_at_call 9; refine (begun_any _).mono ?_; rintro e w1 ⟨rfl, b1⟩)
    | (go_at_call 10; (with_reducible (refine (H1 _).mono ?_)); rintro e w2 ⟨rfl, rfl⟩)
    | (go_at_call 10; (with_reducible (refine (H2 _).mono ?_)); rintro e w2 ⟨rfl, rfl⟩)
    | (go_at_call 10; (with_reducible (refine (H3 _).mono ?_)); rintro e w2 ⟨rfl, rfl⟩))
  go_ret
  exact ⟨rfl, b1⟩

set_option maxRecDepth 100000 in
set_option maxHeartbeats 8000000 in
theorem nar_55 (v u x : Int) (w : World) (ej : u.tmod 63 = 54) (d1 : decide (x < -18014398509481984) = false) (d2 : decide (18014398509481984 ≤ x) = false) (e8 : ((IntKind.u64.wrap (IntKind.u64.wrap v - IntKind.u64.wrap x)).tmod 36028797018963968 == 0) = true)
    (H1 : ∀ w, Calls Try.prog 10 #[.int .i64 v, .int .i64 55] w fun e w' => e = .returned (.int .i64 x) ∧ w' = w) (H2 : ∀ w, Calls Try.prog 10 #[.int .i64 x, .int .i64 55] w fun e w' => e = .returned (.int .i64 x) ∧ w' = w) (H3 : ∀ w, Calls Try.prog 10 #[.int .i64 v, .int .i64 64] w fun e w' => e = .returned (.int .i64 v) ∧ w' = w) :
    Calls Try.prog 5 #[.int .i64 v, .int .u8 u] w fun e w' => e = .returned (.bool true) ∧ Below w.heap.size w w' := by
  have hxe : (x == x) = true := by simp
  have hve : (v == v) = true := by simp
  go_enter Try.func5, Try.ntmps5
  go_wp2_with (first
    | (go_at_call 9; refine (begun_any _).mono ?_; rintro e w1 ⟨rfl, b1⟩)
    | (go_at_call 10; (with_reducible (refine (H1 _).mono ?_)); rintro e w2 ⟨rfl, rfl⟩)
    | (go_at_call 10; (with_reducible (refine (H2 _).mono ?_)); rintro e w2 ⟨rfl, rfl⟩)
    | (go_at_call 10; (with_reducible (refine (H3 _).mono ?_)); rintro e w2 ⟨rfl, rfl⟩))
  go_ret
  exact ⟨rfl, b1⟩

set_option maxRecDepth 100000 in
set_option maxHeartbeats 8000000 in
theorem nar_56 (v u x : Int) (w : World) (ej : u.tmod 63 = 55) (d1 : decide (x < -36028797018963968) = false) (d2 : decide (36028797018963968 ≤ x) = false) (e8 : ((IntKind.u64.wrap (IntKind.u64.wrap v - IntKind.u64.wrap x)).tmod 72057594037927936 == 0) = true)
    (H1 : ∀ w, Calls Try.prog 10 #[.int .i64 v, .int .i64 56] w fun e w' => e = .returned (.int .i64 x) ∧ w' = w) (H2 : ∀ w, Calls Try.prog 10 #[.int .i64 x, .int .i64 56] w fun e w' => e = .returned (.int .i64 x) ∧ w' = w) (H3 : ∀ w, Calls Try.prog 10 #[.int .i64 v, .int .i64 64] w fun e w' => e = .returned (.int .i64 v) ∧ w' = w) :
    Calls Try.prog 5 #[.int .i64 v, .int .u8 u] w fun e w' => e = .returned (.bool true) ∧ Below w.heap.size w w' := by
  have hxe : (x == x) = true := by simp
  have hve : (v == v) = true := by simp
  go_enter Try.func5, Try.ntmps5
  go_wp2_with (first
    | (go_at_call 9; refine (begun_any _).mono ?_; rintro e w1 ⟨rfl, b1⟩)
    | (go_at_call 10; (with_reducible (refine (H1 _).mono ?_)); rintro e w2 ⟨rfl, rfl⟩)
    | (go_at_call 10; (with_reducible (refine (H2 _).mono ?_)); rintro e w2 ⟨rfl, rfl⟩)
    | (go_at_call 10; (with_reducible (refine (H3 _).mono ?_)); rintro e w2 ⟨rfl, rfl⟩))
  go_ret
  exact ⟨rfl, b1⟩

set_option maxRecDepth 100000 in
set_option maxHeartbeats 8000000 in
theorem nar_57 (v u x : Int) (w : World) (ej : u.tmod 63 = 56) (d1 : decide (x < -72057594037927936) = false) (d2 : decide (72057594037927936 ≤ x) = false) (e8 : ((IntKind.u64.wrap (IntKind.u64.wrap v - IntKind.u64.wrap x)).tmod 144115188075855872 == 0) = true)
    (H1 : ∀ w, Calls Try.prog 10 #[.int .i64 v, .int .i64 57] w fun e w' => e = .returned (.int .i64 x) ∧ w' = w) (H2 : ∀ w, Calls Try.prog 10 #[.int .i64 x, .int .i64 57] w fun e w' => e = .returned (.int .i64 x) ∧ w' = w) (H3 : ∀ w, Calls Try.prog 10 #[.int .i64 v, .int .i64 64] w fun e w' => e = .returned (.int .i64 v) ∧ w' = w) :
    Calls Try.prog 5 #[.int .i64 v, .int .u8 u] w fun e w' => e = .returned (.bool true) ∧ Below w.heap.size w w' := by
  have hxe : (x == x) = true := by simp
  have hve : (v == v) = true := by simp
  go_enter Try.func5, Try.ntmps5
  go_wp2_with (first
    | (go_at_call 9; refine (begun_any _).mono ?_; rintro e w1 ⟨rfl, b1⟩)
    | (go_at_call 10; (with_reducible (refine (H1 _).mono ?_)); rintro e w2 ⟨rfl, rfl⟩)
    | (go_at_call 10; (with_reducible (refine (H2 _).mono ?_)); rintro e w2 ⟨rfl, rfl⟩)
    | (go_at_call 10; (with_reducible (refine (H3 _).mono ?_)); rintro e w2 ⟨rfl, rfl⟩))
  go_ret
  exact ⟨rfl, b1⟩

set_option maxRecDepth 100000 in
set_option maxHeartbeats 8000000 in
theorem nar_58 (v u x : Int) (w : World) (ej : u.tmod 63 = 57) (d1 : decide (x < -144115188075855872) = false) (d2 : decide (144115188075855872 ≤ x) = false) (e8 : ((IntKind.u64.wrap (IntKind.u64.wrap v - IntKind.u64.wrap x)).tmod 288230376151711744 == 0) = true)
    (H1 : ∀ w, Calls Try.prog 10 #[.int .i64 v, .int .i64 58] w fun e w' => e = .returned (.int .i64 x) ∧ w' = w) (H2 : ∀ w, Calls Try.prog 10 #[.int .i64 x, .int .i64 58] w fun e w' => e = .returned (.int .i64 x) ∧ w' = w) (H3 : ∀ w, Calls Try.prog 10 #[.int .i64 v, .int .i64 64] w fun e w' => e = .returned (.int .i64 v) ∧ w' = w) :
    Calls Try.prog 5 #[.int .i64 v, .int .u8 u] w fun e w' => e = .returned (.bool true) ∧ Below w.heap.size w w' := by
  have hxe : (x == x) = true := by simp
  have hve : (v == v) = true := by simp
  go_enter Try.func5, Try.ntmps5
  go_wp2_with (first
    | (go_at_call 9; refine (begun_any _).mono ?_; rintro e w1 ⟨rfl, b1⟩)
    | (go_at_call 10; (with_reducible (refine (H1 _).mono ?_)); rintro e w2 ⟨rfl, rfl⟩)
    | (go_at_call 10; (with_reducible (refine (H2 _).mono ?_)); rintro e w2 ⟨rfl, rfl⟩)
    | (go_at_call 10; (with_reducible (refine (H3 _).mono ?_)); rintro e w2 ⟨rfl, rfl⟩))
  go_ret
  exact ⟨rfl, b1⟩

set_option maxRecDepth 100000 in
set_option maxHeartbeats 8000000 in
theorem nar_59 (v u x : Int) (w : World) (ej : u.tmod 63 = 58) (d1 : decide (x < -288230376151711744) = false) (d2 : decide (288230376151711744 ≤ x) = false) (e8 : ((IntKind.u64.wrap (IntKind.u64.wrap v - IntKind.u64.wrap x)).tmod 576460752303423488 == 0) = true)
    (H1 : ∀ w, Calls Try.prog 10 #[.int .i64 v, .int .i64 59] w fun e w' => e = .returned (.int .i64 x) ∧ w' = w) (H2 : ∀ w, Calls Try.prog 10 #[.int .i64 x, .int .i64 59] w fun e w' => e = .returned (.int .i64 x) ∧ w' = w) (H3 : ∀ w, Calls Try.prog 10 #[.int .i64 v, .int .i64 64] w fun e w' => e = .returned (.int .i64 v) ∧ w' = w) :
    Calls Try.prog 5 #[.int .i64 v, .int .u8 u] w fun e w' => e = .returned (.bool true) ∧ Below w.heap.size w w' := by
  have hxe : (x == x) = true := by simp
  have hve : (v == v) = true := by simp
  go_enter Try.func5, Try.ntmps5
  go_wp2_with (first
    | (go_at_call 9; refine (begun_any _).mono ?_; rintro e w1 ⟨rfl, b1⟩)
    | (go_at_call 10; (with_reducible (refine (H1 _).mono ?_)); rintro e w2 ⟨rfl, rfl⟩)
    | (go_at_call 10; (with_reducible (refine (H2 _).mono ?_)); rintro e w2 ⟨rfl, rfl⟩)
    | (go_at_call 10; (with_reducible (refine (H3 _).mono ?_)); rintro e w2 ⟨rfl, rfl⟩))
  go_ret
  exact ⟨rfl, b1⟩

set_option maxRecDepth 100000 in
set_option maxHeartbeats 8000000 in
theorem nar_60 (v u x : Int) (w : World) (ej : u.tmod 63 = 59) (d1 : decide (x < -576460752303423488) = false) (d2 : decide (576460752303423488 ≤ x) = false) (e8 : ((IntKind.u64.wrap (IntKind.u64.wrap v - IntKind.u64.wrap x)).tmod 1152921504606846976 == 0) = true)
    (H1 : ∀ w, Calls Try.prog 10 #[.int .i64 v, .int .i64 60] w fun e w' => e = .returned (.int .i64 x) ∧ w' = w) (H2 : ∀ w, Calls Try.prog 10 #[.int .i64 x, .int .i64 60] w fun e w' => e = .returned (.int .i64 x) ∧ w' = w) (H3 : ∀ w, Calls Try.prog 10 #[.int .i64 v, .int .i64 64] w fun e w' => e = .returned (.int .i64 v) ∧ w' = w) :
    Calls Try.prog 5 #[.int .i64 v, .int .u8 u] w fun e w' => e = .returned (.bool true) ∧ Below w.heap.size w w' := by
  have hxe : (x == x) = true := by simp
  have hve : (v == v) = true := by simp
  go_enter Try.func5, Try.ntmps5
  go_wp2_with (first
    | (go_at_call 9; refine (begun_any _).mono ?_; rintro e w1 ⟨rfl, b1⟩)
    | (go_at_call 10; (with_reducible (refine (H1 _).mono ?_)); rintro e w2 ⟨rfl, rfl⟩)
    | (go_at_call 10; (with_reducible (refine (H2 _).mono ?_)); rintro e w2 ⟨rfl, rfl⟩)
    | (go_at_call 10; (with_reducible (refine (H3 _).mono ?_)); rintro e w2 ⟨rfl, rfl⟩))
  go_ret
  exact ⟨rfl, b1⟩

set_option maxRecDepth 100000 in
set_option maxHeartbeats 8000000 in
theorem nar_61 (v u x : Int) (w : World) (ej : u.tmod 63 = 60) (d1 : decide (x < -1152921504606846976) = false) (d2 : decide (1152921504606846976 ≤ x) = false) (e8 : ((IntKind.u64.wrap (IntKind.u64.wrap v - IntKind.u64.wrap x)).tmod 2305843009213693952 == 0) = true)
    (H1 : ∀ w, Calls Try.prog 10 #[.int .i64 v, .int .i64 61] w fun e w' => e = .returned (.int .i64 x) ∧ w' = w) (H2 : ∀ w, Calls Try.prog 10 #[.int .i64 x, .int .i64 61] w fun e w' => e = .returned (.int .i64 x) ∧ w' = w) (H3 : ∀ w, Calls Try.prog 10 #[.int .i64 v, .int .i64 64] w fun e w' => e = .returned (.int .i64 v) ∧ w' = w) :
    Calls Try.prog 5 #[.int .i64 v, .int .u8 u] w fun e w' => e = .returned (.bool true) ∧ Below w.heap.size w w' := by
  have hxe : (x == x) = true := by simp
  have hve : (v == v) = true := by simp
  go_enter Try.func5, Try.ntmps5
  go_wp2_with (first
    | (go_at_call 9; refine (begun_any _).mono ?_; rintro e w1 ⟨rfl, b1⟩)
    | (go_at_call 10; (with_reducible (refine (H1 _).mono ?_)); rintro e w2 ⟨rfl, rfl⟩)
    | (go_at_call 10; (with_reducible (refine (H2 _).mono ?_)); rintro e w2 ⟨rfl, rfl⟩)
    | (go_at_call 10; (with_reducible (refine (H3 _).mono ?_)); rintro e w2 ⟨rfl, rfl⟩))
  go_ret
  exact ⟨rfl, b1⟩

set_option maxRecDepth 100000 in
set_option maxHeartbeats 8000000 in
theorem nar_62 (v u x : Int) (w : World) (ej : u.tmod 63 = 61) (d1 : decide (x < -2305843009213693952) = false) (d2 : decide (2305843009213693952 ≤ x) = false) (e8 : ((IntKind.u64.wrap (IntKind.u64.wrap v - IntKind.u64.wrap x)).tmod 4611686018427387904 == 0) = true)
    (H1 : ∀ w, Calls Try.prog 10 #[.int .i64 v, .int .i64 62] w fun e w' => e = .returned (.int .i64 x) ∧ w' = w) (H2 : ∀ w, Calls Try.prog 10 #[.int .i64 x, .int .i64 62] w fun e w' => e = .returned (.int .i64 x) ∧ w' = w) (H3 : ∀ w, Calls Try.prog 10 #[.int .i64 v, .int .i64 64] w fun e w' => e = .returned (.int .i64 v) ∧ w' = w) :
    Calls Try.prog 5 #[.int .i64 v, .int .u8 u] w fun e w' => e = .returned (.bool true) ∧ Below w.heap.size w w' := by
  have hxe : (x == x) = true := by simp
  have hve : (v == v) = true := by simp
  go_enter Try.func5, Try.ntmps5
  go_wp2_with (first
    | (go_at_call 9; refine (begun_any _).mono ?_; rintro e w1 ⟨rfl, b1⟩)
    | (go_at_call 10; (with_reducible (refine (H1 _).mono ?_)); rintro e w2 ⟨rfl, rfl⟩)
    | (go_at_call 10; (with_reducible (refine (H2 _).mono ?_)); rintro e w2 ⟨rfl, rfl⟩)
    | (go_at_call 10; (with_reducible (refine (H3 _).mono ?_)); rintro e w2 ⟨rfl, rfl⟩))
  go_ret
  exact ⟨rfl, b1⟩

set_option maxRecDepth 100000 in
set_option maxHeartbeats 8000000 in
theorem nar_63 (v u x : Int) (w : World) (ej : u.tmod 63 = 62) (d1 : decide (x < -4611686018427387904) = false) (d2 : decide (4611686018427387904 ≤ x) = false) (e8 : ((IntKind.u64.wrap (IntKind.u64.wrap v - IntKind.u64.wrap x)).tmod 9223372036854775808 == 0) = true)
    (H1 : ∀ w, Calls Try.prog 10 #[.int .i64 v, .int .i64 63] w fun e w' => e = .returned (.int .i64 x) ∧ w' = w) (H2 : ∀ w, Calls Try.prog 10 #[.int .i64 x, .int .i64 63] w fun e w' => e = .returned (.int .i64 x) ∧ w' = w) (H3 : ∀ w, Calls Try.prog 10 #[.int .i64 v, .int .i64 64] w fun e w' => e = .returned (.int .i64 v) ∧ w' = w) :
    Calls Try.prog 5 #[.int .i64 v, .int .u8 u] w fun e w' => e = .returned (.bool true) ∧ Below w.heap.size w w' := by
  have hxe : (x == x) = true := by simp
  have hve : (v == v) = true := by simp
  go_enter Try.func5, Try.ntmps5
  go_wp2_with (first
    | (go_at_call 9; refine (begun_any _).mono ?_; rintro e w1 ⟨rfl, b1⟩)
    | (go_at_call 10; (with_reducible (refine (H1 _).mono ?_)); rintro e w2 ⟨rfl, rfl⟩)
    | (go_at_call 10; (with_reducible (refine (H2 _).mono ?_)); rintro e w2 ⟨rfl, rfl⟩)
    | (go_at_call 10; (with_reducible (refine (H3 _).mono ?_)); rintro e w2 ⟨rfl, rfl⟩))
  go_ret
  exact ⟨rfl, b1⟩
end Go.Proofs.Ytjejabineblnhaa
