/-
  Which instructions may be, by the document's answer.
-/
import Derived.Test.YtonholadabebbaaMays
namespace Go.Proofs.Ytonholadabebbaa
open Go.ChangeShapes Go.WideShapes Go.ChangeAt Go.RowKit
attribute [local go_sem ↓] Go.wp_at_zero Go.wp_at_succ

theorem has_yes (v : Int) (w : World) (h : 0 ≤ v ∧ v ≤ 7) : Calls Try.prog 48 #[.agg #[.int .i64 8], .int .i64 v] w fun e w' => e = .returned (.bool true) ∧ w' = w.alloc (.cells #[.int .i64 8] 91) := by
  obtain ⟨h1, h2⟩ := h
  have d1 : decide (0 ≤ v) = true := by simpa using h1
  have d2 : decide (v < 8) = true := by simp; omega
  go_enter Try.func48, Try.ntmps48
  go_wp2
  go_ret
  exact ⟨rfl, rfl⟩
theorem has_no (v : Int) (w : World) (h : ¬ (0 ≤ v ∧ v ≤ 7)) : Calls Try.prog 48 #[.agg #[.int .i64 8], .int .i64 v] w fun e w' => e = .returned (.bool false) ∧ w' = w.alloc (.cells #[.int .i64 8] 91) := by
  by_cases h1 : 0 ≤ v
  · have d1 : decide (0 ≤ v) = true := by simpa using h1
    have d2 : decide (v < 8) = false := by simp; omega
    go_enter Try.func48, Try.ntmps48
    go_wp2
    go_ret
    exact ⟨rfl, rfl⟩
  · have d1 : decide (0 ≤ v) = false := by simpa using h1
    go_enter Try.func48, Try.ntmps48
    go_wp2
    go_ret
    exact ⟨rfl, rfl⟩
set_option maxRecDepth 100000 in
theorem mayInst_0 (a b n : Int) (w : World) : Calls Try.prog 35 #[.agg #[.int .i64 0, .int .i64 a, .int .i64 b, .int .i64 n]] w fun e w' => e = .returned (.bool (mayB (0, a, b, n))) ∧ Below w.heap.size w w' := by
  by_cases c0 : a = 0
  · subst c0
    by_cases c1 : b = 0
    · subst c1
      by_cases c2 : n = 0
      · subst c2
        rw [may_of (x := (0, 0, 0, 0)) (by unfold mayP; simp <;> omega)]
        go_enter Try.func35, Try.ntmps35
        go_wp2_with (first
          | (go_at_call 48; refine (has_yes _ _ (by assumption)).mono ?_; rintro e w1 ⟨rfl, rfl⟩)
          | (go_at_call 48; refine (has_no _ _ (by assumption)).mono ?_; rintro e w1 ⟨rfl, rfl⟩))
        go_ret
        refine ⟨rfl, ?_⟩
        repeat (first | exact Below.refl _ _ | refine Below.alloc ?_ (by simp <;> omega) _ | refine Below.setCell ?_ (by simp <;> omega) _)
      · have e2 : (n == 0) = false := by simpa using c2
        rw [may_not (x := (0, 0, 0, n)) (by unfold mayP; simp <;> omega)]
        go_enter Try.func35, Try.ntmps35
        go_wp2_with (first
          | (go_at_call 48; refine (has_yes _ _ (by assumption)).mono ?_; rintro e w1 ⟨rfl, rfl⟩)
          | (go_at_call 48; refine (has_no _ _ (by assumption)).mono ?_; rintro e w1 ⟨rfl, rfl⟩))
        go_ret
        refine ⟨rfl, ?_⟩
        repeat (first | exact Below.refl _ _ | refine Below.alloc ?_ (by simp <;> omega) _ | refine Below.setCell ?_ (by simp <;> omega) _)
    · have e1 : (b == 0) = false := by simpa using c1
      rw [may_not (x := (0, 0, b, n)) (by unfold mayP; simp <;> omega)]
      go_enter Try.func35, Try.ntmps35
      go_wp2_with (first
        | (go_at_call 48; refine (has_yes _ _ (by assumption)).mono ?_; rintro e w1 ⟨rfl, rfl⟩)
        | (go_at_call 48; refine (has_no _ _ (by assumption)).mono ?_; rintro e w1 ⟨rfl, rfl⟩))
      go_ret
      refine ⟨rfl, ?_⟩
      repeat (first | exact Below.refl _ _ | refine Below.alloc ?_ (by simp <;> omega) _ | refine Below.setCell ?_ (by simp <;> omega) _)
  · have e0 : (a == 0) = false := by simpa using c0
    rw [may_not (x := (0, a, b, n)) (by unfold mayP; simp <;> omega)]
    go_enter Try.func35, Try.ntmps35
    go_wp2_with (first
      | (go_at_call 48; refine (has_yes _ _ (by assumption)).mono ?_; rintro e w1 ⟨rfl, rfl⟩)
      | (go_at_call 48; refine (has_no _ _ (by assumption)).mono ?_; rintro e w1 ⟨rfl, rfl⟩))
    go_ret
    refine ⟨rfl, ?_⟩
    repeat (first | exact Below.refl _ _ | refine Below.alloc ?_ (by simp <;> omega) _ | refine Below.setCell ?_ (by simp <;> omega) _)
set_option maxRecDepth 100000 in
theorem mayInst_11 (a b n : Int) (w : World) : Calls Try.prog 35 #[.agg #[.int .i64 11, .int .i64 a, .int .i64 b, .int .i64 n]] w fun e w' => e = .returned (.bool (mayB (11, a, b, n))) ∧ Below w.heap.size w w' := by
  by_cases c0 : a = 0
  · subst c0
    by_cases c1 : b = 0
    · subst c1
      by_cases c2 : n = 0
      · subst c2
        rw [may_of (x := (11, 0, 0, 0)) (by unfold mayP; simp <;> omega)]
        go_enter Try.func35, Try.ntmps35
        go_wp2_with (first
          | (go_at_call 48; refine (has_yes _ _ (by assumption)).mono ?_; rintro e w1 ⟨rfl, rfl⟩)
          | (go_at_call 48; refine (has_no _ _ (by assumption)).mono ?_; rintro e w1 ⟨rfl, rfl⟩))
        go_ret
        refine ⟨rfl, ?_⟩
        repeat (first | exact Below.refl _ _ | refine Below.alloc ?_ (by simp <;> omega) _ | refine Below.setCell ?_ (by simp <;> omega) _)
      · have e2 : (n == 0) = false := by simpa using c2
        rw [may_not (x := (11, 0, 0, n)) (by unfold mayP; simp <;> omega)]
        go_enter Try.func35, Try.ntmps35
        go_wp2_with (first
          | (go_at_call 48; refine (has_yes _ _ (by assumption)).mono ?_; rintro e w1 ⟨rfl, rfl⟩)
          | (go_at_call 48; refine (has_no _ _ (by assumption)).mono ?_; rintro e w1 ⟨rfl, rfl⟩))
        go_ret
        refine ⟨rfl, ?_⟩
        repeat (first | exact Below.refl _ _ | refine Below.alloc ?_ (by simp <;> omega) _ | refine Below.setCell ?_ (by simp <;> omega) _)
    · have e1 : (b == 0) = false := by simpa using c1
      rw [may_not (x := (11, 0, b, n)) (by unfold mayP; simp <;> omega)]
      go_enter Try.func35, Try.ntmps35
      go_wp2_with (first
        | (go_at_call 48; refine (has_yes _ _ (by assumption)).mono ?_; rintro e w1 ⟨rfl, rfl⟩)
        | (go_at_call 48; refine (has_no _ _ (by assumption)).mono ?_; rintro e w1 ⟨rfl, rfl⟩))
      go_ret
      refine ⟨rfl, ?_⟩
      repeat (first | exact Below.refl _ _ | refine Below.alloc ?_ (by simp <;> omega) _ | refine Below.setCell ?_ (by simp <;> omega) _)
  · have e0 : (a == 0) = false := by simpa using c0
    rw [may_not (x := (11, a, b, n)) (by unfold mayP; simp <;> omega)]
    go_enter Try.func35, Try.ntmps35
    go_wp2_with (first
      | (go_at_call 48; refine (has_yes _ _ (by assumption)).mono ?_; rintro e w1 ⟨rfl, rfl⟩)
      | (go_at_call 48; refine (has_no _ _ (by assumption)).mono ?_; rintro e w1 ⟨rfl, rfl⟩))
    go_ret
    refine ⟨rfl, ?_⟩
    repeat (first | exact Below.refl _ _ | refine Below.alloc ?_ (by simp <;> omega) _ | refine Below.setCell ?_ (by simp <;> omega) _)
set_option maxRecDepth 100000 in
theorem mayInst_1 (a b n : Int) (w : World) : Calls Try.prog 35 #[.agg #[.int .i64 1, .int .i64 a, .int .i64 b, .int .i64 n]] w fun e w' => e = .returned (.bool (mayB (1, a, b, n))) ∧ Below w.heap.size w w' := by
  by_cases c0 : 0 ≤ a ∧ a ≤ 7
  · by_cases c1 : b = 0
    · subst c1
      by_cases c2 : -2147483648 ≤ n
      · have e2 : decide (-2147483648 ≤ n) = true := by simpa using c2
        by_cases c3 : n < 2147483648
        · have e3 : decide (n < 2147483648) = true := by simpa using c3
          rw [may_of (x := (1, a, 0, n)) (by unfold mayP; simp <;> omega)]
          go_enter Try.func35, Try.ntmps35
          go_wp2_with (first
            | (go_at_call 48; refine (has_yes _ _ (by assumption)).mono ?_; rintro e w1 ⟨rfl, rfl⟩)
            | (go_at_call 48; refine (has_no _ _ (by assumption)).mono ?_; rintro e w1 ⟨rfl, rfl⟩))
          go_ret
          refine ⟨rfl, ?_⟩
          repeat (first | exact Below.refl _ _ | refine Below.alloc ?_ (by simp <;> omega) _ | refine Below.setCell ?_ (by simp <;> omega) _)
        · have e3 : decide (n < 2147483648) = false := by simpa using c3
          rw [may_not (x := (1, a, 0, n)) (by unfold mayP; simp <;> omega)]
          go_enter Try.func35, Try.ntmps35
          go_wp2_with (first
            | (go_at_call 48; refine (has_yes _ _ (by assumption)).mono ?_; rintro e w1 ⟨rfl, rfl⟩)
            | (go_at_call 48; refine (has_no _ _ (by assumption)).mono ?_; rintro e w1 ⟨rfl, rfl⟩))
          go_ret
          refine ⟨rfl, ?_⟩
          repeat (first | exact Below.refl _ _ | refine Below.alloc ?_ (by simp <;> omega) _ | refine Below.setCell ?_ (by simp <;> omega) _)
      · have e2 : decide (-2147483648 ≤ n) = false := by simpa using c2
        rw [may_not (x := (1, a, 0, n)) (by unfold mayP; simp <;> omega)]
        go_enter Try.func35, Try.ntmps35
        go_wp2_with (first
          | (go_at_call 48; refine (has_yes _ _ (by assumption)).mono ?_; rintro e w1 ⟨rfl, rfl⟩)
          | (go_at_call 48; refine (has_no _ _ (by assumption)).mono ?_; rintro e w1 ⟨rfl, rfl⟩))
        go_ret
        refine ⟨rfl, ?_⟩
        repeat (first | exact Below.refl _ _ | refine Below.alloc ?_ (by simp <;> omega) _ | refine Below.setCell ?_ (by simp <;> omega) _)
    · have e1 : (b == 0) = false := by simpa using c1
      rw [may_not (x := (1, a, b, n)) (by unfold mayP; simp <;> omega)]
      go_enter Try.func35, Try.ntmps35
      go_wp2_with (first
        | (go_at_call 48; refine (has_yes _ _ (by assumption)).mono ?_; rintro e w1 ⟨rfl, rfl⟩)
        | (go_at_call 48; refine (has_no _ _ (by assumption)).mono ?_; rintro e w1 ⟨rfl, rfl⟩))
      go_ret
      refine ⟨rfl, ?_⟩
      repeat (first | exact Below.refl _ _ | refine Below.alloc ?_ (by simp <;> omega) _ | refine Below.setCell ?_ (by simp <;> omega) _)
  · rw [may_not (x := (1, a, b, n)) (by unfold mayP; simp <;> omega)]
    go_enter Try.func35, Try.ntmps35
    go_wp2_with (first
      | (go_at_call 48; refine (has_yes _ _ (by assumption)).mono ?_; rintro e w1 ⟨rfl, rfl⟩)
      | (go_at_call 48; refine (has_no _ _ (by assumption)).mono ?_; rintro e w1 ⟨rfl, rfl⟩))
    go_ret
    refine ⟨rfl, ?_⟩
    repeat (first | exact Below.refl _ _ | refine Below.alloc ?_ (by simp <;> omega) _ | refine Below.setCell ?_ (by simp <;> omega) _)
set_option maxRecDepth 100000 in
theorem mayInst_2 (a b n : Int) (w : World) : Calls Try.prog 35 #[.agg #[.int .i64 2, .int .i64 a, .int .i64 b, .int .i64 n]] w fun e w' => e = .returned (.bool (mayB (2, a, b, n))) ∧ Below w.heap.size w w' := by
  by_cases c0 : 0 ≤ a ∧ a ≤ 7
  · by_cases c1 : 0 ≤ b ∧ b ≤ 7
    · by_cases c2 : n = 0
      · subst c2
        rw [may_of (x := (2, a, b, 0)) (by unfold mayP; simp <;> omega)]
        go_enter Try.func35, Try.ntmps35
        go_wp2_with (first
          | (go_at_call 48; refine (has_yes _ _ (by assumption)).mono ?_; rintro e w1 ⟨rfl, rfl⟩)
          | (go_at_call 48; refine (has_no _ _ (by assumption)).mono ?_; rintro e w1 ⟨rfl, rfl⟩))
        go_ret
        refine ⟨rfl, ?_⟩
        repeat (first | exact Below.refl _ _ | refine Below.alloc ?_ (by simp <;> omega) _ | refine Below.setCell ?_ (by simp <;> omega) _)
      · have e2 : (n == 0) = false := by simpa using c2
        rw [may_not (x := (2, a, b, n)) (by unfold mayP; simp <;> omega)]
        go_enter Try.func35, Try.ntmps35
        go_wp2_with (first
          | (go_at_call 48; refine (has_yes _ _ (by assumption)).mono ?_; rintro e w1 ⟨rfl, rfl⟩)
          | (go_at_call 48; refine (has_no _ _ (by assumption)).mono ?_; rintro e w1 ⟨rfl, rfl⟩))
        go_ret
        refine ⟨rfl, ?_⟩
        repeat (first | exact Below.refl _ _ | refine Below.alloc ?_ (by simp <;> omega) _ | refine Below.setCell ?_ (by simp <;> omega) _)
    · rw [may_not (x := (2, a, b, n)) (by unfold mayP; simp <;> omega)]
      go_enter Try.func35, Try.ntmps35
      go_wp2_with (first
        | (go_at_call 48; refine (has_yes _ _ (by assumption)).mono ?_; rintro e w1 ⟨rfl, rfl⟩)
        | (go_at_call 48; refine (has_no _ _ (by assumption)).mono ?_; rintro e w1 ⟨rfl, rfl⟩))
      go_ret
      refine ⟨rfl, ?_⟩
      repeat (first | exact Below.refl _ _ | refine Below.alloc ?_ (by simp <;> omega) _ | refine Below.setCell ?_ (by simp <;> omega) _)
  · rw [may_not (x := (2, a, b, n)) (by unfold mayP; simp <;> omega)]
    go_enter Try.func35, Try.ntmps35
    go_wp2_with (first
      | (go_at_call 48; refine (has_yes _ _ (by assumption)).mono ?_; rintro e w1 ⟨rfl, rfl⟩)
      | (go_at_call 48; refine (has_no _ _ (by assumption)).mono ?_; rintro e w1 ⟨rfl, rfl⟩))
    go_ret
    refine ⟨rfl, ?_⟩
    repeat (first | exact Below.refl _ _ | refine Below.alloc ?_ (by simp <;> omega) _ | refine Below.setCell ?_ (by simp <;> omega) _)
set_option maxRecDepth 100000 in
theorem mayInst_3 (a b n : Int) (w : World) : Calls Try.prog 35 #[.agg #[.int .i64 3, .int .i64 a, .int .i64 b, .int .i64 n]] w fun e w' => e = .returned (.bool (mayB (3, a, b, n))) ∧ Below w.heap.size w w' := by
  by_cases c0 : 0 ≤ a ∧ a ≤ 7
  · by_cases c1 : 0 ≤ b ∧ b ≤ 7
    · by_cases c2 : n = 0
      · subst c2
        rw [may_of (x := (3, a, b, 0)) (by unfold mayP; simp <;> omega)]
        go_enter Try.func35, Try.ntmps35
        go_wp2_with (first
          | (go_at_call 48; refine (has_yes _ _ (by assumption)).mono ?_; rintro e w1 ⟨rfl, rfl⟩)
          | (go_at_call 48; refine (has_no _ _ (by assumption)).mono ?_; rintro e w1 ⟨rfl, rfl⟩))
        go_ret
        refine ⟨rfl, ?_⟩
        repeat (first | exact Below.refl _ _ | refine Below.alloc ?_ (by simp <;> omega) _ | refine Below.setCell ?_ (by simp <;> omega) _)
      · have e2 : (n == 0) = false := by simpa using c2
        rw [may_not (x := (3, a, b, n)) (by unfold mayP; simp <;> omega)]
        go_enter Try.func35, Try.ntmps35
        go_wp2_with (first
          | (go_at_call 48; refine (has_yes _ _ (by assumption)).mono ?_; rintro e w1 ⟨rfl, rfl⟩)
          | (go_at_call 48; refine (has_no _ _ (by assumption)).mono ?_; rintro e w1 ⟨rfl, rfl⟩))
        go_ret
        refine ⟨rfl, ?_⟩
        repeat (first | exact Below.refl _ _ | refine Below.alloc ?_ (by simp <;> omega) _ | refine Below.setCell ?_ (by simp <;> omega) _)
    · rw [may_not (x := (3, a, b, n)) (by unfold mayP; simp <;> omega)]
      go_enter Try.func35, Try.ntmps35
      go_wp2_with (first
        | (go_at_call 48; refine (has_yes _ _ (by assumption)).mono ?_; rintro e w1 ⟨rfl, rfl⟩)
        | (go_at_call 48; refine (has_no _ _ (by assumption)).mono ?_; rintro e w1 ⟨rfl, rfl⟩))
      go_ret
      refine ⟨rfl, ?_⟩
      repeat (first | exact Below.refl _ _ | refine Below.alloc ?_ (by simp <;> omega) _ | refine Below.setCell ?_ (by simp <;> omega) _)
  · rw [may_not (x := (3, a, b, n)) (by unfold mayP; simp <;> omega)]
    go_enter Try.func35, Try.ntmps35
    go_wp2_with (first
      | (go_at_call 48; refine (has_yes _ _ (by assumption)).mono ?_; rintro e w1 ⟨rfl, rfl⟩)
      | (go_at_call 48; refine (has_no _ _ (by assumption)).mono ?_; rintro e w1 ⟨rfl, rfl⟩))
    go_ret
    refine ⟨rfl, ?_⟩
    repeat (first | exact Below.refl _ _ | refine Below.alloc ?_ (by simp <;> omega) _ | refine Below.setCell ?_ (by simp <;> omega) _)
set_option maxRecDepth 100000 in
theorem mayInst_4 (a b n : Int) (w : World) : Calls Try.prog 35 #[.agg #[.int .i64 4, .int .i64 a, .int .i64 b, .int .i64 n]] w fun e w' => e = .returned (.bool (mayB (4, a, b, n))) ∧ Below w.heap.size w w' := by
  by_cases c0 : 0 ≤ a ∧ a ≤ 7
  · by_cases c1 : 0 ≤ b ∧ b ≤ 7
    · by_cases c2 : n = 0
      · subst c2
        rw [may_of (x := (4, a, b, 0)) (by unfold mayP; simp <;> omega)]
        go_enter Try.func35, Try.ntmps35
        go_wp2_with (first
          | (go_at_call 48; refine (has_yes _ _ (by assumption)).mono ?_; rintro e w1 ⟨rfl, rfl⟩)
          | (go_at_call 48; refine (has_no _ _ (by assumption)).mono ?_; rintro e w1 ⟨rfl, rfl⟩))
        go_ret
        refine ⟨rfl, ?_⟩
        repeat (first | exact Below.refl _ _ | refine Below.alloc ?_ (by simp <;> omega) _ | refine Below.setCell ?_ (by simp <;> omega) _)
      · have e2 : (n == 0) = false := by simpa using c2
        rw [may_not (x := (4, a, b, n)) (by unfold mayP; simp <;> omega)]
        go_enter Try.func35, Try.ntmps35
        go_wp2_with (first
          | (go_at_call 48; refine (has_yes _ _ (by assumption)).mono ?_; rintro e w1 ⟨rfl, rfl⟩)
          | (go_at_call 48; refine (has_no _ _ (by assumption)).mono ?_; rintro e w1 ⟨rfl, rfl⟩))
        go_ret
        refine ⟨rfl, ?_⟩
        repeat (first | exact Below.refl _ _ | refine Below.alloc ?_ (by simp <;> omega) _ | refine Below.setCell ?_ (by simp <;> omega) _)
    · rw [may_not (x := (4, a, b, n)) (by unfold mayP; simp <;> omega)]
      go_enter Try.func35, Try.ntmps35
      go_wp2_with (first
        | (go_at_call 48; refine (has_yes _ _ (by assumption)).mono ?_; rintro e w1 ⟨rfl, rfl⟩)
        | (go_at_call 48; refine (has_no _ _ (by assumption)).mono ?_; rintro e w1 ⟨rfl, rfl⟩))
      go_ret
      refine ⟨rfl, ?_⟩
      repeat (first | exact Below.refl _ _ | refine Below.alloc ?_ (by simp <;> omega) _ | refine Below.setCell ?_ (by simp <;> omega) _)
  · rw [may_not (x := (4, a, b, n)) (by unfold mayP; simp <;> omega)]
    go_enter Try.func35, Try.ntmps35
    go_wp2_with (first
      | (go_at_call 48; refine (has_yes _ _ (by assumption)).mono ?_; rintro e w1 ⟨rfl, rfl⟩)
      | (go_at_call 48; refine (has_no _ _ (by assumption)).mono ?_; rintro e w1 ⟨rfl, rfl⟩))
    go_ret
    refine ⟨rfl, ?_⟩
    repeat (first | exact Below.refl _ _ | refine Below.alloc ?_ (by simp <;> omega) _ | refine Below.setCell ?_ (by simp <;> omega) _)
set_option maxRecDepth 100000 in
theorem mayInst_5 (a b n : Int) (w : World) : Calls Try.prog 35 #[.agg #[.int .i64 5, .int .i64 a, .int .i64 b, .int .i64 n]] w fun e w' => e = .returned (.bool (mayB (5, a, b, n))) ∧ Below w.heap.size w w' := by
  by_cases c0 : 0 ≤ a ∧ a ≤ 7
  · by_cases c1 : b = 0
    · subst c1
      by_cases c2 : -63 ≤ n
      · have e2 : decide (-63 ≤ n) = true := by simpa using c2
        by_cases c3 : n ≤ 63
        · have e3 : decide (n ≤ 63) = true := by simpa using c3
          rw [may_of (x := (5, a, 0, n)) (by unfold mayP; simp <;> omega)]
          go_enter Try.func35, Try.ntmps35
          go_wp2_with (first
            | (go_at_call 48; refine (has_yes _ _ (by assumption)).mono ?_; rintro e w1 ⟨rfl, rfl⟩)
            | (go_at_call 48; refine (has_no _ _ (by assumption)).mono ?_; rintro e w1 ⟨rfl, rfl⟩))
          go_ret
          refine ⟨rfl, ?_⟩
          repeat (first | exact Below.refl _ _ | refine Below.alloc ?_ (by simp <;> omega) _ | refine Below.setCell ?_ (by simp <;> omega) _)
        · have e3 : decide (n ≤ 63) = false := by simpa using c3
          rw [may_not (x := (5, a, 0, n)) (by unfold mayP; simp <;> omega)]
          go_enter Try.func35, Try.ntmps35
          go_wp2_with (first
            | (go_at_call 48; refine (has_yes _ _ (by assumption)).mono ?_; rintro e w1 ⟨rfl, rfl⟩)
            | (go_at_call 48; refine (has_no _ _ (by assumption)).mono ?_; rintro e w1 ⟨rfl, rfl⟩))
          go_ret
          refine ⟨rfl, ?_⟩
          repeat (first | exact Below.refl _ _ | refine Below.alloc ?_ (by simp <;> omega) _ | refine Below.setCell ?_ (by simp <;> omega) _)
      · have e2 : decide (-63 ≤ n) = false := by simpa using c2
        rw [may_not (x := (5, a, 0, n)) (by unfold mayP; simp <;> omega)]
        go_enter Try.func35, Try.ntmps35
        go_wp2_with (first
          | (go_at_call 48; refine (has_yes _ _ (by assumption)).mono ?_; rintro e w1 ⟨rfl, rfl⟩)
          | (go_at_call 48; refine (has_no _ _ (by assumption)).mono ?_; rintro e w1 ⟨rfl, rfl⟩))
        go_ret
        refine ⟨rfl, ?_⟩
        repeat (first | exact Below.refl _ _ | refine Below.alloc ?_ (by simp <;> omega) _ | refine Below.setCell ?_ (by simp <;> omega) _)
    · have e1 : (b == 0) = false := by simpa using c1
      rw [may_not (x := (5, a, b, n)) (by unfold mayP; simp <;> omega)]
      go_enter Try.func35, Try.ntmps35
      go_wp2_with (first
        | (go_at_call 48; refine (has_yes _ _ (by assumption)).mono ?_; rintro e w1 ⟨rfl, rfl⟩)
        | (go_at_call 48; refine (has_no _ _ (by assumption)).mono ?_; rintro e w1 ⟨rfl, rfl⟩))
      go_ret
      refine ⟨rfl, ?_⟩
      repeat (first | exact Below.refl _ _ | refine Below.alloc ?_ (by simp <;> omega) _ | refine Below.setCell ?_ (by simp <;> omega) _)
  · rw [may_not (x := (5, a, b, n)) (by unfold mayP; simp <;> omega)]
    go_enter Try.func35, Try.ntmps35
    go_wp2_with (first
      | (go_at_call 48; refine (has_yes _ _ (by assumption)).mono ?_; rintro e w1 ⟨rfl, rfl⟩)
      | (go_at_call 48; refine (has_no _ _ (by assumption)).mono ?_; rintro e w1 ⟨rfl, rfl⟩))
    go_ret
    refine ⟨rfl, ?_⟩
    repeat (first | exact Below.refl _ _ | refine Below.alloc ?_ (by simp <;> omega) _ | refine Below.setCell ?_ (by simp <;> omega) _)
set_option maxRecDepth 100000 in
theorem mayInst_6 (a b n : Int) (w : World) : Calls Try.prog 35 #[.agg #[.int .i64 6, .int .i64 a, .int .i64 b, .int .i64 n]] w fun e w' => e = .returned (.bool (mayB (6, a, b, n))) ∧ Below w.heap.size w w' := by
  by_cases c0 : 0 ≤ a ∧ a ≤ 7
  · by_cases c1 : b = 0
    · subst c1
      by_cases c2 : 1 ≤ n
      · have e2 : decide (1 ≤ n) = true := by simpa using c2
        by_cases c3 : n ≤ 64
        · have e3 : decide (n ≤ 64) = true := by simpa using c3
          rw [may_of (x := (6, a, 0, n)) (by unfold mayP; simp <;> omega)]
          go_enter Try.func35, Try.ntmps35
          go_wp2_with (first
            | (go_at_call 48; refine (has_yes _ _ (by assumption)).mono ?_; rintro e w1 ⟨rfl, rfl⟩)
            | (go_at_call 48; refine (has_no _ _ (by assumption)).mono ?_; rintro e w1 ⟨rfl, rfl⟩))
          go_ret
          refine ⟨rfl, ?_⟩
          repeat (first | exact Below.refl _ _ | refine Below.alloc ?_ (by simp <;> omega) _ | refine Below.setCell ?_ (by simp <;> omega) _)
        · have e3 : decide (n ≤ 64) = false := by simpa using c3
          rw [may_not (x := (6, a, 0, n)) (by unfold mayP; simp <;> omega)]
          go_enter Try.func35, Try.ntmps35
          go_wp2_with (first
            | (go_at_call 48; refine (has_yes _ _ (by assumption)).mono ?_; rintro e w1 ⟨rfl, rfl⟩)
            | (go_at_call 48; refine (has_no _ _ (by assumption)).mono ?_; rintro e w1 ⟨rfl, rfl⟩))
          go_ret
          refine ⟨rfl, ?_⟩
          repeat (first | exact Below.refl _ _ | refine Below.alloc ?_ (by simp <;> omega) _ | refine Below.setCell ?_ (by simp <;> omega) _)
      · have e2 : decide (1 ≤ n) = false := by simpa using c2
        rw [may_not (x := (6, a, 0, n)) (by unfold mayP; simp <;> omega)]
        go_enter Try.func35, Try.ntmps35
        go_wp2_with (first
          | (go_at_call 48; refine (has_yes _ _ (by assumption)).mono ?_; rintro e w1 ⟨rfl, rfl⟩)
          | (go_at_call 48; refine (has_no _ _ (by assumption)).mono ?_; rintro e w1 ⟨rfl, rfl⟩))
        go_ret
        refine ⟨rfl, ?_⟩
        repeat (first | exact Below.refl _ _ | refine Below.alloc ?_ (by simp <;> omega) _ | refine Below.setCell ?_ (by simp <;> omega) _)
    · have e1 : (b == 0) = false := by simpa using c1
      rw [may_not (x := (6, a, b, n)) (by unfold mayP; simp <;> omega)]
      go_enter Try.func35, Try.ntmps35
      go_wp2_with (first
        | (go_at_call 48; refine (has_yes _ _ (by assumption)).mono ?_; rintro e w1 ⟨rfl, rfl⟩)
        | (go_at_call 48; refine (has_no _ _ (by assumption)).mono ?_; rintro e w1 ⟨rfl, rfl⟩))
      go_ret
      refine ⟨rfl, ?_⟩
      repeat (first | exact Below.refl _ _ | refine Below.alloc ?_ (by simp <;> omega) _ | refine Below.setCell ?_ (by simp <;> omega) _)
  · rw [may_not (x := (6, a, b, n)) (by unfold mayP; simp <;> omega)]
    go_enter Try.func35, Try.ntmps35
    go_wp2_with (first
      | (go_at_call 48; refine (has_yes _ _ (by assumption)).mono ?_; rintro e w1 ⟨rfl, rfl⟩)
      | (go_at_call 48; refine (has_no _ _ (by assumption)).mono ?_; rintro e w1 ⟨rfl, rfl⟩))
    go_ret
    refine ⟨rfl, ?_⟩
    repeat (first | exact Below.refl _ _ | refine Below.alloc ?_ (by simp <;> omega) _ | refine Below.setCell ?_ (by simp <;> omega) _)
set_option maxRecDepth 100000 in
theorem mayInst_7 (a b n : Int) (w : World) : Calls Try.prog 35 #[.agg #[.int .i64 7, .int .i64 a, .int .i64 b, .int .i64 n]] w fun e w' => e = .returned (.bool (mayB (7, a, b, n))) ∧ Below w.heap.size w w' := by
  by_cases c0 : 0 ≤ a ∧ a ≤ 7
  · by_cases c1 : b = 0
    · subst c1
      by_cases c2 : 1 ≤ n
      · have e2 : decide (1 ≤ n) = true := by simpa using c2
        by_cases c3 : n ≤ 24
        · have e3 : decide (n ≤ 24) = true := by simpa using c3
          rw [may_of (x := (7, a, 0, n)) (by unfold mayP; simp <;> omega)]
          go_enter Try.func35, Try.ntmps35
          go_wp2_with (first
            | (go_at_call 48; refine (has_yes _ _ (by assumption)).mono ?_; rintro e w1 ⟨rfl, rfl⟩)
            | (go_at_call 48; refine (has_no _ _ (by assumption)).mono ?_; rintro e w1 ⟨rfl, rfl⟩))
          go_ret
          refine ⟨rfl, ?_⟩
          repeat (first | exact Below.refl _ _ | refine Below.alloc ?_ (by simp <;> omega) _ | refine Below.setCell ?_ (by simp <;> omega) _)
        · have e3 : decide (n ≤ 24) = false := by simpa using c3
          rw [may_not (x := (7, a, 0, n)) (by unfold mayP; simp <;> omega)]
          go_enter Try.func35, Try.ntmps35
          go_wp2_with (first
            | (go_at_call 48; refine (has_yes _ _ (by assumption)).mono ?_; rintro e w1 ⟨rfl, rfl⟩)
            | (go_at_call 48; refine (has_no _ _ (by assumption)).mono ?_; rintro e w1 ⟨rfl, rfl⟩))
          go_ret
          refine ⟨rfl, ?_⟩
          repeat (first | exact Below.refl _ _ | refine Below.alloc ?_ (by simp <;> omega) _ | refine Below.setCell ?_ (by simp <;> omega) _)
      · have e2 : decide (1 ≤ n) = false := by simpa using c2
        rw [may_not (x := (7, a, 0, n)) (by unfold mayP; simp <;> omega)]
        go_enter Try.func35, Try.ntmps35
        go_wp2_with (first
          | (go_at_call 48; refine (has_yes _ _ (by assumption)).mono ?_; rintro e w1 ⟨rfl, rfl⟩)
          | (go_at_call 48; refine (has_no _ _ (by assumption)).mono ?_; rintro e w1 ⟨rfl, rfl⟩))
        go_ret
        refine ⟨rfl, ?_⟩
        repeat (first | exact Below.refl _ _ | refine Below.alloc ?_ (by simp <;> omega) _ | refine Below.setCell ?_ (by simp <;> omega) _)
    · have e1 : (b == 0) = false := by simpa using c1
      rw [may_not (x := (7, a, b, n)) (by unfold mayP; simp <;> omega)]
      go_enter Try.func35, Try.ntmps35
      go_wp2_with (first
        | (go_at_call 48; refine (has_yes _ _ (by assumption)).mono ?_; rintro e w1 ⟨rfl, rfl⟩)
        | (go_at_call 48; refine (has_no _ _ (by assumption)).mono ?_; rintro e w1 ⟨rfl, rfl⟩))
      go_ret
      refine ⟨rfl, ?_⟩
      repeat (first | exact Below.refl _ _ | refine Below.alloc ?_ (by simp <;> omega) _ | refine Below.setCell ?_ (by simp <;> omega) _)
  · rw [may_not (x := (7, a, b, n)) (by unfold mayP; simp <;> omega)]
    go_enter Try.func35, Try.ntmps35
    go_wp2_with (first
      | (go_at_call 48; refine (has_yes _ _ (by assumption)).mono ?_; rintro e w1 ⟨rfl, rfl⟩)
      | (go_at_call 48; refine (has_no _ _ (by assumption)).mono ?_; rintro e w1 ⟨rfl, rfl⟩))
    go_ret
    refine ⟨rfl, ?_⟩
    repeat (first | exact Below.refl _ _ | refine Below.alloc ?_ (by simp <;> omega) _ | refine Below.setCell ?_ (by simp <;> omega) _)
set_option maxRecDepth 100000 in
theorem mayInst_8 (a b n : Int) (w : World) : Calls Try.prog 35 #[.agg #[.int .i64 8, .int .i64 a, .int .i64 b, .int .i64 n]] w fun e w' => e = .returned (.bool (mayB (8, a, b, n))) ∧ Below w.heap.size w w' := by
  by_cases c0 : a = 0
  · subst c0
    by_cases c1 : 1 ≤ b
    · have e1 : decide (1 ≤ b) = true := by simpa using c1
      by_cases c2 : b ≤ 24
      · have e2 : decide (b ≤ 24) = true := by simpa using c2
        by_cases c3 : 1 ≤ n
        · have e3 : decide (1 ≤ n) = true := by simpa using c3
          by_cases c4 : n ≤ 20
          · have e4 : decide (n ≤ 20) = true := by simpa using c4
            rw [may_of (x := (8, 0, b, n)) (by unfold mayP; simp <;> omega)]
            go_enter Try.func35, Try.ntmps35
            go_wp2_with (first
              | (go_at_call 48; refine (has_yes _ _ (by assumption)).mono ?_; rintro e w1 ⟨rfl, rfl⟩)
              | (go_at_call 48; refine (has_no _ _ (by assumption)).mono ?_; rintro e w1 ⟨rfl, rfl⟩))
            go_ret
            refine ⟨rfl, ?_⟩
            repeat (first | exact Below.refl _ _ | refine Below.alloc ?_ (by simp <;> omega) _ | refine Below.setCell ?_ (by simp <;> omega) _)
          · have e4 : decide (n ≤ 20) = false := by simpa using c4
            rw [may_not (x := (8, 0, b, n)) (by unfold mayP; simp <;> omega)]
            go_enter Try.func35, Try.ntmps35
            go_wp2_with (first
              | (go_at_call 48; refine (has_yes _ _ (by assumption)).mono ?_; rintro e w1 ⟨rfl, rfl⟩)
              | (go_at_call 48; refine (has_no _ _ (by assumption)).mono ?_; rintro e w1 ⟨rfl, rfl⟩))
            go_ret
            refine ⟨rfl, ?_⟩
            repeat (first | exact Below.refl _ _ | refine Below.alloc ?_ (by simp <;> omega) _ | refine Below.setCell ?_ (by simp <;> omega) _)
        · have e3 : decide (1 ≤ n) = false := by simpa using c3
          rw [may_not (x := (8, 0, b, n)) (by unfold mayP; simp <;> omega)]
          go_enter Try.func35, Try.ntmps35
          go_wp2_with (first
            | (go_at_call 48; refine (has_yes _ _ (by assumption)).mono ?_; rintro e w1 ⟨rfl, rfl⟩)
            | (go_at_call 48; refine (has_no _ _ (by assumption)).mono ?_; rintro e w1 ⟨rfl, rfl⟩))
          go_ret
          refine ⟨rfl, ?_⟩
          repeat (first | exact Below.refl _ _ | refine Below.alloc ?_ (by simp <;> omega) _ | refine Below.setCell ?_ (by simp <;> omega) _)
      · have e2 : decide (b ≤ 24) = false := by simpa using c2
        rw [may_not (x := (8, 0, b, n)) (by unfold mayP; simp <;> omega)]
        go_enter Try.func35, Try.ntmps35
        go_wp2_with (first
          | (go_at_call 48; refine (has_yes _ _ (by assumption)).mono ?_; rintro e w1 ⟨rfl, rfl⟩)
          | (go_at_call 48; refine (has_no _ _ (by assumption)).mono ?_; rintro e w1 ⟨rfl, rfl⟩))
        go_ret
        refine ⟨rfl, ?_⟩
        repeat (first | exact Below.refl _ _ | refine Below.alloc ?_ (by simp <;> omega) _ | refine Below.setCell ?_ (by simp <;> omega) _)
    · have e1 : decide (1 ≤ b) = false := by simpa using c1
      rw [may_not (x := (8, 0, b, n)) (by unfold mayP; simp <;> omega)]
      go_enter Try.func35, Try.ntmps35
      go_wp2_with (first
        | (go_at_call 48; refine (has_yes _ _ (by assumption)).mono ?_; rintro e w1 ⟨rfl, rfl⟩)
        | (go_at_call 48; refine (has_no _ _ (by assumption)).mono ?_; rintro e w1 ⟨rfl, rfl⟩))
      go_ret
      refine ⟨rfl, ?_⟩
      repeat (first | exact Below.refl _ _ | refine Below.alloc ?_ (by simp <;> omega) _ | refine Below.setCell ?_ (by simp <;> omega) _)
  · have e0 : (a == 0) = false := by simpa using c0
    rw [may_not (x := (8, a, b, n)) (by unfold mayP; simp <;> omega)]
    go_enter Try.func35, Try.ntmps35
    go_wp2_with (first
      | (go_at_call 48; refine (has_yes _ _ (by assumption)).mono ?_; rintro e w1 ⟨rfl, rfl⟩)
      | (go_at_call 48; refine (has_no _ _ (by assumption)).mono ?_; rintro e w1 ⟨rfl, rfl⟩))
    go_ret
    refine ⟨rfl, ?_⟩
    repeat (first | exact Below.refl _ _ | refine Below.alloc ?_ (by simp <;> omega) _ | refine Below.setCell ?_ (by simp <;> omega) _)
set_option maxRecDepth 100000 in
theorem mayInst_9 (a b n : Int) (w : World) : Calls Try.prog 35 #[.agg #[.int .i64 9, .int .i64 a, .int .i64 b, .int .i64 n]] w fun e w' => e = .returned (.bool (mayB (9, a, b, n))) ∧ Below w.heap.size w w' := by
  by_cases c0 : 0 ≤ a
  · have e0 : decide (0 ≤ a) = true := by simpa using c0
    by_cases c1 : a < 4
    · have e1 : decide (a < 4) = true := by simpa using c1
      by_cases c2 : b = 0
      · subst c2
        by_cases c3 : n = 0
        · subst c3
          rw [may_of (x := (9, a, 0, 0)) (by unfold mayP; simp <;> omega)]
          go_enter Try.func35, Try.ntmps35
          go_wp2_with (first
            | (go_at_call 48; refine (has_yes _ _ (by assumption)).mono ?_; rintro e w1 ⟨rfl, rfl⟩)
            | (go_at_call 48; refine (has_no _ _ (by assumption)).mono ?_; rintro e w1 ⟨rfl, rfl⟩))
          go_ret
          refine ⟨rfl, ?_⟩
          repeat (first | exact Below.refl _ _ | refine Below.alloc ?_ (by simp <;> omega) _ | refine Below.setCell ?_ (by simp <;> omega) _)
        · have e3 : (n == 0) = false := by simpa using c3
          rw [may_not (x := (9, a, 0, n)) (by unfold mayP; simp <;> omega)]
          go_enter Try.func35, Try.ntmps35
          go_wp2_with (first
            | (go_at_call 48; refine (has_yes _ _ (by assumption)).mono ?_; rintro e w1 ⟨rfl, rfl⟩)
            | (go_at_call 48; refine (has_no _ _ (by assumption)).mono ?_; rintro e w1 ⟨rfl, rfl⟩))
          go_ret
          refine ⟨rfl, ?_⟩
          repeat (first | exact Below.refl _ _ | refine Below.alloc ?_ (by simp <;> omega) _ | refine Below.setCell ?_ (by simp <;> omega) _)
      · have e2 : (b == 0) = false := by simpa using c2
        rw [may_not (x := (9, a, b, n)) (by unfold mayP; simp <;> omega)]
        go_enter Try.func35, Try.ntmps35
        go_wp2_with (first
          | (go_at_call 48; refine (has_yes _ _ (by assumption)).mono ?_; rintro e w1 ⟨rfl, rfl⟩)
          | (go_at_call 48; refine (has_no _ _ (by assumption)).mono ?_; rintro e w1 ⟨rfl, rfl⟩))
        go_ret
        refine ⟨rfl, ?_⟩
        repeat (first | exact Below.refl _ _ | refine Below.alloc ?_ (by simp <;> omega) _ | refine Below.setCell ?_ (by simp <;> omega) _)
    · have e1 : decide (a < 4) = false := by simpa using c1
      rw [may_not (x := (9, a, b, n)) (by unfold mayP; simp <;> omega)]
      go_enter Try.func35, Try.ntmps35
      go_wp2_with (first
        | (go_at_call 48; refine (has_yes _ _ (by assumption)).mono ?_; rintro e w1 ⟨rfl, rfl⟩)
        | (go_at_call 48; refine (has_no _ _ (by assumption)).mono ?_; rintro e w1 ⟨rfl, rfl⟩))
      go_ret
      refine ⟨rfl, ?_⟩
      repeat (first | exact Below.refl _ _ | refine Below.alloc ?_ (by simp <;> omega) _ | refine Below.setCell ?_ (by simp <;> omega) _)
  · have e0 : decide (0 ≤ a) = false := by simpa using c0
    rw [may_not (x := (9, a, b, n)) (by unfold mayP; simp <;> omega)]
    go_enter Try.func35, Try.ntmps35
    go_wp2_with (first
      | (go_at_call 48; refine (has_yes _ _ (by assumption)).mono ?_; rintro e w1 ⟨rfl, rfl⟩)
      | (go_at_call 48; refine (has_no _ _ (by assumption)).mono ?_; rintro e w1 ⟨rfl, rfl⟩))
    go_ret
    refine ⟨rfl, ?_⟩
    repeat (first | exact Below.refl _ _ | refine Below.alloc ?_ (by simp <;> omega) _ | refine Below.setCell ?_ (by simp <;> omega) _)
set_option maxRecDepth 100000 in
theorem mayInst_10 (a b n : Int) (w : World) : Calls Try.prog 35 #[.agg #[.int .i64 10, .int .i64 a, .int .i64 b, .int .i64 n]] w fun e w' => e = .returned (.bool (mayB (10, a, b, n))) ∧ Below w.heap.size w w' := by
  by_cases c0 : 0 ≤ a
  · have e0 : decide (0 ≤ a) = true := by simpa using c0
    by_cases c1 : a < 4
    · have e1 : decide (a < 4) = true := by simpa using c1
      by_cases c2 : b = 0
      · subst c2
        by_cases c3 : n = 0
        · subst c3
          rw [may_of (x := (10, a, 0, 0)) (by unfold mayP; simp <;> omega)]
          go_enter Try.func35, Try.ntmps35
          go_wp2_with (first
            | (go_at_call 48; refine (has_yes _ _ (by assumption)).mono ?_; rintro e w1 ⟨rfl, rfl⟩)
            | (go_at_call 48; refine (has_no _ _ (by assumption)).mono ?_; rintro e w1 ⟨rfl, rfl⟩))
          go_ret
          refine ⟨rfl, ?_⟩
          repeat (first | exact Below.refl _ _ | refine Below.alloc ?_ (by simp <;> omega) _ | refine Below.setCell ?_ (by simp <;> omega) _)
        · have e3 : (n == 0) = false := by simpa using c3
          rw [may_not (x := (10, a, 0, n)) (by unfold mayP; simp <;> omega)]
          go_enter Try.func35, Try.ntmps35
          go_wp2_with (first
            | (go_at_call 48; refine (has_yes _ _ (by assumption)).mono ?_; rintro e w1 ⟨rfl, rfl⟩)
            | (go_at_call 48; refine (has_no _ _ (by assumption)).mono ?_; rintro e w1 ⟨rfl, rfl⟩))
          go_ret
          refine ⟨rfl, ?_⟩
          repeat (first | exact Below.refl _ _ | refine Below.alloc ?_ (by simp <;> omega) _ | refine Below.setCell ?_ (by simp <;> omega) _)
      · have e2 : (b == 0) = false := by simpa using c2
        rw [may_not (x := (10, a, b, n)) (by unfold mayP; simp <;> omega)]
        go_enter Try.func35, Try.ntmps35
        go_wp2_with (first
          | (go_at_call 48; refine (has_yes _ _ (by assumption)).mono ?_; rintro e w1 ⟨rfl, rfl⟩)
          | (go_at_call 48; refine (has_no _ _ (by assumption)).mono ?_; rintro e w1 ⟨rfl, rfl⟩))
        go_ret
        refine ⟨rfl, ?_⟩
        repeat (first | exact Below.refl _ _ | refine Below.alloc ?_ (by simp <;> omega) _ | refine Below.setCell ?_ (by simp <;> omega) _)
    · have e1 : decide (a < 4) = false := by simpa using c1
      rw [may_not (x := (10, a, b, n)) (by unfold mayP; simp <;> omega)]
      go_enter Try.func35, Try.ntmps35
      go_wp2_with (first
        | (go_at_call 48; refine (has_yes _ _ (by assumption)).mono ?_; rintro e w1 ⟨rfl, rfl⟩)
        | (go_at_call 48; refine (has_no _ _ (by assumption)).mono ?_; rintro e w1 ⟨rfl, rfl⟩))
      go_ret
      refine ⟨rfl, ?_⟩
      repeat (first | exact Below.refl _ _ | refine Below.alloc ?_ (by simp <;> omega) _ | refine Below.setCell ?_ (by simp <;> omega) _)
  · have e0 : decide (0 ≤ a) = false := by simpa using c0
    rw [may_not (x := (10, a, b, n)) (by unfold mayP; simp <;> omega)]
    go_enter Try.func35, Try.ntmps35
    go_wp2_with (first
      | (go_at_call 48; refine (has_yes _ _ (by assumption)).mono ?_; rintro e w1 ⟨rfl, rfl⟩)
      | (go_at_call 48; refine (has_no _ _ (by assumption)).mono ?_; rintro e w1 ⟨rfl, rfl⟩))
    go_ret
    refine ⟨rfl, ?_⟩
    repeat (first | exact Below.refl _ _ | refine Below.alloc ?_ (by simp <;> omega) _ | refine Below.setCell ?_ (by simp <;> omega) _)
set_option maxRecDepth 100000 in
theorem mayInst_else (o a b n : Int) (w : World) (h : ¬ (0 ≤ o ∧ o ≤ 11)) : Calls Try.prog 35 #[.agg #[.int .i64 o, .int .i64 a, .int .i64 b, .int .i64 n]] w fun e w' => e = .returned (.bool (mayB (o, a, b, n))) ∧ Below w.heap.size w w' := by
  rw [may_not (x := (o, a, b, n)) (by unfold mayP; simp only; omega)]
  have d0 : (o == 0) = false := by simp; omega
  have d1 : (o == 1) = false := by simp; omega
  have d2 : (o == 2) = false := by simp; omega
  have d3 : (o == 3) = false := by simp; omega
  have d4 : (o == 4) = false := by simp; omega
  have d5 : (o == 5) = false := by simp; omega
  have d6 : (o == 6) = false := by simp; omega
  have d7 : (o == 7) = false := by simp; omega
  have d8 : (o == 8) = false := by simp; omega
  have d9 : (o == 9) = false := by simp; omega
  have d10 : (o == 10) = false := by simp; omega
  have d11 : (o == 11) = false := by simp; omega
  go_enter Try.func35, Try.ntmps35
  go_wp2
  go_ret
  refine ⟨rfl, ?_⟩
  repeat (first | exact Below.refl _ _ | refine Below.alloc ?_ (by simp <;> omega) _ | refine Below.setCell ?_ (by simp <;> omega) _)
set_option maxRecDepth 100000 in
theorem mayInst_any (x : In) (w : World) : Calls Try.prog 35 #[.agg #[.int .i64 x.1, .int .i64 x.2.1, .int .i64 x.2.2.1, .int .i64 x.2.2.2]] w fun e w' => e = .returned (.bool (mayB x)) ∧ Below w.heap.size w w' := by
  obtain ⟨o, a, b, n⟩ := x
  by_cases h : 0 ≤ o ∧ o ≤ 11
  · have : o = 0 ∨ o = 1 ∨ o = 2 ∨ o = 3 ∨ o = 4 ∨ o = 5 ∨ o = 6 ∨ o = 7 ∨ o = 8 ∨ o = 9 ∨ o = 10 ∨ o = 11 := by omega
    rcases this with rfl | rfl | rfl | rfl | rfl | rfl | rfl | rfl | rfl | rfl | rfl | rfl
    · exact mayInst_0 a b n w
    · exact mayInst_1 a b n w
    · exact mayInst_2 a b n w
    · exact mayInst_3 a b n w
    · exact mayInst_4 a b n w
    · exact mayInst_5 a b n w
    · exact mayInst_6 a b n w
    · exact mayInst_7 a b n w
    · exact mayInst_8 a b n w
    · exact mayInst_9 a b n w
    · exact mayInst_10 a b n w
    · exact mayInst_11 a b n w
  · exact mayInst_else o a b n w h
end Go.Proofs.Ytonholadabebbaa
