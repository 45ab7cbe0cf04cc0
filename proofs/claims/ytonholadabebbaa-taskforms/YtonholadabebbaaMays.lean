/-
  Which instructions may be, by package code and by the document's answer.
-/
import Derived.Test.YtonholadabebbaaChecked
import Derived.Test.YtonholadabebbaaParts
import Derived.Test.YtonholadabebbaaPlains
import Derived.Deep.QuietTactic
import Derived.BigQuiet
import Derived.Deep.RegionHeld3
import Derived.Deep.RegionLaw
import Derived.Deep.DrawnRows
import Derived.WalkLawsBesides
import Derived.Lib.SliceRun
namespace Go.Proofs.Ytonholadabebbaa
open Go.ChangeShapes Go.WideShapes Go.ChangeAt Go.RowKit
attribute [local go_sem ↓] Go.wp_at_zero Go.wp_at_succ

theorem ret_bool {p q : Bool} (h : p = q) : Ending.returned (.bool p) = .returned (.bool q) := by rw [h]

theorem within_yes (v a b : Int) (w : World) (h : a ≤ v ∧ v ≤ b) : Calls Try.prog 73 #[.int .i64 v, .int .i64 a, .int .i64 b] w fun e w' => e = .returned (.bool true) ∧ w' = w := by
  obtain ⟨h1, h2⟩ := h
  have d1 : decide (a ≤ v) = true := by simpa using h1
  have d2 : decide (v ≤ b) = true := by simpa using h2
  go_enter Try.func73, Try.ntmps73
  go_wp2
  go_ret
  exact ⟨rfl, rfl⟩
theorem within_no (v a b : Int) (w : World) (h : ¬ (a ≤ v ∧ v ≤ b)) : Calls Try.prog 73 #[.int .i64 v, .int .i64 a, .int .i64 b] w fun e w' => e = .returned (.bool false) ∧ w' = w := by
  by_cases h1 : a ≤ v
  · have d1 : decide (a ≤ v) = true := by simpa using h1
    have d2 : decide (v ≤ b) = false := by simp; omega
    go_enter Try.func73, Try.ntmps73
    go_wp2
    go_ret
    exact ⟨rfl, rfl⟩
  · have d1 : decide (a ≤ v) = false := by simpa using h1
    go_enter Try.func73, Try.ntmps73
    go_wp2
    go_ret
    exact ⟨rfl, rfl⟩
theorem mem_yes (v : Int) (w : World) (h : 0 ≤ v ∧ v ≤ 7) : Calls Try.prog 71 #[.int .i64 v] w fun e w' => e = .returned (.bool true) ∧ w' = w := by
  go_enter Try.func71, Try.ntmps71
  go_wp2_with (go_at_call 73; refine (within_yes _ _ _ _ h).mono ?_; rintro e w1 ⟨rfl, rfl⟩)
  go_ret
  exact ⟨rfl, rfl⟩
theorem mem_no (v : Int) (w : World) (h : ¬ (0 ≤ v ∧ v ≤ 7)) : Calls Try.prog 71 #[.int .i64 v] w fun e w' => e = .returned (.bool false) ∧ w' = w := by
  go_enter Try.func71, Try.ntmps71
  go_wp2_with (go_at_call 73; refine (within_no _ _ _ _ h).mono ?_; rintro e w1 ⟨rfl, rfl⟩)
  go_ret
  exact ⟨rfl, rfl⟩
theorem word_yes (v : Int) (w : World) (h : -2147483648 ≤ v ∧ v ≤ 2147483647) : Calls Try.prog 72 #[.int .i64 v] w fun e w' => e = .returned (.bool true) ∧ w' = w := by
  obtain ⟨h1, h2⟩ := h
  go_enter Try.func72, Try.ntmps72
  go_wp2
  go_ret
  refine ⟨ret_bool ?_, rfl⟩
  simp
theorem word_no (v : Int) (w : World) (h : ¬ (-2147483648 ≤ v ∧ v ≤ 2147483647)) : Calls Try.prog 72 #[.int .i64 v] w fun e w' => e = .returned (.bool false) ∧ w' = w := by
  go_enter Try.func72, Try.ntmps72
  go_wp2
  go_ret
  refine ⟨ret_bool ?_, rfl⟩
  simp [wrap64, wrap32]; omega
theorem may_0 (a b n : Int) (w : World) : Calls Try.prog 59 #[.agg #[.int .i64 0, .int .i64 a, .int .i64 b, .int .i64 n]] w fun e w' => e = .returned (.bool (mayB (0, a, b, n))) ∧ Below w.heap.size w w' := by
  by_cases ca : a = 0
  · subst ca
    by_cases cb : b = 0
    · subst cb
      by_cases cn : n = 0
      · subst cn
        rw [may_of (x := (0, 0, 0, 0)) (by unfold mayP; simp <;> omega)]
        go_enter Try.func59, Try.ntmps59
        go_wp2_with (first
          | (go_at_call 71; refine (mem_yes _ _ (by assumption)).mono ?_; rintro e w1 ⟨rfl, rfl⟩)
          | (go_at_call 71; refine (mem_no _ _ (by assumption)).mono ?_; rintro e w1 ⟨rfl, rfl⟩)
          | (go_at_call 72; refine (word_yes _ _ (by assumption)).mono ?_; rintro e w1 ⟨rfl, rfl⟩)
          | (go_at_call 72; refine (word_no _ _ (by assumption)).mono ?_; rintro e w1 ⟨rfl, rfl⟩)
          | (go_at_call 73; refine (within_yes _ _ _ _ (by assumption)).mono ?_; rintro e w1 ⟨rfl, rfl⟩)
          | (go_at_call 73; refine (within_no _ _ _ _ (by assumption)).mono ?_; rintro e w1 ⟨rfl, rfl⟩))
        go_ret
        exact ⟨rfl, (Below.refl _ _).alloc (Nat.le_refl _) _⟩
      · have dn : (n == 0) = false := by simpa using cn
        rw [may_not (x := (0, 0, 0, n)) (by unfold mayP; simp <;> omega)]
        go_enter Try.func59, Try.ntmps59
        go_wp2_with (first
          | (go_at_call 71; refine (mem_yes _ _ (by assumption)).mono ?_; rintro e w1 ⟨rfl, rfl⟩)
          | (go_at_call 71; refine (mem_no _ _ (by assumption)).mono ?_; rintro e w1 ⟨rfl, rfl⟩)
          | (go_at_call 72; refine (word_yes _ _ (by assumption)).mono ?_; rintro e w1 ⟨rfl, rfl⟩)
          | (go_at_call 72; refine (word_no _ _ (by assumption)).mono ?_; rintro e w1 ⟨rfl, rfl⟩)
          | (go_at_call 73; refine (within_yes _ _ _ _ (by assumption)).mono ?_; rintro e w1 ⟨rfl, rfl⟩)
          | (go_at_call 73; refine (within_no _ _ _ _ (by assumption)).mono ?_; rintro e w1 ⟨rfl, rfl⟩))
        go_ret
        exact ⟨rfl, (Below.refl _ _).alloc (Nat.le_refl _) _⟩
    · have db : (b == 0) = false := by simpa using cb
      rw [may_not (x := (0, 0, b, n)) (by unfold mayP; simp <;> omega)]
      go_enter Try.func59, Try.ntmps59
      go_wp2_with (first
        | (go_at_call 71; refine (mem_yes _ _ (by assumption)).mono ?_; rintro e w1 ⟨rfl, rfl⟩)
        | (go_at_call 71; refine (mem_no _ _ (by assumption)).mono ?_; rintro e w1 ⟨rfl, rfl⟩)
        | (go_at_call 72; refine (word_yes _ _ (by assumption)).mono ?_; rintro e w1 ⟨rfl, rfl⟩)
        | (go_at_call 72; refine (word_no _ _ (by assumption)).mono ?_; rintro e w1 ⟨rfl, rfl⟩)
        | (go_at_call 73; refine (within_yes _ _ _ _ (by assumption)).mono ?_; rintro e w1 ⟨rfl, rfl⟩)
        | (go_at_call 73; refine (within_no _ _ _ _ (by assumption)).mono ?_; rintro e w1 ⟨rfl, rfl⟩))
      go_ret
      exact ⟨rfl, (Below.refl _ _).alloc (Nat.le_refl _) _⟩
  · have da : (a == 0) = false := by simpa using ca
    rw [may_not (x := (0, a, b, n)) (by unfold mayP; simp <;> omega)]
    go_enter Try.func59, Try.ntmps59
    go_wp2_with (first
      | (go_at_call 71; refine (mem_yes _ _ (by assumption)).mono ?_; rintro e w1 ⟨rfl, rfl⟩)
      | (go_at_call 71; refine (mem_no _ _ (by assumption)).mono ?_; rintro e w1 ⟨rfl, rfl⟩)
      | (go_at_call 72; refine (word_yes _ _ (by assumption)).mono ?_; rintro e w1 ⟨rfl, rfl⟩)
      | (go_at_call 72; refine (word_no _ _ (by assumption)).mono ?_; rintro e w1 ⟨rfl, rfl⟩)
      | (go_at_call 73; refine (within_yes _ _ _ _ (by assumption)).mono ?_; rintro e w1 ⟨rfl, rfl⟩)
      | (go_at_call 73; refine (within_no _ _ _ _ (by assumption)).mono ?_; rintro e w1 ⟨rfl, rfl⟩))
    go_ret
    exact ⟨rfl, (Below.refl _ _).alloc (Nat.le_refl _) _⟩
theorem may_11 (a b n : Int) (w : World) : Calls Try.prog 59 #[.agg #[.int .i64 11, .int .i64 a, .int .i64 b, .int .i64 n]] w fun e w' => e = .returned (.bool (mayB (11, a, b, n))) ∧ Below w.heap.size w w' := by
  by_cases ca : a = 0
  · subst ca
    by_cases cb : b = 0
    · subst cb
      by_cases cn : n = 0
      · subst cn
        rw [may_of (x := (11, 0, 0, 0)) (by unfold mayP; simp <;> omega)]
        go_enter Try.func59, Try.ntmps59
        go_wp2_with (first
          | (go_at_call 71; refine (mem_yes _ _ (by assumption)).mono ?_; rintro e w1 ⟨rfl, rfl⟩)
          | (go_at_call 71; refine (mem_no _ _ (by assumption)).mono ?_; rintro e w1 ⟨rfl, rfl⟩)
          | (go_at_call 72; refine (word_yes _ _ (by assumption)).mono ?_; rintro e w1 ⟨rfl, rfl⟩)
          | (go_at_call 72; refine (word_no _ _ (by assumption)).mono ?_; rintro e w1 ⟨rfl, rfl⟩)
          | (go_at_call 73; refine (within_yes _ _ _ _ (by assumption)).mono ?_; rintro e w1 ⟨rfl, rfl⟩)
          | (go_at_call 73; refine (within_no _ _ _ _ (by assumption)).mono ?_; rintro e w1 ⟨rfl, rfl⟩))
        go_ret
        exact ⟨rfl, (Below.refl _ _).alloc (Nat.le_refl _) _⟩
      · have dn : (n == 0) = false := by simpa using cn
        rw [may_not (x := (11, 0, 0, n)) (by unfold mayP; simp <;> omega)]
        go_enter Try.func59, Try.ntmps59
        go_wp2_with (first
          | (go_at_call 71; refine (mem_yes _ _ (by assumption)).mono ?_; rintro e w1 ⟨rfl, rfl⟩)
          | (go_at_call 71; refine (mem_no _ _ (by assumption)).mono ?_; rintro e w1 ⟨rfl, rfl⟩)
          | (go_at_call 72; refine (word_yes _ _ (by assumption)).mono ?_; rintro e w1 ⟨rfl, rfl⟩)
          | (go_at_call 72; refine (word_no _ _ (by assumption)).mono ?_; rintro e w1 ⟨rfl, rfl⟩)
          | (go_at_call 73; refine (within_yes _ _ _ _ (by assumption)).mono ?_; rintro e w1 ⟨rfl, rfl⟩)
          | (go_at_call 73; refine (within_no _ _ _ _ (by assumption)).mono ?_; rintro e w1 ⟨rfl, rfl⟩))
        go_ret
        exact ⟨rfl, (Below.refl _ _).alloc (Nat.le_refl _) _⟩
    · have db : (b == 0) = false := by simpa using cb
      rw [may_not (x := (11, 0, b, n)) (by unfold mayP; simp <;> omega)]
      go_enter Try.func59, Try.ntmps59
      go_wp2_with (first
        | (go_at_call 71; refine (mem_yes _ _ (by assumption)).mono ?_; rintro e w1 ⟨rfl, rfl⟩)
        | (go_at_call 71; refine (mem_no _ _ (by assumption)).mono ?_; rintro e w1 ⟨rfl, rfl⟩)
        | (go_at_call 72; refine (word_yes _ _ (by assumption)).mono ?_; rintro e w1 ⟨rfl, rfl⟩)
        | (go_at_call 72; refine (word_no _ _ (by assumption)).mono ?_; rintro e w1 ⟨rfl, rfl⟩)
        | (go_at_call 73; refine (within_yes _ _ _ _ (by assumption)).mono ?_; rintro e w1 ⟨rfl, rfl⟩)
        | (go_at_call 73; refine (within_no _ _ _ _ (by assumption)).mono ?_; rintro e w1 ⟨rfl, rfl⟩))
      go_ret
      exact ⟨rfl, (Below.refl _ _).alloc (Nat.le_refl _) _⟩
  · have da : (a == 0) = false := by simpa using ca
    rw [may_not (x := (11, a, b, n)) (by unfold mayP; simp <;> omega)]
    go_enter Try.func59, Try.ntmps59
    go_wp2_with (first
      | (go_at_call 71; refine (mem_yes _ _ (by assumption)).mono ?_; rintro e w1 ⟨rfl, rfl⟩)
      | (go_at_call 71; refine (mem_no _ _ (by assumption)).mono ?_; rintro e w1 ⟨rfl, rfl⟩)
      | (go_at_call 72; refine (word_yes _ _ (by assumption)).mono ?_; rintro e w1 ⟨rfl, rfl⟩)
      | (go_at_call 72; refine (word_no _ _ (by assumption)).mono ?_; rintro e w1 ⟨rfl, rfl⟩)
      | (go_at_call 73; refine (within_yes _ _ _ _ (by assumption)).mono ?_; rintro e w1 ⟨rfl, rfl⟩)
      | (go_at_call 73; refine (within_no _ _ _ _ (by assumption)).mono ?_; rintro e w1 ⟨rfl, rfl⟩))
    go_ret
    exact ⟨rfl, (Below.refl _ _).alloc (Nat.le_refl _) _⟩
theorem may_1 (a b n : Int) (w : World) : Calls Try.prog 59 #[.agg #[.int .i64 1, .int .i64 a, .int .i64 b, .int .i64 n]] w fun e w' => e = .returned (.bool (mayB (1, a, b, n))) ∧ Below w.heap.size w w' := by
  by_cases ca : 0 ≤ a ∧ a ≤ 7
  · by_cases cb : b = 0
    · subst cb
      by_cases cn : -2147483648 ≤ n ∧ n ≤ 2147483647
      · rw [may_of (x := (1, a, 0, n)) (by unfold mayP; simp <;> omega)]
        go_enter Try.func59, Try.ntmps59
        go_wp2_with (first
          | (go_at_call 71; refine (mem_yes _ _ (by assumption)).mono ?_; rintro e w1 ⟨rfl, rfl⟩)
          | (go_at_call 71; refine (mem_no _ _ (by assumption)).mono ?_; rintro e w1 ⟨rfl, rfl⟩)
          | (go_at_call 72; refine (word_yes _ _ (by assumption)).mono ?_; rintro e w1 ⟨rfl, rfl⟩)
          | (go_at_call 72; refine (word_no _ _ (by assumption)).mono ?_; rintro e w1 ⟨rfl, rfl⟩)
          | (go_at_call 73; refine (within_yes _ _ _ _ (by assumption)).mono ?_; rintro e w1 ⟨rfl, rfl⟩)
          | (go_at_call 73; refine (within_no _ _ _ _ (by assumption)).mono ?_; rintro e w1 ⟨rfl, rfl⟩))
        go_ret
        exact ⟨rfl, (Below.refl _ _).alloc (Nat.le_refl _) _⟩
      · rw [may_not (x := (1, a, 0, n)) (by unfold mayP; simp <;> omega)]
        go_enter Try.func59, Try.ntmps59
        go_wp2_with (first
          | (go_at_call 71; refine (mem_yes _ _ (by assumption)).mono ?_; rintro e w1 ⟨rfl, rfl⟩)
          | (go_at_call 71; refine (mem_no _ _ (by assumption)).mono ?_; rintro e w1 ⟨rfl, rfl⟩)
          | (go_at_call 72; refine (word_yes _ _ (by assumption)).mono ?_; rintro e w1 ⟨rfl, rfl⟩)
          | (go_at_call 72; refine (word_no _ _ (by assumption)).mono ?_; rintro e w1 ⟨rfl, rfl⟩)
          | (go_at_call 73; refine (within_yes _ _ _ _ (by assumption)).mono ?_; rintro e w1 ⟨rfl, rfl⟩)
          | (go_at_call 73; refine (within_no _ _ _ _ (by assumption)).mono ?_; rintro e w1 ⟨rfl, rfl⟩))
        go_ret
        exact ⟨rfl, (Below.refl _ _).alloc (Nat.le_refl _) _⟩
    · have db : (b == 0) = false := by simpa using cb
      rw [may_not (x := (1, a, b, n)) (by unfold mayP; simp <;> omega)]
      go_enter Try.func59, Try.ntmps59
      go_wp2_with (first
        | (go_at_call 71; refine (mem_yes _ _ (by assumption)).mono ?_; rintro e w1 ⟨rfl, rfl⟩)
        | (go_at_call 71; refine (mem_no _ _ (by assumption)).mono ?_; rintro e w1 ⟨rfl, rfl⟩)
        | (go_at_call 72; refine (word_yes _ _ (by assumption)).mono ?_; rintro e w1 ⟨rfl, rfl⟩)
        | (go_at_call 72; refine (word_no _ _ (by assumption)).mono ?_; rintro e w1 ⟨rfl, rfl⟩)
        | (go_at_call 73; refine (within_yes _ _ _ _ (by assumption)).mono ?_; rintro e w1 ⟨rfl, rfl⟩)
        | (go_at_call 73; refine (within_no _ _ _ _ (by assumption)).mono ?_; rintro e w1 ⟨rfl, rfl⟩))
      go_ret
      exact ⟨rfl, (Below.refl _ _).alloc (Nat.le_refl _) _⟩
  · rw [may_not (x := (1, a, b, n)) (by unfold mayP; simp <;> omega)]
    go_enter Try.func59, Try.ntmps59
    go_wp2_with (first
      | (go_at_call 71; refine (mem_yes _ _ (by assumption)).mono ?_; rintro e w1 ⟨rfl, rfl⟩)
      | (go_at_call 71; refine (mem_no _ _ (by assumption)).mono ?_; rintro e w1 ⟨rfl, rfl⟩)
      | (go_at_call 72; refine (word_yes _ _ (by assumption)).mono ?_; rintro e w1 ⟨rfl, rfl⟩)
      | (go_at_call 72; refine (word_no _ _ (by assumption)).mono ?_; rintro e w1 ⟨rfl, rfl⟩)
      | (go_at_call 73; refine (within_yes _ _ _ _ (by assumption)).mono ?_; rintro e w1 ⟨rfl, rfl⟩)
      | (go_at_call 73; refine (within_no _ _ _ _ (by assumption)).mono ?_; rintro e w1 ⟨rfl, rfl⟩))
    go_ret
    exact ⟨rfl, (Below.refl _ _).alloc (Nat.le_refl _) _⟩
theorem may_2 (a b n : Int) (w : World) : Calls Try.prog 59 #[.agg #[.int .i64 2, .int .i64 a, .int .i64 b, .int .i64 n]] w fun e w' => e = .returned (.bool (mayB (2, a, b, n))) ∧ Below w.heap.size w w' := by
  by_cases ca : 0 ≤ a ∧ a ≤ 7
  · by_cases cb : 0 ≤ b ∧ b ≤ 7
    · by_cases cn : n = 0
      · subst cn
        rw [may_of (x := (2, a, b, 0)) (by unfold mayP; simp <;> omega)]
        go_enter Try.func59, Try.ntmps59
        go_wp2_with (first
          | (go_at_call 71; refine (mem_yes _ _ (by assumption)).mono ?_; rintro e w1 ⟨rfl, rfl⟩)
          | (go_at_call 71; refine (mem_no _ _ (by assumption)).mono ?_; rintro e w1 ⟨rfl, rfl⟩)
          | (go_at_call 72; refine (word_yes _ _ (by assumption)).mono ?_; rintro e w1 ⟨rfl, rfl⟩)
          | (go_at_call 72; refine (word_no _ _ (by assumption)).mono ?_; rintro e w1 ⟨rfl, rfl⟩)
          | (go_at_call 73; refine (within_yes _ _ _ _ (by assumption)).mono ?_; rintro e w1 ⟨rfl, rfl⟩)
          | (go_at_call 73; refine (within_no _ _ _ _ (by assumption)).mono ?_; rintro e w1 ⟨rfl, rfl⟩))
        go_ret
        exact ⟨rfl, (Below.refl _ _).alloc (Nat.le_refl _) _⟩
      · have dn : (n == 0) = false := by simpa using cn
        rw [may_not (x := (2, a, b, n)) (by unfold mayP; simp <;> omega)]
        go_enter Try.func59, Try.ntmps59
        go_wp2_with (first
          | (go_at_call 71; refine (mem_yes _ _ (by assumption)).mono ?_; rintro e w1 ⟨rfl, rfl⟩)
          | (go_at_call 71; refine (mem_no _ _ (by assumption)).mono ?_; rintro e w1 ⟨rfl, rfl⟩)
          | (go_at_call 72; refine (word_yes _ _ (by assumption)).mono ?_; rintro e w1 ⟨rfl, rfl⟩)
          | (go_at_call 72; refine (word_no _ _ (by assumption)).mono ?_; rintro e w1 ⟨rfl, rfl⟩)
          | (go_at_call 73; refine (within_yes _ _ _ _ (by assumption)).mono ?_; rintro e w1 ⟨rfl, rfl⟩)
          | (go_at_call 73; refine (within_no _ _ _ _ (by assumption)).mono ?_; rintro e w1 ⟨rfl, rfl⟩))
        go_ret
        exact ⟨rfl, (Below.refl _ _).alloc (Nat.le_refl _) _⟩
    · rw [may_not (x := (2, a, b, n)) (by unfold mayP; simp <;> omega)]
      go_enter Try.func59, Try.ntmps59
      go_wp2_with (first
        | (go_at_call 71; refine (mem_yes _ _ (by assumption)).mono ?_; rintro e w1 ⟨rfl, rfl⟩)
        | (go_at_call 71; refine (mem_no _ _ (by assumption)).mono ?_; rintro e w1 ⟨rfl, rfl⟩)
        | (go_at_call 72; refine (word_yes _ _ (by assumption)).mono ?_; rintro e w1 ⟨rfl, rfl⟩)
        | (go_at_call 72; refine (word_no _ _ (by assumption)).mono ?_; rintro e w1 ⟨rfl, rfl⟩)
        | (go_at_call 73; refine (within_yes _ _ _ _ (by assumption)).mono ?_; rintro e w1 ⟨rfl, rfl⟩)
        | (go_at_call 73; refine (within_no _ _ _ _ (by assumption)).mono ?_; rintro e w1 ⟨rfl, rfl⟩))
      go_ret
      exact ⟨rfl, (Below.refl _ _).alloc (Nat.le_refl _) _⟩
  · rw [may_not (x := (2, a, b, n)) (by unfold mayP; simp <;> omega)]
    go_enter Try.func59, Try.ntmps59
    go_wp2_with (first
      | (go_at_call 71; refine (mem_yes _ _ (by assumption)).mono ?_; rintro e w1 ⟨rfl, rfl⟩)
      | (go_at_call 71; refine (mem_no _ _ (by assumption)).mono ?_; rintro e w1 ⟨rfl, rfl⟩)
      | (go_at_call 72; refine (word_yes _ _ (by assumption)).mono ?_; rintro e w1 ⟨rfl, rfl⟩)
      | (go_at_call 72; refine (word_no _ _ (by assumption)).mono ?_; rintro e w1 ⟨rfl, rfl⟩)
      | (go_at_call 73; refine (within_yes _ _ _ _ (by assumption)).mono ?_; rintro e w1 ⟨rfl, rfl⟩)
      | (go_at_call 73; refine (within_no _ _ _ _ (by assumption)).mono ?_; rintro e w1 ⟨rfl, rfl⟩))
    go_ret
    exact ⟨rfl, (Below.refl _ _).alloc (Nat.le_refl _) _⟩
theorem may_3 (a b n : Int) (w : World) : Calls Try.prog 59 #[.agg #[.int .i64 3, .int .i64 a, .int .i64 b, .int .i64 n]] w fun e w' => e = .returned (.bool (mayB (3, a, b, n))) ∧ Below w.heap.size w w' := by
  by_cases ca : 0 ≤ a ∧ a ≤ 7
  · by_cases cb : 0 ≤ b ∧ b ≤ 7
    · by_cases cn : n = 0
      · subst cn
        rw [may_of (x := (3, a, b, 0)) (by unfold mayP; simp <;> omega)]
        go_enter Try.func59, Try.ntmps59
        go_wp2_with (first
          | (go_at_call 71; refine (mem_yes _ _ (by assumption)).mono ?_; rintro e w1 ⟨rfl, rfl⟩)
          | (go_at_call 71; refine (mem_no _ _ (by assumption)).mono ?_; rintro e w1 ⟨rfl, rfl⟩)
          | (go_at_call 72; refine (word_yes _ _ (by assumption)).mono ?_; rintro e w1 ⟨rfl, rfl⟩)
          | (go_at_call 72; refine (word_no _ _ (by assumption)).mono ?_; rintro e w1 ⟨rfl, rfl⟩)
          | (go_at_call 73; refine (within_yes _ _ _ _ (by assumption)).mono ?_; rintro e w1 ⟨rfl, rfl⟩)
          | (go_at_call 73; refine (within_no _ _ _ _ (by assumption)).mono ?_; rintro e w1 ⟨rfl, rfl⟩))
        go_ret
        exact ⟨rfl, (Below.refl _ _).alloc (Nat.le_refl _) _⟩
      · have dn : (n == 0) = false := by simpa using cn
        rw [may_not (x := (3, a, b, n)) (by unfold mayP; simp <;> omega)]
        go_enter Try.func59, Try.ntmps59
        go_wp2_with (first
          | (go_at_call 71; refine (mem_yes _ _ (by assumption)).mono ?_; rintro e w1 ⟨rfl, rfl⟩)
          | (go_at_call 71; refine (mem_no _ _ (by assumption)).mono ?_; rintro e w1 ⟨rfl, rfl⟩)
          | (go_at_call 72; refine (word_yes _ _ (by assumption)).mono ?_; rintro e w1 ⟨rfl, rfl⟩)
          | (go_at_call 72; refine (word_no _ _ (by assumption)).mono ?_; rintro e w1 ⟨rfl, rfl⟩)
          | (go_at_call 73; refine (within_yes _ _ _ _ (by assumption)).mono ?_; rintro e w1 ⟨rfl, rfl⟩)
          | (go_at_call 73; refine (within_no _ _ _ _ (by assumption)).mono ?_; rintro e w1 ⟨rfl, rfl⟩))
        go_ret
        exact ⟨rfl, (Below.refl _ _).alloc (Nat.le_refl _) _⟩
    · rw [may_not (x := (3, a, b, n)) (by unfold mayP; simp <;> omega)]
      go_enter Try.func59, Try.ntmps59
      go_wp2_with (first
        | (go_at_call 71; refine (mem_yes _ _ (by assumption)).mono ?_; rintro e w1 ⟨rfl, rfl⟩)
        | (go_at_call 71; refine (mem_no _ _ (by assumption)).mono ?_; rintro e w1 ⟨rfl, rfl⟩)
        | (go_at_call 72; refine (word_yes _ _ (by assumption)).mono ?_; rintro e w1 ⟨rfl, rfl⟩)
        | (go_at_call 72; refine (word_no _ _ (by assumption)).mono ?_; rintro e w1 ⟨rfl, rfl⟩)
        | (go_at_call 73; refine (within_yes _ _ _ _ (by assumption)).mono ?_; rintro e w1 ⟨rfl, rfl⟩)
        | (go_at_call 73; refine (within_no _ _ _ _ (by assumption)).mono ?_; rintro e w1 ⟨rfl, rfl⟩))
      go_ret
      exact ⟨rfl, (Below.refl _ _).alloc (Nat.le_refl _) _⟩
  · rw [may_not (x := (3, a, b, n)) (by unfold mayP; simp <;> omega)]
    go_enter Try.func59, Try.ntmps59
    go_wp2_with (first
      | (go_at_call 71; refine (mem_yes _ _ (by assumption)).mono ?_; rintro e w1 ⟨rfl, rfl⟩)
      | (go_at_call 71; refine (mem_no _ _ (by assumption)).mono ?_; rintro e w1 ⟨rfl, rfl⟩)
      | (go_at_call 72; refine (word_yes _ _ (by assumption)).mono ?_; rintro e w1 ⟨rfl, rfl⟩)
      | (go_at_call 72; refine (word_no _ _ (by assumption)).mono ?_; rintro e w1 ⟨rfl, rfl⟩)
      | (go_at_call 73; refine (within_yes _ _ _ _ (by assumption)).mono ?_; rintro e w1 ⟨rfl, rfl⟩)
      | (go_at_call 73; refine (within_no _ _ _ _ (by assumption)).mono ?_; rintro e w1 ⟨rfl, rfl⟩))
    go_ret
    exact ⟨rfl, (Below.refl _ _).alloc (Nat.le_refl _) _⟩
theorem may_4 (a b n : Int) (w : World) : Calls Try.prog 59 #[.agg #[.int .i64 4, .int .i64 a, .int .i64 b, .int .i64 n]] w fun e w' => e = .returned (.bool (mayB (4, a, b, n))) ∧ Below w.heap.size w w' := by
  by_cases ca : 0 ≤ a ∧ a ≤ 7
  · by_cases cb : 0 ≤ b ∧ b ≤ 7
    · by_cases cn : n = 0
      · subst cn
        rw [may_of (x := (4, a, b, 0)) (by unfold mayP; simp <;> omega)]
        go_enter Try.func59, Try.ntmps59
        go_wp2_with (first
          | (go_at_call 71; refine (mem_yes _ _ (by assumption)).mono ?_; rintro e w1 ⟨rfl, rfl⟩)
          | (go_at_call 71; refine (mem_no _ _ (by assumption)).mono ?_; rintro e w1 ⟨rfl, rfl⟩)
          | (go_at_call 72; refine (word_yes _ _ (by assumption)).mono ?_; rintro e w1 ⟨rfl, rfl⟩)
          | (go_at_call 72; refine (word_no _ _ (by assumption)).mono ?_; rintro e w1 ⟨rfl, rfl⟩)
          | (go_at_call 73; refine (within_yes _ _ _ _ (by assumption)).mono ?_; rintro e w1 ⟨rfl, rfl⟩)
          | (go_at_call 73; refine (within_no _ _ _ _ (by assumption)).mono ?_; rintro e w1 ⟨rfl, rfl⟩))
        go_ret
        exact ⟨rfl, (Below.refl _ _).alloc (Nat.le_refl _) _⟩
      · have dn : (n == 0) = false := by simpa using cn
        rw [may_not (x := (4, a, b, n)) (by unfold mayP; simp <;> omega)]
        go_enter Try.func59, Try.ntmps59
        go_wp2_with (first
          | (go_at_call 71; refine (mem_yes _ _ (by assumption)).mono ?_; rintro e w1 ⟨rfl, rfl⟩)
          | (go_at_call 71; refine (mem_no _ _ (by assumption)).mono ?_; rintro e w1 ⟨rfl, rfl⟩)
          | (go_at_call 72; refine (word_yes _ _ (by assumption)).mono ?_; rintro e w1 ⟨rfl, rfl⟩)
          | (go_at_call 72; refine (word_no _ _ (by assumption)).mono ?_; rintro e w1 ⟨rfl, rfl⟩)
          | (go_at_call 73; refine (within_yes _ _ _ _ (by assumption)).mono ?_; rintro e w1 ⟨rfl, rfl⟩)
          | (go_at_call 73; refine (within_no _ _ _ _ (by assumption)).mono ?_; rintro e w1 ⟨rfl, rfl⟩))
        go_ret
        exact ⟨rfl, (Below.refl _ _).alloc (Nat.le_refl _) _⟩
    · rw [may_not (x := (4, a, b, n)) (by unfold mayP; simp <;> omega)]
      go_enter Try.func59, Try.ntmps59
      go_wp2_with (first
        | (go_at_call 71; refine (mem_yes _ _ (by assumption)).mono ?_; rintro e w1 ⟨rfl, rfl⟩)
        | (go_at_call 71; refine (mem_no _ _ (by assumption)).mono ?_; rintro e w1 ⟨rfl, rfl⟩)
        | (go_at_call 72; refine (word_yes _ _ (by assumption)).mono ?_; rintro e w1 ⟨rfl, rfl⟩)
        | (go_at_call 72; refine (word_no _ _ (by assumption)).mono ?_; rintro e w1 ⟨rfl, rfl⟩)
        | (go_at_call 73; refine (within_yes _ _ _ _ (by assumption)).mono ?_; rintro e w1 ⟨rfl, rfl⟩)
        | (go_at_call 73; refine (within_no _ _ _ _ (by assumption)).mono ?_; rintro e w1 ⟨rfl, rfl⟩))
      go_ret
      exact ⟨rfl, (Below.refl _ _).alloc (Nat.le_refl _) _⟩
  · rw [may_not (x := (4, a, b, n)) (by unfold mayP; simp <;> omega)]
    go_enter Try.func59, Try.ntmps59
    go_wp2_with (first
      | (go_at_call 71; refine (mem_yes _ _ (by assumption)).mono ?_; rintro e w1 ⟨rfl, rfl⟩)
      | (go_at_call 71; refine (mem_no _ _ (by assumption)).mono ?_; rintro e w1 ⟨rfl, rfl⟩)
      | (go_at_call 72; refine (word_yes _ _ (by assumption)).mono ?_; rintro e w1 ⟨rfl, rfl⟩)
      | (go_at_call 72; refine (word_no _ _ (by assumption)).mono ?_; rintro e w1 ⟨rfl, rfl⟩)
      | (go_at_call 73; refine (within_yes _ _ _ _ (by assumption)).mono ?_; rintro e w1 ⟨rfl, rfl⟩)
      | (go_at_call 73; refine (within_no _ _ _ _ (by assumption)).mono ?_; rintro e w1 ⟨rfl, rfl⟩))
    go_ret
    exact ⟨rfl, (Below.refl _ _).alloc (Nat.le_refl _) _⟩
theorem may_5 (a b n : Int) (w : World) : Calls Try.prog 59 #[.agg #[.int .i64 5, .int .i64 a, .int .i64 b, .int .i64 n]] w fun e w' => e = .returned (.bool (mayB (5, a, b, n))) ∧ Below w.heap.size w w' := by
  by_cases ca : 0 ≤ a ∧ a ≤ 7
  · by_cases cb : b = 0
    · subst cb
      by_cases cn : -63 ≤ n ∧ n ≤ 63
      · rw [may_of (x := (5, a, 0, n)) (by unfold mayP; simp <;> omega)]
        go_enter Try.func59, Try.ntmps59
        go_wp2_with (first
          | (go_at_call 71; refine (mem_yes _ _ (by assumption)).mono ?_; rintro e w1 ⟨rfl, rfl⟩)
          | (go_at_call 71; refine (mem_no _ _ (by assumption)).mono ?_; rintro e w1 ⟨rfl, rfl⟩)
          | (go_at_call 72; refine (word_yes _ _ (by assumption)).mono ?_; rintro e w1 ⟨rfl, rfl⟩)
          | (go_at_call 72; refine (word_no _ _ (by assumption)).mono ?_; rintro e w1 ⟨rfl, rfl⟩)
          | (go_at_call 73; refine (within_yes _ _ _ _ (by assumption)).mono ?_; rintro e w1 ⟨rfl, rfl⟩)
          | (go_at_call 73; refine (within_no _ _ _ _ (by assumption)).mono ?_; rintro e w1 ⟨rfl, rfl⟩))
        go_ret
        exact ⟨rfl, (Below.refl _ _).alloc (Nat.le_refl _) _⟩
      · rw [may_not (x := (5, a, 0, n)) (by unfold mayP; simp <;> omega)]
        go_enter Try.func59, Try.ntmps59
        go_wp2_with (first
          | (go_at_call 71; refine (mem_yes _ _ (by assumption)).mono ?_; rintro e w1 ⟨rfl, rfl⟩)
          | (go_at_call 71; refine (mem_no _ _ (by assumption)).mono ?_; rintro e w1 ⟨rfl, rfl⟩)
          | (go_at_call 72; refine (word_yes _ _ (by assumption)).mono ?_; rintro e w1 ⟨rfl, rfl⟩)
          | (go_at_call 72; refine (word_no _ _ (by assumption)).mono ?_; rintro e w1 ⟨rfl, rfl⟩)
          | (go_at_call 73; refine (within_yes _ _ _ _ (by assumption)).mono ?_; rintro e w1 ⟨rfl, rfl⟩)
          | (go_at_call 73; refine (within_no _ _ _ _ (by assumption)).mono ?_; rintro e w1 ⟨rfl, rfl⟩))
        go_ret
        exact ⟨rfl, (Below.refl _ _).alloc (Nat.le_refl _) _⟩
    · have db : (b == 0) = false := by simpa using cb
      rw [may_not (x := (5, a, b, n)) (by unfold mayP; simp <;> omega)]
      go_enter Try.func59, Try.ntmps59
      go_wp2_with (first
        | (go_at_call 71; refine (mem_yes _ _ (by assumption)).mono ?_; rintro e w1 ⟨rfl, rfl⟩)
        | (go_at_call 71; refine (mem_no _ _ (by assumption)).mono ?_; rintro e w1 ⟨rfl, rfl⟩)
        | (go_at_call 72; refine (word_yes _ _ (by assumption)).mono ?_; rintro e w1 ⟨rfl, rfl⟩)
        | (go_at_call 72; refine (word_no _ _ (by assumption)).mono ?_; rintro e w1 ⟨rfl, rfl⟩)
        | (go_at_call 73; refine (within_yes _ _ _ _ (by assumption)).mono ?_; rintro e w1 ⟨rfl, rfl⟩)
        | (go_at_call 73; refine (within_no _ _ _ _ (by assumption)).mono ?_; rintro e w1 ⟨rfl, rfl⟩))
      go_ret
      exact ⟨rfl, (Below.refl _ _).alloc (Nat.le_refl _) _⟩
  · rw [may_not (x := (5, a, b, n)) (by unfold mayP; simp <;> omega)]
    go_enter Try.func59, Try.ntmps59
    go_wp2_with (first
      | (go_at_call 71; refine (mem_yes _ _ (by assumption)).mono ?_; rintro e w1 ⟨rfl, rfl⟩)
      | (go_at_call 71; refine (mem_no _ _ (by assumption)).mono ?_; rintro e w1 ⟨rfl, rfl⟩)
      | (go_at_call 72; refine (word_yes _ _ (by assumption)).mono ?_; rintro e w1 ⟨rfl, rfl⟩)
      | (go_at_call 72; refine (word_no _ _ (by assumption)).mono ?_; rintro e w1 ⟨rfl, rfl⟩)
      | (go_at_call 73; refine (within_yes _ _ _ _ (by assumption)).mono ?_; rintro e w1 ⟨rfl, rfl⟩)
      | (go_at_call 73; refine (within_no _ _ _ _ (by assumption)).mono ?_; rintro e w1 ⟨rfl, rfl⟩))
    go_ret
    exact ⟨rfl, (Below.refl _ _).alloc (Nat.le_refl _) _⟩
theorem may_6 (a b n : Int) (w : World) : Calls Try.prog 59 #[.agg #[.int .i64 6, .int .i64 a, .int .i64 b, .int .i64 n]] w fun e w' => e = .returned (.bool (mayB (6, a, b, n))) ∧ Below w.heap.size w w' := by
  by_cases ca : 0 ≤ a ∧ a ≤ 7
  · by_cases cb : b = 0
    · subst cb
      by_cases cn : 1 ≤ n ∧ n ≤ 64
      · rw [may_of (x := (6, a, 0, n)) (by unfold mayP; simp <;> omega)]
        go_enter Try.func59, Try.ntmps59
        go_wp2_with (first
          | (go_at_call 71; refine (mem_yes _ _ (by assumption)).mono ?_; rintro e w1 ⟨rfl, rfl⟩)
          | (go_at_call 71; refine (mem_no _ _ (by assumption)).mono ?_; rintro e w1 ⟨rfl, rfl⟩)
          | (go_at_call 72; refine (word_yes _ _ (by assumption)).mono ?_; rintro e w1 ⟨rfl, rfl⟩)
          | (go_at_call 72; refine (word_no _ _ (by assumption)).mono ?_; rintro e w1 ⟨rfl, rfl⟩)
          | (go_at_call 73; refine (within_yes _ _ _ _ (by assumption)).mono ?_; rintro e w1 ⟨rfl, rfl⟩)
          | (go_at_call 73; refine (within_no _ _ _ _ (by assumption)).mono ?_; rintro e w1 ⟨rfl, rfl⟩))
        go_ret
        exact ⟨rfl, (Below.refl _ _).alloc (Nat.le_refl _) _⟩
      · rw [may_not (x := (6, a, 0, n)) (by unfold mayP; simp <;> omega)]
        go_enter Try.func59, Try.ntmps59
        go_wp2_with (first
          | (go_at_call 71; refine (mem_yes _ _ (by assumption)).mono ?_; rintro e w1 ⟨rfl, rfl⟩)
          | (go_at_call 71; refine (mem_no _ _ (by assumption)).mono ?_; rintro e w1 ⟨rfl, rfl⟩)
          | (go_at_call 72; refine (word_yes _ _ (by assumption)).mono ?_; rintro e w1 ⟨rfl, rfl⟩)
          | (go_at_call 72; refine (word_no _ _ (by assumption)).mono ?_; rintro e w1 ⟨rfl, rfl⟩)
          | (go_at_call 73; refine (within_yes _ _ _ _ (by assumption)).mono ?_; rintro e w1 ⟨rfl, rfl⟩)
          | (go_at_call 73; refine (within_no _ _ _ _ (by assumption)).mono ?_; rintro e w1 ⟨rfl, rfl⟩))
        go_ret
        exact ⟨rfl, (Below.refl _ _).alloc (Nat.le_refl _) _⟩
    · have db : (b == 0) = false := by simpa using cb
      rw [may_not (x := (6, a, b, n)) (by unfold mayP; simp <;> omega)]
      go_enter Try.func59, Try.ntmps59
      go_wp2_with (first
        | (go_at_call 71; refine (mem_yes _ _ (by assumption)).mono ?_; rintro e w1 ⟨rfl, rfl⟩)
        | (go_at_call 71; refine (mem_no _ _ (by assumption)).mono ?_; rintro e w1 ⟨rfl, rfl⟩)
        | (go_at_call 72; refine (word_yes _ _ (by assumption)).mono ?_; rintro e w1 ⟨rfl, rfl⟩)
        | (go_at_call 72; refine (word_no _ _ (by assumption)).mono ?_; rintro e w1 ⟨rfl, rfl⟩)
        | (go_at_call 73; refine (within_yes _ _ _ _ (by assumption)).mono ?_; rintro e w1 ⟨rfl, rfl⟩)
        | (go_at_call 73; refine (within_no _ _ _ _ (by assumption)).mono ?_; rintro e w1 ⟨rfl, rfl⟩))
      go_ret
      exact ⟨rfl, (Below.refl _ _).alloc (Nat.le_refl _) _⟩
  · rw [may_not (x := (6, a, b, n)) (by unfold mayP; simp <;> omega)]
    go_enter Try.func59, Try.ntmps59
    go_wp2_with (first
      | (go_at_call 71; refine (mem_yes _ _ (by assumption)).mono ?_; rintro e w1 ⟨rfl, rfl⟩)
      | (go_at_call 71; refine (mem_no _ _ (by assumption)).mono ?_; rintro e w1 ⟨rfl, rfl⟩)
      | (go_at_call 72; refine (word_yes _ _ (by assumption)).mono ?_; rintro e w1 ⟨rfl, rfl⟩)
      | (go_at_call 72; refine (word_no _ _ (by assumption)).mono ?_; rintro e w1 ⟨rfl, rfl⟩)
      | (go_at_call 73; refine (within_yes _ _ _ _ (by assumption)).mono ?_; rintro e w1 ⟨rfl, rfl⟩)
      | (go_at_call 73; refine (within_no _ _ _ _ (by assumption)).mono ?_; rintro e w1 ⟨rfl, rfl⟩))
    go_ret
    exact ⟨rfl, (Below.refl _ _).alloc (Nat.le_refl _) _⟩
theorem may_7 (a b n : Int) (w : World) : Calls Try.prog 59 #[.agg #[.int .i64 7, .int .i64 a, .int .i64 b, .int .i64 n]] w fun e w' => e = .returned (.bool (mayB (7, a, b, n))) ∧ Below w.heap.size w w' := by
  by_cases ca : 0 ≤ a ∧ a ≤ 7
  · by_cases cb : b = 0
    · subst cb
      by_cases cn : 1 ≤ n ∧ n ≤ 24
      · rw [may_of (x := (7, a, 0, n)) (by unfold mayP; simp <;> omega)]
        go_enter Try.func59, Try.ntmps59
        go_wp2_with (first
          | (go_at_call 71; refine (mem_yes _ _ (by assumption)).mono ?_; rintro e w1 ⟨rfl, rfl⟩)
          | (go_at_call 71; refine (mem_no _ _ (by assumption)).mono ?_; rintro e w1 ⟨rfl, rfl⟩)
          | (go_at_call 72; refine (word_yes _ _ (by assumption)).mono ?_; rintro e w1 ⟨rfl, rfl⟩)
          | (go_at_call 72; refine (word_no _ _ (by assumption)).mono ?_; rintro e w1 ⟨rfl, rfl⟩)
          | (go_at_call 73; refine (within_yes _ _ _ _ (by assumption)).mono ?_; rintro e w1 ⟨rfl, rfl⟩)
          | (go_at_call 73; refine (within_no _ _ _ _ (by assumption)).mono ?_; rintro e w1 ⟨rfl, rfl⟩))
        go_ret
        exact ⟨rfl, (Below.refl _ _).alloc (Nat.le_refl _) _⟩
      · rw [may_not (x := (7, a, 0, n)) (by unfold mayP; simp <;> omega)]
        go_enter Try.func59, Try.ntmps59
        go_wp2_with (first
          | (go_at_call 71; refine (mem_yes _ _ (by assumption)).mono ?_; rintro e w1 ⟨rfl, rfl⟩)
          | (go_at_call 71; refine (mem_no _ _ (by assumption)).mono ?_; rintro e w1 ⟨rfl, rfl⟩)
          | (go_at_call 72; refine (word_yes _ _ (by assumption)).mono ?_; rintro e w1 ⟨rfl, rfl⟩)
          | (go_at_call 72; refine (word_no _ _ (by assumption)).mono ?_; rintro e w1 ⟨rfl, rfl⟩)
          | (go_at_call 73; refine (within_yes _ _ _ _ (by assumption)).mono ?_; rintro e w1 ⟨rfl, rfl⟩)
          | (go_at_call 73; refine (within_no _ _ _ _ (by assumption)).mono ?_; rintro e w1 ⟨rfl, rfl⟩))
        go_ret
        exact ⟨rfl, (Below.refl _ _).alloc (Nat.le_refl _) _⟩
    · have db : (b == 0) = false := by simpa using cb
      rw [may_not (x := (7, a, b, n)) (by unfold mayP; simp <;> omega)]
      go_enter Try.func59, Try.ntmps59
      go_wp2_with (first
        | (go_at_call 71; refine (mem_yes _ _ (by assumption)).mono ?_; rintro e w1 ⟨rfl, rfl⟩)
        | (go_at_call 71; refine (mem_no _ _ (by assumption)).mono ?_; rintro e w1 ⟨rfl, rfl⟩)
        | (go_at_call 72; refine (word_yes _ _ (by assumption)).mono ?_; rintro e w1 ⟨rfl, rfl⟩)
        | (go_at_call 72; refine (word_no _ _ (by assumption)).mono ?_; rintro e w1 ⟨rfl, rfl⟩)
        | (go_at_call 73; refine (within_yes _ _ _ _ (by assumption)).mono ?_; rintro e w1 ⟨rfl, rfl⟩)
        | (go_at_call 73; refine (within_no _ _ _ _ (by assumption)).mono ?_; rintro e w1 ⟨rfl, rfl⟩))
      go_ret
      exact ⟨rfl, (Below.refl _ _).alloc (Nat.le_refl _) _⟩
  · rw [may_not (x := (7, a, b, n)) (by unfold mayP; simp <;> omega)]
    go_enter Try.func59, Try.ntmps59
    go_wp2_with (first
      | (go_at_call 71; refine (mem_yes _ _ (by assumption)).mono ?_; rintro e w1 ⟨rfl, rfl⟩)
      | (go_at_call 71; refine (mem_no _ _ (by assumption)).mono ?_; rintro e w1 ⟨rfl, rfl⟩)
      | (go_at_call 72; refine (word_yes _ _ (by assumption)).mono ?_; rintro e w1 ⟨rfl, rfl⟩)
      | (go_at_call 72; refine (word_no _ _ (by assumption)).mono ?_; rintro e w1 ⟨rfl, rfl⟩)
      | (go_at_call 73; refine (within_yes _ _ _ _ (by assumption)).mono ?_; rintro e w1 ⟨rfl, rfl⟩)
      | (go_at_call 73; refine (within_no _ _ _ _ (by assumption)).mono ?_; rintro e w1 ⟨rfl, rfl⟩))
    go_ret
    exact ⟨rfl, (Below.refl _ _).alloc (Nat.le_refl _) _⟩
theorem may_8 (a b n : Int) (w : World) : Calls Try.prog 59 #[.agg #[.int .i64 8, .int .i64 a, .int .i64 b, .int .i64 n]] w fun e w' => e = .returned (.bool (mayB (8, a, b, n))) ∧ Below w.heap.size w w' := by
  by_cases ca : a = 0
  · subst ca
    by_cases cb : 1 ≤ b ∧ b ≤ 24
    · by_cases cn : 1 ≤ n ∧ n ≤ 20
      · rw [may_of (x := (8, 0, b, n)) (by unfold mayP; simp <;> omega)]
        go_enter Try.func59, Try.ntmps59
        go_wp2_with (first
          | (go_at_call 71; refine (mem_yes _ _ (by assumption)).mono ?_; rintro e w1 ⟨rfl, rfl⟩)
          | (go_at_call 71; refine (mem_no _ _ (by assumption)).mono ?_; rintro e w1 ⟨rfl, rfl⟩)
          | (go_at_call 72; refine (word_yes _ _ (by assumption)).mono ?_; rintro e w1 ⟨rfl, rfl⟩)
          | (go_at_call 72; refine (word_no _ _ (by assumption)).mono ?_; rintro e w1 ⟨rfl, rfl⟩)
          | (go_at_call 73; refine (within_yes _ _ _ _ (by assumption)).mono ?_; rintro e w1 ⟨rfl, rfl⟩)
          | (go_at_call 73; refine (within_no _ _ _ _ (by assumption)).mono ?_; rintro e w1 ⟨rfl, rfl⟩))
        go_ret
        exact ⟨rfl, (Below.refl _ _).alloc (Nat.le_refl _) _⟩
      · rw [may_not (x := (8, 0, b, n)) (by unfold mayP; simp <;> omega)]
        go_enter Try.func59, Try.ntmps59
        go_wp2_with (first
          | (go_at_call 71; refine (mem_yes _ _ (by assumption)).mono ?_; rintro e w1 ⟨rfl, rfl⟩)
          | (go_at_call 71; refine (mem_no _ _ (by assumption)).mono ?_; rintro e w1 ⟨rfl, rfl⟩)
          | (go_at_call 72; refine (word_yes _ _ (by assumption)).mono ?_; rintro e w1 ⟨rfl, rfl⟩)
          | (go_at_call 72; refine (word_no _ _ (by assumption)).mono ?_; rintro e w1 ⟨rfl, rfl⟩)
          | (go_at_call 73; refine (within_yes _ _ _ _ (by assumption)).mono ?_; rintro e w1 ⟨rfl, rfl⟩)
          | (go_at_call 73; refine (within_no _ _ _ _ (by assumption)).mono ?_; rintro e w1 ⟨rfl, rfl⟩))
        go_ret
        exact ⟨rfl, (Below.refl _ _).alloc (Nat.le_refl _) _⟩
    · rw [may_not (x := (8, 0, b, n)) (by unfold mayP; simp <;> omega)]
      go_enter Try.func59, Try.ntmps59
      go_wp2_with (first
        | (go_at_call 71; refine (mem_yes _ _ (by assumption)).mono ?_; rintro e w1 ⟨rfl, rfl⟩)
        | (go_at_call 71; refine (mem_no _ _ (by assumption)).mono ?_; rintro e w1 ⟨rfl, rfl⟩)
        | (go_at_call 72; refine (word_yes _ _ (by assumption)).mono ?_; rintro e w1 ⟨rfl, rfl⟩)
        | (go_at_call 72; refine (word_no _ _ (by assumption)).mono ?_; rintro e w1 ⟨rfl, rfl⟩)
        | (go_at_call 73; refine (within_yes _ _ _ _ (by assumption)).mono ?_; rintro e w1 ⟨rfl, rfl⟩)
        | (go_at_call 73; refine (within_no _ _ _ _ (by assumption)).mono ?_; rintro e w1 ⟨rfl, rfl⟩))
      go_ret
      exact ⟨rfl, (Below.refl _ _).alloc (Nat.le_refl _) _⟩
  · have da : (a == 0) = false := by simpa using ca
    rw [may_not (x := (8, a, b, n)) (by unfold mayP; simp <;> omega)]
    go_enter Try.func59, Try.ntmps59
    go_wp2_with (first
      | (go_at_call 71; refine (mem_yes _ _ (by assumption)).mono ?_; rintro e w1 ⟨rfl, rfl⟩)
      | (go_at_call 71; refine (mem_no _ _ (by assumption)).mono ?_; rintro e w1 ⟨rfl, rfl⟩)
      | (go_at_call 72; refine (word_yes _ _ (by assumption)).mono ?_; rintro e w1 ⟨rfl, rfl⟩)
      | (go_at_call 72; refine (word_no _ _ (by assumption)).mono ?_; rintro e w1 ⟨rfl, rfl⟩)
      | (go_at_call 73; refine (within_yes _ _ _ _ (by assumption)).mono ?_; rintro e w1 ⟨rfl, rfl⟩)
      | (go_at_call 73; refine (within_no _ _ _ _ (by assumption)).mono ?_; rintro e w1 ⟨rfl, rfl⟩))
    go_ret
    exact ⟨rfl, (Below.refl _ _).alloc (Nat.le_refl _) _⟩
theorem may_9 (a b n : Int) (w : World) : Calls Try.prog 59 #[.agg #[.int .i64 9, .int .i64 a, .int .i64 b, .int .i64 n]] w fun e w' => e = .returned (.bool (mayB (9, a, b, n))) ∧ Below w.heap.size w w' := by
  by_cases ca : 0 ≤ a ∧ a ≤ 3
  · by_cases cb : b = 0
    · subst cb
      by_cases cn : n = 0
      · subst cn
        rw [may_of (x := (9, a, 0, 0)) (by unfold mayP; simp <;> omega)]
        go_enter Try.func59, Try.ntmps59
        go_wp2_with (first
          | (go_at_call 71; refine (mem_yes _ _ (by assumption)).mono ?_; rintro e w1 ⟨rfl, rfl⟩)
          | (go_at_call 71; refine (mem_no _ _ (by assumption)).mono ?_; rintro e w1 ⟨rfl, rfl⟩)
          | (go_at_call 72; refine (word_yes _ _ (by assumption)).mono ?_; rintro e w1 ⟨rfl, rfl⟩)
          | (go_at_call 72; refine (word_no _ _ (by assumption)).mono ?_; rintro e w1 ⟨rfl, rfl⟩)
          | (go_at_call 73; refine (within_yes _ _ _ _ (by assumption)).mono ?_; rintro e w1 ⟨rfl, rfl⟩)
          | (go_at_call 73; refine (within_no _ _ _ _ (by assumption)).mono ?_; rintro e w1 ⟨rfl, rfl⟩))
        go_ret
        exact ⟨rfl, (Below.refl _ _).alloc (Nat.le_refl _) _⟩
      · have dn : (n == 0) = false := by simpa using cn
        rw [may_not (x := (9, a, 0, n)) (by unfold mayP; simp <;> omega)]
        go_enter Try.func59, Try.ntmps59
        go_wp2_with (first
          | (go_at_call 71; refine (mem_yes _ _ (by assumption)).mono ?_; rintro e w1 ⟨rfl, rfl⟩)
          | (go_at_call 71; refine (mem_no _ _ (by assumption)).mono ?_; rintro e w1 ⟨rfl, rfl⟩)
          | (go_at_call 72; refine (word_yes _ _ (by assumption)).mono ?_; rintro e w1 ⟨rfl, rfl⟩)
          | (go_at_call 72; refine (word_no _ _ (by assumption)).mono ?_; rintro e w1 ⟨rfl, rfl⟩)
          | (go_at_call 73; refine (within_yes _ _ _ _ (by assumption)).mono ?_; rintro e w1 ⟨rfl, rfl⟩)
          | (go_at_call 73; refine (within_no _ _ _ _ (by assumption)).mono ?_; rintro e w1 ⟨rfl, rfl⟩))
        go_ret
        exact ⟨rfl, (Below.refl _ _).alloc (Nat.le_refl _) _⟩
    · have db : (b == 0) = false := by simpa using cb
      rw [may_not (x := (9, a, b, n)) (by unfold mayP; simp <;> omega)]
      go_enter Try.func59, Try.ntmps59
      go_wp2_with (first
        | (go_at_call 71; refine (mem_yes _ _ (by assumption)).mono ?_; rintro e w1 ⟨rfl, rfl⟩)
        | (go_at_call 71; refine (mem_no _ _ (by assumption)).mono ?_; rintro e w1 ⟨rfl, rfl⟩)
        | (go_at_call 72; refine (word_yes _ _ (by assumption)).mono ?_; rintro e w1 ⟨rfl, rfl⟩)
        | (go_at_call 72; refine (word_no _ _ (by assumption)).mono ?_; rintro e w1 ⟨rfl, rfl⟩)
        | (go_at_call 73; refine (within_yes _ _ _ _ (by assumption)).mono ?_; rintro e w1 ⟨rfl, rfl⟩)
        | (go_at_call 73; refine (within_no _ _ _ _ (by assumption)).mono ?_; rintro e w1 ⟨rfl, rfl⟩))
      go_ret
      exact ⟨rfl, (Below.refl _ _).alloc (Nat.le_refl _) _⟩
  · rw [may_not (x := (9, a, b, n)) (by unfold mayP; simp <;> omega)]
    go_enter Try.func59, Try.ntmps59
    go_wp2_with (first
      | (go_at_call 71; refine (mem_yes _ _ (by assumption)).mono ?_; rintro e w1 ⟨rfl, rfl⟩)
      | (go_at_call 71; refine (mem_no _ _ (by assumption)).mono ?_; rintro e w1 ⟨rfl, rfl⟩)
      | (go_at_call 72; refine (word_yes _ _ (by assumption)).mono ?_; rintro e w1 ⟨rfl, rfl⟩)
      | (go_at_call 72; refine (word_no _ _ (by assumption)).mono ?_; rintro e w1 ⟨rfl, rfl⟩)
      | (go_at_call 73; refine (within_yes _ _ _ _ (by assumption)).mono ?_; rintro e w1 ⟨rfl, rfl⟩)
      | (go_at_call 73; refine (within_no _ _ _ _ (by assumption)).mono ?_; rintro e w1 ⟨rfl, rfl⟩))
    go_ret
    exact ⟨rfl, (Below.refl _ _).alloc (Nat.le_refl _) _⟩
theorem may_10 (a b n : Int) (w : World) : Calls Try.prog 59 #[.agg #[.int .i64 10, .int .i64 a, .int .i64 b, .int .i64 n]] w fun e w' => e = .returned (.bool (mayB (10, a, b, n))) ∧ Below w.heap.size w w' := by
  by_cases ca : 0 ≤ a ∧ a ≤ 3
  · by_cases cb : b = 0
    · subst cb
      by_cases cn : n = 0
      · subst cn
        rw [may_of (x := (10, a, 0, 0)) (by unfold mayP; simp <;> omega)]
        go_enter Try.func59, Try.ntmps59
        go_wp2_with (first
          | (go_at_call 71; refine (mem_yes _ _ (by assumption)).mono ?_; rintro e w1 ⟨rfl, rfl⟩)
          | (go_at_call 71; refine (mem_no _ _ (by assumption)).mono ?_; rintro e w1 ⟨rfl, rfl⟩)
          | (go_at_call 72; refine (word_yes _ _ (by assumption)).mono ?_; rintro e w1 ⟨rfl, rfl⟩)
          | (go_at_call 72; refine (word_no _ _ (by assumption)).mono ?_; rintro e w1 ⟨rfl, rfl⟩)
          | (go_at_call 73; refine (within_yes _ _ _ _ (by assumption)).mono ?_; rintro e w1 ⟨rfl, rfl⟩)
          | (go_at_call 73; refine (within_no _ _ _ _ (by assumption)).mono ?_; rintro e w1 ⟨rfl, rfl⟩))
        go_ret
        exact ⟨rfl, (Below.refl _ _).alloc (Nat.le_refl _) _⟩
      · have dn : (n == 0) = false := by simpa using cn
        rw [may_not (x := (10, a, 0, n)) (by unfold mayP; simp <;> omega)]
        go_enter Try.func59, Try.ntmps59
        go_wp2_with (first
          | (go_at_call 71; refine (mem_yes _ _ (by assumption)).mono ?_; rintro e w1 ⟨rfl, rfl⟩)
          | (go_at_call 71; refine (mem_no _ _ (by assumption)).mono ?_; rintro e w1 ⟨rfl, rfl⟩)
          | (go_at_call 72; refine (word_yes _ _ (by assumption)).mono ?_; rintro e w1 ⟨rfl, rfl⟩)
          | (go_at_call 72; refine (word_no _ _ (by assumption)).mono ?_; rintro e w1 ⟨rfl, rfl⟩)
          | (go_at_call 73; refine (within_yes _ _ _ _ (by assumption)).mono ?_; rintro e w1 ⟨rfl, rfl⟩)
          | (go_at_call 73; refine (within_no _ _ _ _ (by assumption)).mono ?_; rintro e w1 ⟨rfl, rfl⟩))
        go_ret
        exact ⟨rfl, (Below.refl _ _).alloc (Nat.le_refl _) _⟩
    · have db : (b == 0) = false := by simpa using cb
      rw [may_not (x := (10, a, b, n)) (by unfold mayP; simp <;> omega)]
      go_enter Try.func59, Try.ntmps59
      go_wp2_with (first
        | (go_at_call 71; refine (mem_yes _ _ (by assumption)).mono ?_; rintro e w1 ⟨rfl, rfl⟩)
        | (go_at_call 71; refine (mem_no _ _ (by assumption)).mono ?_; rintro e w1 ⟨rfl, rfl⟩)
        | (go_at_call 72; refine (word_yes _ _ (by assumption)).mono ?_; rintro e w1 ⟨rfl, rfl⟩)
        | (go_at_call 72; refine (word_no _ _ (by assumption)).mono ?_; rintro e w1 ⟨rfl, rfl⟩)
        | (go_at_call 73; refine (within_yes _ _ _ _ (by assumption)).mono ?_; rintro e w1 ⟨rfl, rfl⟩)
        | (go_at_call 73; refine (within_no _ _ _ _ (by assumption)).mono ?_; rintro e w1 ⟨rfl, rfl⟩))
      go_ret
      exact ⟨rfl, (Below.refl _ _).alloc (Nat.le_refl _) _⟩
  · rw [may_not (x := (10, a, b, n)) (by unfold mayP; simp <;> omega)]
    go_enter Try.func59, Try.ntmps59
    go_wp2_with (first
      | (go_at_call 71; refine (mem_yes _ _ (by assumption)).mono ?_; rintro e w1 ⟨rfl, rfl⟩)
      | (go_at_call 71; refine (mem_no _ _ (by assumption)).mono ?_; rintro e w1 ⟨rfl, rfl⟩)
      | (go_at_call 72; refine (word_yes _ _ (by assumption)).mono ?_; rintro e w1 ⟨rfl, rfl⟩)
      | (go_at_call 72; refine (word_no _ _ (by assumption)).mono ?_; rintro e w1 ⟨rfl, rfl⟩)
      | (go_at_call 73; refine (within_yes _ _ _ _ (by assumption)).mono ?_; rintro e w1 ⟨rfl, rfl⟩)
      | (go_at_call 73; refine (within_no _ _ _ _ (by assumption)).mono ?_; rintro e w1 ⟨rfl, rfl⟩))
    go_ret
    exact ⟨rfl, (Below.refl _ _).alloc (Nat.le_refl _) _⟩
theorem may_else (o a b n : Int) (w : World) (h : ¬ (0 ≤ o ∧ o ≤ 11)) : Calls Try.prog 59 #[.agg #[.int .i64 o, .int .i64 a, .int .i64 b, .int .i64 n]] w fun e w' => e = .returned (.bool (mayB (o, a, b, n))) ∧ Below w.heap.size w w' := by
  rw [may_not (x := (o, a, b, n)) (by unfold mayP; simp <;> omega)]
  have d0 : (o == 0) = false := by simp; omega
  have d1 : (o == 1) = false := by simp; omega
  have d2 : (o == 2) = false := by simp; omega
  have d3 : (o == 3) = false := by simp; omega
  have d4 : (o == 4) = false := by simp; omega
  have d5 : (o == 5) = false := by simp; omega
  have d6 : (o == 6) = false := by simp; omega
  have d7 : (o == 7) = false := by simp; omega
  have d8 : (o == 8) = false := by simp; omega
  have d9 : (o == 9) = false := by simp; omega
  have d10 : (o == 10) = false := by simp; omega
  have d11 : (o == 11) = false := by simp; omega
  go_enter Try.func59, Try.ntmps59
  go_wp2
  go_ret
  exact ⟨rfl, (Below.refl _ _).alloc (Nat.le_refl _) _⟩
theorem may_any (x : In) (w : World) : Calls Try.prog 59 #[.agg #[.int .i64 x.1, .int .i64 x.2.1, .int .i64 x.2.2.1, .int .i64 x.2.2.2]] w fun e w' => e = .returned (.bool (mayB x)) ∧ Below w.heap.size w w' := by
  obtain ⟨o, a, b, n⟩ := x
  by_cases h : 0 ≤ o ∧ o ≤ 11
  · have : o = 0 ∨ o = 1 ∨ o = 2 ∨ o = 3 ∨ o = 4 ∨ o = 5 ∨ o = 6 ∨ o = 7 ∨ o = 8 ∨ o = 9 ∨ o = 10 ∨ o = 11 := by omega
    rcases this with rfl | rfl | rfl | rfl | rfl | rfl | rfl | rfl | rfl | rfl | rfl | rfl
    · exact may_0 a b n w
    · exact may_1 a b n w
    · exact may_2 a b n w
    · exact may_3 a b n w
    · exact may_4 a b n w
    · exact may_5 a b n w
    · exact may_6 a b n w
    · exact may_7 a b n w
    · exact may_8 a b n w
    · exact may_9 a b n w
    · exact may_10 a b n w
    · exact may_11 a b n w
  · exact may_else o a b n w h
end Go.Proofs.Ytonholadabebbaa
