/-
  Two to the n, Shift and Narrow by the document: they end.
-/
import Derived.Test.YteikdocpncdheaaMayRef
namespace Go.Proofs.Yteikdocpncdheaa
open Go.ChangeShapes Go.WideShapes Go.ChangeAt Go.RowKit
attribute [local go_sem ↓] Go.wp_at_zero Go.wp_at_succ

theorem two_le {k : Nat} (h : k ≤ 62) : 2 ^ k ≤ 4611686018427387904 := by
  have := Nat.pow_le_pow_right (n := 2) (by decide) h
  simpa using this
set_option maxHeartbeats 1000000 in
theorem bit_any (N : Nat) (w : World) (h1 : N ≤ 63) : Calls Try.prog 47 #[.int .i64 (N : Int)] w fun e w' => e = .returned (.int .u64 ((2 ^ N : Nat) : Int)) ∧ w' = w := by
  go_enter Try.func47, Try.ntmps47
  go_wp2
  go_loop [0, 3] (fun t v => ∃ k x : Nat, k ≤ N ∧ t = .int .i64 ((N - k : Nat) : Int) ∧ v = .int .u64 (x : Int) ∧ Hid (x = 2 ^ k)) (fun t _ => (intOf t).toNat)
  case atStart => exact ⟨0, 1, Nat.zero_le _, rfl, rfl, rfl⟩
  case round =>
    obtain ⟨k, x, hk, rfl, rfl, HX⟩ := hrel
    obtain ⟨m, hm⟩ : ∃ m, N - k = m := ⟨_, rfl⟩
    rw [hm]
    by_cases hlt : k < N
    · have d : decide ((0 : Int) < (m : Int)) = true := by simp; omega
      have hx : x ≤ 4611686018427387904 := by rw [HX.out]; exact two_le (by omega)
      have HM : Hid (N - k = m) := hm
      have hm0 : 1 ≤ m := by omega
      have hm1 : m ≤ 63 := by omega
      clear hm
      go_wp2
      go_round
      case rel => exact ⟨k + 1, 2 * x, by omega, by have := HM.out; rw [show N - (k + 1) = m - 1 by omega]; go_num, by go_num, by show _ = _; rw [HX.out, Nat.pow_succ]; omega⟩
      case measure => simp [intOf]; omega
    · obtain rfl : k = N := by omega
      obtain rfl : m = 0 := by omega
      clear hm
      go_wp2
      go_ret
      exact ⟨by show Ending.returned (.int .u64 (x : Int)) = _; rw [HX.out]; simp, rfl⟩
theorem bit_c (n : Int) (w : World) (h0 : 0 ≤ n) (h1 : n ≤ 63) : Calls Try.prog 47 #[.int .i64 n] w fun e w' => (∃ v : Nat, e = .returned (.int .u64 (v : Int)) ∧ 1 ≤ v ∧ v ≤ 9223372036854775808) ∧ w' = w := by
  obtain ⟨N, rfl⟩ : ∃ N : Nat, n = N := ⟨n.toNat, by omega⟩
  refine (bit_any N w (by omega)).mono ?_
  rintro e w' ⟨rfl, rfl⟩
  refine ⟨⟨2 ^ N, rfl, Nat.one_le_two_pow, ?_⟩, rfl⟩
  have := Nat.pow_le_pow_right (n := 2) (by decide) (show N ≤ 63 by omega)
  simpa using this
set_option maxHeartbeats 1000000 in
theorem narrow_any (v n : Int) (w : World) : Calls Try.prog 34 #[.int .i64 v, .int .i64 n] w fun e w' => (∃ u, e = .returned (.int .i64 u)) ∧ w' = w := by
  by_cases h1 : n < 1
  · go_enter Try.func34, Try.ntmps34
    go_wp2
    go_ret
    exact ⟨⟨_, rfl⟩, rfl⟩
  by_cases h2 : 63 < n
  · have d1 : decide (n < 1) = false := by simpa using h1
    go_enter Try.func34, Try.ntmps34
    go_wp2
    go_ret
    exact ⟨⟨_, rfl⟩, rfl⟩
  have d1 : decide (n < 1) = false := by simpa using h1
  have d2 : decide (63 < n) = false := by simpa using h2
  go_enter Try.func34, Try.ntmps34
  go_wp2_with (go_at_call 47; refine (bit_c _ _ (by omega) (by omega)).mono ?_; rintro e w' ⟨⟨x, rfl, x1, x2⟩, rfl⟩)
  all_goals
    go_ret
    exact ⟨⟨_, rfl⟩, rfl⟩
set_option maxHeartbeats 1000000 in
theorem shift_any (v n : Int) (w : World) : Calls Try.prog 33 #[.int .i64 v, .int .i64 n] w fun e w' => (∃ u, e = .returned (.int .i64 u)) ∧ w' = w := by
  by_cases h1 : n < -63
  · go_enter Try.func33, Try.ntmps33
    go_wp2
    go_ret
    exact ⟨⟨_, rfl⟩, rfl⟩
  by_cases h2 : 63 < n
  · have d1 : decide (n < -63) = false := by simpa using h1
    go_enter Try.func33, Try.ntmps33
    go_wp2
    go_ret
    exact ⟨⟨_, rfl⟩, rfl⟩
  have d1 : decide (n < -63) = false := by simpa using h1
  have d2 : decide (63 < n) = false := by simpa using h2
  go_enter Try.func33, Try.ntmps33
  go_wp2
  go_loop [0, 1] (fun a t => ∃ x k : Int, a = .int .i64 x ∧ t = .int .i64 k ∧ -63 ≤ k ∧ k ≤ 63) (fun _ t => (intOf t).toNat)
  case atStart => exact ⟨v, n, rfl, rfl, by omega, by omega⟩
  case round =>
    obtain ⟨x, k, rfl, rfl, k1, k2⟩ := hrel
    by_cases hk : 0 < k
    · go_wp2
      go_round
      case rel => exact ⟨_, k - 1, rfl, rfl, by omega, by omega⟩
      case measure => simp [intOf]; omega
    · have dk : decide (0 < k) = false := by simpa using hk
      go_wp2
      go_loop [0, 1] (fun a t => ∃ x j : Int, a = .int .i64 x ∧ t = .int .i64 j ∧ -63 ≤ j ∧ j ≤ 0) (fun _ t => (-(intOf t)).toNat)
      case atStart => exact ⟨x, k, rfl, rfl, by omega, by omega⟩
      case round =>
        obtain ⟨x, j, rfl, rfl, j1, j2⟩ := hrel
        by_cases hj : j < 0
        · go_wp2
          all_goals
            go_round
            case rel => exact ⟨_, j + 1, rfl, rfl, by omega, by omega⟩
            case measure => simp [intOf]; omega
        · have dj : decide (j < 0) = false := by simpa using hj
          go_wp2
          go_ret
          exact ⟨⟨_, rfl⟩, rfl⟩
end Go.Proofs.Yteikdocpncdheaa
