/-
  Two to the n, Shift and Narrow by the document: they end.
-/
import Derived.Test.YtonholadabebbaaMays
import Derived.Test.YtonholadabebbaaVmm
namespace Go.Proofs.Ytonholadabebbaa
open Go.ChangeShapes Go.WideShapes Go.ChangeAt Go.RowKit
attribute [local go_sem ↓] Go.wp_at_zero Go.wp_at_succ

theorem two_le {k : Nat} (h : k ≤ 62) : 2 ^ k ≤ 4611686018427387904 := by
  have := Nat.pow_le_pow_right (n := 2) (by decide) h
  simpa using this
set_option maxHeartbeats 1000000 in
theorem bit_any (N : Nat) (w : World) (h1 : N ≤ 63) : Calls Try.prog 49 #[.int .i64 (N : Int)] w fun e w' => e = .returned (.int .u64 ((2 ^ N : Nat) : Int)) ∧ w' = w := by
  go_enter Try.func49, Try.ntmps49
  go_wp2
  go_loop [0, 3] (fun t v => ∃ k x : Nat, k ≤ N ∧ t = .int .i64 ((N - k : Nat) : Int) ∧ v = .int .u64 (x : Int) ∧ Hid (x = 2 ^ k)) (fun t _ => (intOf t).toNat)
  case atStart => exact ⟨0, 1, Nat.zero_le _, rfl, rfl, rfl⟩
  case round =>
    obtain ⟨k, x, hk, rfl, rfl, HX⟩ := hrel
    obtain ⟨m, hm⟩ : ∃ m, N - k = m := ⟨_, rfl⟩
    rw [hm]
    by_cases hlt : k < N
    · have d : decide ((0 : Int) < (m : Int)) = true := by simp; omega
      have hx : x ≤ 4611686018427387904 := by rw [HX.out]; exact two_le (by omega)
      have HM : Hid (N - k = m) := hm
      have hm0 : 1 ≤ m := by omega
      have hm1 : m ≤ 63 := by omega
      clear hm
      go_wp2
      go_round
      case rel => exact ⟨k + 1, 2 * x, by omega, by have := HM.out; rw [show N - (k + 1) = m - 1 by omega]; go_num, by go_num, by show _ = _; rw [HX.out, Nat.pow_succ]; omega⟩
      case measure => simp [intOf]; omega
    · obtain rfl : k = N := by omega
      obtain rfl : m = 0 := by omega
      clear hm
      go_wp2
      go_ret
      exact ⟨by show Ending.returned (.int .u64 (x : Int)) = _; rw [HX.out]; simp, rfl⟩
theorem two_le63 {k : Nat} (h : k ≤ 63) : 2 ^ k ≤ 9223372036854775808 := by
  have := Nat.pow_le_pow_right (n := 2) (by decide) h
  simpa using this
theorem bit_n (n : Int) (N : Nat) (hN : n = N) (w : World) (h1 : N ≤ 63) (v : Int) (hv : ((2 ^ N : Nat) : Int) = v) : Calls Try.prog 49 #[.int .i64 n] w fun e w' => e = .returned (.int .u64 v) ∧ w' = w := by
  subst hN hv
  exact bit_any N w h1
theorem u64_wrap (v : Int) : IntKind.u64.wrap v = v % 18446744073709551616 := by simp [IntKind.wrap, IntKind.signed, IntKind.bits]
set_option maxHeartbeats 1000000 in
theorem narrow_ex (v n : Int) (w : World) : Calls Try.prog 37 #[.int .i64 v, .int .i64 n] w fun e w' => e = .returned (.int .i64 (nrw v n)) ∧ w' = w := by
  by_cases h1 : n < 1
  · have e : nrw v n = v := by unfold nrw; rw [if_pos (by omega)]
    rw [e]
    clear e
    go_enter Try.func37, Try.ntmps37
    go_wp2
    go_ret
    exact ⟨rfl, rfl⟩
  by_cases h2 : 63 < n
  · have e : nrw v n = v := by unfold nrw; rw [if_pos (by omega)]
    rw [e]
    clear e
    have d1 : decide (n < 1) = false := by simpa using h1
    go_enter Try.func37, Try.ntmps37
    go_wp2
    go_ret
    exact ⟨rfl, rfl⟩
  obtain ⟨N, rfl⟩ : ∃ N : Nat, n = N := ⟨n.toNat, by omega⟩
  have d1 : decide ((N : Int) < 1) = false := by simpa using h1
  have d2 : decide (63 < (N : Int)) = false := by simpa using h2
  rw [nrw_mod (by omega) (by omega)]
  have eM : ((2 ^ N : Nat) : Int) = 2 ^ N := by simp
  have eH : ((2 ^ (N - 1) : Nat) : Int) = 2 ^ (N - 1) := by simp
  have hm2 : (2 : Int) ^ N = 2 * 2 ^ (N - 1) := two_half (by omega)
  have hp := two_pos (N - 1)
  have hb : (2 : Int) ^ (N - 1) ≤ 4611686018427387904 := two_le_int (m := 62) (by omega)
  have hm : v % 18446744073709551616 % 2 ^ N = v % 2 ^ N := mod_mod_two (by omega)
  have hg : 1 ≤ N ∧ N ≤ 63 := by omega
  have bM := fun w => bit_n (N : Int) N rfl w hg.2 _ eM
  have bH := fun w => bit_n ((N : Int) - 1) (N - 1) (by omega) w (by omega) _ eH
  generalize (2 : Int) ^ N = M at *
  generalize (2 : Int) ^ (N - 1) = H at *
  clear eM eH h1 h2
  have r0 := Int.emod_nonneg v (show M ≠ 0 by omega)
  have r1 := Int.emod_lt_of_pos v (show 0 < M by omega)
  have HM : Hid (M = 2 * H) := hm2
  have ht : (IntKind.u64.wrap v).tmod M = v % M := by
    rw [u64_wrap, Int.tmod_eq_emod_of_nonneg (by omega), hm]
  have hM0 : 0 < M := by omega
  have hM1 : M ≤ 9223372036854775808 := by omega
  clear hm hm2
  generalize v % M = r at *
  by_cases hc : H ≤ r
  · rw [if_pos hc]
    have dc : decide (H ≤ r) = true := by simpa using hc
    go_enter Try.func37, Try.ntmps37
    go_wp2_with (go_at_call 49; first
      | (with_reducible (refine (bM _).mono ?_); rintro e w' ⟨rfl, rfl⟩)
      | (with_reducible (refine (bH _).mono ?_); rintro e w' ⟨rfl, rfl⟩))
    go_ret
    exact ⟨by show Ending.returned (.int .i64 (-(M - r))) = _; rw [show -(M - r) = r - M by omega], rfl⟩
  · rw [if_neg hc]
    have dc : decide (H ≤ r) = false := by simpa using hc
    go_enter Try.func37, Try.ntmps37
    go_wp2_with (go_at_call 49; first
      | (with_reducible (refine (bM _).mono ?_); rintro e w' ⟨rfl, rfl⟩)
      | (with_reducible (refine (bH _).mono ?_); rintro e w' ⟨rfl, rfl⟩))
    go_ret
    exact ⟨rfl, rfl⟩
theorem td2 (x : Int) : x.tdiv 2 = if 0 ≤ x then x / 2 else -((-x) / 2) := by
  split
  · rw [Int.tdiv_eq_ediv_of_nonneg (by omega)]
  · have h : (-x).tdiv 2 = (-x) / 2 := Int.tdiv_eq_ediv_of_nonneg (by omega)
    rw [Int.neg_tdiv] at h
    omega
theorem tm2 (x : Int) : x.tmod 2 = x - 2 * x.tdiv 2 := by
  have := Int.mul_tdiv_add_tmod x 2
  omega
theorem half_odd {x : Int} (h0 : -9223372036854775808 ≤ x) (h : x < 0) (h2 : ¬ x.tmod 2 = 0) : wrap64 (x.tdiv 2 - 1) = x / 2 := by
  rw [tm2, td2, if_neg (by omega)] at h2
  rw [td2, if_neg (by omega), wrap64_id (by omega) (by omega)]
  omega
theorem half_even {x : Int} (h : ¬ (x < 0 ∧ ¬ x.tmod 2 = 0)) : x.tdiv 2 = x / 2 := by
  rw [tm2, td2] at h
  rw [td2]
  split at h <;> split <;> omega
theorem shl_step {x v : Int} {j : Nat} (h : x = if j = 0 then v else wrap64 (v * 2 ^ j)) : wrap64 (x * 2) = if j + 1 = 0 then v else wrap64 (v * 2 ^ (j + 1)) := by
  rw [if_neg (by omega), h, Int.pow_succ, ← Int.mul_assoc]
  by_cases hj : j = 0
  · subst hj; simp
  · rw [if_neg hj, wrap64_dbl]
theorem shr_step {x v : Int} {j : Nat} (h : x = v / 2 ^ j) : x / 2 = v / 2 ^ (j + 1) := by
  rw [h, Int.ediv_ediv_of_nonneg (Int.le_of_lt (two_pos j)), ← Int.pow_succ]
set_option maxHeartbeats 2000000 in
theorem shift_ex (v n : Int) (w : World) (hv0 : -9223372036854775808 ≤ v) (hv1 : v ≤ 9223372036854775807) : Calls Try.prog 36 #[.int .i64 v, .int .i64 n] w fun e w' => e = .returned (.int .i64 (shf v n)) ∧ w' = w := by
  by_cases h1 : n < -63
  · rw [shf_far v (.inl h1)]
    go_enter Try.func36, Try.ntmps36
    go_wp2
    go_ret
    exact ⟨rfl, rfl⟩
  by_cases h2 : 63 < n
  · rw [shf_far v (.inr h2)]
    have d1 : decide (n < -63) = false := by simpa using h1
    go_enter Try.func36, Try.ntmps36
    go_wp2
    go_ret
    exact ⟨rfl, rfl⟩
  have d1 : decide (n < -63) = false := by simpa using h1
  have d2 : decide (63 < n) = false := by simpa using h2
  have HS : Hid (∀ x (j : Nat), (0 ≤ n → n = j → x = if j = 0 then v else wrap64 (v * 2 ^ j)) → (n < 0 → -n = j → x = v / 2 ^ j) → (n.natAbs = j) → x = shf v n) := by
    intro x j ha hb hj
    by_cases h0 : 0 ≤ n
    · obtain rfl : n = j := by omega
      rw [ha h0 rfl]
      by_cases hz : j = 0
      · subst hz; simp [shf_0]
      · rw [if_neg hz, shf_l (by omega) (by omega)]
    · obtain rfl : n = -(j : Int) := by omega
      rw [hb (by omega) (by omega), shf_r (by omega) (by omega)]
  generalize hs : shf v n = S at *
  clear hs
  go_enter Try.func36, Try.ntmps36
  go_wp2
  go_loop [0, 1] (fun a t => ∃ (x k : Int) (j : Nat), -9223372036854775808 ≤ x ∧ x ≤ 9223372036854775807 ∧ a = .int .i64 x ∧ t = .int .i64 k ∧ -63 ≤ k ∧ k ≤ 63 ∧ Hid (n = k + j ∧ (j = 0 ∨ 0 ≤ k) ∧ x = if j = 0 then v else wrap64 (v * 2 ^ j))) (fun _ t => (intOf t).toNat)
  case atStart => exact ⟨v, n, 0, hv0, hv1, rfl, rfl, by omega, by omega, by omega, .inl rfl, by simp⟩
  case round =>
    obtain ⟨x, k, j, x0, x1, rfl, rfl, k1, k2, HX⟩ := hrel
    by_cases hk : 0 < k
    · go_wp2
      go_round
      case rel => exact ⟨_, k - 1, j + 1, (wrap64_bd _).1, (wrap64_bd _).2, rfl, rfl, by omega, by omega, by have := HX.out.1; omega, .inr (by omega), shl_step HX.out.2.2⟩
      case measure => simp [intOf]; omega
    · have dk : decide (0 < k) = false := by simpa using hk
      have HY : Hid (k < 0 → n = k ∧ x = v) := fun h => by
        obtain ⟨a, b, c⟩ := HX.out
        obtain rfl : j = 0 := by omega
        exact ⟨by omega, by simpa using c⟩
      have HZ : Hid (k = 0 → x = S) := fun h => by
        obtain ⟨a, b, c⟩ := HX.out
        subst h
        exact HS.out x j (fun _ _ => c) (fun h => by omega) (by omega)
      go_wp2
      go_loop [0, 1] (fun a t => ∃ (y i : Int) (m : Nat), -9223372036854775808 ≤ y ∧ y ≤ 9223372036854775807 ∧ a = .int .i64 y ∧ t = .int .i64 i ∧ -63 ≤ i ∧ i ≤ 0 ∧ Hid (k + m = i ∧ (k < 0 → y = v / 2 ^ m) ∧ (k = 0 → y = x))) (fun _ t => (-(intOf t)).toNat)
      case atStart => exact ⟨x, k, 0, x0, x1, rfl, rfl, by omega, by omega, by omega, fun h => by rw [(HY.out h).2]; simp, fun _ => rfl⟩
      case round =>
        obtain ⟨y, i, m, y0, y1, rfl, rfl, j1, j2, HW⟩ := hrel
        by_cases hj : i < 0
        · by_cases ho : y < 0 ∧ ¬ y.tmod 2 = 0
          · have o1 : decide (y < 0) = true := by simpa using ho.1
            have o2 : (y.tmod 2 == 0) = false := by simpa using ho.2
            have HT : Hid (wrap64 (y.tdiv 2 - 1) = y / 2) := half_odd y0 ho.1 ho.2
            go_wp2
            refine ⟨⟨_, i + 1, m + 1, ?_, ?_, congrArg _ HT.out, rfl, by omega, by omega, by have := HW.out.1; omega, fun h => shr_step (HW.out.2.1 h), fun h => by have := HW.out.1; omega⟩, by simp [intOf]; omega⟩ <;> omega
          · have HT : Hid (y.tdiv 2 = y / 2) := half_even ho
            have hh : decide (y < 0) = false ∨ (y.tmod 2 == 0) = true := by
              by_cases h : y < 0
              · exact .inr (by have : y.tmod 2 = 0 := Classical.byContradiction fun h' => ho ⟨h, h'⟩; simpa using this)
              · exact .inl (by simpa using h)
            rcases hh with o1 | o1
            · go_wp2
              refine ⟨⟨_, i + 1, m + 1, ?_, ?_, congrArg _ HT.out, rfl, by omega, by omega, by have := HW.out.1; omega, fun h => shr_step (HW.out.2.1 h), fun h => by have := HW.out.1; omega⟩, by simp [intOf]; omega⟩ <;> omega
            · by_cases hy : y < 0
              · have o2 : decide (y < 0) = true := by simpa using hy
                go_wp2
                refine ⟨⟨_, i + 1, m + 1, ?_, ?_, congrArg _ HT.out, rfl, by omega, by omega, by have := HW.out.1; omega, fun h => shr_step (HW.out.2.1 h), fun h => by have := HW.out.1; omega⟩, by simp [intOf]; omega⟩ <;> omega
              · have o2 : decide (y < 0) = false := by simpa using hy
                go_wp2
                refine ⟨⟨_, i + 1, m + 1, ?_, ?_, by first | exact congrArg _ HT.out | rfl, rfl, by omega, by omega, by have := HW.out.1; omega, fun h => shr_step (HW.out.2.1 h), fun h => by have := HW.out.1; omega⟩, by simp [intOf]; omega⟩ <;> omega
        · have dj : decide (i < 0) = false := by simpa using hj
          have e : y = S := by
            obtain ⟨a, b, c⟩ := HW.out
            by_cases h0 : k = 0
            · rw [c h0, HZ.out h0]
            · have := HY.out (by omega)
              exact HS.out y m (fun h => by omega) (fun _ _ => b (by omega)) (by omega)
          subst e
          go_wp2
          go_ret
          exact ⟨rfl, rfl⟩
theorem wrap_u (v c : Int) : wrap64 (IntKind.u64.wrap (IntKind.u64.wrap v * c)) = wrap64 (v * c) := by rw [u64_wrap, u64_wrap, wrap64_mod, wrap64_mulmod]
end Go.Proofs.Ytonholadabebbaa
