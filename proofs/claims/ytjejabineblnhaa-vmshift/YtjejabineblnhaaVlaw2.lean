/-
  The law VmShift, walked.
-/
import Derived.Test.YtjejabineblnhaaVbegun
import Derived.WalkSpells
import Derived.Laws.ShiftsVarLaws
namespace Go.Proofs.Ytjejabineblnhaa
open Go.ChangeShapes Go.WideShapes Go.ChangeAt Go.RowKit
attribute [local go_sem ↓] Go.wp_at_zero Go.wp_at_succ

set_option maxRecDepth 100000 in
set_option maxHeartbeats 8000000 in
theorem shift_walk (v u : Int) (w : World) (hv0 : -9223372036854775808 ≤ v) (hv1 : v ≤ 9223372036854775807) (hu0 : 0 ≤ u) (_ : u ≤ 255) : Calls Try.prog 6 #[.int .i64 v, .int .u8 u] w fun e w' => e = .returned (.bool true) ∧ Below w.heap.size w w' := by
  obtain ⟨j, hj⟩ : ∃ j : Nat, u % 64 = (j : Int) := ⟨(u % 64).toNat, by omega⟩
  have hj2 : j ≤ 63 := by omega
  have ej : u.tmod 64 = (j : Int) := by rw [Int.tmod_eq_emod_of_nonneg hu0, hj]
  obtain ⟨s, hs⟩ : ∃ s, nrw v (64 - (j : Int)) = s := ⟨_, rfl⟩
  obtain ⟨r, hr⟩ : ∃ r, shf v (-(j : Int)) = r := ⟨_, rfl⟩
  obtain ⟨t, ht⟩ : ∃ t, shf s (j : Int) = t := ⟨_, rfl⟩
  obtain ⟨lo, hlo⟩ : ∃ lo, shf r (j : Int) = lo := ⟨_, rfl⟩
  have hsin : -9223372036854775808 ≤ s ∧ s ≤ 9223372036854775807 := by rw [← hs]; exact nrw_in hv0 hv1 _
  have hrin : -9223372036854775808 ≤ r ∧ r ≤ 9223372036854775807 := by rw [← hr]; exact shf_in hv0 hv1 _
  have htin : -9223372036854775808 ≤ t ∧ t ≤ 9223372036854775807 := by rw [← ht]; exact shf_in hsin.1 hsin.2 _
  have hloin : -9223372036854775808 ≤ lo ∧ lo ≤ 9223372036854775807 := by rw [← hlo]; exact shf_in hrin.1 hrin.2 _
  have hts : shf t (-(j : Int)) = s := by
    by_cases h0 : j = 0
    · subst h0
      rw [← ht]
      show shf (shf s 0) 0 = s
      rw [shf_0, shf_0]
    · have h := shf_back (v := v) (k := j) (by omega) hj2
      rw [show ((64 - j : Nat) : Int) = 64 - (j : Int) by omega, hs, ht] at h
      exact h
  have hlow := shf_low hv0 hv1 hj2
  rw [hr, hlo] at hlow
  have H1 : ∀ w, Calls Try.prog 10 #[.int .i64 v, .int .i64 (64 - (j : Int))] w fun e w' => e = .returned (.int .i64 s) ∧ w' = w := fun w => hs ▸ vnarrow v _ w hv0 hv1
  have H2 : ∀ w, Calls Try.prog 12 #[.int .i64 v, .int .i64 (-(j : Int))] w fun e w' => e = .returned (.int .i64 r) ∧ w' = w := fun w => hr ▸ vshift v _ w hv0 hv1
  have H3 : ∀ w, Calls Try.prog 12 #[.int .i64 s, .int .i64 (j : Int)] w fun e w' => e = .returned (.int .i64 t) ∧ w' = w := fun w => ht ▸ vshift s _ w hsin.1 hsin.2
  have H4 : ∀ w, Calls Try.prog 12 #[.int .i64 t, .int .i64 (-(j : Int))] w fun e w' => e = .returned (.int .i64 s) ∧ w' = w := fun w => by have h := vshift t (-(j : Int)) w htin.1 htin.2; rw [hts] at h; exact h
  have H5 : ∀ w, Calls Try.prog 12 #[.int .i64 v, .int .i64 64] w fun e w' => e = .returned (.int .i64 v) ∧ w' = w := fun w => by have h := vshift v 64 w hv0 hv1; rw [shf_far v (by decide)] at h; exact h
  have H6 : ∀ w, Calls Try.prog 12 #[.int .i64 v, .int .i64 (-64)] w fun e w' => e = .returned (.int .i64 v) ∧ w' = w := fun w => by have h := vshift v (-64) w hv0 hv1; rw [shf_far v (by decide)] at h; exact h
  have H7 : ∀ w, Calls Try.prog 12 #[.int .i64 r, .int .i64 (j : Int)] w fun e w' => e = .returned (.int .i64 lo) ∧ w' = w := fun w => hlo ▸ vshift r _ w hrin.1 hrin.2
  have p2 := two_pos j
  have p3 : (2 : Int) ^ j ≤ 9223372036854775808 := two_le_int (m := 63) hj2
  have d1 : decide (lo ≤ v) = true := decide_eq_true hlow.1
  have d2 : decide (IntKind.u64.wrap (IntKind.u64.wrap v - IntKind.u64.wrap lo) < IntKind.u64.wrap (2 ^ j)) = true := by
    have e7 : IntKind.u64.wrap (2 ^ j) = 2 ^ j := by rw [u64_wrap]; exact Int.emod_eq_of_lt (by omega) (by omega)
    rw [e7, u64_wrap, u64_wrap, u64_wrap, ← Int.sub_emod, Int.emod_eq_of_lt (by omega) (by omega)]
    exact decide_eq_true hlow.2
  have hse : (s == s) = true := by simp
  have hve : (v == v) = true := by simp
  have s0 := hsin.1
  have s1 := hsin.2
  have r0 := hrin.1
  have r1 := hrin.2
  have t0 := htin.1
  have t1 := htin.2
  have l0 := hloin.1
  have l1 := hloin.2
  clear hj hs hr ht hlo hsin hrin htin hloin hts hlow p2 p3
  go_enter Try.func6, Try.ntmps6
  go_wp2_with (first
    | (go_at_call 9; refine (begun_any _).mono ?_; rintro e w1 ⟨rfl, b1⟩)
    | (go_at_call 10; (with_reducible (refine (H1 _).mono ?_)); rintro e w2 ⟨rfl, rfl⟩)
    | (go_at_call 12; (with_reducible (refine (H2 _).mono ?_)); rintro e w2 ⟨rfl, rfl⟩)
    | (go_at_call 12; (with_reducible (refine (H3 _).mono ?_)); rintro e w2 ⟨rfl, rfl⟩)
    | (go_at_call 12; (with_reducible (refine (H4 _).mono ?_)); rintro e w2 ⟨rfl, rfl⟩)
    | (go_at_call 12; (with_reducible (refine (H5 _).mono ?_)); rintro e w2 ⟨rfl, rfl⟩)
    | (go_at_call 12; (with_reducible (refine (H6 _).mono ?_)); rintro e w2 ⟨rfl, rfl⟩)
    | (go_at_call 12; (with_reducible (refine (H7 _).mono ?_)); rintro e w2 ⟨rfl, rfl⟩))
  go_ret
  exact ⟨rfl, b1⟩
end Go.Proofs.Ytjejabineblnhaa
