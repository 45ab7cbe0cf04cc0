/-
  The law VmNarrow, walked.
-/
import Derived.Test.YtjejabineblnhaaVnara
import Derived.Test.YtjejabineblnhaaVnarb
import Derived.Test.YtjejabineblnhaaVnarc
import Derived.Test.YtjejabineblnhaaVnard
import Derived.Test.YtjejabineblnhaaVnare
namespace Go.Proofs.Ytjejabineblnhaa
open Go.ChangeShapes Go.WideShapes Go.ChangeAt Go.RowKit
attribute [local go_sem ↓] Go.wp_at_zero Go.wp_at_succ

theorem nar_facts (v : Int) (hv0 : -9223372036854775808 ≤ v) (hv1 : v ≤ 9223372036854775807) (m : Nat) (N P Q : Int) (hN : (m : Int) = N) (hP : (2 : Int) ^ (m - 1) = P) (hQ : (2 : Int) ^ m = Q) (h1 : 1 ≤ m) (h2 : m ≤ 63) :
    decide (nrw v N < -P) = false ∧ decide (P ≤ nrw v N) = false ∧ ((IntKind.u64.wrap (IntKind.u64.wrap v - IntKind.u64.wrap (nrw v N))).tmod Q == 0) = true ∧ (∀ w, Calls Try.prog 10 #[.int .i64 (nrw v N), .int .i64 N] w fun e w' => e = .returned (.int .i64 (nrw v N)) ∧ w' = w) := by
  subst hN
  have hb := nrw_bd (v := v) h1 h2
  have hd := nrw_dvd (v := v) h1 h2
  have hi := nrw_in hv0 hv1 (m : Int)
  have hxx := nrw_id (v := nrw v m) h1 h2 hb.1 hb.2
  rw [hP] at hb
  refine ⟨decide_eq_false (Int.not_lt.2 hb.1), decide_eq_false (Int.not_le.2 hb.2), ?_, fun w => ?_⟩
  · rw [u64_wrap, u64_wrap, u64_wrap, ← Int.sub_emod, Int.tmod_eq_emod_of_nonneg (Int.emod_nonneg _ (by decide)), ← hQ, mod_mod_two (by omega), hd]
    rfl
  · have h := vnarrow (nrw v m) m w hi.1 hi.2
    rw [hxx] at h
    exact h
theorem nar_64 (v : Int) (hv0 : -9223372036854775808 ≤ v) (hv1 : v ≤ 9223372036854775807) (w : World) : Calls Try.prog 10 #[.int .i64 v, .int .i64 64] w fun e w' => e = .returned (.int .i64 v) ∧ w' = w := by
  have h := vnarrow v 64 w hv0 hv1
  rw [nrw_64] at h
  exact h
theorem narf_1 (v u : Int) (w : World) (hv0 : -9223372036854775808 ≤ v) (hv1 : v ≤ 9223372036854775807) (ej : u.tmod 63 = 0) : Calls Try.prog 5 #[.int .i64 v, .int .u8 u] w fun e w' => e = .returned (.bool true) ∧ Below w.heap.size w w' := by
  obtain ⟨a, b, c, d⟩ := nar_facts v hv0 hv1 1 1 1 2 rfl rfl rfl (by decide) (by decide)
  exact nar_1 v u (nrw v 1) w ej a b c (fun w => vnarrow v 1 w hv0 hv1) d (nar_64 v hv0 hv1)
theorem narf_2 (v u : Int) (w : World) (hv0 : -9223372036854775808 ≤ v) (hv1 : v ≤ 9223372036854775807) (ej : u.tmod 63 = 1) : Calls Try.prog 5 #[.int .i64 v, .int .u8 u] w fun e w' => e = .returned (.bool true) ∧ Below w.heap.size w w' := by
  obtain ⟨a, b, c, d⟩ := nar_facts v hv0 hv1 2 2 2 4 rfl rfl rfl (by decide) (by decide)
  exact nar_2 v u (nrw v 2) w ej a b c (fun w => vnarrow v 2 w hv0 hv1) d (nar_64 v hv0 hv1)
theorem narf_3 (v u : Int) (w : World) (hv0 : -9223372036854775808 ≤ v) (hv1 : v ≤ 9223372036854775807) (ej : u.tmod 63 = 2) : Calls Try.prog 5 #[.int .i64 v, .int .u8 u] w fun e w' => e = .returned (.bool true) ∧ Below w.heap.size w w' := by
  obtain ⟨a, b, c, d⟩ := nar_facts v hv0 hv1 3 3 4 8 rfl rfl rfl (by decide) (by decide)
  exact nar_3 v u (nrw v 3) w ej a b c (fun w => vnarrow v 3 w hv0 hv1) d (nar_64 v hv0 hv1)
theorem narf_4 (v u : Int) (w : World) (hv0 : -9223372036854775808 ≤ v) (hv1 : v ≤ 9223372036854775807) (ej : u.tmod 63 = 3) : Calls Try.prog 5 #[.int .i64 v, .int .u8 u] w fun e w' => e = .returned (.bool true) ∧ Below w.heap.size w w' := by
  obtain ⟨a, b, c, d⟩ := nar_facts v hv0 hv1 4 4 8 16 rfl rfl rfl (by decide) (by decide)
  exact nar_4 v u (nrw v 4) w ej a b c (fun w => vnarrow v 4 w hv0 hv1) d (nar_64 v hv0 hv1)
theorem narf_5 (v u : Int) (w : World) (hv0 : -9223372036854775808 ≤ v) (hv1 : v ≤ 9223372036854775807) (ej : u.tmod 63 = 4) : Calls Try.prog 5 #[.int .i64 v, .int .u8 u] w fun e w' => e = .returned (.bool true) ∧ Below w.heap.size w w' := by
  obtain ⟨a, b, c, d⟩ := nar_facts v hv0 hv1 5 5 16 32 rfl rfl rfl (by decide) (by decide)
  exact nar_5 v u (nrw v 5) w ej a b c (fun w => vnarrow v 5 w hv0 hv1) d (nar_64 v hv0 hv1)
theorem narf_6 (v u : Int) (w : World) (hv0 : -9223372036854775808 ≤ v) (hv1 : v ≤ 9223372036854775807) (ej : u.tmod 63 = 5) : Calls Try.prog 5 #[.int .i64 v, .int .u8 u] w fun e w' => e = .returned (.bool true) ∧ Below w.heap.size w w' := by
  obtain ⟨a, b, c, d⟩ := nar_facts v hv0 hv1 6 6 32 64 rfl rfl rfl (by decide) (by decide)
  exact nar_6 v u (nrw v 6) w ej a b c (fun w => vnarrow v 6 w hv0 hv1) d (nar_64 v hv0 hv1)
theorem narf_7 (v u : Int) (w : World) (hv0 : -9223372036854775808 ≤ v) (hv1 : v ≤ 9223372036854775807) (ej : u.tmod 63 = 6) : Calls Try.prog 5 #[.int .i64 v, .int .u8 u] w fun e w' => e = .returned (.bool true) ∧ Below w.heap.size w w' := by
  obtain ⟨a, b, c, d⟩ := nar_facts v hv0 hv1 7 7 64 128 rfl rfl rfl (by decide) (by decide)
  exact nar_7 v u (nrw v 7) w ej a b c (fun w => vnarrow v 7 w hv0 hv1) d (nar_64 v hv0 hv1)
theorem narf_8 (v u : Int) (w : World) (hv0 : -9223372036854775808 ≤ v) (hv1 : v ≤ 9223372036854775807) (ej : u.tmod 63 = 7) : Calls Try.prog 5 #[.int .i64 v, .int .u8 u] w fun e w' => e = .returned (.bool true) ∧ Below w.heap.size w w' := by
  obtain ⟨a, b, c, d⟩ := nar_facts v hv0 hv1 8 8 128 256 rfl rfl rfl (by decide) (by decide)
  exact nar_8 v u (nrw v 8) w ej a b c (fun w => vnarrow v 8 w hv0 hv1) d (nar_64 v hv0 hv1)
theorem narf_9 (v u : Int) (w : World) (hv0 : -9223372036854775808 ≤ v) (hv1 : v ≤ 9223372036854775807) (ej : u.tmod 63 = 8) : Calls Try.prog 5 #[.int .i64 v, .int .u8 u] w fun e w' => e = .returned (.bool true) ∧ Below w.heap.size w w' := by
  obtain ⟨a, b, c, d⟩ := nar_facts v hv0 hv1 9 9 256 512 rfl rfl rfl (by decide) (by decide)
  exact nar_9 v u (nrw v 9) w ej a b c (fun w => vnarrow v 9 w hv0 hv1) d (nar_64 v hv0 hv1)
theorem narf_10 (v u : Int) (w : World) (hv0 : -9223372036854775808 ≤ v) (hv1 : v ≤ 9223372036854775807) (ej : u.tmod 63 = 9) : Calls Try.prog 5 #[.int .i64 v, .int .u8 u] w fun e w' => e = .returned (.bool true) ∧ Below w.heap.size w w' := by
  obtain ⟨a, b, c, d⟩ := nar_facts v hv0 hv1 10 10 512 1024 rfl rfl rfl (by decide) (by decide)
  exact nar_10 v u (nrw v 10) w ej a b c (fun w => vnarrow v 10 w hv0 hv1) d (nar_64 v hv0 hv1)
theorem narf_11 (v u : Int) (w : World) (hv0 : -9223372036854775808 ≤ v) (hv1 : v ≤ 9223372036854775807) (ej : u.tmod 63 = 10) : Calls Try.prog 5 #[.int .i64 v, .int .u8 u] w fun e w' => e = .returned (.bool true) ∧ Below w.heap.size w w' := by
  obtain ⟨a, b, c, d⟩ := nar_facts v hv0 hv1 11 11 1024 2048 rfl rfl rfl (by decide) (by decide)
  exact nar_11 v u (nrw v 11) w ej a b c (fun w => vnarrow v 11 w hv0 hv1) d (nar_64 v hv0 hv1)
theorem narf_12 (v u : Int) (w : World) (hv0 : -9223372036854775808 ≤ v) (hv1 : v ≤ 9223372036854775807) (ej : u.tmod 63 = 11) : Calls Try.prog 5 #[.int .i64 v, .int .u8 u] w fun e w' => e = .returned (.bool true) ∧ Below w.heap.size w w' := by
  obtain ⟨a, b, c, d⟩ := nar_facts v hv0 hv1 12 12 2048 4096 rfl rfl rfl (by decide) (by decide)
  exact nar_12 v u (nrw v 12) w ej a b c (fun w => vnarrow v 12 w hv0 hv1) d (nar_64 v hv0 hv1)
theorem narf_13 (v u : Int) (w : World) (hv0 : -9223372036854775808 ≤ v) (hv1 : v ≤ 9223372036854775807) (ej : u.tmod 63 = 12) : Calls Try.prog 5 #[.int .i64 v, .int .u8 u] w fun e w' => e = .returned (.bool true) ∧ Below w.heap.size w w' := by
  obtain ⟨a, b, c, d⟩ := nar_facts v hv0 hv1 13 13 4096 8192 rfl rfl rfl (by decide) (by decide)
  exact nar_13 v u (nrw v 13) w ej a b c (fun w => vnarrow v 13 w hv0 hv1) d (nar_64 v hv0 hv1)
theorem narf_14 (v u : Int) (w : World) (hv0 : -9223372036854775808 ≤ v) (hv1 : v ≤ 9223372036854775807) (ej : u.tmod 63 = 13) : Calls Try.prog 5 #[.int .i64 v, .int .u8 u] w fun e w' => e = .returned (.bool true) ∧ Below w.heap.size w w' := by
  obtain ⟨a, b, c, d⟩ := nar_facts v hv0 hv1 14 14 8192 16384 rfl rfl rfl (by decide) (by decide)
  exact nar_14 v u (nrw v 14) w ej a b c (fun w => vnarrow v 14 w hv0 hv1) d (nar_64 v hv0 hv1)
theorem narf_15 (v u : Int) (w : World) (hv0 : -9223372036854775808 ≤ v) (hv1 : v ≤ 9223372036854775807) (ej : u.tmod 63 = 14) : Calls Try.prog 5 #[.int .i64 v, .int .u8 u] w fun e w' => e = .returned (.bool true) ∧ Below w.heap.size w w' := by
  obtain ⟨a, b, c, d⟩ := nar_facts v hv0 hv1 15 15 16384 32768 rfl rfl rfl (by decide) (by decide)
  exact nar_15 v u (nrw v 15) w ej a b c (fun w => vnarrow v 15 w hv0 hv1) d (nar_64 v hv0 hv1)
theorem narf_16 (v u : Int) (w : World) (hv0 : -9223372036854775808 ≤ v) (hv1 : v ≤ 9223372036854775807) (ej : u.tmod 63 = 15) : Calls Try.prog 5 #[.int .i64 v, .int .u8 u] w fun e w' => e = .returned (.bool true) ∧ Below w.heap.size w w' := by
  obtain ⟨a, b, c, d⟩ := nar_facts v hv0 hv1 16 16 32768 65536 rfl rfl rfl (by decide) (by decide)
  exact nar_16 v u (nrw v 16) w ej a b c (fun w => vnarrow v 16 w hv0 hv1) d (nar_64 v hv0 hv1)
theorem narf_17 (v u : Int) (w : World) (hv0 : -9223372036854775808 ≤ v) (hv1 : v ≤ 9223372036854775807) (ej : u.tmod 63 = 16) : Calls Try.prog 5 #[.int .i64 v, .int .u8 u] w fun e w' => e = .returned (.bool true) ∧ Below w.heap.size w w' := by
  obtain ⟨a, b, c, d⟩ := nar_facts v hv0 hv1 17 17 65536 131072 rfl rfl rfl (by decide) (by decide)
  exact nar_17 v u (nrw v 17) w ej a b c (fun w => vnarrow v 17 w hv0 hv1) d (nar_64 v hv0 hv1)
theorem narf_18 (v u : Int) (w : World) (hv0 : -9223372036854775808 ≤ v) (hv1 : v ≤ 9223372036854775807) (ej : u.tmod 63 = 17) : Calls Try.prog 5 #[.int .i64 v, .int .u8 u] w fun e w' => e = .returned (.bool true) ∧ Below w.heap.size w w' := by
  obtain ⟨a, b, c, d⟩ := nar_facts v hv0 hv1 18 18 131072 262144 rfl rfl rfl (by decide) (by decide)
  exact nar_18 v u (nrw v 18) w ej a b c (fun w => vnarrow v 18 w hv0 hv1) d (nar_64 v hv0 hv1)
theorem narf_19 (v u : Int) (w : World) (hv0 : -9223372036854775808 ≤ v) (hv1 : v ≤ 9223372036854775807) (ej : u.tmod 63 = 18) : Calls Try.prog 5 #[.int .i64 v, .int .u8 u] w fun e w' => e = .returned (.bool true) ∧ Below w.heap.size w w' := by
  obtain ⟨a, b, c, d⟩ := nar_facts v hv0 hv1 19 19 262144 524288 rfl rfl rfl (by decide) (by decide)
  exact nar_19 v u (nrw v 19) w ej a b c (fun w => vnarrow v 19 w hv0 hv1) d (nar_64 v hv0 hv1)
theorem narf_20 (v u : Int) (w : World) (hv0 : -9223372036854775808 ≤ v) (hv1 : v ≤ 9223372036854775807) (ej : u.tmod 63 = 19) : Calls Try.prog 5 #[.int .i64 v, .int .u8 u] w fun e w' => e = .returned (.bool true) ∧ Below w.heap.size w w' := by
  obtain ⟨a, b, c, d⟩ := nar_facts v hv0 hv1 20 20 524288 1048576 rfl rfl rfl (by decide) (by decide)
  exact nar_20 v u (nrw v 20) w ej a b c (fun w => vnarrow v 20 w hv0 hv1) d (nar_64 v hv0 hv1)
theorem narf_21 (v u : Int) (w : World) (hv0 : -9223372036854775808 ≤ v) (hv1 : v ≤ 9223372036854775807) (ej : u.tmod 63 = 20) : Calls Try.prog 5 #[.int .i64 v, .int .u8 u] w fun e w' => e = .returned (.bool true) ∧ Below w.heap.size w w' := by
  obtain ⟨a, b, c, d⟩ := nar_facts v hv0 hv1 21 21 1048576 2097152 rfl rfl rfl (by decide) (by decide)
  exact nar_21 v u (nrw v 21) w ej a b c (fun w => vnarrow v 21 w hv0 hv1) d (nar_64 v hv0 hv1)
theorem narf_22 (v u : Int) (w : World) (hv0 : -9223372036854775808 ≤ v) (hv1 : v ≤ 9223372036854775807) (ej : u.tmod 63 = 21) : Calls Try.prog 5 #[.int .i64 v, .int .u8 u] w fun e w' => e = .returned (.bool true) ∧ Below w.heap.size w w' := by
  obtain ⟨a, b, c, d⟩ := nar_facts v hv0 hv1 22 22 2097152 4194304 rfl rfl rfl (by decide) (by decide)
  exact nar_22 v u (nrw v 22) w ej a b c (fun w => vnarrow v 22 w hv0 hv1) d (nar_64 v hv0 hv1)
theorem narf_23 (v u : Int) (w : World) (hv0 : -9223372036854775808 ≤ v) (hv1 : v ≤ 9223372036854775807) (ej : u.tmod 63 = 22) : Calls Try.prog 5 #[.int .i64 v, .int .u8 u] w fun e w' => e = .returned (.bool true) ∧ Below w.heap.size w w' := by
  obtain ⟨a, b, c, d⟩ := nar_facts v hv0 hv1 23 23 4194304 8388608 rfl rfl rfl (by decide) (by decide)
  exact nar_23 v u (nrw v 23) w ej a b c (fun w => vnarrow v 23 w hv0 hv1) d (nar_64 v hv0 hv1)
theorem narf_24 (v u : Int) (w : World) (hv0 : -9223372036854775808 ≤ v) (hv1 : v ≤ 9223372036854775807) (ej : u.tmod 63 = 23) : Calls Try.prog 5 #[.int .i64 v, .int .u8 u] w fun e w' => e = .returned (.bool true) ∧ Below w.heap.size w w' := by
  obtain ⟨a, b, c, d⟩ := nar_facts v hv0 hv1 24 24 8388608 16777216 rfl rfl rfl (by decide) (by decide)
  exact nar_24 v u (nrw v 24) w ej a b c (fun w => vnarrow v 24 w hv0 hv1) d (nar_64 v hv0 hv1)
theorem narf_25 (v u : Int) (w : World) (hv0 : -9223372036854775808 ≤ v) (hv1 : v ≤ 9223372036854775807) (ej : u.tmod 63 = 24) : Calls Try.prog 5 #[.int .i64 v, .int .u8 u] w fun e w' => e = .returned (.bool true) ∧ Below w.heap.size w w' := by
  obtain ⟨a, b, c, d⟩ := nar_facts v hv0 hv1 25 25 16777216 33554432 rfl rfl rfl (by decide) (by decide)
  exact nar_25 v u (nrw v 25) w ej a b c (fun w => vnarrow v 25 w hv0 hv1) d (nar_64 v hv0 hv1)
theorem narf_26 (v u : Int) (w : World) (hv0 : -9223372036854775808 ≤ v) (hv1 : v ≤ 9223372036854775807) (ej : u.tmod 63 = 25) : Calls Try.prog 5 #[.int .i64 v, .int .u8 u] w fun e w' => e = .returned (.bool true) ∧ Below w.heap.size w w' := by
  obtain ⟨a, b, c, d⟩ := nar_facts v hv0 hv1 26 26 33554432 67108864 rfl rfl rfl (by decide) (by decide)
  exact nar_26 v u (nrw v 26) w ej a b c (fun w => vnarrow v 26 w hv0 hv1) d (nar_64 v hv0 hv1)
theorem narf_27 (v u : Int) (w : World) (hv0 : -9223372036854775808 ≤ v) (hv1 : v ≤ 9223372036854775807) (ej : u.tmod 63 = 26) : Calls Try.prog 5 #[.int .i64 v, .int .u8 u] w fun e w' => e = .returned (.bool true) ∧ Below w.heap.size w w' := by
  obtain ⟨a, b, c, d⟩ := nar_facts v hv0 hv1 27 27 67108864 134217728 rfl rfl rfl (by decide) (by decide)
  exact nar_27 v u (nrw v 27) w ej a b c (fun w => vnarrow v 27 w hv0 hv1) d (nar_64 v hv0 hv1)
theorem narf_28 (v u : Int) (w : World) (hv0 : -9223372036854775808 ≤ v) (hv1 : v ≤ 9223372036854775807) (ej : u.tmod 63 = 27) : Calls Try.prog 5 #[.int .i64 v, .int .u8 u] w fun e w' => e = .returned (.bool true) ∧ Below w.heap.size w w' := by
  obtain ⟨a, b, c, d⟩ := nar_facts v hv0 hv1 28 28 134217728 268435456 rfl rfl rfl (by decide) (by decide)
  exact nar_28 v u (nrw v 28) w ej a b c (fun w => vnarrow v 28 w hv0 hv1) d (nar_64 v hv0 hv1)
theorem narf_29 (v u : Int) (w : World) (hv0 : -9223372036854775808 ≤ v) (hv1 : v ≤ 9223372036854775807) (ej : u.tmod 63 = 28) : Calls Try.prog 5 #[.int .i64 v, .int .u8 u] w fun e w' => e = .returned (.bool true) ∧ Below w.heap.size w w' := by
  obtain ⟨a, b, c, d⟩ := nar_facts v hv0 hv1 29 29 268435456 536870912 rfl rfl rfl (by decide) (by decide)
  exact nar_29 v u (nrw v 29) w ej a b c (fun w => vnarrow v 29 w hv0 hv1) d (nar_64 v hv0 hv1)
theorem narf_30 (v u : Int) (w : World) (hv0 : -9223372036854775808 ≤ v) (hv1 : v ≤ 9223372036854775807) (ej : u.tmod 63 = 29) : Calls Try.prog 5 #[.int .i64 v, .int .u8 u] w fun e w' => e = .returned (.bool true) ∧ Below w.heap.size w w' := by
  obtain ⟨a, b, c, d⟩ := nar_facts v hv0 hv1 30 30 536870912 1073741824 rfl rfl rfl (by decide) (by decide)
  exact nar_30 v u (nrw v 30) w ej a b c (fun w => vnarrow v 30 w hv0 hv1) d (nar_64 v hv0 hv1)
theorem narf_31 (v u : Int) (w : World) (hv0 : -9223372036854775808 ≤ v) (hv1 : v ≤ 9223372036854775807) (ej : u.tmod 63 = 30) : Calls Try.prog 5 #[.int .i64 v, .int .u8 u] w fun e w' => e = .returned (.bool true) ∧ Below w.heap.size w w' := by
  obtain ⟨a, b, c, d⟩ := nar_facts v hv0 hv1 31 31 1073741824 2147483648 rfl rfl rfl (by decide) (by decide)
  exact nar_31 v u (nrw v 31) w ej a b c (fun w => vnarrow v 31 w hv0 hv1) d (nar_64 v hv0 hv1)
theorem narf_32 (v u : Int) (w : World) (hv0 : -9223372036854775808 ≤ v) (hv1 : v ≤ 9223372036854775807) (ej : u.tmod 63 = 31) : Calls Try.prog 5 #[.int .i64 v, .int .u8 u] w fun e w' => e = .returned (.bool true) ∧ Below w.heap.size w w' := by
  obtain ⟨a, b, c, d⟩ := nar_facts v hv0 hv1 32 32 2147483648 4294967296 rfl rfl rfl (by decide) (by decide)
  exact nar_32 v u (nrw v 32) w ej a b c (fun w => vnarrow v 32 w hv0 hv1) d (nar_64 v hv0 hv1)
theorem narf_33 (v u : Int) (w : World) (hv0 : -9223372036854775808 ≤ v) (hv1 : v ≤ 9223372036854775807) (ej : u.tmod 63 = 32) : Calls Try.prog 5 #[.int .i64 v, .int .u8 u] w fun e w' => e = .returned (.bool true) ∧ Below w.heap.size w w' := by
  obtain ⟨a, b, c, d⟩ := nar_facts v hv0 hv1 33 33 4294967296 8589934592 rfl rfl rfl (by decide) (by decide)
  exact nar_33 v u (nrw v 33) w ej a b c (fun w => vnarrow v 33 w hv0 hv1) d (nar_64 v hv0 hv1)
theorem narf_34 (v u : Int) (w : World) (hv0 : -9223372036854775808 ≤ v) (hv1 : v ≤ 9223372036854775807) (ej : u.tmod 63 = 33) : Calls Try.prog 5 #[.int .i64 v, .int .u8 u] w fun e w' => e = .returned (.bool true) ∧ Below w.heap.size w w' := by
  obtain ⟨a, b, c, d⟩ := nar_facts v hv0 hv1 34 34 8589934592 17179869184 rfl rfl rfl (by decide) (by decide)
  exact nar_34 v u (nrw v 34) w ej a b c (fun w => vnarrow v 34 w hv0 hv1) d (nar_64 v hv0 hv1)
theorem narf_35 (v u : Int) (w : World) (hv0 : -9223372036854775808 ≤ v) (hv1 : v ≤ 9223372036854775807) (ej : u.tmod 63 = 34) : Calls Try.prog 5 #[.int .i64 v, .int .u8 u] w fun e w' => e = .returned (.bool true) ∧ Below w.heap.size w w' := by
  obtain ⟨a, b, c, d⟩ := nar_facts v hv0 hv1 35 35 17179869184 34359738368 rfl rfl rfl (by decide) (by decide)
  exact nar_35 v u (nrw v 35) w ej a b c (fun w => vnarrow v 35 w hv0 hv1) d (nar_64 v hv0 hv1)
theorem narf_36 (v u : Int) (w : World) (hv0 : -9223372036854775808 ≤ v) (hv1 : v ≤ 9223372036854775807) (ej : u.tmod 63 = 35) : Calls Try.prog 5 #[.int .i64 v, .int .u8 u] w fun e w' => e = .returned (.bool true) ∧ Below w.heap.size w w' := by
  obtain ⟨a, b, c, d⟩ := nar_facts v hv0 hv1 36 36 34359738368 68719476736 rfl rfl rfl (by decide) (by decide)
  exact nar_36 v u (nrw v 36) w ej a b c (fun w => vnarrow v 36 w hv0 hv1) d (nar_64 v hv0 hv1)
theorem narf_37 (v u : Int) (w : World) (hv0 : -9223372036854775808 ≤ v) (hv1 : v ≤ 9223372036854775807) (ej : u.tmod 63 = 36) : Calls Try.prog 5 #[.int .i64 v, .int .u8 u] w fun e w' => e = .returned (.bool true) ∧ Below w.heap.size w w' := by
  obtain ⟨a, b, c, d⟩ := nar_facts v hv0 hv1 37 37 68719476736 137438953472 rfl rfl rfl (by decide) (by decide)
  exact nar_37 v u (nrw v 37) w ej a b c (fun w => vnarrow v 37 w hv0 hv1) d (nar_64 v hv0 hv1)
theorem narf_38 (v u : Int) (w : World) (hv0 : -9223372036854775808 ≤ v) (hv1 : v ≤ 9223372036854775807) (ej : u.tmod 63 = 37) : Calls Try.prog 5 #[.int .i64 v, .int .u8 u] w fun e w' => e = .returned (.bool true) ∧ Below w.heap.size w w' := by
  obtain ⟨a, b, c, d⟩ := nar_facts v hv0 hv1 38 38 137438953472 274877906944 rfl rfl rfl (by decide) (by decide)
  exact nar_38 v u (nrw v 38) w ej a b c (fun w => vnarrow v 38 w hv0 hv1) d (nar_64 v hv0 hv1)
theorem narf_39 (v u : Int) (w : World) (hv0 : -9223372036854775808 ≤ v) (hv1 : v ≤ 9223372036854775807) (ej : u.tmod 63 = 38) : Calls Try.prog 5 #[.int .i64 v, .int .u8 u] w fun e w' => e = .returned (.bool true) ∧ Below w.heap.size w w' := by
  obtain ⟨a, b, c, d⟩ := nar_facts v hv0 hv1 39 39 274877906944 549755813888 rfl rfl rfl (by decide) (by decide)
  exact nar_39 v u (nrw v 39) w ej a b c (fun w => vnarrow v 39 w hv0 hv1) d (nar_64 v hv0 hv1)
theorem narf_40 (v u : Int) (w : World) (hv0 : -9223372036854775808 ≤ v) (hv1 : v ≤ 9223372036854775807) (ej : u.tmod 63 = 39) : Calls Try.prog 5 #[.int .i64 v, .int .u8 u] w fun e w' => e = .returned (.bool true) ∧ Below w.heap.size w w' := by
  obtain ⟨a, b, c, d⟩ := nar_facts v hv0 hv1 40 40 549755813888 1099511627776 rfl rfl rfl (by decide) (by decide)
  exact nar_40 v u (nrw v 40) w ej a b c (fun w => vnarrow v 40 w hv0 hv1) d (nar_64 v hv0 hv1)
theorem narf_41 (v u : Int) (w : World) (hv0 : -9223372036854775808 ≤ v) (hv1 : v ≤ 9223372036854775807) (ej : u.tmod 63 = 40) : Calls Try.prog 5 #[.int .i64 v, .int .u8 u] w fun e w' => e = .returned (.bool true) ∧ Below w.heap.size w w' := by
  obtain ⟨a, b, c, d⟩ := nar_facts v hv0 hv1 41 41 1099511627776 2199023255552 rfl rfl rfl (by decide) (by decide)
  exact nar_41 v u (nrw v 41) w ej a b c (fun w => vnarrow v 41 w hv0 hv1) d (nar_64 v hv0 hv1)
theorem narf_42 (v u : Int) (w : World) (hv0 : -9223372036854775808 ≤ v) (hv1 : v ≤ 9223372036854775807) (ej : u.tmod 63 = 41) : Calls Try.prog 5 #[.int .i64 v, .int .u8 u] w fun e w' => e = .returned (.bool true) ∧ Below w.heap.size w w' := by
  obtain ⟨a, b, c, d⟩ := nar_facts v hv0 hv1 42 42 2199023255552 4398046511104 rfl rfl rfl (by decide) (by decide)
  exact nar_42 v u (nrw v 42) w ej a b c (fun w => vnarrow v 42 w hv0 hv1) d (nar_64 v hv0 hv1)
theorem narf_43 (v u : Int) (w : World) (hv0 : -9223372036854775808 ≤ v) (hv1 : v ≤ 9223372036854775807) (ej : u.tmod 63 = 42) : Calls Try.prog 5 #[.int .i64 v, .int .u8 u] w fun e w' => e = .returned (.bool true) ∧ Below w.heap.size w w' := by
  obtain ⟨a, b, c, d⟩ := nar_facts v hv0 hv1 43 43 4398046511104 8796093022208 rfl rfl rfl (by decide) (by decide)
  exact nar_43 v u (nrw v 43) w ej a b c (fun w => vnarrow v 43 w hv0 hv1) d (nar_64 v hv0 hv1)
theorem narf_44 (v u : Int) (w : World) (hv0 : -9223372036854775808 ≤ v) (hv1 : v ≤ 9223372036854775807) (ej : u.tmod 63 = 43) : Calls Try.prog 5 #[.int .i64 v, .int .u8 u] w fun e w' => e = .returned (.bool true) ∧ Below w.heap.size w w' := by
  obtain ⟨a, b, c, d⟩ := nar_facts v hv0 hv1 44 44 8796093022208 17592186044416 rfl rfl rfl (by decide) (by decide)
  exact nar_44 v u (nrw v 44) w ej a b c (fun w => vnarrow v 44 w hv0 hv1) d (nar_64 v hv0 hv1)
theorem narf_45 (v u : Int) (w : World) (hv0 : -9223372036854775808 ≤ v) (hv1 : v ≤ 9223372036854775807) (ej : u.tmod 63 = 44) : Calls Try.prog 5 #[.int .i64 v, .int .u8 u] w fun e w' => e = .returned (.bool true) ∧ Below w.heap.size w w' := by
  obtain ⟨a, b, c, d⟩ := nar_facts v hv0 hv1 45 45 17592186044416 35184372088832 rfl rfl rfl (by decide) (by decide)
  exact nar_45 v u (nrw v 45) w ej a b c (fun w => vnarrow v 45 w hv0 hv1) d (nar_64 v hv0 hv1)
theorem narf_46 (v u : Int) (w : World) (hv0 : -9223372036854775808 ≤ v) (hv1 : v ≤ 9223372036854775807) (ej : u.tmod 63 = 45) : Calls Try.prog 5 #[.int .i64 v, .int .u8 u] w fun e w' => e = .returned (.bool true) ∧ Below w.heap.size w w' := by
  obtain ⟨a, b, c, d⟩ := nar_facts v hv0 hv1 46 46 35184372088832 70368744177664 rfl rfl rfl (by decide) (by decide)
  exact nar_46 v u (nrw v 46) w ej a b c (fun w => vnarrow v 46 w hv0 hv1) d (nar_64 v hv0 hv1)
theorem narf_47 (v u : Int) (w : World) (hv0 : -9223372036854775808 ≤ v) (hv1 : v ≤ 9223372036854775807) (ej : u.tmod 63 = 46) : Calls Try.prog 5 #[.int .i64 v, .int .u8 u] w fun e w' => e = .returned (.bool true) ∧ Below w.heap.size w w' := by
  obtain ⟨a, b, c, d⟩ := nar_facts v hv0 hv1 47 47 70368744177664 140737488355328 rfl rfl rfl (by decide) (by decide)
  exact nar_47 v u (nrw v 47) w ej a b c (fun w => vnarrow v 47 w hv0 hv1) d (nar_64 v hv0 hv1)
theorem narf_48 (v u : Int) (w : World) (hv0 : -9223372036854775808 ≤ v) (hv1 : v ≤ 9223372036854775807) (ej : u.tmod 63 = 47) : Calls Try.prog 5 #[.int .i64 v, .int .u8 u] w fun e w' => e = .returned (.bool true) ∧ Below w.heap.size w w' := by
  obtain ⟨a, b, c, d⟩ := nar_facts v hv0 hv1 48 48 140737488355328 281474976710656 rfl rfl rfl (by decide) (by decide)
  exact nar_48 v u (nrw v 48) w ej a b c (fun w => vnarrow v 48 w hv0 hv1) d (nar_64 v hv0 hv1)
theorem narf_49 (v u : Int) (w : World) (hv0 : -9223372036854775808 ≤ v) (hv1 : v ≤ 9223372036854775807) (ej : u.tmod 63 = 48) : Calls Try.prog 5 #[.int .i64 v, .int .u8 u] w fun e w' => e = .returned (.bool true) ∧ Below w.heap.size w w' := by
  obtain ⟨a, b, c, d⟩ := nar_facts v hv0 hv1 49 49 281474976710656 562949953421312 rfl rfl rfl (by decide) (by decide)
  exact nar_49 v u (nrw v 49) w ej a b c (fun w => vnarrow v 49 w hv0 hv1) d (nar_64 v hv0 hv1)
theorem narf_50 (v u : Int) (w : World) (hv0 : -9223372036854775808 ≤ v) (hv1 : v ≤ 9223372036854775807) (ej : u.tmod 63 = 49) : Calls Try.prog 5 #[.int .i64 v, .int .u8 u] w fun e w' => e = .returned (.bool true) ∧ Below w.heap.size w w' := by
  obtain ⟨a, b, c, d⟩ := nar_facts v hv0 hv1 50 50 562949953421312 1125899906842624 rfl rfl rfl (by decide) (by decide)
  exact nar_50 v u (nrw v 50) w ej a b c (fun w => vnarrow v 50 w hv0 hv1) d (nar_64 v hv0 hv1)
theorem narf_51 (v u : Int) (w : World) (hv0 : -9223372036854775808 ≤ v) (hv1 : v ≤ 9223372036854775807) (ej : u.tmod 63 = 50) : Calls Try.prog 5 #[.int .i64 v, .int .u8 u] w fun e w' => e = .returned (.bool true) ∧ Below w.heap.size w w' := by
  obtain ⟨a, b, c, d⟩ := nar_facts v hv0 hv1 51 51 1125899906842624 2251799813685248 rfl rfl rfl (by decide) (by decide)
  exact nar_51 v u (nrw v 51) w ej a b c (fun w => vnarrow v 51 w hv0 hv1) d (nar_64 v hv0 hv1)
theorem narf_52 (v u : Int) (w : World) (hv0 : -9223372036854775808 ≤ v) (hv1 : v ≤ 9223372036854775807) (ej : u.tmod 63 = 51) : Calls Try.prog 5 #[.int .i64 v, .int .u8 u] w fun e w' => e = .returned (.bool true) ∧ Below w.heap.size w w' := by
  obtain ⟨a, b, c, d⟩ := nar_facts v hv0 hv1 52 52 2251799813685248 4503599627370496 rfl rfl rfl (by decide) (by decide)
  exact nar_52 v u (nrw v 52) w ej a b c (fun w => vnarrow v 52 w hv0 hv1) d (nar_64 v hv0 hv1)
theorem narf_53 (v u : Int) (w : World) (hv0 : -9223372036854775808 ≤ v) (hv1 : v ≤ 9223372036854775807) (ej : u.tmod 63 = 52) : Calls Try.prog 5 #[.int .i64 v, .int .u8 u] w fun e w' => e = .returned (.bool true) ∧ Below w.heap.size w w' := by
  obtain ⟨a, b, c, d⟩ := nar_facts v hv0 hv1 53 53 4503599627370496 9007199254740992 rfl rfl rfl (by decide) (by decide)
  exact nar_53 v u (nrw v 53) w ej a b c (fun w => vnarrow v 53 w hv0 hv1) d (nar_64 v hv0 hv1)
theorem narf_54 (v u : Int) (w : World) (hv0 : -9223372036854775808 ≤ v) (hv1 : v ≤ 9223372036854775807) (ej : u.tmod 63 = 53) : Calls Try.prog 5 #[.int .i64 v, .int .u8 u] w fun e w' => e = .returned (.bool true) ∧ Below w.heap.size w w' := by
  obtain ⟨a, b, c, d⟩ := nar_facts v hv0 hv1 54 54 9007199254740992 18014398509481984 rfl rfl rfl (by decide) (by decide)
  exact nar_54 v u (nrw v 54) w ej a b c (fun w => vnarrow v 54 w hv0 hv1) d (nar_64 v hv0 hv1)
theorem narf_55 (v u : Int) (w : World) (hv0 : -9223372036854775808 ≤ v) (hv1 : v ≤ 9223372036854775807) (ej : u.tmod 63 = 54) : Calls Try.prog 5 #[.int .i64 v, .int .u8 u] w fun e w' => e = .returned (.bool true) ∧ Below w.heap.size w w' := by
  obtain ⟨a, b, c, d⟩ := nar_facts v hv0 hv1 55 55 18014398509481984 36028797018963968 rfl rfl rfl (by decide) (by decide)
  exact nar_55 v u (nrw v 55) w ej a b c (fun w => vnarrow v 55 w hv0 hv1) d (nar_64 v hv0 hv1)
theorem narf_56 (v u : Int) (w : World) (hv0 : -9223372036854775808 ≤ v) (hv1 : v ≤ 9223372036854775807) (ej : u.tmod 63 = 55) : Calls Try.prog 5 #[.int .i64 v, .int .u8 u] w fun e w' => e = .returned (.bool true) ∧ Below w.heap.size w w' := by
  obtain ⟨a, b, c, d⟩ := nar_facts v hv0 hv1 56 56 36028797018963968 72057594037927936 rfl rfl rfl (by decide) (by decide)
  exact nar_56 v u (nrw v 56) w ej a b c (fun w => vnarrow v 56 w hv0 hv1) d (nar_64 v hv0 hv1)
theorem narf_57 (v u : Int) (w : World) (hv0 : -9223372036854775808 ≤ v) (hv1 : v ≤ 9223372036854775807) (ej : u.tmod 63 = 56) : Calls Try.prog 5 #[.int .i64 v, .int .u8 u] w fun e w' => e = .returned (.bool true) ∧ Below w.heap.size w w' := by
  obtain ⟨a, b, c, d⟩ := nar_facts v hv0 hv1 57 57 72057594037927936 144115188075855872 rfl rfl rfl (by decide) (by decide)
  exact nar_57 v u (nrw v 57) w ej a b c (fun w => vnarrow v 57 w hv0 hv1) d (nar_64 v hv0 hv1)
theorem narf_58 (v u : Int) (w : World) (hv0 : -9223372036854775808 ≤ v) (hv1 : v ≤ 9223372036854775807) (ej : u.tmod 63 = 57) : Calls Try.prog 5 #[.int .i64 v, .int .u8 u] w fun e w' => e = .returned (.bool true) ∧ Below w.heap.size w w' := by
  obtain ⟨a, b, c, d⟩ := nar_facts v hv0 hv1 58 58 144115188075855872 288230376151711744 rfl rfl rfl (by decide) (by decide)
  exact nar_58 v u (nrw v 58) w ej a b c (fun w => vnarrow v 58 w hv0 hv1) d (nar_64 v hv0 hv1)
theorem narf_59 (v u : Int) (w : World) (hv0 : -9223372036854775808 ≤ v) (hv1 : v ≤ 9223372036854775807) (ej : u.tmod 63 = 58) : Calls Try.prog 5 #[.int .i64 v, .int .u8 u] w fun e w' => e = .returned (.bool true) ∧ Below w.heap.size w w' := by
  obtain ⟨a, b, c, d⟩ := nar_facts v hv0 hv1 59 59 288230376151711744 576460752303423488 rfl rfl rfl (by decide) (by decide)
  exact nar_59 v u (nrw v 59) w ej a b c (fun w => vnarrow v 59 w hv0 hv1) d (nar_64 v hv0 hv1)
theorem narf_60 (v u : Int) (w : World) (hv0 : -9223372036854775808 ≤ v) (hv1 : v ≤ 9223372036854775807) (ej : u.tmod 63 = 59) : Calls Try.prog 5 #[.int .i64 v, .int .u8 u] w fun e w' => e = .returned (.bool true) ∧ Below w.heap.size w w' := by
  obtain ⟨a, b, c, d⟩ := nar_facts v hv0 hv1 60 60 576460752303423488 1152921504606846976 rfl rfl rfl (by decide) (by decide)
  exact nar_60 v u (nrw v 60) w ej a b c (fun w => vnarrow v 60 w hv0 hv1) d (nar_64 v hv0 hv1)
theorem narf_61 (v u : Int) (w : World) (hv0 : -9223372036854775808 ≤ v) (hv1 : v ≤ 9223372036854775807) (ej : u.tmod 63 = 60) : Calls Try.prog 5 #[.int .i64 v, .int .u8 u] w fun e w' => e = .returned (.bool true) ∧ Below w.heap.size w w' := by
  obtain ⟨a, b, c, d⟩ := nar_facts v hv0 hv1 61 61 1152921504606846976 2305843009213693952 rfl rfl rfl (by decide) (by decide)
  exact nar_61 v u (nrw v 61) w ej a b c (fun w => vnarrow v 61 w hv0 hv1) d (nar_64 v hv0 hv1)
theorem narf_62 (v u : Int) (w : World) (hv0 : -9223372036854775808 ≤ v) (hv1 : v ≤ 9223372036854775807) (ej : u.tmod 63 = 61) : Calls Try.prog 5 #[.int .i64 v, .int .u8 u] w fun e w' => e = .returned (.bool true) ∧ Below w.heap.size w w' := by
  obtain ⟨a, b, c, d⟩ := nar_facts v hv0 hv1 62 62 2305843009213693952 4611686018427387904 rfl rfl rfl (by decide) (by decide)
  exact nar_62 v u (nrw v 62) w ej a b c (fun w => vnarrow v 62 w hv0 hv1) d (nar_64 v hv0 hv1)
theorem narf_63 (v u : Int) (w : World) (hv0 : -9223372036854775808 ≤ v) (hv1 : v ≤ 9223372036854775807) (ej : u.tmod 63 = 62) : Calls Try.prog 5 #[.int .i64 v, .int .u8 u] w fun e w' => e = .returned (.bool true) ∧ Below w.heap.size w w' := by
  obtain ⟨a, b, c, d⟩ := nar_facts v hv0 hv1 63 63 4611686018427387904 9223372036854775808 rfl rfl rfl (by decide) (by decide)
  exact nar_63 v u (nrw v 63) w ej a b c (fun w => vnarrow v 63 w hv0 hv1) d (nar_64 v hv0 hv1)
theorem narrow_walk (v u : Int) (w : World) (hv0 : -9223372036854775808 ≤ v) (hv1 : v ≤ 9223372036854775807) (hu0 : 0 ≤ u) (_ : u ≤ 255) : Calls Try.prog 5 #[.int .i64 v, .int .u8 u] w fun e w' => e = .returned (.bool true) ∧ Below w.heap.size w w' := by
  have ej : u.tmod 63 = u % 63 := Int.tmod_eq_emod_of_nonneg hu0
  have h0 := Int.emod_nonneg u (show (63 : Int) ≠ 0 by decide)
  have h1 := Int.emod_lt_of_pos u (show (0 : Int) < 63 by decide)
  generalize u % 63 = t at *
  by_cases c31 : t ≤ 31
  · by_cases c15 : t ≤ 15
    · by_cases c7 : t ≤ 7
      · by_cases c3 : t ≤ 3
        · by_cases c1 : t ≤ 1
          · by_cases c0 : t ≤ 0
            · exact narf_1 v u w hv0 hv1 (by omega)
            · exact narf_2 v u w hv0 hv1 (by omega)
          · by_cases c2 : t ≤ 2
            · exact narf_3 v u w hv0 hv1 (by omega)
            · exact narf_4 v u w hv0 hv1 (by omega)
        · by_cases c5 : t ≤ 5
          · by_cases c4 : t ≤ 4
            · exact narf_5 v u w hv0 hv1 (by omega)
            · exact narf_6 v u w hv0 hv1 (by omega)
          · by_cases c6 : t ≤ 6
            · exact narf_7 v u w hv0 hv1 (by omega)
            · exact narf_8 v u w hv0 hv1 (by omega)
      · by_cases c11 : t ≤ 11
        · by_cases c9 : t ≤ 9
          · by_cases c8 : t ≤ 8
            · exact narf_9 v u w hv0 hv1 (by omega)
            · exact narf_10 v u w hv0 hv1 (by omega)
          · by_cases c10 : t ≤ 10
            · exact narf_11 v u w hv0 hv1 (by omega)
            · exact narf_12 v u w hv0 hv1 (by omega)
        · by_cases c13 : t ≤ 13
          · by_cases c12 : t ≤ 12
            · exact narf_13 v u w hv0 hv1 (by omega)
            · exact narf_14 v u w hv0 hv1 (by omega)
          · by_cases c14 : t ≤ 14
            · exact narf_15 v u w hv0 hv1 (by omega)
            · exact narf_16 v u w hv0 hv1 (by omega)
    · by_cases c23 : t ≤ 23
      · by_cases c19 : t ≤ 19
        · by_cases c17 : t ≤ 17
          · by_cases c16 : t ≤ 16
            · exact narf_17 v u w hv0 hv1 (by omega)
            · exact narf_18 v u w hv0 hv1 (by omega)
          · by_cases c18 : t ≤ 18
            · exact narf_19 v u w hv0 hv1 (by omega)
            · exact narf_20 v u w hv0 hv1 (by omega)
        · by_cases c21 : t ≤ 21
          · by_cases c20 : t ≤ 20
            · exact narf_21 v u w hv0 hv1 (by omega)
            · exact narf_22 v u w hv0 hv1 (by omega)
          · by_cases c22 : t ≤ 22
            · exact narf_23 v u w hv0 hv1 (by omega)
            · exact narf_24 v u w hv0 hv1 (by omega)
      · by_cases c27 : t ≤ 27
        · by_cases c25 : t ≤ 25
          · by_cases c24 : t ≤ 24
            · exact narf_25 v u w hv0 hv1 (by omega)
            · exact narf_26 v u w hv0 hv1 (by omega)
          · by_cases c26 : t ≤ 26
            · exact narf_27 v u w hv0 hv1 (by omega)
            · exact narf_28 v u w hv0 hv1 (by omega)
        · by_cases c29 : t ≤ 29
          · by_cases c28 : t ≤ 28
            · exact narf_29 v u w hv0 hv1 (by omega)
            · exact narf_30 v u w hv0 hv1 (by omega)
          · by_cases c30 : t ≤ 30
            · exact narf_31 v u w hv0 hv1 (by omega)
            · exact narf_32 v u w hv0 hv1 (by omega)
  · by_cases c47 : t ≤ 47
    · by_cases c39 : t ≤ 39
      · by_cases c35 : t ≤ 35
        · by_cases c33 : t ≤ 33
          · by_cases c32 : t ≤ 32
            · exact narf_33 v u w hv0 hv1 (by omega)
            · exact narf_34 v u w hv0 hv1 (by omega)
          · by_cases c34 : t ≤ 34
            · exact narf_35 v u w hv0 hv1 (by omega)
            · exact narf_36 v u w hv0 hv1 (by omega)
        · by_cases c37 : t ≤ 37
          · by_cases c36 : t ≤ 36
            · exact narf_37 v u w hv0 hv1 (by omega)
            · exact narf_38 v u w hv0 hv1 (by omega)
          · by_cases c38 : t ≤ 38
            · exact narf_39 v u w hv0 hv1 (by omega)
            · exact narf_40 v u w hv0 hv1 (by omega)
      · by_cases c43 : t ≤ 43
        · by_cases c41 : t ≤ 41
          · by_cases c40 : t ≤ 40
            · exact narf_41 v u w hv0 hv1 (by omega)
            · exact narf_42 v u w hv0 hv1 (by omega)
          · by_cases c42 : t ≤ 42
            · exact narf_43 v u w hv0 hv1 (by omega)
            · exact narf_44 v u w hv0 hv1 (by omega)
        · by_cases c45 : t ≤ 45
          · by_cases c44 : t ≤ 44
            · exact narf_45 v u w hv0 hv1 (by omega)
            · exact narf_46 v u w hv0 hv1 (by omega)
          · by_cases c46 : t ≤ 46
            · exact narf_47 v u w hv0 hv1 (by omega)
            · exact narf_48 v u w hv0 hv1 (by omega)
    · by_cases c55 : t ≤ 55
      · by_cases c51 : t ≤ 51
        · by_cases c49 : t ≤ 49
          · by_cases c48 : t ≤ 48
            · exact narf_49 v u w hv0 hv1 (by omega)
            · exact narf_50 v u w hv0 hv1 (by omega)
          · by_cases c50 : t ≤ 50
            · exact narf_51 v u w hv0 hv1 (by omega)
            · exact narf_52 v u w hv0 hv1 (by omega)
        · by_cases c53 : t ≤ 53
          · by_cases c52 : t ≤ 52
            · exact narf_53 v u w hv0 hv1 (by omega)
            · exact narf_54 v u w hv0 hv1 (by omega)
          · by_cases c54 : t ≤ 54
            · exact narf_55 v u w hv0 hv1 (by omega)
            · exact narf_56 v u w hv0 hv1 (by omega)
      · by_cases c59 : t ≤ 59
        · by_cases c57 : t ≤ 57
          · by_cases c56 : t ≤ 56
            · exact narf_57 v u w hv0 hv1 (by omega)
            · exact narf_58 v u w hv0 hv1 (by omega)
          · by_cases c58 : t ≤ 58
            · exact narf_59 v u w hv0 hv1 (by omega)
            · exact narf_60 v u w hv0 hv1 (by omega)
        · by_cases c61 : t ≤ 61
          · by_cases c60 : t ≤ 60
            · exact narf_61 v u w hv0 hv1 (by omega)
            · exact narf_62 v u w hv0 hv1 (by omega)
          · exact narf_63 v u w hv0 hv1 (by omega)
end Go.Proofs.Ytjejabineblnhaa
