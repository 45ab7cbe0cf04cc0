/-
  What the functions with loops hand back, each by its own Go text: the lowest bit, how many are set; and the document's answers for the same.
-/
import Derived.Test.YtnhbodloiimagaaLow
import Derived.WalkKit
import Derived.ProofKit
import Derived.Outline
import Derived.WalkLawsBesides
namespace Go.Proofs.Ytnhbodloiimagaa
open Go.ChangeShapes Go.WideShapes Go.ChangeAt Go.RowKit

theorem ret_pair {a b : Int} {p q : Bool} (h : a = b ∧ p = q) : Ending.returned (.tuple #[.int .i64 a, .bool p]) = .returned (.tuple #[.int .i64 b, .bool q]) := by rw [h.1, h.2]

theorem ne_b {n : Nat} (h : n ≠ 0) : ((n : Int) == 0) = false := by simp; omega
theorem ris_zero (i : Int) (w : World) : Calls Try.prog 15 #[.int .u64 0, .int .i64 i] w fun e w' => e = .returned (.bool (isv 0 i)) ∧ w' = w := ris_any 0 i w (by decide)

/-! the document's -/
theorem rfirst_no (w : World) :
    Calls Try.prog 9 #[.int .u64 0] w fun e w' => e = .returned (.tuple #[.int .i64 0, .bool false]) ∧ w' = w := by
  go_enter Try.func9, Try.ntmps9
  go_wp2
  go_loop [4] (fun i => ∃ k : Nat, k ≤ 64 ∧ i = .int .i64 k) (fun i => 64 - (intOf i).toNat)
  case atStart => exact ⟨0, by omega, rfl⟩
  case round =>
    obtain ⟨k, hk, rfl⟩ := hrel
    by_cases hlt : k < 64
    · have hf : isv 0 (k : Int) = false := by rw [isv_nat 0 k (by omega), Nat.zero_testBit]
      go_wp2_with (go_at_call 15; refine (ris_zero _ _).mono ?_; rintro e w' ⟨rfl, rfl⟩)
      go_round
      case rel => exact ⟨k + 1, by omega, by go_num⟩
      case measure => simp [intOf]; omega
    · go_wp2
      go_ret2
      exact ⟨rfl, rfl⟩
theorem rfirst_yes (r : Nat) (w : World) (hr : r < 18446744073709551616) (hn : r ≠ 0) :
    Calls Try.prog 9 #[.int .u64 (r : Int)] w fun e w' => e = .returned (.tuple #[.int .i64 (firstv r : Int), .bool true]) ∧ w' = w := by
  go_enter Try.func9, Try.ntmps9
  go_wp2
  go_loop [4] (fun i => ∃ k : Nat, k ≤ 64 ∧ (∀ j, j < k → r.testBit j = false) ∧ i = .int .i64 k) (fun i => 64 - (intOf i).toNat)
  case atStart => exact ⟨0, by omega, fun j hj => absurd hj (by omega), rfl⟩
  case round =>
    obtain ⟨k, hk, ho, rfl⟩ := hrel
    have HO : Hid (∀ j, j < k → r.testBit j = false) := ho
    clear ho
    by_cases hlt : k < 64
    · have hb := isv_nat r k (by omega)
      cases hf : isv r (k : Int) with
      | false =>
        have HB : Hid (r.testBit k = false) := hb.symm.trans hf
        clear hb
        go_wp2_with (go_at_call 15; refine (ris_any r _ _ (by omega)).mono ?_; rintro e w' ⟨rfl, rfl⟩)
        go_round
        case rel =>
          refine ⟨k + 1, by omega, fun j hj => ?_, by go_num⟩
          by_cases e : j = k
          · rw [e]; exact HB.out
          · exact HO.out j (by omega)
        case measure => simp [intOf]; omega
      | true =>
        have HF : Hid (firstv r = k) := firstv_eq ⟨hb.symm.trans hf, HO.out⟩
        clear hb
        go_wp2_with (go_at_call 15; refine (ris_any r _ _ (by omega)).mono ?_; rintro e w' ⟨rfl, rfl⟩)
        go_ret2
        exact ⟨ret_pair ⟨by rw [HF.out], rfl⟩, rfl⟩
    · exact absurd (eq_zero_of hr fun j hj => HO.out j (by omega)) hn
theorem rbits_any (r : Nat) (w : World) (hr : r < 18446744073709551616) :
    Calls Try.prog 17 #[.int .u64 (r : Int)] w fun e w' => e = .returned (.int .i64 (cntv r : Int)) ∧ w' = w := by
  go_enter Try.func17, Try.ntmps17
  go_wp2
  go_loop [3, 4] (fun n i => ∃ k : Nat, k ≤ 64 ∧ i = .int .i64 k ∧ n = .int .i64 (cntTo r k : Int)) (fun _ i => 64 - (intOf i).toNat)
  case atStart => exact ⟨0, by omega, rfl, rfl⟩
  case round =>
    obtain ⟨k, hk, rfl, rfl⟩ := hrel
    have hc := cnt_le r k
    by_cases hlt : k < 64
    · have hb := isv_nat r k (by omega)
      have HS : Hid (cntTo r (k + 1) = cntTo r k + (isv r (k : Int)).toNat) := (by rw [hb]; rfl : cntTo r (k + 1) = cntTo r k + (isv r (k : Int)).toNat)
      clear hb
      cases hf : isv r (k : Int) with
      | false =>
        rw [hf] at HS
        go_wp2_with (go_at_call 15; refine (ris_any r _ _ (by omega)).mono ?_; rintro e w' ⟨rfl, rfl⟩)
        go_round
        case rel => exact ⟨k + 1, by omega, by go_num, by rw [HS.out]; go_num⟩
        case measure => simp [intOf]; omega
      | true =>
        rw [hf] at HS
        go_wp2_with (go_at_call 15; refine (ris_any r _ _ (by omega)).mono ?_; rintro e w' ⟨rfl, rfl⟩)
        go_round
        case rel => exact ⟨k + 1, by omega, by go_num, by rw [HS.out]; go_num⟩
        case measure => simp [intOf]; omega
    · have HK : Hid (k = 64) := (by omega : k = 64)
      go_wp2
      go_ret
      exact ⟨ret_i (by rw [HK.out]; rfl), rfl⟩
theorem lowers_1 (w : World) :
    Calls Try.prog 21 #[.int .i64 1] w fun e w' => e = .returned (.int .u64 6148914691236517205) ∧ w' = w := by
  have hl : lowv 1 = 1 := by unfold lowv; decide
  go_enter Try.func21, Try.ntmps21
  go_wp2_with (go_at_call 18; refine (low_any _ _ (by omega) (by omega)).mono ?_; rintro e w' ⟨rfl, rfl⟩)
  go_loop [3, 4] (fun a v => (a = .int .u64 1 ∧ v = .int .i64 2) ∨ (a = .int .u64 5 ∧ v = .int .i64 4) ∨ (a = .int .u64 85 ∧ v = .int .i64 8) ∨ (a = .int .u64 21845 ∧ v = .int .i64 16) ∨ (a = .int .u64 1431655765 ∧ v = .int .i64 32) ∨ (a = .int .u64 6148914691236517205 ∧ v = .int .i64 64)) (fun _ v => 64 - (intOf v).toNat)
  case atStart => exact .inl ⟨rfl, rfl⟩
  case round =>
    rcases hrel with ⟨rfl, rfl⟩ | ⟨rfl, rfl⟩ | ⟨rfl, rfl⟩ | ⟨rfl, rfl⟩ | ⟨rfl, rfl⟩ | ⟨rfl, rfl⟩
    · go_wp2
      go_round
      case rel => refine .inr (.inl ⟨?_, rfl⟩); rfl
      case measure => decide
    · go_wp2
      go_round
      case rel => refine .inr (.inr (.inl ⟨?_, rfl⟩)); rfl
      case measure => decide
    · go_wp2
      go_round
      case rel => refine .inr (.inr (.inr (.inl ⟨?_, rfl⟩))); rfl
      case measure => decide
    · go_wp2
      go_round
      case rel => refine .inr (.inr (.inr (.inr (.inl ⟨?_, rfl⟩)))); rfl
      case measure => decide
    · go_wp2
      go_round
      case rel => refine .inr (.inr (.inr (.inr (.inr (⟨?_, rfl⟩))))); rfl
      case measure => decide
    · go_wp2
      go_ret
      exact ⟨rfl, rfl⟩
theorem lowers_2 (w : World) :
    Calls Try.prog 21 #[.int .i64 2] w fun e w' => e = .returned (.int .u64 3689348814741910323) ∧ w' = w := by
  have hl : lowv 2 = 3 := by unfold lowv; decide
  go_enter Try.func21, Try.ntmps21
  go_wp2_with (go_at_call 18; refine (low_any _ _ (by omega) (by omega)).mono ?_; rintro e w' ⟨rfl, rfl⟩)
  go_loop [3, 4] (fun a v => (a = .int .u64 3 ∧ v = .int .i64 4) ∨ (a = .int .u64 51 ∧ v = .int .i64 8) ∨ (a = .int .u64 13107 ∧ v = .int .i64 16) ∨ (a = .int .u64 858993459 ∧ v = .int .i64 32) ∨ (a = .int .u64 3689348814741910323 ∧ v = .int .i64 64)) (fun _ v => 64 - (intOf v).toNat)
  case atStart => exact .inl ⟨rfl, rfl⟩
  case round =>
    rcases hrel with ⟨rfl, rfl⟩ | ⟨rfl, rfl⟩ | ⟨rfl, rfl⟩ | ⟨rfl, rfl⟩ | ⟨rfl, rfl⟩
    · go_wp2
      go_round
      case rel => refine .inr (.inl ⟨?_, rfl⟩); rfl
      case measure => decide
    · go_wp2
      go_round
      case rel => refine .inr (.inr (.inl ⟨?_, rfl⟩)); rfl
      case measure => decide
    · go_wp2
      go_round
      case rel => refine .inr (.inr (.inr (.inl ⟨?_, rfl⟩))); rfl
      case measure => decide
    · go_wp2
      go_round
      case rel => refine .inr (.inr (.inr (.inr (⟨?_, rfl⟩)))); rfl
      case measure => decide
    · go_wp2
      go_ret
      exact ⟨rfl, rfl⟩
theorem lowers_4 (w : World) :
    Calls Try.prog 21 #[.int .i64 4] w fun e w' => e = .returned (.int .u64 1085102592571150095) ∧ w' = w := by
  have hl : lowv 4 = 15 := by unfold lowv; decide
  go_enter Try.func21, Try.ntmps21
  go_wp2_with (go_at_call 18; refine (low_any _ _ (by omega) (by omega)).mono ?_; rintro e w' ⟨rfl, rfl⟩)
  go_loop [3, 4] (fun a v => (a = .int .u64 15 ∧ v = .int .i64 8) ∨ (a = .int .u64 3855 ∧ v = .int .i64 16) ∨ (a = .int .u64 252645135 ∧ v = .int .i64 32) ∨ (a = .int .u64 1085102592571150095 ∧ v = .int .i64 64)) (fun _ v => 64 - (intOf v).toNat)
  case atStart => exact .inl ⟨rfl, rfl⟩
  case round =>
    rcases hrel with ⟨rfl, rfl⟩ | ⟨rfl, rfl⟩ | ⟨rfl, rfl⟩ | ⟨rfl, rfl⟩
    · go_wp2
      go_round
      case rel => refine .inr (.inl ⟨?_, rfl⟩); rfl
      case measure => decide
    · go_wp2
      go_round
      case rel => refine .inr (.inr (.inl ⟨?_, rfl⟩)); rfl
      case measure => decide
    · go_wp2
      go_round
      case rel => refine .inr (.inr (.inr (⟨?_, rfl⟩))); rfl
      case measure => decide
    · go_wp2
      go_ret
      exact ⟨rfl, rfl⟩
theorem lowers_8 (w : World) :
    Calls Try.prog 21 #[.int .i64 8] w fun e w' => e = .returned (.int .u64 71777214294589695) ∧ w' = w := by
  have hl : lowv 8 = 255 := by unfold lowv; decide
  go_enter Try.func21, Try.ntmps21
  go_wp2_with (go_at_call 18; refine (low_any _ _ (by omega) (by omega)).mono ?_; rintro e w' ⟨rfl, rfl⟩)
  go_loop [3, 4] (fun a v => (a = .int .u64 255 ∧ v = .int .i64 16) ∨ (a = .int .u64 16711935 ∧ v = .int .i64 32) ∨ (a = .int .u64 71777214294589695 ∧ v = .int .i64 64)) (fun _ v => 64 - (intOf v).toNat)
  case atStart => exact .inl ⟨rfl, rfl⟩
  case round =>
    rcases hrel with ⟨rfl, rfl⟩ | ⟨rfl, rfl⟩ | ⟨rfl, rfl⟩
    · go_wp2
      go_round
      case rel => refine .inr (.inl ⟨?_, rfl⟩); rfl
      case measure => decide
    · go_wp2
      go_round
      case rel => refine .inr (.inr (⟨?_, rfl⟩)); rfl
      case measure => decide
    · go_wp2
      go_ret
      exact ⟨rfl, rfl⟩
theorem lowers_16 (w : World) :
    Calls Try.prog 21 #[.int .i64 16] w fun e w' => e = .returned (.int .u64 281470681808895) ∧ w' = w := by
  have hl : lowv 16 = 65535 := by unfold lowv; decide
  go_enter Try.func21, Try.ntmps21
  go_wp2_with (go_at_call 18; refine (low_any _ _ (by omega) (by omega)).mono ?_; rintro e w' ⟨rfl, rfl⟩)
  go_loop [3, 4] (fun a v => (a = .int .u64 65535 ∧ v = .int .i64 32) ∨ (a = .int .u64 281470681808895 ∧ v = .int .i64 64)) (fun _ v => 64 - (intOf v).toNat)
  case atStart => exact .inl ⟨rfl, rfl⟩
  case round =>
    rcases hrel with ⟨rfl, rfl⟩ | ⟨rfl, rfl⟩
    · go_wp2
      go_round
      case rel => refine .inr ⟨?_, rfl⟩; rfl
      case measure => decide
    · go_wp2
      go_ret
      exact ⟨rfl, rfl⟩
theorem lowers_32 (w : World) :
    Calls Try.prog 21 #[.int .i64 32] w fun e w' => e = .returned (.int .u64 4294967295) ∧ w' = w := by
  have hl : lowv 32 = 4294967295 := by unfold lowv; decide
  go_enter Try.func21, Try.ntmps21
  go_wp2_with (go_at_call 18; refine (low_any _ _ (by omega) (by omega)).mono ?_; rintro e w' ⟨rfl, rfl⟩)
  go_loop [3, 4] (fun a v => (a = .int .u64 4294967295 ∧ v = .int .i64 64)) (fun _ v => 64 - (intOf v).toNat)
  case atStart => exact ⟨rfl, rfl⟩
  case round =>
    rcases hrel with ⟨rfl, rfl⟩
    · go_wp2
      go_ret
      exact ⟨rfl, rfl⟩

/-! the lowest, by halves -/
theorem first_no (w : World) :
    Calls Try.prog 8 #[.int .u64 0] w fun e w' => e = .returned (.tuple #[.int .i64 0, .bool false]) ∧ w' = w := by
  go_enter Try.func8, Try.ntmps8
  go_wp2
  go_ret2
  exact ⟨rfl, rfl⟩
/-- p is below the lowest bit, which is one of the next n -/
def Under (r p n : Nat) : Prop := p + n ≤ 64 ∧ r % 2 ^ p = 0 ∧ r / 2 ^ p % 2 ^ n ≠ 0
theorem under_up {r p h : Nat} (u : Under r p (h + h)) (e : r / 2 ^ p % 2 ^ h = 0) : Under r (p + h) h ∧ r / 2 ^ (p + h) = r / 2 ^ p / 2 ^ h := by
  obtain ⟨u1, u2, u3⟩ := u
  have e1 : r / 2 ^ (p + h) = r / 2 ^ p / 2 ^ h := by rw [Nat.div_div_eq_div_mul, ← Nat.pow_add]
  refine ⟨⟨by omega, ?_, ?_⟩, e1⟩
  · rw [Nat.pow_add, Nat.mod_mul, u2, e]; simp
  · rw [e1]; intro g; apply u3; rw [Nat.pow_add, Nat.mod_mul, e, g]; simp
theorem under_low {r p h : Nat} (u : Under r p (h + h)) (e : r / 2 ^ p % 2 ^ h ≠ 0) : Under r p h := ⟨by have := u.1; omega, u.2.1, e⟩
theorem under_one {r p : Nat} (u : Under r p 1) : firstv r = p := by
  refine firstv_eq (first_of u.2.1 ?_)
  have := u.2.2; omega
theorem under_start {r : Nat} (hr : r < 18446744073709551616) (hn : r ≠ 0) : Under r 0 64 := by
  refine ⟨by omega, by omega, ?_⟩
  rw [Nat.pow_zero, Nat.div_one, Nat.mod_eq_of_lt (by simpa using hr)]; exact hn
theorem first_yes (r : Nat) (w : World) (hr : r < 18446744073709551616) (hn : r ≠ 0) :
    Calls Try.prog 8 #[.int .u64 (r : Int)] w fun e w' => e = .returned (.tuple #[.int .i64 (firstv r : Int), .bool true]) ∧ w' = w := by
  have hz : ((r : Int) == 0) = false := ne_b hn
  go_enter Try.func8, Try.ntmps8
  go_wp2
  go_loop [0, 4, 5] (fun x a h => ∃ p : Nat, p ≤ 63 ∧ a = .int .i64 p ∧ x = .int .u64 ((r / 2 ^ p : Nat) : Int) ∧ ((Under r p 64 ∧ h = .int .i64 32) ∨ (Under r p 32 ∧ h = .int .i64 16) ∨ (Under r p 16 ∧ h = .int .i64 8) ∨ (Under r p 8 ∧ h = .int .i64 4) ∨ (Under r p 4 ∧ h = .int .i64 2) ∨ (Under r p 2 ∧ h = .int .i64 1) ∨ (Under r p 1 ∧ h = .int .i64 0))) (fun _ _ h => (intOf h).toNat)
  case atStart => exact ⟨0, by omega, rfl, by rw [Nat.pow_zero, Nat.div_one], .inl ⟨under_start hr hn, rfl⟩⟩
  case round =>
    obtain ⟨p, hp, rfl, rfl, hrel⟩ := hrel
    have hx : r / 2 ^ p < 18446744073709551616 := Nat.lt_of_le_of_lt (Nat.div_le_self _ _) hr
    rcases hrel with ⟨u, rfl⟩ | ⟨u, rfl⟩ | ⟨u, rfl⟩ | ⟨u, rfl⟩ | ⟨u, rfl⟩ | ⟨u, rfl⟩ | ⟨u, rfl⟩
    · have hl : lowv 32 = 4294967295 := by unfold lowv; decide
      have ha : bits .and .u64 ((r / 2 ^ p : Nat) : Int) 4294967295 = ((r / 2 ^ p % 2 ^ 32 : Nat) : Int) := by
        rw [← Nat.and_two_pow_sub_one_eq_mod]; exact u64_and_nat _ 4294967295 hx (by decide)
      have U : Hid (Under r p 64) := u
      clear u
      by_cases e : r / 2 ^ p % 2 ^ 32 = 0
      · have up : Under r (p + 32) 32 ∧ r / 2 ^ (p + 32) = r / 2 ^ p / 2 ^ 32 := under_up U.out e
        have UP : Hid (Under r (p + 32) 32 ∧ r / 2 ^ (p + 32) = r / 2 ^ p / 2 ^ 32) := up
        clear up
        rw [e] at ha
        have b := U.out.1
        generalize r / 2 ^ p = x at *
        go_wp2_with (go_at_call 18; refine (low_any _ _ (by omega) (by omega)).mono ?_; rintro e w' ⟨rfl, rfl⟩)
        go_round
        case rel => refine ⟨p + 32, by omega, by go_num, by rw [UP.out.2]; go_num, .inr (.inl ⟨?_, rfl⟩)⟩; exact UP.out.1
        case measure => simp [intOf]
      · have up : Under r p 32 := under_low U.out e
        have UP : Hid (Under r p 32) := up
        clear up
        have ha' : (bits .and .u64 ((r / 2 ^ p : Nat) : Int) 4294967295 == 0) = false := by rw [ha]; exact ne_b e
        clear ha e
        have hX : Hid (r / 2 ^ p = r / 2 ^ p) := rfl
        generalize hx' : r / 2 ^ p = x at *
        have HX : Hid (r / 2 ^ p = x) := hx'
        clear hx' hX
        go_wp2_with (go_at_call 18; refine (low_any _ _ (by omega) (by omega)).mono ?_; rintro e w' ⟨rfl, rfl⟩)
        go_round
        case rel => refine ⟨p, by omega, rfl, by rw [HX.out], .inr (.inl ⟨?_, rfl⟩)⟩; exact UP.out
        case measure => simp [intOf]
    · have hl : lowv 16 = 65535 := by unfold lowv; decide
      have ha : bits .and .u64 ((r / 2 ^ p : Nat) : Int) 65535 = ((r / 2 ^ p % 2 ^ 16 : Nat) : Int) := by
        rw [← Nat.and_two_pow_sub_one_eq_mod]; exact u64_and_nat _ 65535 hx (by decide)
      have U : Hid (Under r p 32) := u
      clear u
      by_cases e : r / 2 ^ p % 2 ^ 16 = 0
      · have up : Under r (p + 16) 16 ∧ r / 2 ^ (p + 16) = r / 2 ^ p / 2 ^ 16 := under_up U.out e
        have UP : Hid (Under r (p + 16) 16 ∧ r / 2 ^ (p + 16) = r / 2 ^ p / 2 ^ 16) := up
        clear up
        rw [e] at ha
        have b := U.out.1
        generalize r / 2 ^ p = x at *
        go_wp2_with (go_at_call 18; refine (low_any _ _ (by omega) (by omega)).mono ?_; rintro e w' ⟨rfl, rfl⟩)
        go_round
        case rel => refine ⟨p + 16, by omega, by go_num, by rw [UP.out.2]; go_num, .inr (.inr (.inl ⟨?_, rfl⟩))⟩; exact UP.out.1
        case measure => simp [intOf]
      · have up : Under r p 16 := under_low U.out e
        have UP : Hid (Under r p 16) := up
        clear up
        have ha' : (bits .and .u64 ((r / 2 ^ p : Nat) : Int) 65535 == 0) = false := by rw [ha]; exact ne_b e
        clear ha e
        have hX : Hid (r / 2 ^ p = r / 2 ^ p) := rfl
        generalize hx' : r / 2 ^ p = x at *
        have HX : Hid (r / 2 ^ p = x) := hx'
        clear hx' hX
        go_wp2_with (go_at_call 18; refine (low_any _ _ (by omega) (by omega)).mono ?_; rintro e w' ⟨rfl, rfl⟩)
        go_round
        case rel => refine ⟨p, by omega, rfl, by rw [HX.out], .inr (.inr (.inl ⟨?_, rfl⟩))⟩; exact UP.out
        case measure => simp [intOf]
    · have hl : lowv 8 = 255 := by unfold lowv; decide
      have ha : bits .and .u64 ((r / 2 ^ p : Nat) : Int) 255 = ((r / 2 ^ p % 2 ^ 8 : Nat) : Int) := by
        rw [← Nat.and_two_pow_sub_one_eq_mod]; exact u64_and_nat _ 255 hx (by decide)
      have U : Hid (Under r p 16) := u
      clear u
      by_cases e : r / 2 ^ p % 2 ^ 8 = 0
      · have up : Under r (p + 8) 8 ∧ r / 2 ^ (p + 8) = r / 2 ^ p / 2 ^ 8 := under_up U.out e
        have UP : Hid (Under r (p + 8) 8 ∧ r / 2 ^ (p + 8) = r / 2 ^ p / 2 ^ 8) := up
        clear up
        rw [e] at ha
        have b := U.out.1
        generalize r / 2 ^ p = x at *
        go_wp2_with (go_at_call 18; refine (low_any _ _ (by omega) (by omega)).mono ?_; rintro e w' ⟨rfl, rfl⟩)
        go_round
        case rel => refine ⟨p + 8, by omega, by go_num, by rw [UP.out.2]; go_num, .inr (.inr (.inr (.inl ⟨?_, rfl⟩)))⟩; exact UP.out.1
        case measure => simp [intOf]
      · have up : Under r p 8 := under_low U.out e
        have UP : Hid (Under r p 8) := up
        clear up
        have ha' : (bits .and .u64 ((r / 2 ^ p : Nat) : Int) 255 == 0) = false := by rw [ha]; exact ne_b e
        clear ha e
        have hX : Hid (r / 2 ^ p = r / 2 ^ p) := rfl
        generalize hx' : r / 2 ^ p = x at *
        have HX : Hid (r / 2 ^ p = x) := hx'
        clear hx' hX
        go_wp2_with (go_at_call 18; refine (low_any _ _ (by omega) (by omega)).mono ?_; rintro e w' ⟨rfl, rfl⟩)
        go_round
        case rel => refine ⟨p, by omega, rfl, by rw [HX.out], .inr (.inr (.inr (.inl ⟨?_, rfl⟩)))⟩; exact UP.out
        case measure => simp [intOf]
    · have hl : lowv 4 = 15 := by unfold lowv; decide
      have ha : bits .and .u64 ((r / 2 ^ p : Nat) : Int) 15 = ((r / 2 ^ p % 2 ^ 4 : Nat) : Int) := by
        rw [← Nat.and_two_pow_sub_one_eq_mod]; exact u64_and_nat _ 15 hx (by decide)
      have U : Hid (Under r p 8) := u
      clear u
      by_cases e : r / 2 ^ p % 2 ^ 4 = 0
      · have up : Under r (p + 4) 4 ∧ r / 2 ^ (p + 4) = r / 2 ^ p / 2 ^ 4 := under_up U.out e
        have UP : Hid (Under r (p + 4) 4 ∧ r / 2 ^ (p + 4) = r / 2 ^ p / 2 ^ 4) := up
        clear up
        rw [e] at ha
        have b := U.out.1
        generalize r / 2 ^ p = x at *
        go_wp2_with (go_at_call 18; refine (low_any _ _ (by omega) (by omega)).mono ?_; rintro e w' ⟨rfl, rfl⟩)
        go_round
        case rel => refine ⟨p + 4, by omega, by go_num, by rw [UP.out.2]; go_num, .inr (.inr (.inr (.inr (.inl ⟨?_, rfl⟩))))⟩; exact UP.out.1
        case measure => simp [intOf]
      · have up : Under r p 4 := under_low U.out e
        have UP : Hid (Under r p 4) := up
        clear up
        have ha' : (bits .and .u64 ((r / 2 ^ p : Nat) : Int) 15 == 0) = false := by rw [ha]; exact ne_b e
        clear ha e
        have hX : Hid (r / 2 ^ p = r / 2 ^ p) := rfl
        generalize hx' : r / 2 ^ p = x at *
        have HX : Hid (r / 2 ^ p = x) := hx'
        clear hx' hX
        go_wp2_with (go_at_call 18; refine (low_any _ _ (by omega) (by omega)).mono ?_; rintro e w' ⟨rfl, rfl⟩)
        go_round
        case rel => refine ⟨p, by omega, rfl, by rw [HX.out], .inr (.inr (.inr (.inr (.inl ⟨?_, rfl⟩))))⟩; exact UP.out
        case measure => simp [intOf]
    · have hl : lowv 2 = 3 := by unfold lowv; decide
      have ha : bits .and .u64 ((r / 2 ^ p : Nat) : Int) 3 = ((r / 2 ^ p % 2 ^ 2 : Nat) : Int) := by
        rw [← Nat.and_two_pow_sub_one_eq_mod]; exact u64_and_nat _ 3 hx (by decide)
      have U : Hid (Under r p 4) := u
      clear u
      by_cases e : r / 2 ^ p % 2 ^ 2 = 0
      · have up : Under r (p + 2) 2 ∧ r / 2 ^ (p + 2) = r / 2 ^ p / 2 ^ 2 := under_up U.out e
        have UP : Hid (Under r (p + 2) 2 ∧ r / 2 ^ (p + 2) = r / 2 ^ p / 2 ^ 2) := up
        clear up
        rw [e] at ha
        have b := U.out.1
        generalize r / 2 ^ p = x at *
        go_wp2_with (go_at_call 18; refine (low_any _ _ (by omega) (by omega)).mono ?_; rintro e w' ⟨rfl, rfl⟩)
        go_round
        case rel => refine ⟨p + 2, by omega, by go_num, by rw [UP.out.2]; go_num, .inr (.inr (.inr (.inr (.inr (.inl ⟨?_, rfl⟩)))))⟩; exact UP.out.1
        case measure => simp [intOf]
      · have up : Under r p 2 := under_low U.out e
        have UP : Hid (Under r p 2) := up
        clear up
        have ha' : (bits .and .u64 ((r / 2 ^ p : Nat) : Int) 3 == 0) = false := by rw [ha]; exact ne_b e
        clear ha e
        have hX : Hid (r / 2 ^ p = r / 2 ^ p) := rfl
        generalize hx' : r / 2 ^ p = x at *
        have HX : Hid (r / 2 ^ p = x) := hx'
        clear hx' hX
        go_wp2_with (go_at_call 18; refine (low_any _ _ (by omega) (by omega)).mono ?_; rintro e w' ⟨rfl, rfl⟩)
        go_round
        case rel => refine ⟨p, by omega, rfl, by rw [HX.out], .inr (.inr (.inr (.inr (.inr (.inl ⟨?_, rfl⟩)))))⟩; exact UP.out
        case measure => simp [intOf]
    · have hl : lowv 1 = 1 := by unfold lowv; decide
      have ha : bits .and .u64 ((r / 2 ^ p : Nat) : Int) 1 = ((r / 2 ^ p % 2 ^ 1 : Nat) : Int) := by
        rw [← Nat.and_two_pow_sub_one_eq_mod]; exact u64_and_nat _ 1 hx (by decide)
      have U : Hid (Under r p 2) := u
      clear u
      by_cases e : r / 2 ^ p % 2 ^ 1 = 0
      · have up : Under r (p + 1) 1 ∧ r / 2 ^ (p + 1) = r / 2 ^ p / 2 ^ 1 := under_up U.out e
        have UP : Hid (Under r (p + 1) 1 ∧ r / 2 ^ (p + 1) = r / 2 ^ p / 2 ^ 1) := up
        clear up
        rw [e] at ha
        have b := U.out.1
        generalize r / 2 ^ p = x at *
        go_wp2_with (go_at_call 18; refine (low_any _ _ (by omega) (by omega)).mono ?_; rintro e w' ⟨rfl, rfl⟩)
        go_round
        case rel => refine ⟨p + 1, by omega, by go_num, by rw [UP.out.2]; go_num, .inr (.inr (.inr (.inr (.inr (.inr (⟨?_, rfl⟩))))))⟩; exact UP.out.1
        case measure => simp [intOf]
      · have up : Under r p 1 := under_low U.out e
        have UP : Hid (Under r p 1) := up
        clear up
        have ha' : (bits .and .u64 ((r / 2 ^ p : Nat) : Int) 1 == 0) = false := by rw [ha]; exact ne_b e
        clear ha e
        have hX : Hid (r / 2 ^ p = r / 2 ^ p) := rfl
        generalize hx' : r / 2 ^ p = x at *
        have HX : Hid (r / 2 ^ p = x) := hx'
        clear hx' hX
        go_wp2_with (go_at_call 18; refine (low_any _ _ (by omega) (by omega)).mono ?_; rintro e w' ⟨rfl, rfl⟩)
        go_round
        case rel => refine ⟨p, by omega, rfl, by rw [HX.out], .inr (.inr (.inr (.inr (.inr (.inr (⟨?_, rfl⟩))))))⟩; exact UP.out
        case measure => simp [intOf]
    · have HF : Hid (firstv r = p) := under_one u
      clear u
      generalize r / 2 ^ p = x at *
      go_wp2
      go_ret2
      exact ⟨ret_pair ⟨by rw [HF.out], rfl⟩, rfl⟩

/-! how many, by sums of halves -/
theorem half_wrap (h M x : Nat) (d m : Int) (hd : d = ((2 ^ h : Nat) : Int)) (hm : m = (M : Int)) (hx : x < 18446744073709551616) (hM : M + M < 18446744073709551616) :
    IntKind.u64.wrap (bits .and .u64 (x : Int) m + bits .and .u64 ((x : Int) / d) m) = ((half h M x : Nat) : Int) := by
  subst hd; subst hm
  have e : (x : Int) / ((2 ^ h : Nat) : Int) = ((x / 2 ^ h : Nat) : Int) := by simp
  have hl : x / 2 ^ h ≤ x := Nat.div_le_self _ _
  have hh := half_lt h M x
  rw [e, u64_and_nat _ _ hx (by omega), u64_and_nat _ _ (by omega) (by omega), IntKind.wrap_u64]
  unfold half at *; omega
theorem count_any (r : Nat) (w : World) (hr : r < 18446744073709551616) :
    Calls Try.prog 16 #[.int .u64 (r : Int)] w fun e w' => e = .returned (.int .i64 (cntv r : Int)) ∧ w' = w := by
  go_enter Try.func16, Try.ntmps16
  go_wp2
  go_loop [0, 3] (fun a h => (a = .int .u64 (r : Int) ∧ h = .int .i64 1) ∨ (a = .int .u64 ((k1 r : Nat) : Int) ∧ h = .int .i64 2) ∨ (a = .int .u64 ((k2 r : Nat) : Int) ∧ h = .int .i64 4) ∨ (a = .int .u64 ((k3 r : Nat) : Int) ∧ h = .int .i64 8) ∨ (a = .int .u64 ((k4 r : Nat) : Int) ∧ h = .int .i64 16) ∨ (a = .int .u64 ((k5 r : Nat) : Int) ∧ h = .int .i64 32) ∨ (a = .int .u64 ((k6 r : Nat) : Int) ∧ h = .int .i64 64)) (fun _ h => 64 - (intOf h).toNat)
  case atStart => exact .inl ⟨rfl, rfl⟩
  case round =>
    rcases hrel with ⟨rfl, rfl⟩ | ⟨rfl, rfl⟩ | ⟨rfl, rfl⟩ | ⟨rfl, rfl⟩ | ⟨rfl, rfl⟩ | ⟨rfl, rfl⟩ | ⟨rfl, rfl⟩
    · have hx : r < 18446744073709551616 := hr
      have HK : Hid (k1 r = half 1 6148914691236517205 (r)) := rfl
      go_wp2_with (go_at_call 21; refine (lowers_1 _).mono ?_; rintro e w' ⟨rfl, rfl⟩)
      go_round
      case rel => refine .inr (.inl ⟨?_, rfl⟩); exact congrArg (Value.int .u64) ((half_wrap 1 6148914691236517205 r _ _ (by decide) rfl hx (by decide)).trans (by rw [HK.out]))
      case measure => simp [intOf]
    · have hx : k1 r < 18446744073709551616 := Nat.lt_of_le_of_lt (half_lt _ _ _) (by decide)
      have HK : Hid (k2 r = half 2 3689348814741910323 (k1 r)) := rfl
      generalize k1 r = x at *
      go_wp2_with (go_at_call 21; refine (lowers_2 _).mono ?_; rintro e w' ⟨rfl, rfl⟩)
      go_round
      case rel => refine .inr (.inr (.inl ⟨?_, rfl⟩)); exact congrArg (Value.int .u64) ((half_wrap 2 3689348814741910323 x _ _ (by decide) rfl hx (by decide)).trans (by rw [HK.out]))
      case measure => simp [intOf]
    · have hx : k2 r < 18446744073709551616 := Nat.lt_of_le_of_lt (half_lt _ _ _) (by decide)
      have HK : Hid (k3 r = half 4 1085102592571150095 (k2 r)) := rfl
      generalize k2 r = x at *
      go_wp2_with (go_at_call 21; refine (lowers_4 _).mono ?_; rintro e w' ⟨rfl, rfl⟩)
      go_round
      case rel => refine .inr (.inr (.inr (.inl ⟨?_, rfl⟩))); exact congrArg (Value.int .u64) ((half_wrap 4 1085102592571150095 x _ _ (by decide) rfl hx (by decide)).trans (by rw [HK.out]))
      case measure => simp [intOf]
    · have hx : k3 r < 18446744073709551616 := Nat.lt_of_le_of_lt (half_lt _ _ _) (by decide)
      have HK : Hid (k4 r = half 8 71777214294589695 (k3 r)) := rfl
      generalize k3 r = x at *
      go_wp2_with (go_at_call 21; refine (lowers_8 _).mono ?_; rintro e w' ⟨rfl, rfl⟩)
      go_round
      case rel => refine .inr (.inr (.inr (.inr (.inl ⟨?_, rfl⟩)))); exact congrArg (Value.int .u64) ((half_wrap 8 71777214294589695 x _ _ (by decide) rfl hx (by decide)).trans (by rw [HK.out]))
      case measure => simp [intOf]
    · have hx : k4 r < 18446744073709551616 := Nat.lt_of_le_of_lt (half_lt _ _ _) (by decide)
      have HK : Hid (k5 r = half 16 281470681808895 (k4 r)) := rfl
      generalize k4 r = x at *
      go_wp2_with (go_at_call 21; refine (lowers_16 _).mono ?_; rintro e w' ⟨rfl, rfl⟩)
      go_round
      case rel => refine .inr (.inr (.inr (.inr (.inr (.inl ⟨?_, rfl⟩))))); exact congrArg (Value.int .u64) ((half_wrap 16 281470681808895 x _ _ (by decide) rfl hx (by decide)).trans (by rw [HK.out]))
      case measure => simp [intOf]
    · have hx : k5 r < 18446744073709551616 := Nat.lt_of_le_of_lt (half_lt _ _ _) (by decide)
      have HK : Hid (k6 r = half 32 4294967295 (k5 r)) := rfl
      generalize k5 r = x at *
      go_wp2_with (go_at_call 21; refine (lowers_32 _).mono ?_; rintro e w' ⟨rfl, rfl⟩)
      go_round
      case rel => refine .inr (.inr (.inr (.inr (.inr (.inr (⟨?_, rfl⟩)))))); exact congrArg (Value.int .u64) ((half_wrap 32 4294967295 x _ _ (by decide) rfl hx (by decide)).trans (by rw [HK.out]))
      case measure => simp [intOf]
    · have HK : Hid (k6 r = cntv r) := k6_cnt r
      have hc := cntv_le r
      have hl : k6 r ≤ 64 := by rw [k6_cnt]; exact hc
      go_wp2
      go_ret
      exact ⟨ret_i (by rw [← HK.out]), rfl⟩
end Go.Proofs.Ytnhbodloiimagaa
