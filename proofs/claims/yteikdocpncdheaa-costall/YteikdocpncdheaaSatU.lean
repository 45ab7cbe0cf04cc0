/-
  What Mul, Up and the reference's own Add, Sub, Mul, Up hand back, each by its Go text, and that 'begun' says yes.
-/
import Derived.Test.YteikdocpncdheaaSatW
namespace Go.Proofs.Yteikdocpncdheaa.Sat
open Go.ChangeShapes Go.WideShapes Go.ChangeAt Go.RowKit

def prodv (x : Int) : Int := if x < 18446744073709551616 then x else 0
def prodB (x : Int) : Bool := decide (x < 18446744073709551616)
theorem prodv_in {x : Int} (h : x < 18446744073709551616) : prodv x = x ∧ prodB x = true := ⟨if_pos h, decide_eq_true h⟩
theorem prodv_out {x : Int} (h : 18446744073709551616 ≤ x) : prodv x = 0 ∧ prodB x = false := ⟨if_neg (by omega), decide_eq_false (by omega)⟩
theorem close_yes {X L p : Int} (t : (X / 4294967296 != 0) = false) (e : 0 ≤ X ∧ X * 4294967296 + L % 4294967296 = p) :
    bits .or .u64 (IntKind.u64.wrap (X * 4294967296)) (L % 4294967296) = prodv p ∧ true = prodB p := by
  have hX : X < 4294967296 := by simp at t; omega
  have k := prodv_in (x := p) (by omega)
  rw [IntKind.wrap_u64, Int.emod_eq_of_lt (by omega) (by omega), or_u64 X _ e.1 hX (by omega) (by omega), e.2]
  exact ⟨k.1.symm, k.2.symm⟩
theorem close_no {X p : Int} (L : Int) (t : (X / 4294967296 != 0) = true) (e : 0 ≤ X ∧ X * 4294967296 + L % 4294967296 = p) :
    0 = prodv p ∧ false = prodB p := by
  have hX : 4294967296 ≤ X := by simp at t; omega
  have k := prodv_out (x := p) (by omega)
  exact ⟨k.1.symm, k.2.symm⟩

theorem half_a (a b : Int) (a0 : 0 ≤ a) (a1 : a ≤ 4294967295) (b0 : 0 ≤ b) (b1 : b ≤ 9223372036854775808) :
    0 ≤ IntKind.u64.wrap (IntKind.u64.wrap (IntKind.u64.wrap (b / 4294967296 * a)) + IntKind.u64.wrap (a * (b % 4294967296)) / 4294967296) ∧
    IntKind.u64.wrap (IntKind.u64.wrap (IntKind.u64.wrap (b / 4294967296 * a)) + IntKind.u64.wrap (a * (b % 4294967296)) / 4294967296) * 4294967296 + IntKind.u64.wrap (a * (b % 4294967296)) % 4294967296 = a * b := by
  have k1 := mul_bd (x := b / 4294967296) (y := a) (X := 2147483648) (Y := 4294967295) (by omega) (by omega) a0 a1
  have k2 := mul_bd (x := a) (y := b % 4294967296) (X := 4294967295) (Y := 4294967295) a0 a1 (by omega) (by omega)
  have e : a * b = b / 4294967296 * a * 4294967296 + a * (b % 4294967296) := by
    have := prod_halves a b (.inl (by omega))
    have h1 : a / 4294967296 = 0 := by omega
    have h2 : a % 4294967296 = a := by omega
    rw [h1, h2] at this; simpa using this
  simp only [IntKind.wrap_u64]
  omega
theorem half_b (a b : Int) (a0 : 0 ≤ a) (a1 : a ≤ 9223372036854775808) (b0 : 0 ≤ b) (b1 : b ≤ 4294967295) :
    0 ≤ IntKind.u64.wrap (IntKind.u64.wrap (IntKind.u64.wrap (a / 4294967296 * b)) + IntKind.u64.wrap (a % 4294967296 * b) / 4294967296) ∧
    IntKind.u64.wrap (IntKind.u64.wrap (IntKind.u64.wrap (a / 4294967296 * b)) + IntKind.u64.wrap (a % 4294967296 * b) / 4294967296) * 4294967296 + IntKind.u64.wrap (a % 4294967296 * b) % 4294967296 = a * b := by
  have k1 := mul_bd (x := a / 4294967296) (y := b) (X := 2147483648) (Y := 4294967295) (by omega) (by omega) b0 b1
  have k2 := mul_bd (x := a % 4294967296) (y := b) (X := 4294967295) (Y := 4294967295) (by omega) (by omega) b0 b1
  have e : a * b = a / 4294967296 * b * 4294967296 + a % 4294967296 * b := by
    have := prod_halves a b (.inr (by omega))
    have h1 : b / 4294967296 = 0 := by omega
    have h2 : b % 4294967296 = b := by omega
    rw [h1, h2] at this; simpa using this
  simp only [IntKind.wrap_u64]
  omega

theorem prod_any (a b : Int) (w : World) (a0 : 0 ≤ a) (a1 : a ≤ 9223372036854775808) (b0 : 0 ≤ b) (b1 : b ≤ 9223372036854775808) :
    Calls Try.prog 64 #[.int .u64 a, .int .u64 b] w fun e w' => e = .returned (.tuple #[.int .u64 (prodv (a * b)), .bool (prodB (a * b))]) ∧ w' = w := by
  by_cases ha : a ≤ 4294967295
  · have K := half_a a b a0 ha b0 b1
    have HK : Hid _ := K
    clear K
    go_enter Try.func64, Try.ntmps64
    go_wp2
    all_goals go_ret2
    · exact ⟨ret_pair (close_no _ ‹_› HK.out), rfl⟩
    · exact ⟨ret_pair (close_yes ‹_› HK.out), rfl⟩
  · by_cases hb : b ≤ 4294967295
    · have ta : (a / 4294967296 != 0) = true := by simp; omega
      have tb : b / 4294967296 = 0 := by omega
      have K := half_b a b a0 a1 b0 hb
      have HK : Hid _ := K
      clear K
      go_enter Try.func64, Try.ntmps64
      go_wp2
      all_goals go_ret2
      · exact ⟨ret_pair (close_no _ ‹_› HK.out), rfl⟩
      · exact ⟨ret_pair (close_yes ‹_› HK.out), rfl⟩
    · have ta : (a / 4294967296 != 0) = true := by simp; omega
      have tb : (b / 4294967296 != 0) = true := by simp; omega
      have K := prod_great a b a0 b0 (by omega) (by omega)
      have HK : Hid _ := K
      clear K
      go_enter Try.func64, Try.ntmps64
      go_wp2
      go_ret2
      exact ⟨ret_pair ⟨(prodv_out HK.out).1.symm, (prodv_out HK.out).2.symm⟩, rfl⟩

theorem above_yes (x : Int) (w : World) (h0 : 0 ≤ x) (h1 : x < 18446744073709551616) :
    Calls Try.prog 67 #[.int .u64 x, .bool true] w fun e w' => e = .returned (.tuple #[.int .i64 (satv x), .bool (fitsB x)]) ∧ w' = w := by
  go_enter Try.func67, Try.ntmps67
  go_wp2
  all_goals go_ret2
  · exact ⟨ret_pair ⟨(satv_top ‹_›).symm, (fits_out (.inr ‹_›)).symm⟩, rfl⟩
  · have f : fitsB x = true := fits_in ⟨by omega, ‹_›⟩
    exact ⟨ret_pair ⟨(satv_fits f).symm, f.symm⟩, rfl⟩
theorem above_no (w : World) :
    Calls Try.prog 67 #[.int .u64 0, .bool false] w fun e w' => e = .returned (.tuple #[.int .i64 9223372036854775807, .bool false]) ∧ w' = w := by
  go_enter Try.func67, Try.ntmps67
  go_wp2
  go_ret2
  exact ⟨rfl, rfl⟩
theorem below_yes (x : Int) (w : World) (h0 : 0 ≤ x) (h1 : x < 18446744073709551616) :
    Calls Try.prog 66 #[.int .u64 x, .bool true] w fun e w' => e = .returned (.tuple #[.int .i64 (satv (-x)), .bool (fitsB (-x))]) ∧ w' = w := by
  go_enter Try.func66, Try.ntmps66
  go_wp2
  all_goals go_ret2
  · exact ⟨ret_pair ⟨(satv_low (by omega)).symm, (fits_out (.inl (by omega))).symm⟩, rfl⟩
  · have f : fitsB (-x) = true := fits_in (by omega)
    exact ⟨ret_pair ⟨by rw [satv_fits f]; have := eq_of_beq ‹(x == 0) = true›; omega, f.symm⟩, rfl⟩
  · have f : fitsB (-x) = true := fits_in (by omega)
    have h3 : x ≠ 0 := by have := ne_of_beq_false ‹(x == 0) = false›; exact this
    exact ⟨ret_pair ⟨by rw [satv_fits f, IntKind.wrap_u64]; unfold wrap64; omega, f.symm⟩, rfl⟩
theorem below_no (w : World) :
    Calls Try.prog 66 #[.int .u64 0, .bool false] w fun e w' => e = .returned (.tuple #[.int .i64 (-9223372036854775808), .bool false]) ∧ w' = w := by
  go_enter Try.func66, Try.ntmps66
  go_wp2
  go_ret2
  exact ⟨rfl, rfl⟩

theorem sign_cases (a : Int) : (decide (a < 0) = true ∧ a < 0) ∨ (decide (a < 0) = false ∧ ¬ a < 0) := by
  by_cases h : a < 0
  · exact .inl ⟨decide_eq_true h, h⟩
  · exact .inr ⟨decide_eq_false h, h⟩
theorem mul_any (a b : Int) (w : World) (a0 : -9223372036854775808 ≤ a) (a1 : a ≤ 9223372036854775807) (b0 : -9223372036854775808 ≤ b) (b1 : b ≤ 9223372036854775807) :
    Calls Try.prog 59 #[.int .i64 a, .int .i64 b] w fun e w' => e = .returned (.tuple #[.int .i64 (satv (a * b)), .bool (fitsB (a * b))]) ∧ w' = w := by
  have ka := mag_bd a a0 a1
  have kb := mag_bd b b0 b1
  have hp : 0 ≤ mag a * mag b := Int.mul_nonneg ka.1 kb.1
  by_cases big : mag a * mag b < 18446744073709551616
  · have k := prodv_in big
    have HB : Hid _ := big
    clear big
    rcases sign_cases a with ⟨da, sa⟩ | ⟨da, sa⟩ <;> rcases sign_cases b with ⟨db, sb⟩ | ⟨db, sb⟩
    all_goals
      go_enter Try.func59, Try.ntmps59
      go_wp2_with (first | (go_at_call 65; refine (mag_any _ _ (by omega) (by omega)).mono ?_; rintro e w' ⟨rfl, rfl⟩) | (go_at_call 64; refine (prod_any _ _ _ (by omega) (by omega) (by omega) (by omega)).mono ?_; rintro e w' ⟨rfl, rfl⟩) | (go_at_call 67; refine (above_yes _ _ hp HB.out).mono ?_; rintro e w' ⟨rfl, rfl⟩) | (go_at_call 66; refine (below_yes _ _ hp HB.out).mono ?_; rintro e w' ⟨rfl, rfl⟩))
      go_ret2
    · exact ⟨ret_pair ⟨by rw [mag_same (by omega)], by rw [mag_same (by omega)]⟩, rfl⟩
    · exact ⟨ret_pair ⟨by rw [mag_apart (by omega), Int.neg_neg], by rw [mag_apart (by omega), Int.neg_neg]⟩, rfl⟩
    · exact ⟨ret_pair ⟨by rw [mag_apart (by omega), Int.neg_neg], by rw [mag_apart (by omega), Int.neg_neg]⟩, rfl⟩
    · exact ⟨ret_pair ⟨by rw [mag_same (by omega)], by rw [mag_same (by omega)]⟩, rfl⟩
  · have k := prodv_out (x := mag a * mag b) (by omega)
    have HB : Hid (18446744073709551616 ≤ mag a * mag b) := Int.not_lt.mp big
    clear big
    rcases sign_cases a with ⟨da, sa⟩ | ⟨da, sa⟩ <;> rcases sign_cases b with ⟨db, sb⟩ | ⟨db, sb⟩
    all_goals
      go_enter Try.func59, Try.ntmps59
      go_wp2_with (first | (go_at_call 65; refine (mag_any _ _ (by omega) (by omega)).mono ?_; rintro e w' ⟨rfl, rfl⟩) | (go_at_call 64; refine (prod_any _ _ _ (by omega) (by omega) (by omega) (by omega)).mono ?_; rintro e w' ⟨rfl, rfl⟩) | (go_at_call 67; refine (above_no _).mono ?_; rintro e w' ⟨rfl, rfl⟩) | (go_at_call 66; refine (below_no _).mono ?_; rintro e w' ⟨rfl, rfl⟩))
      go_ret2
      have big := HB.out
    · rw [mag_same (by omega)] at big; exact ⟨ret_pair ⟨(satv_top (by omega)).symm, (fits_out (by omega)).symm⟩, rfl⟩
    · rw [mag_apart (by omega)] at big; exact ⟨ret_pair ⟨(satv_low (by omega)).symm, (fits_out (by omega)).symm⟩, rfl⟩
    · rw [mag_apart (by omega)] at big; exact ⟨ret_pair ⟨(satv_low (by omega)).symm, (fits_out (by omega)).symm⟩, rfl⟩
    · rw [mag_same (by omega)] at big; exact ⟨ret_pair ⟨(satv_top (by omega)).symm, (fits_out (by omega)).symm⟩, rfl⟩

/-! the reference's own -/
end Go.Proofs.Yteikdocpncdheaa.Sat
