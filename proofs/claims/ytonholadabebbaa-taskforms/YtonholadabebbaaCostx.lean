/-
  Put together:
  Put together:
  Plain facts on integers for the proofs over package sat: numbers that stop at the ends of int64 ('satv', 'fitsB'), halves put together by or, rounding up. Nothing of the program.
  What the functions of package sat hand back, each by its own Go text: sums, differences and products stop at the ends of int64; Up is the quotient rounded up.
  What Mul, Up and the reference's own Add, Sub, Mul, Up hand back, each by its Go text, and that 'begun' says yes.
  How long rows of instructions are, by package cost: its ticks and goes.
  The longest piece of a program, by package cost.
  The spans of a program, by package cost.
  A cost in memory.
-/
import Derived.WalkKit
import Derived.Laws.Bits64b
import Derived.Test.YtonholadabebbaaChecked
import Derived.ProofKit
import Derived.Outline
import Derived.WalkLawsBesides
import Derived.Test.YtonholadabebbaaPlains
import Derived.Test.YtonholadabebbaaLowt
import Derived.Test.YtonholadabebbaaHand
import Derived.Test.YtonholadabebbaaShap
import Derived.Test.YtonholadabebbaaStepl
namespace Go.Proofs.Ytonholadabebbaa.Sat
open Go.RowKit

/-- the number itself, or the end that it goes beyond -/
def satv (x : Int) : Int := if x < -9223372036854775808 then -9223372036854775808 else if 9223372036854775807 < x then 9223372036854775807 else x
/-- is it an int64? -/
def fitsB (x : Int) : Bool := decide (-9223372036854775808 ≤ x ∧ x ≤ 9223372036854775807)

theorem fits_iff (x : Int) : fitsB x = true ↔ (-9223372036854775808 ≤ x ∧ x ≤ 9223372036854775807) := by simp [fitsB]
theorem satv_fits {x : Int} (h : fitsB x = true) : satv x = x := by
  rw [fits_iff] at h; unfold satv; rw [if_neg (by omega), if_neg (by omega)]
theorem satv_low {x : Int} (h : x < -9223372036854775808) : satv x = -9223372036854775808 := by unfold satv; rw [if_pos h]
theorem satv_top {x : Int} (h : 9223372036854775807 < x) : satv x = 9223372036854775807 := by
  unfold satv; rw [if_neg (by omega), if_pos h]
theorem fits_in {x : Int} (h : -9223372036854775808 ≤ x ∧ x ≤ 9223372036854775807) : fitsB x = true := (fits_iff x).2 h
theorem fits_out {x : Int} (h : x < -9223372036854775808 ∨ 9223372036854775807 < x) : fitsB x = false := by
  cases e : fitsB x with
  | false => rfl
  | true => rw [fits_iff] at e; omega

theorem or_i64 (h l : Int) (h0 : -2147483648 ≤ h) (h1 : h ≤ 2147483647) (l0 : 0 ≤ l) (l1 : l < 4294967296) :
    bits .or .i64 (h * 4294967296) l = h * 4294967296 + l := by
  obtain ⟨L, rfl⟩ := Int.eq_ofNat_of_zero_le l0
  have e1 : (BitVec.ofInt 64 (h * 4294967296)).toNat = 2 ^ 32 * (h % 4294967296).toNat := by
    rw [BitVec.toNat_ofInt]
    have : h * 4294967296 % ((2 ^ 64 : Nat) : Int) = (h % 4294967296) * 4294967296 := by omega
    rw [this]; omega
  have e2 : (BitVec.ofInt 64 (L : Int)).toNat = L := by
    rw [BitVec.ofInt_natCast, BitVec.toNat_ofNat]; exact Nat.mod_eq_of_lt (by omega)
  show IntKind.i64.wrap ((BitVec.ofInt 64 (h * 4294967296) ||| BitVec.ofInt 64 (L : Int)).toNat : Int) = _
  rw [BitVec.toNat_or, e1, e2, ← Nat.two_pow_add_eq_or_of_lt (by omega)]
  simp only [IntKind.wrap, IntKind.bits, IntKind.signed]
  simp
  omega

theorem or_u64 (h l : Int) (h0 : 0 ≤ h) (h1 : h < 4294967296) (l0 : 0 ≤ l) (l1 : l < 4294967296) :
    bits .or .u64 (h * 4294967296) l = h * 4294967296 + l := by
  obtain ⟨L, rfl⟩ := Int.eq_ofNat_of_zero_le l0
  obtain ⟨K, rfl⟩ := Int.eq_ofNat_of_zero_le h0
  have e := bits_or_u64_nat (2 ^ 32 * K) L (by omega) (by omega)
  have e2 : ((2 ^ 32 * K : Nat) : Int) = (K : Int) * 4294967296 := by omega
  rw [e2] at e
  rw [e, ← Nat.two_pow_add_eq_or_of_lt (by omega)]
  omega

theorem w64 (n : Int) (h : -9223372036854775808 ≤ n ∧ n ≤ 9223372036854775807) : wrap64 n = n := by unfold wrap64; omega

/-! join -/
theorem join_in {H : Int} (e : (H == wrap64 (wrap32 H)) = true) : -2147483648 ≤ H ∧ H ≤ 2147483647 := by
  simp [wrap64, wrap32] at e; omega
theorem join_out {H : Int} (e : (H == wrap64 (wrap32 H)) = false) : H < -2147483648 ∨ 2147483647 < H := by
  simp [wrap64, wrap32] at e; omega
theorem join_yes {h l : Int} (e : (h + l / 4294967296 == wrap64 (wrap32 (h + l / 4294967296))) = true) :
    bits .or .i64 (wrap64 ((h + l / 4294967296) * 4294967296)) (l % 4294967296) = satv (h * 4294967296 + l) ∧ true = fitsB (h * 4294967296 + l) := by
  have k := join_in e
  have f : fitsB (h * 4294967296 + l) = true := fits_in (by omega)
  refine ⟨?_, f.symm⟩
  rw [w64 _ (by omega), or_i64 _ _ k.1 k.2 (by omega) (by omega), satv_fits f]; omega
theorem join_low {h l : Int} (e : (h + l / 4294967296 == wrap64 (wrap32 (h + l / 4294967296))) = false) (n : h + l / 4294967296 < 0) :
    -9223372036854775808 = satv (h * 4294967296 + l) ∧ false = fitsB (h * 4294967296 + l) := by
  have k := join_out e
  have f : h * 4294967296 + l < -9223372036854775808 := by omega
  exact ⟨(satv_low f).symm, (fits_out (.inl f)).symm⟩
theorem join_top {h l : Int} (e : (h + l / 4294967296 == wrap64 (wrap32 (h + l / 4294967296))) = false) (n : 0 ≤ h + l / 4294967296) :
    9223372036854775807 = satv (h * 4294967296 + l) ∧ false = fitsB (h * 4294967296 + l) := by
  have k := join_out e
  have f : 9223372036854775807 < h * 4294967296 + l := by omega
  exact ⟨(satv_top f).symm, (fits_out (.inr f)).symm⟩

/-! the size of a number, products of sizes -/
def mag (v : Int) : Int := if v < 0 then -v else v
theorem mag_neg {v : Int} (h : v < 0) : mag v = -v := if_pos h
theorem mag_pos {v : Int} (h : 0 ≤ v) : mag v = v := if_neg (by omega)
theorem mag_bd (v : Int) (h0 : -9223372036854775808 ≤ v) (h1 : v ≤ 9223372036854775807) : 0 ≤ mag v ∧ mag v ≤ 9223372036854775808 := by
  unfold mag; split <;> omega
theorem mag_same {a b : Int} (h : a < 0 ↔ b < 0) : mag a * mag b = a * b := by
  by_cases k : a < 0
  · rw [mag_neg k, mag_neg (h.1 k), Int.neg_mul_neg]
  · rw [mag_pos (by omega), mag_pos (by have := mt h.2 k; omega)]
theorem mag_apart {a b : Int} (h : a < 0 ↔ ¬ b < 0) : mag a * mag b = -(a * b) := by
  by_cases k : a < 0
  · rw [mag_neg k, mag_pos (by have := h.1 k; omega), Int.neg_mul]
  · rw [mag_pos (by omega), mag_neg (by have := mt h.2 k; omega), Int.mul_neg]

theorem cut (a : Int) : a = a / 4294967296 * 4294967296 + a % 4294967296 := by omega
theorem mul_bd {x y X Y : Int} (h0 : 0 ≤ x) (h1 : x ≤ X) (k0 : 0 ≤ y) (k1 : y ≤ Y) : 0 ≤ x * y ∧ x * y ≤ X * Y :=
  ⟨Int.mul_nonneg h0 k0, Int.mul_le_mul h1 k1 k0 (by omega)⟩
/-- the product by halves, where one high half is nought -/
theorem prod_halves (a b : Int) (h : a / 4294967296 = 0 ∨ b / 4294967296 = 0) :
    a * b = (a / 4294967296 * (b % 4294967296) + b / 4294967296 * (a % 4294967296)) * 4294967296 + a % 4294967296 * (b % 4294967296) := by
  have ea := cut a
  have eb := cut b
  generalize a / 4294967296 = p at *
  generalize a % 4294967296 = q at *
  generalize b / 4294967296 = r at *
  generalize b % 4294967296 = s at *
  subst ea eb
  rcases h with rfl | rfl
  · rw [Int.zero_mul, Int.zero_mul, Int.zero_add, Int.zero_add, Int.mul_add, ← Int.mul_assoc, Int.mul_comm q r]
  · rw [Int.zero_mul, Int.zero_mul, Int.zero_add, Int.add_zero, Int.add_mul, Int.mul_right_comm]
theorem prod_great (a b : Int) (a0 : 0 ≤ a) (b0 : 0 ≤ b) (ha : ¬ a / 4294967296 = 0) (hb : ¬ b / 4294967296 = 0) : 18446744073709551616 ≤ a * b := by
  have h1 : 4294967296 ≤ a := by omega
  have h2 : 4294967296 ≤ b := by omega
  have := Int.mul_le_mul h1 h2 (by omega) (by omega)
  omega
theorem prod_parts (a b : Int) (a0 : 0 ≤ a) (a1 : a ≤ 9223372036854775808) (b0 : 0 ≤ b) (b1 : b ≤ 9223372036854775808) :
    (0 ≤ a / 4294967296 * (b % 4294967296) ∧ a / 4294967296 * (b % 4294967296) ≤ 2147483648 * 4294967295) ∧ (0 ≤ b / 4294967296 * (a % 4294967296) ∧ b / 4294967296 * (a % 4294967296) ≤ 2147483648 * 4294967295) ∧ (0 ≤ a % 4294967296 * (b % 4294967296) ∧ a % 4294967296 * (b % 4294967296) ≤ 4294967295 * 4294967295) :=
  ⟨mul_bd (by omega) (by omega) (by omega) (by omega), mul_bd (by omega) (by omega) (by omega) (by omega), mul_bd (by omega) (by omega) (by omega) (by omega)⟩

/-! a product that is divided back -/
theorem wrap64_bd7 (n : Int) : -9223372036854775808 ≤ wrap64 n ∧ wrap64 n ≤ 9223372036854775807 := by unfold wrap64; omega
theorem wrap64_off (n : Int) : ∃ k, wrap64 n = n + 18446744073709551616 * k := ⟨-((n + 9223372036854775808) / 18446744073709551616), by unfold wrap64; omega⟩
theorem tdiv_back {a b : Int} (h : a ≠ 0) : (a * b).tdiv a = b := Int.mul_tdiv_cancel_left b h
theorem back_fits {a b : Int} (a0 : -9223372036854775808 ≤ a) (a1 : a ≤ 9223372036854775807) (ha : a ≠ 0) (hm : a ≠ -1) (e : wrap64 ((wrap64 (a * b)).tdiv a) = b) : fitsB (a * b) = true := by
  have hc := wrap64_bd7 (a * b)
  obtain ⟨k, hk⟩ := wrap64_off (a * b)
  have hd := Int.tmod_add_mul_tdiv (wrap64 (a * b)) a
  have hr : ((wrap64 (a * b)).tmod a).natAbs < a.natAbs := by
    rw [Int.natAbs_tmod]; exact Nat.mod_lt _ (by omega)
  have ht : -9223372036854775808 ≤ (wrap64 (a * b)).tdiv a ∧ (wrap64 (a * b)).tdiv a ≤ 9223372036854775807 := by
    by_cases h1 : a = 1
    · rw [h1, Int.tdiv_one]; exact wrap64_bd7 _
    · have h2 : ((wrap64 (a * b)).tdiv a).natAbs ≤ (wrap64 (a * b)).natAbs / 2 := by
        rw [Int.natAbs_tdiv]; exact Nat.div_le_div_left (by omega) (by omega)
      omega
  rw [w64 _ ht] at e
  rw [e] at hd
  have hk0 : k = 0 := by omega
  rw [hk0] at hk
  exact fits_in (by omega)
theorem sign_mul {a b : Int} : (0 < a * b ↔ (0 < a ∧ 0 < b ∨ a < 0 ∧ b < 0)) ∧ (a * b < 0 ↔ (0 < a ∧ b < 0 ∨ a < 0 ∧ 0 < b)) := by
  rcases Int.lt_trichotomy a 0 with h | h | h <;> rcases Int.lt_trichotomy b 0 with k | k | k
  · have := Int.mul_pos_of_neg_of_neg h k; omega
  · subst k; simp
  · have := Int.mul_neg_of_neg_of_pos h k; omega
  · subst h; simp
  · subst h; simp
  · subst h; simp
  · have := Int.mul_neg_of_pos_of_neg h k; omega
  · subst k; simp
  · have := Int.mul_pos h k; omega

/-! rounding up -/
def upv (a b : Int) : Int := (a + b - 1) / b
theorem upv_eq {a b : Int} (h : 1 ≤ b) : upv a b = a / b + (if a % b = 0 then 0 else 1) := by
  unfold upv
  have e := Int.mul_ediv_add_emod a b
  have e0 := Int.emod_nonneg a (b := b) (by omega)
  have e1 := Int.emod_lt_of_pos a (b := b) (by omega)
  by_cases k : a % b = 0
  · rw [if_pos k]
    have : a + b - 1 = (b - 1) + b * (a / b) := by omega
    rw [this, Int.add_mul_ediv_left _ _ (by omega), Int.ediv_eq_zero_of_lt (by omega) (by omega)]; omega
  · rw [if_neg k]
    have : a + b - 1 = (a % b - 1) + b * (a / b + 1) := by rw [Int.mul_add]; omega
    rw [this, Int.add_mul_ediv_left _ _ (by omega), Int.ediv_eq_zero_of_lt (by omega) (by omega)]; omega
theorem upv_low {a b : Int} (h : 1 ≤ b) : (upv a b - 1) * b < a ∧ a ≤ upv a b * b := by
  unfold upv
  have e := Int.mul_ediv_add_emod (a + b - 1) b
  have e0 := Int.emod_nonneg (a + b - 1) (b := b) (by omega)
  have e1 := Int.emod_lt_of_pos (a + b - 1) (b := b) (by omega)
  rw [Int.mul_comm] at e
  rw [Int.sub_mul]
  omega
theorem upv_nonneg {a b : Int} (h0 : 0 ≤ a) (h : 1 ≤ b) : 0 ≤ upv a b := Int.ediv_nonneg (by omega) (by omega)
theorem upv_le {a b : Int} (h0 : 0 ≤ a) (h : 1 ≤ b) : upv a b ≤ a := by
  rw [upv_eq h]
  have e := Int.mul_ediv_add_emod a b
  have e0 := Int.emod_nonneg a (b := b) (by omega)
  have q0 : 0 ≤ a / b := Int.ediv_nonneg h0 (by omega)
  have : a / b * 1 ≤ a / b * b := Int.mul_le_mul_of_nonneg_left h q0
  rw [Int.mul_comm] at e
  by_cases k : a % b = 0
  · rw [if_pos k]; omega
  · rw [if_neg k]; omega
theorem upv_zero {a b : Int} (h0 : 0 ≤ a) (h : 1 ≤ b) : upv a b = 0 ↔ a = 0 := by
  constructor
  · intro e; have := (upv_low (a := a) h).2; rw [e] at this; omega
  · intro e; subst e; have := upv_le (Int.le_refl 0) h; have := upv_nonneg (Int.le_refl 0) h; omega
end Go.Proofs.Ytonholadabebbaa.Sat

namespace Go.Proofs.Ytonholadabebbaa.Sat
open Go.ChangeShapes Go.WideShapes Go.ChangeAt Go.RowKit

theorem ret_pair {k : IntKind} {a b : Int} {p q : Bool} (h : a = b ∧ p = q) : Ending.returned (.tuple #[.int k a, .bool p]) = .returned (.tuple #[.int k b, .bool q]) := by rw [h.1, h.2]
theorem ret_one {k : IntKind} {a b : Int} (h : a = b) : Ending.returned (.int k a) = .returned (.int k b) := by rw [h]

end Go.Proofs.Ytonholadabebbaa.Sat

namespace Go.Proofs.Ytonholadabebbaa.Sat
open Go.ChangeShapes Go.WideShapes Go.ChangeAt Go.RowKit

def prodv (x : Int) : Int := if x < 18446744073709551616 then x else 0
def prodB (x : Int) : Bool := decide (x < 18446744073709551616)
theorem prodv_in {x : Int} (h : x < 18446744073709551616) : prodv x = x ∧ prodB x = true := ⟨if_pos h, decide_eq_true h⟩
theorem prodv_out {x : Int} (h : 18446744073709551616 ≤ x) : prodv x = 0 ∧ prodB x = false := ⟨if_neg (by omega), decide_eq_false (by omega)⟩
theorem close_yes {X L p : Int} (t : (X / 4294967296 != 0) = false) (e : 0 ≤ X ∧ X * 4294967296 + L % 4294967296 = p) :
    bits .or .u64 (IntKind.u64.wrap (X * 4294967296)) (L % 4294967296) = prodv p ∧ true = prodB p := by
  have hX : X < 4294967296 := by simp at t; omega
  have k := prodv_in (x := p) (by omega)
  rw [IntKind.wrap_u64, Int.emod_eq_of_lt (by omega) (by omega), or_u64 X _ e.1 hX (by omega) (by omega), e.2]
  exact ⟨k.1.symm, k.2.symm⟩
theorem close_no {X p : Int} (L : Int) (t : (X / 4294967296 != 0) = true) (e : 0 ≤ X ∧ X * 4294967296 + L % 4294967296 = p) :
    0 = prodv p ∧ false = prodB p := by
  have hX : 4294967296 ≤ X := by simp at t; omega
  have k := prodv_out (x := p) (by omega)
  exact ⟨k.1.symm, k.2.symm⟩

theorem half_a (a b : Int) (a0 : 0 ≤ a) (a1 : a ≤ 4294967295) (b0 : 0 ≤ b) (b1 : b ≤ 9223372036854775808) :
    0 ≤ IntKind.u64.wrap (IntKind.u64.wrap (IntKind.u64.wrap (b / 4294967296 * a)) + IntKind.u64.wrap (a * (b % 4294967296)) / 4294967296) ∧
    IntKind.u64.wrap (IntKind.u64.wrap (IntKind.u64.wrap (b / 4294967296 * a)) + IntKind.u64.wrap (a * (b % 4294967296)) / 4294967296) * 4294967296 + IntKind.u64.wrap (a * (b % 4294967296)) % 4294967296 = a * b := by
  have k1 := mul_bd (x := b / 4294967296) (y := a) (X := 2147483648) (Y := 4294967295) (by omega) (by omega) a0 a1
  have k2 := mul_bd (x := a) (y := b % 4294967296) (X := 4294967295) (Y := 4294967295) a0 a1 (by omega) (by omega)
  have e : a * b = b / 4294967296 * a * 4294967296 + a * (b % 4294967296) := by
    have := prod_halves a b (.inl (by omega))
    have h1 : a / 4294967296 = 0 := by omega
    have h2 : a % 4294967296 = a := by omega
    rw [h1, h2] at this; simpa using this
  simp only [IntKind.wrap_u64]
  omega
theorem half_b (a b : Int) (a0 : 0 ≤ a) (a1 : a ≤ 9223372036854775808) (b0 : 0 ≤ b) (b1 : b ≤ 4294967295) :
    0 ≤ IntKind.u64.wrap (IntKind.u64.wrap (IntKind.u64.wrap (a / 4294967296 * b)) + IntKind.u64.wrap (a % 4294967296 * b) / 4294967296) ∧
    IntKind.u64.wrap (IntKind.u64.wrap (IntKind.u64.wrap (a / 4294967296 * b)) + IntKind.u64.wrap (a % 4294967296 * b) / 4294967296) * 4294967296 + IntKind.u64.wrap (a % 4294967296 * b) % 4294967296 = a * b := by
  have k1 := mul_bd (x := a / 4294967296) (y := b) (X := 2147483648) (Y := 4294967295) (by omega) (by omega) b0 b1
  have k2 := mul_bd (x := a % 4294967296) (y := b) (X := 4294967295) (Y := 4294967295) (by omega) (by omega) b0 b1
  have e : a * b = a / 4294967296 * b * 4294967296 + a % 4294967296 * b := by
    have := prod_halves a b (.inr (by omega))
    have h1 : b / 4294967296 = 0 := by omega
    have h2 : b % 4294967296 = b := by omega
    rw [h1, h2] at this; simpa using this
  simp only [IntKind.wrap_u64]
  omega

theorem sign_cases (a : Int) : (decide (a < 0) = true ∧ a < 0) ∨ (decide (a < 0) = false ∧ ¬ a < 0) := by
  by_cases h : a < 0
  · exact .inl ⟨decide_eq_true h, h⟩
  · exact .inr ⟨decide_eq_false h, h⟩
/-! the reference's own -/
end Go.Proofs.Ytonholadabebbaa.Sat

namespace Go.Proofs.Ytonholadabebbaa
open Go.ChangeShapes Go.WideShapes Go.ChangeAt Go.RowKit
attribute [local go_sem ↓] Go.wp_at_zero Go.wp_at_succ

theorem fits_c {s : Int} (h0 : 0 ≤ s) (h1 : s ≤ 1000000000) : Sat.satv s = s ∧ Sat.fitsB s = true := by
  have h : Sat.fitsB s = true := (Sat.fits_iff _).2 ⟨by omega, by omega⟩
  exact ⟨Sat.satv_fits h, h⟩
end Go.Proofs.Ytonholadabebbaa

namespace Go.Proofs.Ytonholadabebbaa
open Go.ChangeShapes Go.WideShapes Go.ChangeAt Go.RowKit
attribute [local go_sem ↓] Go.wp_at_zero Go.wp_at_succ

end Go.Proofs.Ytonholadabebbaa

namespace Go.Proofs.Ytonholadabebbaa
open Go.ChangeShapes Go.WideShapes Go.ChangeAt Go.RowKit
attribute [local go_sem ↓] Go.wp_at_zero Go.wp_at_succ

def eSp : Elt (Int × Int) := ⟨2, fun x => [.int .i64 x.1, .int .i64 x.2], fun _ => rfl, by intro x v hv; simp at hv; rcases hv with rfl | rfl <;> rfl, by decide⟩
theorem Try.info39 : (Try.prog.info? 39).map (fun i => (i.zero, i.size, i.bytes)) = some (some (.agg #[.int .i64 0, .int .i64 0]), 2, 16) := by kernel_rfl
theorem tSp : Ty Try.prog eSp 33 39 := by
  obtain ⟨i, hi, h0, h1, h2⟩ := info_parts Try.info39
  exact ⟨Try.underlying33, i, _, hi, h0, h1, rfl, by omega⟩
theorem wrap_c {x : Int} (h0 : 0 ≤ x) (h1 : x ≤ 1000000) : IntKind.i64.wrap x = x := by rw [IntKind.wrap_i64]; omega
theorem rd_sp {w : World} {vb : Nat} {A B : Int} {t : TypeId} {fr : Nat × Nat} (h : w.heap[vb]? = some (.cells #[.int .i64 A, .int .i64 B] t fr)) : Rd eSp w (some ⟨vb, 0, none⟩) 1 [(A, B)] := rd_block h 1 rfl rfl

end Go.Proofs.Ytonholadabebbaa

namespace Go.Proofs.Ytonholadabebbaa
open Go.ChangeShapes Go.WideShapes Go.ChangeAt Go.RowKit
attribute [local go_sem ↓] Go.wp_at_zero Go.wp_at_succ

theorem info32 : (Try.prog.info? 53).map (·.size) = some 3 := by kernel_rfl
theorem cellT {w : World} {g : Nat} {A B C : Value} {t : TypeId} (h : w.heap[g]? = some (.cells #[A, B, C] t (0, 0))) : (w.cell? ⟨g, 0, none⟩ = some A ∧ w.cell? ⟨g, 1, none⟩ = some B ∧ w.cell? ⟨g, 2, none⟩ = some C) ∧ w.frozen? ⟨g, 0, none⟩ = false ∧ w.frozen? ⟨g, 1, none⟩ = false ∧ w.frozen? ⟨g, 2, none⟩ = false :=
  ⟨⟨by rw [cell_of_row _ _ _ _ _ _ h]; rfl, by rw [cell_of_row _ _ _ _ _ _ h]; rfl, by rw [cell_of_row _ _ _ _ _ _ h]; rfl⟩, frozen_of_row _ _ _ _ _ h, frozen_of_row _ _ _ _ _ h, frozen_of_row _ _ _ _ _ h⟩
theorem st3 {α : Type} {E : Elt α} {w w0 : World} {g n base : Nat} {A B C : Value} {t e : TypeId} {p : Option Addr} {c : Nat} {l : List α} (h : w.heap[g]? = some (.cells #[A, B, C] t (0, 0))) (ho : Own E w base e p c l) (hg : g < base) (hB : Below n w0 w) (hn : n ≤ g) (x y z : Value) :
    (((w.setCell ⟨g, 0, none⟩ x).setCell ⟨g, 1, none⟩ y).setCell ⟨g, 2, none⟩ z).heap[g]? = some (.cells #[x, y, z] t (0, 0)) ∧ Own E (((w.setCell ⟨g, 0, none⟩ x).setCell ⟨g, 1, none⟩ y).setCell ⟨g, 2, none⟩ z) base e p c l ∧ Below n w0 (((w.setCell ⟨g, 0, none⟩ x).setCell ⟨g, 1, none⟩ y).setCell ⟨g, 2, none⟩ z) := by
  rw [setCell_eq_setRow w g 0 _ _ _ _ h]
  have h1 := setRow_heap w g _ (#[A, B, C].setIfInBounds 0 x) t _ h
  rw [setCell_eq_setRow _ g 1 _ _ _ _ h1]
  have h2 := setRow_heap _ g _ ((#[A, B, C].setIfInBounds 0 x).setIfInBounds 1 y) t _ h1
  rw [setCell_eq_setRow _ g 2 _ _ _ _ h2]
  have h3 := setRow_heap _ g _ (((#[A, B, C].setIfInBounds 0 x).setIfInBounds 1 y).setIfInBounds 2 z) t _ h2
  exact ⟨by simpa using h3, own_row (own_row (own_row ho hg _) hg _) hg _, below_setRow (below_setRow (below_setRow hB hn _) hn _) hn _⟩
end Go.Proofs.Ytonholadabebbaa
