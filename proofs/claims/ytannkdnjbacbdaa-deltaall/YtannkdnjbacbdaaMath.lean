/-
  Plain facts on integers for the proofs over package sat: numbers that stop at the ends of int64 ('satv', 'fitsB'), halves put together by or, rounding up. Nothing of the program.
-/
import Derived.WalkKit
import Derived.Laws.Bits64b
namespace Go.Proofs.Ytannkdnjbacbdaa
open Go.RowKit

/-- the number itself, or the end that it goes beyond -/
def satv (x : Int) : Int := if x < -9223372036854775808 then -9223372036854775808 else if 9223372036854775807 < x then 9223372036854775807 else x
/-- is it an int64? -/
def fitsB (x : Int) : Bool := decide (-9223372036854775808 ≤ x ∧ x ≤ 9223372036854775807)

theorem fits_iff (x : Int) : fitsB x = true ↔ (-9223372036854775808 ≤ x ∧ x ≤ 9223372036854775807) := by simp [fitsB]
theorem satv_fits {x : Int} (h : fitsB x = true) : satv x = x := by
  rw [fits_iff] at h; unfold satv; rw [if_neg (by omega), if_neg (by omega)]
theorem satv_low {x : Int} (h : x < -9223372036854775808) : satv x = -9223372036854775808 := by unfold satv; rw [if_pos h]
theorem satv_top {x : Int} (h : 9223372036854775807 < x) : satv x = 9223372036854775807 := by
  unfold satv; rw [if_neg (by omega), if_pos h]
theorem fits_in {x : Int} (h : -9223372036854775808 ≤ x ∧ x ≤ 9223372036854775807) : fitsB x = true := (fits_iff x).2 h
theorem fits_out {x : Int} (h : x < -9223372036854775808 ∨ 9223372036854775807 < x) : fitsB x = false := by
  cases e : fitsB x with
  | false => rfl
  | true => rw [fits_iff] at e; omega

theorem or_i64 (h l : Int) (h0 : -2147483648 ≤ h) (h1 : h ≤ 2147483647) (l0 : 0 ≤ l) (l1 : l < 4294967296) :
    bits .or .i64 (h * 4294967296) l = h * 4294967296 + l := by
  obtain ⟨L, rfl⟩ := Int.eq_ofNat_of_zero_le l0
  have e1 : (BitVec.ofInt 64 (h * 4294967296)).toNat = 2 ^ 32 * (h % 4294967296).toNat := by
    rw [BitVec.toNat_ofInt]
    have : h * 4294967296 % ((2 ^ 64 : Nat) : Int) = (h % 4294967296) * 4294967296 := by omega
    rw [this]; omega
  have e2 : (BitVec.ofInt 64 (L : Int)).toNat = L := by
    rw [BitVec.ofInt_natCast, BitVec.toNat_ofNat]; exact Nat.mod_eq_of_lt (by omega)
  show IntKind.i64.wrap ((BitVec.ofInt 64 (h * 4294967296) ||| BitVec.ofInt 64 (L : Int)).toNat : Int) = _
  rw [BitVec.toNat_or, e1, e2, ← Nat.two_pow_add_eq_or_of_lt (by omega)]
  simp only [IntKind.wrap, IntKind.bits, IntKind.signed]
  simp
  omega

theorem or_u64 (h l : Int) (h0 : 0 ≤ h) (h1 : h < 4294967296) (l0 : 0 ≤ l) (l1 : l < 4294967296) :
    bits .or .u64 (h * 4294967296) l = h * 4294967296 + l := by
  obtain ⟨L, rfl⟩ := Int.eq_ofNat_of_zero_le l0
  obtain ⟨K, rfl⟩ := Int.eq_ofNat_of_zero_le h0
  have e := bits_or_u64_nat (2 ^ 32 * K) L (by omega) (by omega)
  have e2 : ((2 ^ 32 * K : Nat) : Int) = (K : Int) * 4294967296 := by omega
  rw [e2] at e
  rw [e, ← Nat.two_pow_add_eq_or_of_lt (by omega)]
  omega

theorem w64 (n : Int) (h : -9223372036854775808 ≤ n ∧ n ≤ 9223372036854775807) : wrap64 n = n := by unfold wrap64; omega

/-! join -/
theorem join_in {H : Int} (e : (H == wrap64 (wrap32 H)) = true) : -2147483648 ≤ H ∧ H ≤ 2147483647 := by
  simp [wrap64, wrap32] at e; omega
theorem join_out {H : Int} (e : (H == wrap64 (wrap32 H)) = false) : H < -2147483648 ∨ 2147483647 < H := by
  simp [wrap64, wrap32] at e; omega
theorem join_yes {h l : Int} (e : (h + l / 4294967296 == wrap64 (wrap32 (h + l / 4294967296))) = true) :
    bits .or .i64 (wrap64 ((h + l / 4294967296) * 4294967296)) (l % 4294967296) = satv (h * 4294967296 + l) ∧ true = fitsB (h * 4294967296 + l) := by
  have k := join_in e
  have f : fitsB (h * 4294967296 + l) = true := fits_in (by omega)
  refine ⟨?_, f.symm⟩
  rw [w64 _ (by omega), or_i64 _ _ k.1 k.2 (by omega) (by omega), satv_fits f]; omega
theorem join_low {h l : Int} (e : (h + l / 4294967296 == wrap64 (wrap32 (h + l / 4294967296))) = false) (n : h + l / 4294967296 < 0) :
    -9223372036854775808 = satv (h * 4294967296 + l) ∧ false = fitsB (h * 4294967296 + l) := by
  have k := join_out e
  have f : h * 4294967296 + l < -9223372036854775808 := by omega
  exact ⟨(satv_low f).symm, (fits_out (.inl f)).symm⟩
theorem join_top {h l : Int} (e : (h + l / 4294967296 == wrap64 (wrap32 (h + l / 4294967296))) = false) (n : 0 ≤ h + l / 4294967296) :
    9223372036854775807 = satv (h * 4294967296 + l) ∧ false = fitsB (h * 4294967296 + l) := by
  have k := join_out e
  have f : 9223372036854775807 < h * 4294967296 + l := by omega
  exact ⟨(satv_top f).symm, (fits_out (.inr f)).symm⟩

end Go.Proofs.Ytannkdnjbacbdaa
