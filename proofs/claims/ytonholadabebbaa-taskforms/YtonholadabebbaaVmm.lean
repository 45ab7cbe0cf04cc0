/-
  Numbers that are narrowed and shifted.
-/
import Derived.RowKit
namespace Go.Proofs.Ytonholadabebbaa
open Go.RowKit
/-- the lowest n bits as a number with a sign -/
def nrw (v n : Int) : Int := if n < 1 ∨ 63 < n then v else (v + 2 ^ (n.toNat - 1)) % 2 ^ n.toNat - 2 ^ (n.toNat - 1)
/-- by n places to the left, or to the right -/
def shf (v n : Int) : Int := if n < -63 ∨ 63 < n ∨ n = 0 then v else if 0 ≤ n then wrap64 (v * 2 ^ n.toNat) else v / 2 ^ (-n).toNat
theorem two_pos (k : Nat) : (0 : Int) < 2 ^ k := Int.pow_pos (by decide)
theorem two_split {n a : Nat} (h : n + a = 64) : (2 : Int) ^ n * 2 ^ a = 18446744073709551616 := by
  rw [← Int.pow_add, h]; rfl
theorem two_half {n : Nat} (h : 1 ≤ n) : (2 : Int) ^ n = 2 * 2 ^ (n - 1) := by
  obtain ⟨m, rfl⟩ : ∃ m, n = m + 1 := ⟨n - 1, by omega⟩
  simp only [Nat.add_sub_cancel]
  rw [Int.pow_succ]; omega
theorem two_half_split {n a : Nat} (h : n + a = 64) (h1 : 1 ≤ n) : (2 : Int) ^ (n - 1) * 2 ^ a = 9223372036854775808 := by
  rw [← Int.pow_add, show n - 1 + a = 63 by omega]; rfl
theorem wrap64_mul {n a : Nat} (h : n + a = 64) (h1 : 1 ≤ n) (v : Int) : wrap64 (v * 2 ^ a) = ((v + 2 ^ (n - 1)) % 2 ^ n - 2 ^ (n - 1)) * 2 ^ a := by
  unfold wrap64
  rw [← two_split h, ← two_half_split h h1, ← Int.add_mul, Int.mul_comm _ ((2 : Int) ^ a), Int.mul_comm ((2 : Int) ^ n), Int.mul_emod_mul_of_pos _ _ (two_pos a), Int.sub_mul, Int.mul_comm ((2 : Int) ^ a) (_ % _)]
theorem wrap64_mod (x : Int) : wrap64 (x % 18446744073709551616) = wrap64 x := by unfold wrap64; omega
theorem wrap64_bd (x : Int) : -9223372036854775808 ≤ wrap64 x ∧ wrap64 x ≤ 9223372036854775807 := by unfold wrap64; omega
theorem wrap64_id {x : Int} (h0 : -9223372036854775808 ≤ x) (h1 : x ≤ 9223372036854775807) : wrap64 x = x := by unfold wrap64; omega
theorem wrap64_dbl (x : Int) : wrap64 (wrap64 x * 2) = wrap64 (x * 2) := by unfold wrap64; omega
theorem wrap64_mulmod (x c : Int) : wrap64 (x % 18446744073709551616 * c) = wrap64 (x * c) := by
  rw [← wrap64_mod, ← wrap64_mod (x * c)]
  congr 1
  rw [Int.mul_emod, Int.emod_emod_of_dvd _ (Int.dvd_refl _), ← Int.mul_emod]
/-- narrowed by shifts -/
theorem nrw_shift {v : Int} {n : Nat} (h1 : 1 ≤ n) (h2 : n ≤ 63) : wrap64 (v * 2 ^ (64 - n)) / 2 ^ (64 - n) = nrw v n := by
  rw [wrap64_mul (n := n) (by omega) h1, Int.mul_ediv_cancel _ (by have := two_pos (64 - n); omega)]
  unfold nrw
  rw [if_neg (by omega)]
  simp
/-- narrowed by what is left of a division -/
theorem nrw_mod {v : Int} {n : Nat} (h1 : 1 ≤ n) (h2 : n ≤ 63) : nrw v n = if 2 ^ (n - 1) ≤ v % 2 ^ n then v % 2 ^ n - 2 ^ n else v % 2 ^ n := by
  unfold nrw
  rw [if_neg (by omega)]
  simp only [Int.toNat_natCast]
  have h := two_half h1
  have hp := two_pos (n - 1)
  generalize (2 : Int) ^ (n - 1) = H at *
  rw [h]
  have d := Int.mul_ediv_add_emod v (2 * H)
  have m0 := Int.emod_nonneg v (show 2 * H ≠ 0 by omega)
  have m1 := Int.emod_lt_of_pos v (show 0 < 2 * H by omega)
  generalize v % (2 * H) = r at *
  generalize v / (2 * H) = q at *
  subst d
  split
  · rw [show 2 * H * q + r + H = (r - H) + 2 * H * (q + 1) by rw [Int.mul_add]; omega, Int.add_mul_emod_self_left, Int.emod_eq_of_lt (by omega) (by omega)]
    omega
  · rw [show 2 * H * q + r + H = (r + H) + 2 * H * q by omega, Int.add_mul_emod_self_left, Int.emod_eq_of_lt (by omega) (by omega)]
    omega
theorem nrw_bd {v : Int} {n : Nat} (h1 : 1 ≤ n) (h2 : n ≤ 63) : -2 ^ (n - 1) ≤ nrw v n ∧ nrw v n < 2 ^ (n - 1) := by
  unfold nrw
  rw [if_neg (by omega)]
  simp only [Int.toNat_natCast]
  have h := two_half h1
  have hp := two_pos (n - 1)
  generalize (2 : Int) ^ (n - 1) = H at *
  rw [h]
  have m0 := Int.emod_nonneg (v + H) (show 2 * H ≠ 0 by omega)
  have m1 := Int.emod_lt_of_pos (v + H) (show 0 < 2 * H by omega)
  omega
theorem nrw_id {v : Int} {n : Nat} (h1 : 1 ≤ n) (h2 : n ≤ 63) (h3 : -2 ^ (n - 1) ≤ v) (h4 : v < 2 ^ (n - 1)) : nrw v n = v := by
  unfold nrw
  rw [if_neg (by omega)]
  simp only [Int.toNat_natCast]
  have h := two_half h1
  generalize (2 : Int) ^ (n - 1) = H at *
  rw [h, Int.emod_eq_of_lt (by omega) (by omega)]
  omega
theorem nrw_64 (v : Int) : nrw v 64 = v := by unfold nrw; simp
theorem nrw_dvd {v : Int} {n : Nat} (h1 : 1 ≤ n) (h2 : n ≤ 63) : (v - nrw v n) % 2 ^ n = 0 := by
  unfold nrw
  rw [if_neg (by omega)]
  simp only [Int.toNat_natCast]
  have d := Int.mul_ediv_add_emod (v + 2 ^ (n - 1)) (2 ^ n)
  rw [show v - ((v + 2 ^ (n - 1)) % 2 ^ n - 2 ^ (n - 1)) = 2 ^ n * ((v + 2 ^ (n - 1)) / 2 ^ n) by omega]
  exact Int.mul_emod_right _ _
theorem two_le_int {k m : Nat} (h : k ≤ m) : (2 : Int) ^ k ≤ 2 ^ m := by
  have := Nat.pow_le_pow_right (n := 2) (by decide) h
  exact_mod_cast this
theorem nrw_in {v : Int} (hv0 : -9223372036854775808 ≤ v) (hv1 : v ≤ 9223372036854775807) (n : Int) : -9223372036854775808 ≤ nrw v n ∧ nrw v n ≤ 9223372036854775807 := by
  by_cases h : n < 1 ∨ 63 < n
  · unfold nrw; rw [if_pos h]; omega
  · obtain ⟨k, rfl⟩ : ∃ k : Nat, n = k := ⟨n.toNat, by omega⟩
    have := nrw_bd (v := v) (n := k) (by omega) (by omega)
    have h62 : (2 : Int) ^ (k - 1) ≤ 4611686018427387904 := two_le_int (m := 62) (by omega)
    omega
theorem mod_mod_two {x : Int} {n : Nat} (h : n ≤ 64) : x % 18446744073709551616 % 2 ^ n = x % 2 ^ n :=
  Int.emod_emod_of_dvd _ ⟨2 ^ (64 - n), (two_split (n := n) (a := 64 - n) (by omega)).symm⟩
/-- to the left and back -/
theorem shf_back {v : Int} {k : Nat} (h1 : 1 ≤ k) (h2 : k ≤ 63) : shf (shf (nrw v ((64 - k : Nat) : Int)) k) (-(k : Int)) = nrw v ((64 - k : Nat) : Int) := by
  have hb := nrw_bd (v := v) (n := 64 - k) (by omega) (by omega)
  have hs := two_half_split (n := 64 - k) (a := k) (by omega) (by omega)
  have hp := two_pos k
  generalize nrw v ((64 - k : Nat) : Int) = s at *
  have e1 : shf s k = s * 2 ^ k := by
    unfold shf
    rw [if_neg (by omega), if_pos (by omega)]
    simp only [Int.toNat_natCast]
    have a1 := Int.mul_le_mul_of_nonneg_right hb.1 (Int.le_of_lt hp)
    have a2 := Int.mul_lt_mul_of_pos_right hb.2 hp
    rw [Int.neg_mul, hs] at a1
    rw [hs] at a2
    exact wrap64_id (by omega) (by omega)
  rw [e1]
  unfold shf
  rw [if_neg (by omega), if_neg (by omega)]
  simp only [Int.neg_neg, Int.toNat_natCast]
  exact Int.mul_ediv_cancel _ (by omega)
theorem shf_0 (v : Int) : shf v 0 = v := by unfold shf; simp
/-- to the right, and back -/
theorem shf_low {v : Int} (hv0 : -9223372036854775808 ≤ v) (hv1 : v ≤ 9223372036854775807) {k : Nat} (h2 : k ≤ 63) : shf (shf v (-(k : Int))) k ≤ v ∧ v - shf (shf v (-(k : Int))) k < 2 ^ k := by
  by_cases h0 : k = 0
  · subst h0
    simp only [Int.natCast_zero, Int.neg_zero]
    rw [shf_0, shf_0]
    simp
  have hp := two_pos k
  have hd := Int.mul_ediv_add_emod v (2 ^ k)
  have m0 := Int.emod_nonneg v (show (2 : Int) ^ k ≠ 0 by omega)
  have m1 := Int.emod_lt_of_pos v hp
  have e1 : shf v (-(k : Int)) = v / 2 ^ k := by
    unfold shf
    rw [if_neg (by omega), if_neg (by omega)]
    simp
  have hs := two_half_split (n := 64 - k) (a := k) (by omega) (by omega)
  have e2 : shf (v / 2 ^ k) k = v / 2 ^ k * 2 ^ k := by
    unfold shf
    rw [if_neg (by omega), if_pos (by omega)]
    simp only [Int.toNat_natCast]
    have hq : -2 ^ (64 - k - 1) ≤ v / 2 ^ k := by
      refine (Int.le_ediv_iff_mul_le hp).2 ?_
      rw [Int.neg_mul, hs]
      omega
    have a1 := Int.mul_le_mul_of_nonneg_right hq (Int.le_of_lt hp)
    rw [Int.neg_mul, hs] at a1
    rw [Int.mul_comm] at hd
    exact wrap64_id (by omega) (by omega)
  rw [e1, e2]
  rw [Int.mul_comm] at hd
  omega
theorem shf_far (v : Int) {n : Int} (h : n < -63 ∨ 63 < n) : shf v n = v := by unfold shf; rw [if_pos (by omega)]
theorem shf_l {v : Int} {n : Nat} (h1 : 1 ≤ n) (h2 : n ≤ 63) : shf v n = wrap64 (v * 2 ^ n) := by unfold shf; rw [if_neg (by omega), if_pos (by omega), Int.toNat_natCast]
theorem shf_r {v : Int} {n : Nat} (h1 : 1 ≤ n) (h2 : n ≤ 63) : shf v (-(n : Int)) = v / 2 ^ n := by unfold shf; rw [if_neg (by omega), if_neg (by omega), Int.neg_neg, Int.toNat_natCast]
theorem shf_in {v : Int} (hv0 : -9223372036854775808 ≤ v) (hv1 : v ≤ 9223372036854775807) (n : Int) : -9223372036854775808 ≤ shf v n ∧ shf v n ≤ 9223372036854775807 := by
  unfold shf
  split
  · omega
  split
  · exact wrap64_bd _
  · have hp := two_pos (-n).toNat
    have h1 : (1 : Int) ≤ 2 ^ (-n).toNat := by omega
    constructor
    · refine (Int.le_ediv_iff_mul_le hp).2 ?_
      have := Int.mul_le_mul_of_nonpos_left (a := (-9223372036854775808)) (by decide) h1
      omega
    · by_cases h : 0 ≤ v
      · exact Int.le_trans (Int.ediv_le_self _ h) hv1
      · have : v / 2 ^ (-n).toNat < 0 := Int.ediv_neg_of_neg_of_pos (by omega) hp
        omega
end Go.Proofs.Ytonholadabebbaa
