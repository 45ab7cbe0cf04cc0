/-
  What the small functions hand back, each by its own Go text: the row of one bit, a row with it and without it, whether it is set, the row of the lowest bits; and the document's answers for the same.
-/
import Derived.Test.YtnhbodloiimagaaChecked
import Derived.Test.YtnhbodloiimagaaMath
import Derived.WalkKit
import Derived.ProofKit
import Derived.Outline
import Derived.WalkLawsBesides
import Derived.Laws.ShiftsVarLaws
namespace Go.Proofs.Ytnhbodloiimagaa
open Go.ChangeShapes Go.WideShapes Go.ChangeAt Go.RowKit

theorem ret_u {a b : Int} (h : a = b) : Ending.returned (.int .u64 a) = .returned (.int .u64 b) := by rw [h]
theorem ret_i {a b : Int} (h : a = b) : Ending.returned (.int .i64 a) = .returned (.int .i64 b) := by rw [h]
theorem ret_b {a b : Bool} (h : a = b) : Ending.returned (.bool a) = .returned (.bool b) := by rw [h]

theorem bit_val (i : Int) (h0 : -9223372036854775808 ≤ i) (h1 : i ≤ 9223372036854775807) :
    IntKind.u64.wrap (2 ^ min (IntKind.u64.wrap i).toNat 64) = (bitv i : Int) := by
  rw [IntKind.wrap_u64, IntKind.wrap_u64]
  have h := shl_pow_var 64 0 (Nat.zero_le _) (i % 18446744073709551616) (by omega)
  simp only [Int.pow_zero, Int.one_mul, Nat.sub_zero] at h
  by_cases hi : 0 ≤ i ∧ i ≤ 63
  · rw [if_neg (by omega)] at h
    have e : i % 18446744073709551616 = i := by omega
    rw [e] at h ⊢
    rw [bitv_in hi.1 hi.2]
    exact h.trans (by simp)
  · rw [if_pos (by omega)] at h
    rw [bitv_out (by omega)]
    exact h
theorem bit_any (i : Int) (w : World) (h0 : -9223372036854775808 ≤ i) (h1 : i ≤ 9223372036854775807) :
    Calls Try.prog 19 #[.int .i64 i] w fun e w' => e = .returned (.int .u64 (bitv i : Int)) ∧ w' = w := by
  go_enter Try.func19, Try.ntmps19
  go_wp2
  go_ret
  exact ⟨ret_u (bit_val i h0 h1), rfl⟩

theorem set_any (r : Nat) (i : Int) (w : World) (hr : r < 18446744073709551616) (h0 : -9223372036854775808 ≤ i) (h1 : i ≤ 9223372036854775807) :
    Calls Try.prog 10 #[.int .u64 (r : Int), .int .i64 i] w fun e w' => e = .returned (.int .u64 (setv r i : Int)) ∧ w' = w := by
  go_enter Try.func10, Try.ntmps10
  go_wp2_with (go_at_call 19; refine (bit_any _ _ (by omega) (by omega)).mono ?_; rintro e w' ⟨rfl, rfl⟩)
  go_ret
  exact ⟨ret_u (u64_or_nat _ _ hr (bitv_lt i)), rfl⟩
theorem clear_any (r : Nat) (i : Int) (w : World) (hr : r < 18446744073709551616) (h0 : -9223372036854775808 ≤ i) (h1 : i ≤ 9223372036854775807) :
    Calls Try.prog 12 #[.int .u64 (r : Int), .int .i64 i] w fun e w' => e = .returned (.int .u64 (clrv r i : Int)) ∧ w' = w := by
  go_enter Try.func12, Try.ntmps12
  go_wp2_with (go_at_call 19; refine (bit_any _ _ (by omega) (by omega)).mono ?_; rintro e w' ⟨rfl, rfl⟩)
  go_ret
  exact ⟨ret_u (u64_andNot_nat _ _ hr (bitv_lt i)), rfl⟩
theorem is_val (r : Nat) (i : Int) (hr : r < 18446744073709551616) : (bits .and .u64 (r : Int) (bitv i : Int) != 0) = isv r i := by
  rw [u64_and_nat _ _ hr (bitv_lt i)]; unfold isv
  rw [Bool.eq_iff_iff]; simp
theorem is_any (r : Nat) (i : Int) (w : World) (hr : r < 18446744073709551616) (h0 : -9223372036854775808 ≤ i) (h1 : i ≤ 9223372036854775807) :
    Calls Try.prog 14 #[.int .u64 (r : Int), .int .i64 i] w fun e w' => e = .returned (.bool (isv r i)) ∧ w' = w := by
  go_enter Try.func14, Try.ntmps14
  go_wp2_with (go_at_call 19; refine (bit_any _ _ (by omega) (by omega)).mono ?_; rintro e w' ⟨rfl, rfl⟩)
  go_ret
  exact ⟨ret_b (is_val r i hr), rfl⟩

/-- the row of the n lowest bits -/
def lowv (n : Int) : Nat := 2 ^ n.toNat - 1
theorem low_any (n : Int) (w : World) (h0 : 0 ≤ n) (h1 : n ≤ 63) :
    Calls Try.prog 18 #[.int .i64 n] w fun e w' => e = .returned (.int .u64 (lowv n : Int)) ∧ w' = w := by
  have hp : 1 ≤ bitv n := by rw [bitv_in h0 h1]; exact Nat.two_pow_pos _
  have hl := bitv_lt n
  go_enter Try.func18, Try.ntmps18
  go_wp2_with (go_at_call 19; refine (bit_any _ _ (by omega) (by omega)).mono ?_; rintro e w' ⟨rfl, rfl⟩)
  go_ret
  refine ⟨ret_u ?_, rfl⟩
  have : lowv n = bitv n - 1 := by unfold lowv; rw [bitv_in h0 h1]
  rw [this]; omega

/-! the document's -/
theorem rbit_any (i : Int) (w : World) (h0 : 0 ≤ i) (h1 : i ≤ 63) :
    Calls Try.prog 20 #[.int .i64 i] w fun e w' => e = .returned (.int .u64 ((2 ^ i.toNat : Nat) : Int)) ∧ w' = w := by
  go_enter Try.func20, Try.ntmps20
  go_wp2
  go_loop [0, 3] (fun a v => ∃ k : Nat, k ≤ i.toNat ∧ a = .int .i64 (i - k) ∧ v = .int .u64 ((2 ^ k : Nat) : Int)) (fun a _ => (intOf a).toNat)
  case atStart => exact ⟨0, by omega, by go_num, rfl⟩
  case round =>
    obtain ⟨k, hk, rfl, rfl⟩ := hrel
    by_cases hlt : k < i.toNat
    · have hp : 2 ^ k < 2 ^ 63 := Nat.pow_lt_pow_of_lt (by decide) (by omega)
      have hs : Hid (2 ^ (k + 1) = 2 * 2 ^ k) := Nat.pow_succ'
      generalize 2 ^ k = p at *
      go_wp2
      go_round
      case rel => exact ⟨k + 1, by omega, by go_num, by rw [hs.out]; go_num⟩
      case measure => simp [intOf]; omega
    · have hk' : Hid (k = i.toNat) := (by omega : k = i.toNat)
      obtain ⟨p, hp⟩ : ∃ p, p = 2 ^ k := ⟨_, rfl⟩
      have HP : Hid (p = 2 ^ k) := hp
      rw [← hp]
      clear hp
      go_wp2
      go_ret
      exact ⟨ret_u (by rw [HP.out, hk'.out]; simp), rfl⟩
theorem ris_val (r p : Nat) (hr : r < 18446744073709551616) : ((IntKind.u64.wrap ((r : Int) / (p : Int))).tmod 2 == 1) = decide (r / p % 2 = 1) := by
  have e : (r : Int) / (p : Int) = ((r / p : Nat) : Int) := by simp
  have hl : r / p ≤ r := Nat.div_le_self _ _
  rw [e, IntKind.wrap_u64]
  generalize r / p = q at *
  have e2 : (q : Int) % 18446744073709551616 = q := by omega
  rw [e2, Int.tmod_eq_emod_of_nonneg (by omega), Bool.eq_iff_iff]; simp; omega
theorem ris_any (r : Nat) (i : Int) (w : World) (hr : r < 18446744073709551616) :
    Calls Try.prog 15 #[.int .u64 (r : Int), .int .i64 i] w fun e w' => e = .returned (.bool (isv r i)) ∧ w' = w := by
  by_cases h0 : 0 ≤ i
  · by_cases h1 : i ≤ 63
    · have hv := isv_div r h0 h1
      have hp := Nat.two_pow_pos i.toNat
      have HV : Hid (isv r i = decide (r / 2 ^ i.toNat % 2 = 1)) := hv
      have hl : 2 ^ i.toNat < 18446744073709551616 := Nat.pow_lt_pow_of_lt (by decide : 1 < 2) (by omega : i.toNat < 64)
      have hR := rbit_any i
      clear hv
      generalize 2 ^ i.toNat = p at *
      go_enter Try.func15, Try.ntmps15
      go_wp2_with (go_at_call 20; refine (hR _ (by omega) (by omega)).mono ?_; rintro e w' ⟨rfl, rfl⟩)
      go_ret
      exact ⟨ret_b ((ris_val r p hr).trans HV.out.symm), rfl⟩
    · have hv := isv_out r (i := i) (by omega)
      rw [hv]
      go_enter Try.func15, Try.ntmps15
      go_wp2
      go_ret
      exact ⟨rfl, rfl⟩
  · have hv := isv_out r (i := i) (by omega)
    rw [hv]
    go_enter Try.func15, Try.ntmps15
    go_wp2
    go_ret
    exact ⟨rfl, rfl⟩
theorem rset_any (r : Nat) (i : Int) (w : World) (hr : r < 18446744073709551616) :
    Calls Try.prog 11 #[.int .u64 (r : Int), .int .i64 i] w fun e w' => e = .returned (.int .u64 (setv r i : Int)) ∧ w' = w := by
  by_cases h0 : i < 0 ∨ 63 < i
  · have hs := setv_out r h0
    rw [hs]
    by_cases h1 : i < 0
    · go_enter Try.func11, Try.ntmps11
      go_wp2
      go_ret
      exact ⟨rfl, rfl⟩
    · have h2 : 63 < i := by omega
      go_enter Try.func11, Try.ntmps11
      go_wp2
      go_ret
      exact ⟨rfl, rfl⟩
  · have h1 : 0 ≤ i := by omega
    have h2 : i ≤ 63 := by omega
    clear h0
    cases hb : isv r i with
    | true =>
      have HS : Hid (setv r i = r) := setv_same hb
      go_enter Try.func11, Try.ntmps11
      go_wp2_with (go_at_call 15; refine (ris_any _ _ _ hr).mono ?_; rintro e w' ⟨rfl, rfl⟩)
      go_ret
      exact ⟨ret_u (by rw [HS.out]), rfl⟩
    | false =>
      have hs := setv_add h1 h2 hb
      have HS : Hid (setv r i = r + 2 ^ i.toNat) := hs
      have HL : r + 2 ^ i.toNat < 18446744073709551616 := hs ▸ setv_lt hr i
      have hR := rbit_any i
      clear hs
      generalize 2 ^ i.toNat = p at *
      go_enter Try.func11, Try.ntmps11
      go_wp2_with (first | (go_at_call 15; refine (ris_any _ _ _ hr).mono ?_; rintro e w' ⟨rfl, rfl⟩) | (go_at_call 20; refine (hR _ (by omega) (by omega)).mono ?_; rintro e w' ⟨rfl, rfl⟩))
      go_ret
      exact ⟨ret_u (by rw [HS.out]; omega), rfl⟩
theorem rclear_any (r : Nat) (i : Int) (w : World) (hr : r < 18446744073709551616) :
    Calls Try.prog 13 #[.int .u64 (r : Int), .int .i64 i] w fun e w' => e = .returned (.int .u64 (clrv r i : Int)) ∧ w' = w := by
  cases hb : isv r i with
  | true =>
    have hi : 0 ≤ i ∧ i ≤ 63 := by
      rw [isv_eq] at hb; simp at hb; exact hb.1
    obtain ⟨h1, h2⟩ := hi
    have hs := clrv_sub hr hb
    have HS : Hid (clrv r i + 2 ^ i.toNat = r) := hs
    have HL : 2 ^ i.toNat ≤ r := by omega
    have hR := rbit_any i
    clear hs
    generalize 2 ^ i.toNat = p at *
    go_enter Try.func13, Try.ntmps13
    go_wp2_with (first | (go_at_call 15; refine (ris_any _ _ _ hr).mono ?_; rintro e w' ⟨rfl, rfl⟩) | (go_at_call 20; refine (hR _ (by omega) (by omega)).mono ?_; rintro e w' ⟨rfl, rfl⟩))
    go_ret
    exact ⟨ret_u (by have := HS.out; omega), rfl⟩
  | false =>
    have HS : Hid (clrv r i = r) := clrv_same hr hb
    go_enter Try.func13, Try.ntmps13
    go_wp2_with (go_at_call 15; refine (ris_any _ _ _ hr).mono ?_; rintro e w' ⟨rfl, rfl⟩)
    go_ret
    exact ⟨ret_u (by rw [HS.out]), rfl⟩
end Go.Proofs.Ytnhbodloiimagaa
