/-
  Plain facts on rows of one bit, on the full row, and on a row whose lowest bits are taken away one by one. Nothing of the program.
-/
import Derived.Test.YtnhbodloiimagaaMath
namespace Go.Proofs.Ytnhbodloiimagaa

theorem one_set (k : Nat) (h : k ≤ 63) : setv 0 (k : Int) = 2 ^ k := by
  unfold setv; rw [bitv_in (by omega) (by omega), Nat.zero_or]; simp
theorem clr_zero (i : Int) : clrv 0 i = 0 := by unfold clrv; rw [Nat.zero_and]
theorem one_clr (k : Nat) : clrv (setv 0 (k : Int)) (k : Int) = 0 := by
  rw [clr_set (by decide), clr_zero]
theorem one_cnt (k : Nat) (h : k ≤ 63) : cntv (setv 0 (k : Int)) = 1 := by
  rw [cnt_set_clr (by decide) (by omega) (by omega), clr_zero]; decide +kernel
theorem one_first (k : Nat) (h : k ≤ 63) : firstv (setv 0 (k : Int)) = k := by
  refine firstv_eq ⟨?_, fun j hj => ?_⟩
  · rw [test_setv]; simp; omega
  · rw [test_setv]; simp; omega
theorem one_ne (k : Nat) (h : k ≤ 63) : setv 0 (k : Int) ≠ 0 := by
  rw [one_set k h]; have := Nat.two_pow_pos k; omega
theorem full_first : firstv 18446744073709551615 = 0 := firstv_eq ⟨by decide, fun j hj => absurd hj (by omega)⟩
theorem full_cnt : cntv 18446744073709551615 = 64 := by decide +kernel

/-- x: the bits of r from L on -/
def Tail (r L x : Nat) : Prop := ∀ j, x.testBit j = (decide (L ≤ j) && r.testBit j)
theorem tail_start (r : Nat) : Tail r 0 r := fun j => by simp
theorem first_some {r : Nat} (hr : r < 18446744073709551616) (hn : r ≠ 0) : IsFirst r (firstv r) := by
  have key : ∀ k : Nat, (∀ j, j < k → r.testBit j = false) ∨ ∃ i, IsFirst r i := by
    intro k
    induction k with
    | zero => exact .inl fun j hj => absurd hj (by omega)
    | succ k ih =>
      rcases ih with h | h
      · cases e : r.testBit k with
        | true => exact .inr ⟨k, e, h⟩
        | false =>
          refine .inl fun j hj => ?_
          by_cases g : j = k
          · rw [g]; exact e
          · exact h j (by omega)
      · exact .inr h
  rcases key 64 with h | ⟨i, h⟩
  · exact absurd (eq_zero_of hr h) hn
  · rw [firstv_eq h]; exact h
theorem tail_step {r L x : Nat} (hx : x < 18446744073709551616) (t : Tail r L x) (hn : x ≠ 0) :
    L ≤ firstv x ∧ firstv x ≤ 63 ∧ isv r (firstv x : Int) = true ∧ (∀ k : Nat, L ≤ k → k < firstv x → isv r (k : Int) = false) ∧
    setv (clrv x (firstv x : Int)) (firstv x : Int) = x ∧ clrv x (firstv x : Int) < x ∧ Tail r (firstv x + 1) (clrv x (firstv x : Int)) ∧ cntTo r (firstv x + 1) = cntTo r L + 1 := by
  have hf := first_some hx hn
  have h63 := first_lt hx hf
  generalize firstv x = i at *
  have h1 := t i
  rw [hf.1] at h1
  simp at h1
  have hlow : ∀ k : Nat, L ≤ k → k < i → r.testBit k = false := by
    intro k hk hki
    have h2 := t k
    rw [hf.2 k hki] at h2
    simpa [hk] using h2.symm
  have hi : isv x (i : Int) = true := by rw [isv_nat x i h63]; exact hf.1
  have hs := clrv_sub hx hi
  have hp := Nat.two_pow_pos (i : Int).toNat
  refine ⟨h1.1, h63, by rw [isv_nat r i h63]; exact h1.2, fun k hk hki => by rw [isv_nat r k (by omega)]; exact hlow k hk hki, by rw [set_clr hx, setv_same hi], by omega, ?_, ?_⟩
  · intro j
    rw [test_clrv x _ j hx, t j]
    by_cases e : i = j
    · subst e; simp; omega
    · by_cases g : L ≤ j
      · by_cases g2 : i + 1 ≤ j
        · have : ¬ ((i : Int) = (j : Int)) := by omega
          simp [g, g2, this]
        · rw [hlow j g (by omega)]; simp
      · have : ¬ (i + 1 ≤ j) := by omega
        simp [g, this]
  · show cntTo r i + (r.testBit i).toNat = _
    rw [h1.2, cnt_zero h1.1 hlow]; rfl
theorem tail_end {r L : Nat} (h : L ≤ 64) (t : Tail r L 0) : cntTo r L = cntv r := by
  refine (cnt_zero h fun j h1 _ => ?_).symm
  have := t j
  rw [Nat.zero_testBit] at this
  simpa [h1] using this.symm
end Go.Proofs.Ytnhbodloiimagaa
