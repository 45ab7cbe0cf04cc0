/-
  Plain facts on rows of 64 bits: the row of one bit, a row with it and without it, the lowest bit, how many are set, and that sums by halves tell how many. Nothing of the program.
-/
import Derived.WalkKit
import Derived.Laws.BitsAllLaws
namespace Go.Proofs.Ytnhbodloiimagaa

/-- the row of bit i alone; none where there is no such bit -/
def bitv (i : Int) : Nat := if 0 ≤ i ∧ i ≤ 63 then 2 ^ i.toNat else 0
def setv (r : Nat) (i : Int) : Nat := r ||| bitv i
def clrv (r : Nat) (i : Int) : Nat := r &&& (18446744073709551615 - bitv i)
def isv (r : Nat) (i : Int) : Bool := decide (¬ (r &&& bitv i) = 0)

theorem bitv_in {i : Int} (h0 : 0 ≤ i) (h1 : i ≤ 63) : bitv i = 2 ^ i.toNat := if_pos ⟨h0, h1⟩
theorem bitv_out {i : Int} (h : i < 0 ∨ 63 < i) : bitv i = 0 := if_neg (by omega)
theorem bitv_lt (i : Int) : bitv i < 18446744073709551616 := by
  by_cases h : 0 ≤ i ∧ i ≤ 63
  · rw [bitv_in h.1 h.2]; exact Nat.pow_lt_pow_of_lt (by decide) (by omega : i.toNat < 64)
  · rw [bitv_out (by omega)]; decide
theorem test_bitv (i : Int) (j : Nat) : (bitv i).testBit j = decide (i = (j : Int) ∧ j ≤ 63) := by
  by_cases h : 0 ≤ i ∧ i ≤ 63
  · rw [bitv_in h.1 h.2, Nat.testBit_two_pow, Bool.eq_iff_iff]; simp; omega
  · rw [bitv_out (by omega), Nat.zero_testBit]; simp; omega
theorem test_out {r : Nat} (hr : r < 18446744073709551616) {j : Nat} (h : 64 ≤ j) : r.testBit j = false :=
  Nat.testBit_lt_two_pow (Nat.lt_of_lt_of_le hr (Nat.pow_le_pow_right (n := 2) (by decide) h : 2 ^ 64 ≤ 2 ^ j))
theorem test_setv (r : Nat) (i : Int) (j : Nat) : (setv r i).testBit j = (r.testBit j || decide (i = (j : Int) ∧ j ≤ 63)) := by
  unfold setv; rw [Nat.testBit_or, test_bitv]
theorem test_clrv (r : Nat) (i : Int) (j : Nat) (hr : r < 18446744073709551616) : (clrv r i).testBit j = (r.testBit j && !decide (i = (j : Int))) := by
  unfold clrv
  have e : 18446744073709551615 - bitv i = 2 ^ 64 - (bitv i + 1) := by omega
  rw [Nat.testBit_and, e, Nat.testBit_two_pow_sub_succ (bitv_lt i), test_bitv]
  by_cases h : j < 64
  · have h' : j ≤ 63 := by omega
    simp [h, h']
  · rw [test_out hr (by omega)]; simp
theorem isv_eq (r : Nat) (i : Int) : isv r i = (decide (0 ≤ i ∧ i ≤ 63) && r.testBit i.toNat) := by
  unfold isv
  by_cases h : 0 ≤ i ∧ i ≤ 63
  · rw [bitv_in h.1 h.2, nat_bit, Nat.testBit_eq_decide_div_mod_eq]
    have := Nat.two_pow_pos i.toNat
    have h2 : r / 2 ^ i.toNat % 2 = 0 ∨ r / 2 ^ i.toNat % 2 = 1 := by omega
    rcases h2 with e | e <;> rw [e] <;> simp [h] <;> omega
  · rw [bitv_out (by omega)]; simp [h]
theorem isv_nat (r j : Nat) (h : j ≤ 63) : isv r (j : Int) = r.testBit j := by
  rw [isv_eq]; simp; omega
theorem isv_out (r : Nat) {i : Int} (h : i < 0 ∨ 63 < i) : isv r i = false := by
  rw [isv_eq]; have : ¬ (0 ≤ i ∧ i ≤ 63) := by omega
  simp [this]
theorem setv_out (r : Nat) {i : Int} (h : i < 0 ∨ 63 < i) : setv r i = r := by unfold setv; rw [bitv_out h, Nat.or_zero]
theorem clrv_out {r : Nat} (hr : r < 18446744073709551616) {i : Int} (h : i < 0 ∨ 63 < i) : clrv r i = r := by
  refine Nat.eq_of_testBit_eq fun j => ?_
  rw [test_clrv r i j hr]
  by_cases e : i = (j : Int)
  · rw [test_out hr (by omega)]; rfl
  · simp [e]
theorem setv_lt {r : Nat} (hr : r < 18446744073709551616) (i : Int) : setv r i < 18446744073709551616 := Nat.or_lt_two_pow (n := 64) hr (bitv_lt i)
theorem clrv_le (r : Nat) (i : Int) : clrv r i ≤ r := Nat.and_le_left
theorem clrv_lt {r : Nat} (hr : r < 18446744073709551616) (i : Int) : clrv r i < 18446744073709551616 := Nat.lt_of_le_of_lt (clrv_le r i) hr

/-! to set and to clear, as sums -/
theorem or_pow {r i : Nat} (h : r.testBit i = false) : r ||| 2 ^ i = r + 2 ^ i := by
  have hp := Nat.two_pow_pos i
  have ht : r / 2 ^ i % 2 = 0 := by have := Nat.toNat_testBit r i; rw [h] at this; simpa using this.symm
  have e0 : r = 2 ^ i * (2 * (r / 2 ^ i / 2)) + r % 2 ^ i := by
    have h1 := (Nat.div_add_mod r (2 ^ i)).symm
    have h2 : 2 * (r / 2 ^ i / 2) = r / 2 ^ i := by omega
    rw [h2]; exact h1
  have hm : r % 2 ^ i < 2 ^ i := Nat.mod_lt _ hp
  generalize r / 2 ^ i / 2 = q at e0
  generalize r % 2 ^ i = a at e0 hm
  have e1 : r + 2 ^ i = 2 ^ i * (2 * q + 1) + a := by rw [Nat.mul_add, Nat.mul_one]; omega
  refine Nat.eq_of_testBit_eq fun j => ?_
  rw [e1, Nat.testBit_or, Nat.testBit_two_pow]
  rw [show r.testBit j = (2 ^ i * (2 * q) + a).testBit j by rw [← e0]]
  rw [Nat.testBit_two_pow_mul_add _ hm, Nat.testBit_two_pow_mul_add _ hm]
  by_cases hj : j < i
  · simp [hj]; omega
  · simp only [if_neg hj]
    by_cases e : i = j
    · subst e; simp
    · have : j - i = (j - i - 1) + 1 := by omega
      rw [this, Nat.testBit_succ, Nat.testBit_succ]
      have e2 : (2 * q + 1) / 2 = q := by omega
      have e3 : 2 * q / 2 = q := by omega
      rw [e2, e3]; simp [e]
theorem setv_add {r : Nat} {i : Int} (h0 : 0 ≤ i) (h1 : i ≤ 63) (h : isv r i = false) : setv r i = r + 2 ^ i.toNat := by
  unfold setv
  rw [isv_eq] at h
  rw [bitv_in h0 h1]; exact or_pow (by simpa [h0, h1] using h)
theorem setv_same {r : Nat} {i : Int} (h : isv r i = true) : setv r i = r := by
  rw [isv_eq] at h
  simp at h
  refine Nat.eq_of_testBit_eq fun j => ?_
  rw [test_setv]
  by_cases e : i = (j : Int)
  · subst e; have := h.2; simp at this; simp [this]
  · simp [e]
theorem clrv_same {r : Nat} (hr : r < 18446744073709551616) {i : Int} (h : isv r i = false) : clrv r i = r := by
  by_cases ho : i < 0 ∨ 63 < i
  · exact clrv_out hr ho
  · rw [isv_eq] at h
    have h0 : 0 ≤ i ∧ i ≤ 63 := by omega
    simp [h0] at h
    refine Nat.eq_of_testBit_eq fun j => ?_
    rw [test_clrv r i j hr]
    by_cases e : i = (j : Int)
    · subst e; simp at h; simp [h]
    · simp [e]
theorem set_clr {r : Nat} (hr : r < 18446744073709551616) (i : Int) : setv (clrv r i) i = setv r i := by
  refine Nat.eq_of_testBit_eq fun j => ?_
  rw [test_setv, test_clrv r i j hr, test_setv]
  by_cases e : i = (j : Int)
  · by_cases h : j ≤ 63
    · simp [e, h]
    · rw [test_out hr (by omega)]; simp
  · simp [e]
theorem clr_set {r : Nat} (hr : r < 18446744073709551616) (i : Int) : clrv (setv r i) i = clrv r i := by
  refine Nat.eq_of_testBit_eq fun j => ?_
  rw [test_clrv _ i j (setv_lt hr i), test_setv, test_clrv r i j hr]
  by_cases e : i = (j : Int)
  · simp [e]
  · simp [e]
theorem is_clr {r : Nat} (hr : r < 18446744073709551616) (i : Int) : isv (clrv r i) i = false := by
  rw [isv_eq]
  by_cases h : 0 ≤ i ∧ i ≤ 63
  · rw [test_clrv r i _ hr]
    have : i = ((i.toNat : Nat) : Int) := by omega
    simp [← this]
  · simp [h]
theorem is_set (r : Nat) {i : Int} (h0 : 0 ≤ i) (h1 : i ≤ 63) : isv (setv r i) i = true := by
  rw [isv_eq, test_setv]
  simp; omega
theorem is_set_ne (r : Nat) {i k : Int} (h : i ≠ k) : isv (setv r i) k = isv r k := by
  rw [isv_eq, isv_eq, test_setv]
  by_cases hk : 0 ≤ k ∧ k ≤ 63
  · have : ¬ i = ((k.toNat : Nat) : Int) := by omega
    rw [show decide (i = ((k.toNat : Nat) : Int) ∧ k.toNat ≤ 63) = false from decide_eq_false (fun g => this g.1), Bool.or_false]
  · simp [hk]
theorem is_clr_ne {r : Nat} (hr : r < 18446744073709551616) {i k : Int} (h : i ≠ k) : isv (clrv r i) k = isv r k := by
  rw [isv_eq, isv_eq, test_clrv _ _ _ hr]
  by_cases hk : 0 ≤ k ∧ k ≤ 63
  · have : ¬ i = ((k.toNat : Nat) : Int) := by omega
    rw [decide_eq_false this, Bool.not_false, Bool.and_true]
  · simp [hk]
theorem clrv_sub {r : Nat} (hr : r < 18446744073709551616) {i : Int} (h : isv r i = true) : clrv r i + 2 ^ i.toNat = r := by
  have hi : 0 ≤ i ∧ i ≤ 63 := by rw [isv_eq] at h; simp at h; exact h.1
  rw [← setv_add hi.1 hi.2 (is_clr hr i), set_clr hr, setv_same h]
theorem isv_div (r : Nat) {i : Int} (h0 : 0 ≤ i) (h1 : i ≤ 63) : isv r i = decide (r / 2 ^ i.toNat % 2 = 1) := by
  rw [isv_eq, Nat.testBit_eq_decide_div_mod_eq]; simp [h0, h1]

/-! the lowest -/
def IsFirst (r i : Nat) : Prop := r.testBit i = true ∧ ∀ j, j < i → r.testBit j = false
theorem first_one {r i k : Nat} (h : IsFirst r i) (g : IsFirst r k) : i = k := by
  rcases Nat.lt_trichotomy i k with l | l | l
  · have := g.2 _ l; rw [h.1] at this; cases this
  · exact l
  · have := h.2 _ l; rw [g.1] at this; cases this
open Classical in
noncomputable def firstv (r : Nat) : Nat := if h : ∃ i, IsFirst r i then h.choose else 0
theorem firstv_eq {r i : Nat} (h : IsFirst r i) : firstv r = i := by
  have hx : ∃ i, IsFirst r i := ⟨i, h⟩
  unfold firstv; rw [dif_pos hx]; exact first_one hx.choose_spec h
theorem first_lt {r i : Nat} (hr : r < 18446744073709551616) (h : IsFirst r i) : i ≤ 63 := by
  rcases Nat.lt_or_ge i 64 with l | l
  · omega
  · have := test_out hr l; rw [h.1] at this; cases this
theorem first_of {r i : Nat} (h0 : r % 2 ^ i = 0) (h1 : r / 2 ^ i % 2 = 1) : IsFirst r i := by
  refine ⟨by rw [Nat.testBit_eq_decide_div_mod_eq]; simpa using h1, fun j hj => ?_⟩
  have := Nat.testBit_mod_two_pow r i j
  rw [h0] at this
  simpa [hj] using this.symm
theorem eq_zero_of {r : Nat} (hr : r < 18446744073709551616) (h : ∀ j, j < 64 → r.testBit j = false) : r = 0 := by
  refine Nat.eq_of_testBit_eq fun j => ?_
  rw [Nat.zero_testBit]
  rcases Nat.lt_or_ge j 64 with l | l
  · exact h j l
  · exact test_out hr l

/-! how many -/
def cntTo (r : Nat) : Nat → Nat
  | 0 => 0
  | k + 1 => cntTo r k + (r.testBit k).toNat
def cntv (r : Nat) : Nat := cntTo r 64
theorem cnt_le (r k : Nat) : cntTo r k ≤ k := by
  induction k with
  | zero => exact Nat.le_refl _
  | succ k ih => unfold cntTo; cases r.testBit k <;> simp <;> omega
theorem cntv_le (r : Nat) : cntv r ≤ 64 := cnt_le r 64
theorem cnt_same {r s : Nat} {k : Nat} (h : ∀ j, j < k → r.testBit j = s.testBit j) : cntTo r k = cntTo s k := by
  induction k with
  | zero => rfl
  | succ k ih => unfold cntTo; rw [ih fun j hj => h j (by omega), h k (by omega)]
theorem cnt_zero {r : Nat} {a k : Nat} (ha : a ≤ k) (h : ∀ j, a ≤ j → j < k → r.testBit j = false) : cntTo r k = cntTo r a := by
  induction k with
  | zero => have : a = 0 := by omega
            subst this; rfl
  | succ k ih =>
    by_cases e : a = k + 1
    · rw [e]
    · show cntTo r k + _ = _
      rw [h k (by omega) (by omega), ih (by omega) fun j h1 h2 => h j h1 (by omega)]; rfl
theorem cnt_more {r s : Nat} {a k : Nat} (ha : a < k) (hr : r.testBit a = true) (hs : s.testBit a = false) (h : ∀ j, j ≠ a → r.testBit j = s.testBit j) : cntTo r k = cntTo s k + 1 := by
  induction k with
  | zero => omega
  | succ k ih =>
    show cntTo r k + _ = cntTo s k + _ + 1
    by_cases e : a = k
    · subst e; rw [hr, hs, cnt_same (k := a) fun j hj => h j (by omega)]; rfl
    · rw [ih (by omega), h k (by omega)]; omega
theorem cnt_set_clr {r : Nat} (hr : r < 18446744073709551616) {i : Int} (h0 : 0 ≤ i) (h1 : i ≤ 63) : cntv (setv r i) = cntv (clrv r i) + 1 := by
  have e : i = ((i.toNat : Nat) : Int) := by omega
  refine cnt_more (a := i.toNat) (by omega) ?_ ?_ fun j hj => ?_
  · rw [test_setv]; simp; omega
  · rw [test_clrv _ _ _ hr]; simp [← e]
  · have : ¬ i = (j : Int) := by omega
    rw [test_setv, test_clrv _ _ _ hr]; simp [this]

/-! sums by halves -/
def dsum (h : Nat) : Nat → Nat → Nat
  | 0, _ => 0
  | m + 1, x => x % 2 ^ h + dsum h m (x / 2 ^ h)
def dok (h c : Nat) : Nat → Nat → Prop
  | 0, _ => True
  | m + 1, x => x % 2 ^ h ≤ c ∧ dok h c m (x / 2 ^ h)
def mask (h : Nat) : Nat → Nat
  | 0 => 0
  | m + 1 => 2 ^ (h + h) * mask h m + (2 ^ h - 1)
def step (h m x : Nat) : Nat := (x &&& mask h m) + (x / 2 ^ h &&& mask h m)

theorem and_split (n a b c d : Nat) (ha : a < 2 ^ n) (hc : c < 2 ^ n) : (2 ^ n * b + a) &&& (2 ^ n * d + c) = 2 ^ n * (b &&& d) + (a &&& c) := by
  have hac : a &&& c < 2 ^ n := Nat.lt_of_le_of_lt Nat.and_le_left ha
  refine Nat.eq_of_testBit_eq fun j => ?_
  rw [Nat.testBit_and, Nat.testBit_two_pow_mul_add _ ha, Nat.testBit_two_pow_mul_add _ hc, Nat.testBit_two_pow_mul_add _ hac]
  by_cases hj : j < n
  · simp [hj]
  · simp [hj]
theorem and_mask (h m x : Nat) : x &&& mask h (m + 1) = 2 ^ (h + h) * (x / 2 ^ (h + h) &&& mask h m) + x % 2 ^ h := by
  have hp := Nat.two_pow_pos (h + h)
  have hq := Nat.two_pow_pos h
  have hB : 2 ^ h ≤ 2 ^ (h + h) := Nat.pow_le_pow_right (by decide) (by omega)
  have e := and_split (h + h) (x % 2 ^ (h + h)) (x / 2 ^ (h + h)) (2 ^ h - 1) (mask h m) (Nat.mod_lt _ hp) (by omega)
  rw [Nat.div_add_mod] at e
  show x &&& (2 ^ (h + h) * mask h m + (2 ^ h - 1)) = _
  rw [e, Nat.and_two_pow_sub_one_eq_mod, Nat.mod_mod_of_dvd _ (Nat.pow_dvd_pow 2 (by omega))]
theorem step_succ (h m x : Nat) : step h (m + 1) x = 2 ^ (h + h) * step h m (x / 2 ^ (h + h)) + (x % 2 ^ h + x / 2 ^ h % 2 ^ h) := by
  unfold step
  rw [and_mask, and_mask, Nat.div_div_eq_div_mul, Nat.div_div_eq_div_mul, Nat.mul_comm (2 ^ h) (2 ^ (h + h)), Nat.mul_add]
  omega
theorem step_ok (h c m x : Nat) (hc : c + c < 2 ^ (h + h)) (hx : dok h c (m + m) x) : dsum (h + h) m (step h m x) = dsum h (m + m) x ∧ dok (h + h) (c + c) m (step h m x) := by
  have hp := Nat.two_pow_pos (h + h)
  induction m generalizing x with
  | zero => exact ⟨rfl, trivial⟩
  | succ m ih =>
    rw [show m + 1 + (m + 1) = (m + m) + 1 + 1 by omega] at hx ⊢
    obtain ⟨h1, h2, h3⟩ := hx
    have e2 : x / 2 ^ h / 2 ^ h = x / 2 ^ (h + h) := by rw [Nat.div_div_eq_div_mul, ← Nat.pow_add]
    rw [e2] at h3
    have := ih _ h3
    have hlt : x % 2 ^ h + x / 2 ^ h % 2 ^ h < 2 ^ (h + h) := by omega
    have em : step h (m + 1) x % 2 ^ (h + h) = x % 2 ^ h + x / 2 ^ h % 2 ^ h := by
      rw [step_succ, Nat.mul_add_mod, Nat.mod_eq_of_lt hlt]
    have ed : step h (m + 1) x / 2 ^ (h + h) = step h m (x / 2 ^ (h + h)) := by
      rw [step_succ, Nat.mul_add_div hp, Nat.div_eq_of_lt hlt, Nat.add_zero]
    refine ⟨?_, ?_, ?_⟩
    · show step h (m + 1) x % 2 ^ (h + h) + dsum (h + h) m (step h (m + 1) x / 2 ^ (h + h)) = x % 2 ^ h + (x / 2 ^ h % 2 ^ h + dsum h (m + m) (x / 2 ^ h / 2 ^ h))
      rw [em, ed, this.1, e2]; omega
    · rw [em]; omega
    · rw [ed]; exact this.2
theorem dok_one (m x : Nat) : dok 1 1 m x := by
  induction m generalizing x with
  | zero => trivial
  | succ m ih => exact ⟨by omega, ih _⟩
theorem dsum_snoc (m x : Nat) : dsum 1 (m + 1) x = dsum 1 m x + (x.testBit m).toNat := by
  induction m generalizing x with
  | zero => show x % 2 ^ 1 + 0 = 0 + _; rw [Nat.toNat_testBit]; simp
  | succ m ih =>
    show x % 2 ^ 1 + dsum 1 (m + 1) (x / 2 ^ 1) = x % 2 ^ 1 + dsum 1 m (x / 2 ^ 1) + _
    rw [ih, Nat.testBit_succ, Nat.pow_one]; omega
theorem dsum_cnt (m x : Nat) : dsum 1 m x = cntTo x m := by
  induction m with
  | zero => rfl
  | succ m ih => rw [dsum_snoc, ih]; rfl

def half (h M x : Nat) : Nat := (x &&& M) + (x / 2 ^ h &&& M)
def k1 (x : Nat) : Nat := half 1 6148914691236517205 x
def k2 (x : Nat) : Nat := half 2 3689348814741910323 (k1 x)
def k3 (x : Nat) : Nat := half 4 1085102592571150095 (k2 x)
def k4 (x : Nat) : Nat := half 8 71777214294589695 (k3 x)
def k5 (x : Nat) : Nat := half 16 281470681808895 (k4 x)
def k6 (x : Nat) : Nat := half 32 4294967295 (k5 x)
theorem half_lt (h M x : Nat) : half h M x ≤ M + M := by
  unfold half
  have h1 : x &&& M ≤ M := Nat.and_le_right
  have h2 : x / 2 ^ h &&& M ≤ M := Nat.and_le_right
  omega
theorem k6_cnt (x : Nat) : k6 x = cntv x := by
  have s0 : dsum 1 (32 + 32) x = cntv x := dsum_cnt 64 x
  have a1 := step_ok 1 1 32 x (by decide) (dok_one _ _)
  have a2 := step_ok 2 2 16 _ (by decide) a1.2
  have a3 := step_ok 4 4 8 _ (by decide) a2.2
  have a4 := step_ok 8 8 4 _ (by decide) a3.2
  have a5 := step_ok 16 16 2 _ (by decide) a4.2
  have a6 := step_ok 32 32 1 _ (by decide) a5.2
  have m1 : mask 1 32 = 6148914691236517205 := by decide
  have m2 : mask 2 16 = 3689348814741910323 := by decide
  have m3 : mask 4 8 = 1085102592571150095 := by decide
  have m4 : mask 8 4 = 71777214294589695 := by decide
  have m5 : mask 16 2 = 281470681808895 := by decide
  have m6 : mask 32 1 = 4294967295 := by decide
  have e : step 32 1 (step 16 2 (step 8 4 (step 4 8 (step 2 16 (step 1 32 x))))) = k6 x := by
    unfold k6 k5 k4 k3 k2 k1 half step; rw [m1, m2, m3, m4, m5, m6]
  have t : dsum 64 1 (k6 x) = cntv x := by
    rw [← e]; exact a6.1.trans (a5.1.trans (a4.1.trans (a3.1.trans (a2.1.trans (a1.1.trans s0)))))
  have l : k6 x < 2 ^ 64 := Nat.lt_of_le_of_lt (half_lt _ _ _) (by decide)
  have u : dsum 64 1 (k6 x) = k6 x % 2 ^ 64 + 0 := rfl
  rw [u, Nat.mod_eq_of_lt l] at t
  exact t
end Go.Proofs.Ytnhbodloiimagaa
