/-
  Plain facts on timers of which some are dropped on the way. Nothing of the program's text.
-/
import Derived.Test.YtannkdnjbacbdaaMany
namespace Go.Proofs.Ytannkdnjbacbdaa

/-- those that are not gone -/
def offB (off : Nat → Bool) (B : List Tm) : List Tm := B.filter fun y => !off y.2.toNat
def offSet (off : Nat → Bool) (k : Nat) : Nat → Bool := fun i => if i = k then true else off i

theorem del_aft (t k : Int) : ∀ B : List Tm, delA (aftA t B) k = aftA t (B.filter fun y => decide (y.2 ≠ k))
  | [] => by simp [aftA, delA]
  | y :: B => by
    have ih := del_aft t k B
    rw [List.filter_cons, aftA_cons]
    by_cases h : t < max y.1 1
    · rw [if_pos h]
      by_cases hk : y.2 = k
      · have : delA ((y.1 - t, y.2) :: aftA t B) k = delA (aftA t B) k := by unfold delA; rw [List.filter_cons]; simp [hk]
        rw [this, ih]; simp [hk]
      · have : delA ((y.1 - t, y.2) :: aftA t B) k = (y.1 - t, y.2) :: delA (aftA t B) k := by unfold delA; rw [List.filter_cons]; simp [hk]
        rw [this, ih]
        simp only [decide_eq_true_eq, ne_eq, hk, not_false_eq_true, if_true]
        rw [aftA_cons, if_pos h]
    · rw [if_neg h, ih]
      by_cases hk : y.2 = k
      · simp [hk]
      · simp only [decide_eq_true_eq, ne_eq, hk, not_false_eq_true, if_true]
        rw [aftA_cons, if_neg h]
theorem off_drop {off : Nat → Bool} {B : List Tm} (hB : ∀ y ∈ B, 0 ≤ y.2) (k : Nat) : (offB off B).filter (fun y => decide (y.2 ≠ (k : Int))) = offB (offSet off k) B := by
  unfold offB
  rw [List.filter_filter]
  apply List.filter_congr
  intro y hy
  have h0 := hB y hy
  unfold offSet
  by_cases h : y.2 = (k : Int)
  · have : y.2.toNat = k := by omega
    simp [h]
  · have : ¬ y.2.toNat = k := by omega
    simp [h, this]
theorem abs_off {off : Nat → Bool} {B : List Tm} {l : List Tm} {t : Int} (hBd : Bd l) (hB : ∀ y ∈ B, 0 ≤ y.2) (h : absT 0 l = aftA t (offB off B)) (k : Nat) : absT 0 (resDrop l k) = aftA t (offB (offSet off k) B) := by
  rw [abs_resDrop hBd, h, del_aft, off_drop hB]
theorem mem_aft {t k : Int} {B : List Tm} : k ∈ (aftA t B).map (·.2) ↔ ∃ y ∈ B, y.2 = k ∧ t < max y.1 1 := by
  unfold aftA
  simp only [List.map_map, List.mem_map, List.mem_filter, decide_eq_true_eq, Function.comp]
  constructor
  · rintro ⟨y, ⟨h1, h2⟩, h3⟩; exact ⟨y, h1, h3, h2⟩
  · rintro ⟨y, h1, h3, h2⟩; exact ⟨y, ⟨h1, h2⟩, h3⟩

/-- B has just (F i, i) for i below n. -/
structure Just (F : Nat → Int) (n : Nat) (B : List Tm) : Prop where
  perm : B.Perm ((List.range n).map fun i => (F i, (i : Int)))
theorem Just.mem {F : Nat → Int} {n : Nat} {B : List Tm} (h : Just F n B) (y : Tm) : y ∈ B ↔ ∃ i : Nat, i < n ∧ y = (F i, (i : Int)) := by
  rw [h.perm.mem_iff]
  simp only [List.mem_map, List.mem_range]
  constructor
  · rintro ⟨i, h1, h2⟩; exact ⟨i, h1, h2.symm⟩
  · rintro ⟨i, h1, h2⟩; exact ⟨i, h1, h2.symm⟩
theorem has_off {F : Nat → Int} {n : Nat} {B : List Tm} (hJ : Just F n B) {off : Nat → Bool} {l : List Tm} {t : Int} (h : absT 0 l = aftA t (offB off B)) (k : Nat) (hk : k < n) : hasT l k = (!off k && decide (t < max (F k) 1)) := by
  rw [hasT_iff, ← absT_keys l 0, h]
  have : ((k : Int) ∈ (aftA t (offB off B)).map (·.2)) ↔ (off k = false ∧ t < max (F k) 1) := by
    rw [mem_aft]
    constructor
    · rintro ⟨y, h1, h2, h3⟩
      unfold offB at h1
      obtain ⟨h4, h5⟩ := List.mem_filter.1 h1
      obtain ⟨i, _, rfl⟩ := (hJ.mem y).1 h4
      obtain rfl : i = k := by simp at h2; omega
      exact ⟨by simpa using h5, h3⟩
    · rintro ⟨h1, h2⟩
      exact ⟨(F k, (k : Int)), by unfold offB; exact List.mem_filter.2 ⟨(hJ.mem _).2 ⟨k, hk, rfl⟩, by simpa using h1⟩, rfl, h2⟩
  cases ho : off k <;> simp [this, ho]

/-- how many of the first k come with the t-th tick -/
def cntO (off : Nat → Bool) (F : Nat → Int) (t : Int) : Nat → Nat
  | 0 => 0
  | k + 1 => cntO off F t k + (if off k = false ∧ max (F k) 1 = t then 1 else 0)
theorem cnt_yes {off : Nat → Bool} {F : Nat → Int} {t : Int} {k : Nat} (h : off k = false ∧ max (F k) 1 = t) : cntO off F t (k + 1) = cntO off F t k + 1 := by rw [cntO, if_pos h]
theorem cnt_no {off : Nat → Bool} {F : Nat → Int} {t : Int} {k : Nat} (h : ¬ (off k = false ∧ max (F k) 1 = t)) : cntO off F t (k + 1) = cntO off F t k := by rw [cntO, if_neg h]; rfl
theorem cnt_le (off : Nat → Bool) (F : Nat → Int) (t : Int) : ∀ k, cntO off F t k ≤ k
  | 0 => Nat.le_refl _
  | k + 1 => by
    have := cnt_le off F t k
    rw [cntO]; split <;> omega
theorem cnt_range (off : Nat → Bool) (F : Nat → Int) (t : Int) : ∀ n, (atA t (offB off ((List.range n).map fun i => (F i, (i : Int))))).length = cntO off F t n
  | 0 => rfl
  | n + 1 => by
    have ih := cnt_range off F t n
    unfold atA offB at ih ⊢
    rw [List.range_succ, List.map_append, List.filter_append, List.filter_append, List.map_append, List.length_append, ih, cntO]
    congr 1
    cases ho : off n
    · by_cases hm : max (F n) 1 = t <;> simp [ho, hm]
    · simp [ho]
theorem at_len {F : Nat → Int} {n : Nat} {B : List Tm} (hJ : Just F n B) (off : Nat → Bool) (t : Int) : (atA t (offB off B)).length = cntO off F t n := by
  rw [← cnt_range off F t n]
  unfold atA offB
  exact (((hJ.perm.filter _).filter _).map _).length_eq
theorem at_off {F : Nat → Int} {n : Nat} {B : List Tm} (hJ : Just F n B) {off : Nat → Bool} {t k : Int} (h : k ∈ atA t (offB off B)) : ∃ i : Nat, i < n ∧ k = i ∧ off i = false ∧ max (F i) 1 = t := by
  obtain ⟨y, h1, h2, h3⟩ := at_mem h
  unfold offB at h1
  obtain ⟨h4, h5⟩ := List.mem_filter.1 h1
  obtain ⟨i, hi, rfl⟩ := (hJ.mem y).1 h4
  exact ⟨i, hi, h3.symm, by simpa using h5, h2⟩
end Go.Proofs.Ytannkdnjbacbdaa
