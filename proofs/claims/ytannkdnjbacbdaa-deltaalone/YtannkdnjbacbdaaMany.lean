/-
  Plain facts on timers that are added one by one, with rising keys, and on what is left of them behind so many ticks. Nothing of the program's text.
-/
import Derived.Test.YtannkdnjbacbdaaTimes
namespace Go.Proofs.Ytannkdnjbacbdaa

/-- the row behind the first k of them -/
def addsT (f : Nat → Int) : Nat → List Tm
  | 0 => []
  | k + 1 => resAdd (addsT f k) (f k) k

def Lex (y z : Tm) : Prop := y.1 < z.1 ∨ (y.1 = z.1 ∧ y.2 < z.2)

theorem insA_perm : ∀ (B : List Tm) (n k : Int), (insA B n k).Perm ((n, k) :: B)
  | [], n, k => List.Perm.refl _
  | y :: r, n, k => by
    simp only [insA]
    split
    · exact ((insA_perm r n k).cons y).trans (List.Perm.swap _ _ _)
    · exact List.Perm.refl _
theorem insA_lex : ∀ (B : List Tm) (n k : Int), (∀ y ∈ B, y.2 < k) → B.Pairwise Lex → (insA B n k).Pairwise Lex
  | [], n, k, _, _ => by simp [insA]
  | y :: r, n, k, hk, h => by
    obtain ⟨h1, h2⟩ := List.pairwise_cons.1 h
    have hy := hk y (by simp)
    simp only [insA]
    split
    · rename_i hle
      refine List.pairwise_cons.2 ⟨fun z hz => ?_, insA_lex r n k (fun z hz => hk z (by simp [hz])) h2⟩
      rcases List.mem_cons.1 ((insA_perm r n k).mem_iff.1 hz) with rfl | hz
      · rcases Int.lt_or_eq_of_le hle with h | h
        · exact .inl h
        · exact .inr ⟨h, hy⟩
      · exact h1 z hz
    · rename_i hle
      refine List.pairwise_cons.2 ⟨fun z hz => ?_, h⟩
      rcases List.mem_cons.1 hz with rfl | hz
      · exact .inl (by show n < _; omega)
      · have := h1 z hz
        rcases this with h | ⟨h, _⟩
        · exact .inl (by show n < _; omega)
        · exact .inl (by show n < _; omega)

structure Adds (f : Nat → Int) (k : Nat) : Prop where
  bd : Bd (addsT f k)
  len : (addsT f k).length = min k 64
  perm : (absT 0 (addsT f k)).Perm ((List.range (min k 64)).map fun i => (f i, (i : Int)))
  lex : (absT 0 (addsT f k)).Pairwise Lex

theorem Adds.keys {f : Nat → Int} {k : Nat} (h : Adds f k) : ∀ x : Int, x ∈ (addsT f k).map (·.2) → ∃ i : Nat, i < min k 64 ∧ x = (i : Int) := by
  intro x hx
  rw [← absT_keys _ 0] at hx
  have := (h.perm.map (·.2)).mem_iff.1 hx
  simp only [List.map_map, List.mem_map, List.mem_range, Function.comp] at this
  obtain ⟨i, hi, e⟩ := this
  exact ⟨i, hi, e.symm⟩
theorem Adds.ok {f : Nat → Int} {k : Nat} (h : Adds f k) (h0 : 0 ≤ f k) (h1 : f k ≤ 1000) : okAdd (addsT f k) (f k) k = decide (k < 64) := by
  have ht : timeB (f k) = true := by unfold timeB; simp; omega
  have hh : hasT (addsT f k) k = false := by
    rw [hasT_iff]
    simp only [decide_eq_false_iff_not]
    intro hx
    obtain ⟨i, hi, e⟩ := h.keys _ hx
    omega
  unfold okAdd
  rw [ht, hh, h.len]
  simp
  omega
theorem adds_all (f : Nat → Int) (hf : ∀ i, 0 ≤ f i ∧ f i ≤ 1000) : ∀ k, Adds f k
  | 0 => ⟨Bd.nil, rfl, by simp [addsT, absT], by simp [addsT, absT]⟩
  | k + 1 => by
    have h := adds_all f hf k
    have hok := h.ok (hf k).1 (hf k).2
    by_cases hk : k < 64
    · have hok' : okAdd (addsT f k) (f k) k = true := by rw [hok]; simpa using hk
      have e : addsT f (k + 1) = addT (addsT f k) (f k) k := by simp [addsT, resAdd, hok']
      have ha : absT 0 (addsT f (k + 1)) = insA (absT 0 (addsT f k)) (f k) k := by rw [e, abs_add]; simp
      refine ⟨?_, ?_, ?_, ?_⟩
      · rw [e]; exact bd_add h.bd _ _ hok'
      · rw [e, addT_length, h.len]; omega
      · rw [ha]
        refine (insA_perm _ _ _).trans ?_
        rw [show min (k + 1) 64 = k + 1 by omega, List.range_succ, List.map_append]
        have hp := h.perm
        rw [show min k 64 = k by omega] at hp
        exact (hp.cons _).trans (List.perm_append_singleton _ _).symm
      · rw [ha]
        refine insA_lex _ _ _ (fun y hy => ?_) h.lex
        have : y.2 ∈ (addsT f k).map (·.2) := by rw [← absT_keys _ 0]; exact List.mem_map_of_mem hy
        obtain ⟨i, hi, e⟩ := h.keys _ this
        omega
    · have hok' : okAdd (addsT f k) (f k) k = false := by rw [hok]; simpa using hk
      have e : addsT f (k + 1) = addsT f k := by simp [addsT, resAdd, hok']
      have e2 : min (k + 1) 64 = min k 64 := by omega
      exact ⟨e ▸ h.bd, by rw [e, e2]; exact h.len, by rw [e, e2]; exact h.perm, by rw [e]; exact h.lex⟩

/-- what is left of B behind t ticks -/
def aftA (t : Int) (B : List Tm) : List Tm := (B.filter fun y => decide (t < max y.1 1)).map fun y => (y.1 - t, y.2)
/-- whose come with the t-th tick -/
def atA (t : Int) (B : List Tm) : List Int := (B.filter fun y => decide (max y.1 1 = t)).map (·.2)

theorem aftA_zero (B : List Tm) : aftA 0 B = B := by
  unfold aftA
  rw [List.filter_eq_self.2 (fun y _ => by simp; omega)]
  conv => rhs; rw [← List.map_id B]
  apply List.map_congr_left
  intro y _
  simp
theorem aftA_cons (t : Int) (y : Tm) (B : List Tm) : aftA t (y :: B) = if t < max y.1 1 then (y.1 - t, y.2) :: aftA t B else aftA t B := by
  unfold aftA
  rw [List.filter_cons]
  by_cases h : t < max y.1 1 <;> simp [h]
theorem atA_cons (t : Int) (y : Tm) (B : List Tm) : atA t (y :: B) = if max y.1 1 = t then y.2 :: atA t B else atA t B := by
  unfold atA
  rw [List.filter_cons]
  by_cases h : max y.1 1 = t <;> simp [h]
theorem tick_aft (t : Int) (ht : 0 ≤ t) : ∀ (B : List Tm), tickA (aftA t B) = aftA (t + 1) B ∧ dueA (aftA t B) = atA (t + 1) B
  | [] => by simp [aftA, tickA, dueA, atA]
  | y :: B => by
    obtain ⟨h1, h2⟩ := tick_aft t ht B
    rw [aftA_cons, aftA_cons, atA_cons]
    by_cases h : t < max y.1 1
    · rw [if_pos h, tickA_cons, dueA_cons]
      by_cases h3 : 1 < y.1 - t
      · rw [if_pos h3, if_pos h3, if_pos (by omega), if_neg (by omega), h1]
        exact ⟨by rw [show y.1 - t - 1 = y.1 - (t + 1) by omega], h2⟩
      · rw [if_neg h3, if_neg h3, if_neg (by omega), if_pos (by omega), h2]
        exact ⟨h1, rfl⟩
    · rw [if_neg h, if_neg (by omega), if_neg (by omega)]
      exact ⟨h1, h2⟩
theorem aft_len (t : Int) : ∀ (B : List Tm), (aftA (t + 1) B).length + (atA (t + 1) B).length = (aftA t B).length
  | [] => by simp [aftA, atA]
  | y :: B => by
    have h1 := aft_len t B
    rw [aftA_cons, aftA_cons, atA_cons]
    by_cases h : t + 1 < max y.1 1
    · rw [if_pos h, if_neg (by omega), if_pos (by omega)]
      simp only [List.length_cons]; omega
    · by_cases h3 : max y.1 1 = t + 1
      · rw [if_neg h, if_pos h3, if_pos (by omega)]
        simp only [List.length_cons]; omega
      · rw [if_neg h, if_neg h3, if_neg (by omega)]; exact h1
theorem aft_end (t : Int) (B : List Tm) (h : ∀ y ∈ B, max y.1 1 ≤ t) : aftA t B = [] := by
  unfold aftA
  rw [List.filter_eq_nil_iff.2 (fun y hy => by have := h y hy; simp; omega)]
  rfl
theorem at_mem {t : Int} {B : List Tm} {k : Int} (h : k ∈ atA t B) : ∃ y ∈ B, max y.1 1 = t ∧ y.2 = k := by
  unfold atA at h
  obtain ⟨y, hy, e⟩ := List.mem_map.1 h
  obtain ⟨h1, h2⟩ := List.mem_filter.1 hy
  exact ⟨y, h1, by simpa using h2, e⟩
theorem at_rising {t : Int} (ht : 1 < t) : ∀ {B : List Tm}, B.Pairwise Lex → (atA t B).Pairwise (· < ·)
  | [], _ => by simp [atA]
  | y :: B, h => by
    obtain ⟨h1, h2⟩ := List.pairwise_cons.1 h
    rw [atA_cons]
    split
    · rename_i hy
      refine List.pairwise_cons.2 ⟨fun k hk => ?_, at_rising ht h2⟩
      obtain ⟨z, hz, h3, rfl⟩ := at_mem hk
      rcases h1 z hz with h | ⟨_, h⟩
      · omega
      · exact h
    · exact at_rising ht h2
end Go.Proofs.Ytannkdnjbacbdaa
