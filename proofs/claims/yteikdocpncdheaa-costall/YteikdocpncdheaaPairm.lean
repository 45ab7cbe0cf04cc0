/-
  The pairs of a program that may be: one in the other or apart, of one semaphore each: plain facts.
-/
import Derived.Test.YteikdocpncdheaaShape
namespace Go.Proofs.Yteikdocpncdheaa

structure PInv (l : List In) (n : Nat) (o : List Nat) (U : List Int) : Prop where
  c1 : ∀ i, U.getD i 0 ≠ 0 → (gt l i).1 = 9 ∧ ∃ j : Nat, U.getD i 0 = (j : Int) ∧ i < j ∧ j < n ∧ (gt l j).1 = 10 ∧ (gt l j).2.1 = (gt l i).2.1
  c2 : ∀ i, i < n → (gt l i).1 = 9 → i ∈ o ∨ U.getD i 0 ≠ 0
  c3 : ∀ k i, k < i → U.getD k 0 ≠ 0 → U.getD i 0 ≠ 0 → (i : Int) < U.getD k 0 → U.getD i 0 < U.getD k 0 ∧ (gt l k).2.1 ≠ (gt l i).2.1
  c4 : ∀ k ∈ o, ∀ i, k < i → U.getD i 0 ≠ 0 → (gt l k).2.1 ≠ (gt l i).2.1
  c5 : ∀ k, U.getD k 0 ≠ 0 → ∀ i ∈ o, k < i → U.getD k 0 < (i : Int)

theorem last_or (o : List Nat) : o = [] ∨ ∃ o1 k, o = o1 ++ [k] := by
  rcases List.eq_nil_or_concat o with h | ⟨a, b, h⟩
  · exact .inl h
  · exact .inr ⟨a, b, by simpa using h⟩
theorem held_before {l : List In} {n j : Nat} {o1 : List Nat} (h : Held l n (o1 ++ [j])) : ∀ i ∈ o1, i < j ∧ (gt l i).2.1 ≠ (gt l j).2.1 := by
  intro i hi
  have hle := h.le
  rw [List.length_append] at hle
  match o1, hi with
  | [y], hi =>
    simp at hi
    subst hi
    have := h.ne i j rfl
    exact ⟨this.2, this.1⟩
  | y :: z :: r, _ => simp at hle
theorem getD_set {U : List Int} {j : Nat} {v : Int} (hj : j < U.length) (i : Nat) : (U.set j v).getD i 0 = if i = j then v else U.getD i 0 := by
  by_cases e : i = j
  · subst e
    rw [if_pos rfl, List.getD_eq_getElem?_getD, List.getElem?_set_self hj]
    rfl
  · rw [if_neg e, List.getD_eq_getElem?_getD, List.getElem?_set_ne (fun h => e h.symm), ← List.getD_eq_getElem?_getD]
theorem step_cases {l : List In} {n : Nat} {o o' : List Nat} (h : stepO l n o = some o') :
    ((gt l n).1 = 9 ∧ o' = o ++ [n] ∧ o.any (fun k => (gt l k).2.1 == (gt l n).2.1) = false ∧ o.length ≤ 1) ∨
    ((gt l n).1 = 10 ∧ ∃ j, o = o' ++ [j] ∧ (gt l j).2.1 = (gt l n).2.1 ∧ scL l j = scL l n) ∨
    ((gt l n).1 ≠ 9 ∧ (gt l n).1 ≠ 10 ∧ o' = o) := by
  unfold stepO at h
  split at h
  · rename_i h9
    split at h
    · cases h
    · rename_i hn
      simp only [Option.some.injEq] at h
      have hn' : (o.any (fun k => (gt l k).2.1 == (gt l n).2.1) || decide (2 ≤ o.length)) = false := by simpa using hn
      rw [Bool.or_eq_false_iff] at hn'
      exact .inl ⟨h9, h.symm, hn'.1, by have := hn'.2; simp at this; omega⟩
  · rename_i h9
    split at h
    · rename_i h10
      right; left
      rcases last_or o with rfl | ⟨o1, j, rfl⟩
      · simp at h
      · simp only [List.getLast?_concat, List.dropLast_concat] at h
        split at h
        · rename_i hc
          simp only [Option.some.injEq] at h
          subst h
          exact ⟨h10, j, rfl, hc.1, hc.2⟩
        · cases h
    · rename_i h10
      simp only [Option.some.injEq] at h
      exact .inr (.inr ⟨h9, h10, h.symm⟩)
theorem out_un' {l : List In} {k j : Nat} {o1 : List Nat} (h : (gt l k).1 = 10) (hr : runO l k = some (o1 ++ [j])) : outO l (k + 1) = (outO l k).set j k := by
  show (if (gt l k).1 = 10 then (match (runO l k).bind (·.getLast?) with | some k' => (outO l k).set k' (k : Int) | none => outO l k) else outO l k) = _
  rw [if_pos h, hr]
  simp only [Option.bind_some, List.getLast?_concat]
theorem out_other' {l : List In} {k : Nat} (h : (gt l k).1 ≠ 10) : outO l (k + 1) = outO l k := by
  show (if (gt l k).1 = 10 then _ else _) = _
  rw [if_neg h]
theorem rep_zero (n i : Nat) : (List.replicate n (0 : Int)).getD i 0 = 0 := by
  simp [List.getD_eq_getElem?_getD, List.getElem?_replicate]
  split <;> rfl
theorem pinv (l : List In) : ∀ n o, n ≤ l.length → runO l n = some o → PInv l n o (outO l n)
  | 0, o, _, h => by
    have e : ∀ i, (outO l 0).getD i 0 = 0 := fun i => rep_zero _ _
    exact ⟨fun i hi => absurd (e i) hi, fun i hi => by omega, fun k i _ hk => absurd (e k) hk, fun k _ i _ hi => absurd (e i) hi, fun k hk => absurd (e k) hk⟩
  | n + 1, o', hn, h => by
    obtain ⟨o, hr, hs⟩ := runO_succ h
    have ih := pinv l n o (by omega) hr
    have hd := runO_held l n o hr
    rcases step_cases hs with ⟨h9, rfl, hany, _⟩ | ⟨h10, j, rfl, hA, _⟩ | ⟨h9, h10, rfl⟩
    · rw [out_other' (by omega)]
      refine ⟨fun i hi => ?_, fun i hi h9' => ?_, ih.c3, fun k hk i hki hi => ?_, fun k hk i hi hki => ?_⟩
      · obtain ⟨a, j, b, c, d, e⟩ := ih.c1 i hi
        exact ⟨a, j, b, c, by omega, e⟩
      · by_cases e : i = n
        · subst e; exact .inl (by simp)
        · rcases ih.c2 i (by omega) h9' with h | h
          · exact .inl (by simp [h])
          · exact .inr h
      · rcases List.mem_append.1 hk with hk | hk
        · exact ih.c4 k hk i hki hi
        · simp at hk
          subst hk
          obtain ⟨_, j, _, c, d, _⟩ := ih.c1 i hi
          omega
      · rcases List.mem_append.1 hi with hi | hi
        · exact ih.c5 k hk i hi hki
        · simp at hi
          subst hi
          obtain ⟨_, j, b, c, d, _⟩ := ih.c1 k hk
          omega
    · have hj : j < n := hd.lt j (by simp)
      have hlen : j < (outO l n).length := by rw [outO_len]; omega
      have hb := held_before hd
      rw [out_un' h10 hr]
      have g := getD_set (v := (n : Int)) hlen
      refine ⟨fun i hi => ?_, fun i hi h9' => ?_, fun k i hki hk hi hlt => ?_, fun k hk i hki hi => ?_, fun k hk i hi hki => ?_⟩
      · rw [g] at hi ⊢
        by_cases e : i = j
        · subst e
          rw [if_pos rfl]
          exact ⟨hd.op i (by simp), n, rfl, hj, by omega, h10, hA.symm⟩
        · rw [if_neg e] at hi ⊢
          obtain ⟨a, j', b, c, d, e⟩ := ih.c1 i hi
          exact ⟨a, j', b, c, by omega, e⟩
      · rw [g]
        by_cases e : i = j
        · rw [if_pos e]; right; omega
        · rw [if_neg e]
          have : i ≠ n := by rintro rfl; omega
          rcases ih.c2 i (by omega) h9' with h | h
          · rcases List.mem_append.1 h with h | h
            · exact .inl h
            · simp at h; exact absurd h e
          · exact .inr h
      · rw [g] at hk hlt ⊢
        rw [g] at hi ⊢
        by_cases ek : k = j
        · subst ek
          have ei : i ≠ k := by omega
          rw [if_pos rfl, if_neg ei] at *
          obtain ⟨_, j', b, c, d, _⟩ := ih.c1 i hi
          exact ⟨by omega, ih.c4 k (by simp) i hki hi⟩
        · rw [if_neg ek] at *
          by_cases ei : i = j
          · subst ei
            have := ih.c5 k hk i (by simp) hki
            omega
          · rw [if_neg ei] at *
            exact ih.c3 k i hki hk hi hlt
      · rw [g] at hi
        by_cases ei : i = j
        · subst ei; exact (hb k hk).2
        · rw [if_neg ei] at hi
          exact ih.c4 k (by simp [hk]) i hki hi
      · rw [g] at hk ⊢
        by_cases ek : k = j
        · subst ek
          have := (hb i hi).1
          omega
        · rw [if_neg ek] at *
          exact ih.c5 k hk i (by simp [hi]) hki
    · rw [out_other' h10]
      refine ⟨fun i hi => ?_, fun i hi h9' => ?_, ih.c3, ih.c4, ih.c5⟩
      · obtain ⟨a, j, b, c, d, e⟩ := ih.c1 i hi
        exact ⟨a, j, b, c, by omega, e⟩
      · exact ih.c2 i (by have : i ≠ n := by rintro rfl; exact h9 h9'
                          omega) h9'
theorem pcnt (l : List In) : ∀ n o, runO l n = some o → cntN n (fun i => (gt l i).1 == 10) + o.length = cntN n (fun i => (gt l i).1 == 9)
  | 0, o, h => by simp [runO] at h; subst h; rfl
  | n + 1, o', h => by
    obtain ⟨o, hr, hs⟩ := runO_succ h
    have ih := pcnt l n o hr
    rcases step_cases hs with ⟨h9, rfl, _, _⟩ | ⟨h10, j, rfl, _, _⟩ | ⟨h9, h10, rfl⟩
    · rw [cntN_no (by simp [h9]), cntN_yes (by simp [h9]), List.length_append, ← ih]
      simp
      omega
    · rw [List.length_append] at ih
      rw [cntN_yes (by simp [h10]), cntN_no (by simp [h10]), ← ih]
      simp
      omega
    · rw [cntN_no (by simp [h10]), cntN_no (by simp [h9])]; exact ih

/-- of a program whose pairs are so -/
structure Prs (l : List In) (U : List Int) : Prop where
  len : U.length = l.length
  none : ∀ i, (gt l i).1 ≠ 9 → U.getD i 0 = 0
  some : ∀ i, i < l.length → (gt l i).1 = 9 → ∃ j : Nat, U.getD i 0 = (j : Int) ∧ i < j ∧ j < l.length ∧ (gt l j).1 = 10 ∧ (gt l j).2.1 = (gt l i).2.1
  nest : ∀ k i, k < i → i < l.length → (gt l k).1 = 9 → (gt l i).1 = 9 → (i : Int) < U.getD k 0 → ¬ U.getD k 0 < U.getD i 0 ∧ (gt l k).2.1 ≠ (gt l i).2.1
  cnt : cntN l.length (fun i => (gt l i).1 == 10) = cntN l.length (fun i => (gt l i).1 == 9)
theorem prs_of {l : List In} (h : okP l = true) : Prs l (pairL l) := by
  unfold okP at h
  have hr : runO l l.length = some [] := of_decide_eq_true h
  have hp := pinv l l.length [] (Nat.le_refl _) hr
  refine ⟨outO_len l _, fun i hi => ?_, fun i hi h9 => ?_, fun k i hki hi h9k h9i hlt => ?_, by have := pcnt l _ _ hr; simpa using this⟩
  · apply Decidable.byContradiction
    intro hn
    exact hi (hp.c1 i hn).1
  · rcases hp.c2 i hi h9 with h | h
    · simp at h
    · exact (hp.c1 i h).2
  · have hi0 : (pairL l).getD i 0 ≠ 0 := by
      rcases hp.c2 i hi h9i with h | h
      · simp at h
      · exact h
    have hk0 : (pairL l).getD k 0 ≠ 0 := by
      rcases hp.c2 k (by omega) h9k with h | h
      · simp at h
      · exact h
    have := hp.c3 k i hki hk0 hi0 hlt
    exact ⟨by have h1 := this.1; unfold pairL; omega, this.2⟩
end Go.Proofs.Yteikdocpncdheaa
