/-
  What is held, by its semaphores, at each place: a Lock, an Unlock, a Mark, the End.
-/
import Derived.Test.YteikdocpncdheaaMstep
import Derived.Test.YteikdocpncdheaaPlains
import Derived.Test.YteikdocpncdheaaPairs
namespace Go.Proofs.Yteikdocpncdheaa
open Go.ChangeShapes Go.WideShapes Go.ChangeAt Go.RowKit
attribute [local go_sem ↓] Go.wp_at_zero Go.wp_at_succ

def hA (l : List In) (i : Nat) : List Int := (opn l i).map fun k => (gt l k).2.1
theorem hA_other {l : List In} (h : okP l = true) {i : Nat} (hi : i < l.length) (h9 : (gt l i).1 ≠ 9) (h10 : (gt l i).1 ≠ 10) : hA l (i + 1) = hA l i := by
  have hs := opn_step h hi
  rw [step_other h9 h10] at hs
  simp only [Option.some.injEq] at hs
  unfold hA
  rw [hs]
theorem hA_lock {l : List In} (h : okP l = true) {i : Nat} (hi : i < l.length) (h9 : (gt l i).1 = 9) : hA l (i + 1) = hA l i ++ [(gt l i).2.1] ∧ (hA l i = [] ∨ ∃ a, hA l i = [a] ∧ a ≠ (gt l i).2.1) := by
  have hs := opn_step h hi
  rw [step_lock h9] at hs
  split at hs
  · cases hs
  · rename_i hc
    simp only [Option.some.injEq] at hs
    simp only [Bool.or_eq_true, decide_eq_true_eq, not_or, List.any_eq_true, not_exists, not_and] at hc
    unfold hA
    rw [← hs, List.map_append]
    refine ⟨rfl, ?_⟩
    match ho : opn l i, hc with
    | [], _ => exact .inl rfl
    | [a], hc =>
      refine .inr ⟨_, rfl, fun e => hc.1 a (by simp) ?_⟩
      unfold sameA
      simpa using e
    | a :: b :: r, hc => exact absurd (by simp) hc.2
theorem hA_un {l : List In} (h : okP l = true) {i : Nat} (hi : i < l.length) (h10 : (gt l i).1 = 10) : hA l i = hA l (i + 1) ++ [(gt l i).2.1] ∧ (hA l (i + 1)).length ≤ 1 := by
  have hs := opn_step h hi
  have hle := (opn_held h (Nat.le_of_lt hi)).le
  rcases List.eq_nil_or_concat (opn l i) with ho | ⟨o1, j, ho⟩
  · rw [ho, step_un0 h10] at hs
    cases hs
  · have ho' : opn l i = o1 ++ [j] := by simpa using ho
    rw [ho'] at hs hle
    rw [step_un h10] at hs
    split at hs
    · rename_i hsi
      simp only [Option.some.injEq] at hs
      unfold hA
      rw [ho', ← hs, List.map_append]
      refine ⟨?_, by simp at hle ⊢; omega⟩
      have := (site_eq.1 hsi).1
      simp [this]
    · cases hs
theorem hA_end {l : List In} (hP : Prg l) {i : Nat} (hi : i < l.length) (h0 : (gt l i).1 = 0) : hA l i = [] := by
  have hn := (hP.ins i hi).2.1 h0
  have h1 := hA_other hP.pair hi (by omega) (by omega)
  rw [hn] at h1
  rw [← h1]
  unfold hA
  rw [opn_end hP.pair]
  rfl
theorem getD_set_self {u : List Int} {k : Nat} (hk : k < u.length) (v : Int) : (u.set k v).getD k 0 = v := by
  simp [List.getD_eq_getElem?_getD, hk]
theorem getD_set_ne {u : List Int} {k j : Nat} (h : j ≠ k) (v : Int) : (u.set j v).getD k 0 = u.getD k 0 := by
  simp [List.getD_eq_getElem?_getD, List.getElem?_set_ne h]
theorem opn_late {l : List In} (h : okP l = true) {i k : Nat} (hk : k < l.length) (h11 : (gt l i).1 = 11) (hki : k ∈ opn l i) : ∀ n, i + n ≤ l.length → k ∈ opn l (i + n) ∨ (i : Int) < (outO l (i + n)).getD k 0
  | 0, _ => .inl hki
  | n + 1, hn => by
    have hi : i + n < l.length := by omega
    have hs := opn_step h hi
    have hr := opn_run h (Nat.le_of_lt hi)
    rw [show i + (n + 1) = i + n + 1 by omega]
    rcases opn_late h hk h11 hki n (by omega) with hl | hl
    · by_cases h9 : (gt l (i + n)).1 = 9
      · rw [step_lock h9] at hs
        split at hs
        · cases hs
        · simp only [Option.some.injEq] at hs
          exact .inl (by rw [← hs]; simp [hl])
      · by_cases h10 : (gt l (i + n)).1 = 10
        · rcases List.eq_nil_or_concat (opn l (i + n)) with ho | ⟨o1, j, ho⟩
          · rw [ho, step_un0 h10] at hs
            cases hs
          · have ho' : opn l (i + n) = o1 ++ [j] := by simpa using ho
            rw [ho'] at hs hl hr
            rw [step_un h10] at hs
            split at hs
            · simp only [Option.some.injEq] at hs
              rcases List.mem_append.1 hl with h1 | h1
              · exact .inl (by rw [← hs]; exact h1)
              · obtain rfl := List.mem_singleton.1 h1
                refine .inr ?_
                rw [out_un' h10 hr, getD_set_self (by rw [outO_len]; exact hk)]
                have : n ≠ 0 := by
                  rintro rfl
                  simp only [Nat.add_zero] at h10
                  omega
                omega
            · cases hs
        · rw [step_other h9 h10] at hs
          simp only [Option.some.injEq] at hs
          exact .inl (by rw [← hs]; exact hl)
    · by_cases h10 : (gt l (i + n)).1 = 10
      · rcases List.eq_nil_or_concat (opn l (i + n)) with ho | ⟨o1, j, ho⟩
        · rw [ho, step_un0 h10] at hs
          cases hs
        · have ho' : opn l (i + n) = o1 ++ [j] := by simpa using ho
          rw [ho'] at hr
          refine .inr ?_
          rw [out_un' h10 hr]
          by_cases hj : j = k
          · subst hj
            rw [getD_set_self (by rw [outO_len]; exact hk)]
            have : n ≠ 0 := by
              rintro rfl
              simp only [Nat.add_zero] at h10
              omega
            omega
          · rw [getD_set_ne hj]
            exact hl
      · exact .inr (by rw [out_other' h10]; exact hl)
theorem hA_mark {l : List In} (hP : Prg l) {i : Nat} (hi : i < l.length) (h11 : (gt l i).1 = 11) : hA l i = [] := by
  have hm := (hP.mark i hi h11).2
  match ho : opn l i with
  | [] => unfold hA; rw [ho]; rfl
  | k :: r =>
    exfalso
    have hk := (opn_held hP.pair (Nat.le_of_lt hi)).lt k (by rw [ho]; simp)
    have hl := opn_late hP.pair (show k < l.length by omega) h11 (by rw [ho]; simp) (l.length - i) (by omega)
    rw [show i + (l.length - i) = l.length by omega, opn_end hP.pair] at hl
    rcases hl with hl | hl
    · cases hl
    · have hb : betw (pairL l) i = true := by
        unfold betw
        refine anyN_iff.2 ⟨k, by show k < (outO l l.length).length; rw [outO_len]; omega, ?_⟩
        have : (i : Int) < (pairL l).getD k 0 := hl
        simp only [Bool.and_eq_true, decide_eq_true_eq]
        exact ⟨hk, this⟩
      rw [hm] at hb
      cases hb
theorem rep_mark {l : List In} (hP : Prg l) {i : Nat} (hi : i < l.length) (h11 : (gt l i).1 = 11) {R : List Rp} (hC : Ch l i i R) : R = [] := ch_none (hP.mark i hi h11).1 hP.le.2 hC
end Go.Proofs.Yteikdocpncdheaa
