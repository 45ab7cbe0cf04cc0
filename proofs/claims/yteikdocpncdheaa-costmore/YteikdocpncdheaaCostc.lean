/-
  One more plain instruction, or one more Mark, ahead of a program: plain facts.
-/
import Derived.Test.YteikdocpncdheaaCostp
namespace Go.Proofs.Yteikdocpncdheaa

theorem inB_cons {x : In} {l : List In} {f i : Nat} : inB (x :: l) (f + 1) (i + 1) = inB l f i := by
  rw [Bool.eq_iff_iff, inB_iff, inB_iff, gt_cons]
  omega
theorem inB_first {x : In} {l : List In} (hx : x.1 ≠ 8) {i : Nat} : inB (x :: l) 0 i = false := by
  rw [inB_no, gt_zero]
  exact fun h => hx h.2
theorem wtA_cons {x : In} {l : List In} (hx : x.1 ≠ 8) {i : Nat} : ∀ {k : Nat}, wtA (x :: l) 0 (i + 1) (k + 1) = wtA l 0 i k
  | 0 => by rw [wtA_no (inB_first hx)]; rfl
  | k + 1 => by
    have ih := wtA_cons hx (l := l) (i := i) (k := k)
    cases hb : inB l k i with
    | true =>
      rw [wtA_yes (by omega) hb, wtA_yes (k := k + 1) (by omega) (by rw [inB_cons]; exact hb), ih]
      unfold nOf
      rw [gt_cons]
    | false => rw [wtA_no hb, wtA_no (k := k + 1) (by rw [inB_cons]; exact hb), ih]
theorem wt_cons {x : In} {l : List In} (hx : x.1 ≠ 8) {i : Nat} : wt (x :: l) 0 (i + 1) = wt l 0 i := wtA_cons hx
theorem Sm_cons {x : In} {l : List In} (hx : x.1 ≠ 8) {a : Nat} : ∀ {b : Nat}, a ≤ b → Sm (x :: l) 0 (a + 1) (b + 1) = Sm l 0 a b
  | 0, h => by
    obtain rfl : a = 0 := by omega
    rw [Sm_nil, Sm_nil]
  | b + 1, h => by
    by_cases e : a = b + 1
    · subst e; rw [Sm_nil, Sm_nil]
    · rw [Sm_succ (l := x :: l) (b := b + 1) (by omega), Sm_succ (l := l) (b := b) (by omega), Sm_cons hx (b := b) (by omega), wt_cons hx]
theorem Sm_all {x : In} {l : List In} (hx : x.1 ≠ 8) (b : Nat) : Sm (x :: l) 0 0 (b + 1) = 1 + Sm l 0 0 b := by
  rw [Sm_first (by omega), Sm_cons hx (by omega)]
  rfl
theorem tk_cons {x : In} {l : List In} (hx : x.1 ≠ 8) : tk (x :: l) = tk l + 1 := by
  unfold tk
  rw [List.length_cons, Sm_all hx]
  omega
theorem isM_cons {x : In} {l : List In} {k : Nat} : isM (x :: l) (k + 1) = isM l k := by unfold isM; rw [gt_cons]
theorem spL_cons {x : In} {l : List In} (hx : x.1 ≠ 9) : ∀ k, (spL (x :: l) (k + 1)).length = (spL l k).length
  | 0 => by rw [spL_no (by rw [gt_zero]; exact hx)]; rfl
  | k + 1 => by
    have ih := spL_cons (l := l) hx k
    by_cases h9 : (gt l k).1 = 9
    · rw [spL_yes h9, spL_yes (k := k + 1) (by rw [gt_cons]; exact h9), List.length_append, List.length_append, ih]
      rfl
    · rw [spL_no h9, spL_no (k := k + 1) (by rw [gt_cons]; exact h9), ih]
theorem mark_cons {x : In} {l : List In} (hx : x.1 = 11) : ∀ k, frs (x :: l) (k + 1) = frs l k + 1 ∧ lgs (x :: l) (k + 1) = max 1 (lgs l k)
  | 0 => by
    have hm : isM (x :: l) 0 = true := by unfold isM; rw [gt_zero, hx]; rfl
    rw [(frs_yes hm).1, (frs_yes hm).2]
    refine ⟨rfl, ?_⟩
    show max 0 (Sm (x :: l) 0 0 1) = max 1 0
    rw [Sm_all (by omega), Sm_nil]
    rfl
  | k + 1 => by
    obtain ⟨i1, i2⟩ := mark_cons (l := l) hx k
    cases hm : isM l k with
    | true =>
      have hm' : isM (x :: l) (k + 1) = true := by rw [isM_cons]; exact hm
      rw [(frs_yes hm).1, (frs_yes hm).2, (frs_yes hm').1, (frs_yes hm').2, i1, i2, Sm_cons (by omega) (by have := frs_le l k; omega)]
      exact ⟨rfl, by omega⟩
    | false =>
      have hm' : isM (x :: l) (k + 1) = false := by rw [isM_cons]; exact hm
      rw [(frs_no hm).1, (frs_no hm).2, (frs_no hm').1, (frs_no hm').2, i1, i2]
      exact ⟨rfl, rfl⟩
theorem set_cons {x : In} {l : List In} (hx : x.1 = 1) : ∀ k, ((frs l k = 0 ∧ frs (x :: l) (k + 1) = 0) ∨ (frs l k ≠ 0 ∧ frs (x :: l) (k + 1) = frs l k + 1)) ∧ lgs l k ≤ lgs (x :: l) (k + 1) ∧ lgs (x :: l) (k + 1) ≤ lgs l k + 1
  | 0 => by
    have hm : isM (x :: l) 0 = false := by unfold isM; rw [gt_zero, hx]; rfl
    rw [(frs_no hm).1, (frs_no hm).2]
    exact ⟨.inl ⟨rfl, rfl⟩, Nat.le_refl _, by simp [lgs]⟩
  | k + 1 => by
    obtain ⟨i1, i2, i3⟩ := set_cons (l := l) hx k
    cases hm : isM l k with
    | true =>
      have hm' : isM (x :: l) (k + 1) = true := by rw [isM_cons]; exact hm
      rw [(frs_yes hm).1, (frs_yes hm).2, (frs_yes hm').1, (frs_yes hm').2]
      refine ⟨.inr ⟨by omega, rfl⟩, ?_⟩
      rcases i1 with ⟨a, b⟩ | ⟨a, b⟩
      · rw [a, b, Sm_all (by omega)]
        omega
      · rw [b, Sm_cons (by omega) (by have := frs_le l k; omega)]
        omega
    | false =>
      have hm' : isM (x :: l) (k + 1) = false := by rw [isM_cons]; exact hm
      rw [(frs_no hm).1, (frs_no hm).2, (frs_no hm').1, (frs_no hm').2]
      exact ⟨i1, i2, i3⟩
theorem lgs_pos {l : List In} (hP : Prg l) : 1 ≤ lgs l l.length := by
  have hle := hP.le
  obtain ⟨k, hk⟩ : ∃ k, l.length = k + 1 := ⟨l.length - 1, by omega⟩
  rw [hk]
  have h0 : (gt l k).1 = 0 := (hP.ins k (by omega)).2.2 hk.symm
  have hm : isM l k = true := by unfold isM; rw [h0]; rfl
  rw [(frs_yes hm).2, Sm_succ (frs_le l k)]
  have := wt_pos hP.all (lo := 0) (i := k)
  omega
end Go.Proofs.Yteikdocpncdheaa
