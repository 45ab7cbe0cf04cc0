/-
  A row of plain instructions, pairs, bodies and reaches, with an End behind it, may be: plain facts.
-/
import Derived.Test.YteikdocpncdheaaGood
namespace Go.Proofs.Yteikdocpncdheaa

def E0 : In := (0, 0, 0, 0)
theorem gt_end (l : List In) : gt (l ++ [E0]) l.length = E0 := by rw [gt_right (Nat.le_refl _)]; simp [gt]
theorem gt_low {l : List In} {i : Nat} (h : i ≠ l.length) : gt (l ++ [E0]) i = gt l i := by
  by_cases hi : i < l.length
  · exact gt_left hi
  · rw [gt_out (by simp; omega), gt_out (by omega)]
theorem rch_low (l : List In) (i : Nat) : rch (gt (l ++ [E0]) i) = rch (gt l i) := by
  by_cases h : i = l.length
  · subst h; rw [gt_end, rch_out (Nat.le_refl _)]; rfl
  · rw [gt_low h]
theorem inA_low (l : List In) (f i : Nat) : inA (l ++ [E0]) f i = inA l f i := by unfold inA; rw [rch_low]
theorem cntN_le_one {n : Nat} {p : Nat → Bool} (h : ∀ f g, p f = true → p g = true → f = g) : cntN n p ≤ 1 := by
  induction n with
  | zero => simp [cntN]
  | succ n ih =>
    by_cases hn : p n = true
    · have : cntN n p = 0 := by
        unfold cntN
        rw [List.length_eq_zero_iff, List.filter_eq_nil_iff]
        intro f hf hp
        have := h f n hp hn
        simp at hf
        omega
      rw [cntN_yes hn]; omega
    · rw [cntN_no (by simpa using hn)]; exact ih
theorem scL_low (l : List In) (i : Nat) : scL (l ++ [E0]) i = scL l i := by
  unfold scL scA
  simp only [inA_low]

theorem gd_row {l : List In} (h : Gd l) (hl : l.length ≤ 23) : rowB (l ++ [E0]) = true := by
  unfold rowB
  rw [allN_iff.2 ?_]
  · simp; omega
  · intro i hi
    simp at hi
    by_cases e : i = l.length
    · subst e
      rw [gt_end]
      simp [E0]
      decide
    · rw [gt_low e]
      have hi' : i < l.length := by omega
      have h1 : mayB (gt l i) = true := by rw [gt_eq hi']; exact all_get (allW_B h.may) hi'
      have h2 := h.fin i hi'
      have h3 : ((gt l i).1 == 0) = false := by simpa using h2
      rw [h1, h3]
      simp
      omega
theorem ahd_snoc (l : List In) : ahd (l ++ [E0]) = l := by simp [ahd]
theorem gt_sub {l : List In} {a b j : Nat} (h : j < b) : gt ((l.drop a).take b) j = gt l (a + j) := by
  unfold gt
  simp [List.getD_eq_getElem?_getD, h, List.getElem?_drop]
theorem gd_reach {l : List In} (h : Gd l) {i : Nat} (hi : i < l.length) : reachI (gt l i) = (rch (gt l i) : Int) := by
  rw [gt_eq hi]
  exact (rch_eq (all_get (allW_B h.may) hi)).symm
theorem gd_nest {l : List In} (h : Gd l) : nestB (l ++ [E0]) = true := by
  unfold nestB
  rw [ahd_snoc, Bool.and_eq_true]
  constructor
  · refine allN_iff.2 (fun i hi => decide_eq_true ?_)
    have := h.area i hi
    rw [gd_reach h hi]
    omega
  · refine allN_iff.2 (fun i hi => ?_)
    simp at hi
    rw [rch_low]
    have ha := h.area i hi
    have hlen : ((l.drop (i + 1)).take (rch (gt l i))).length = rch (gt l i) := by simp; omega
    refine allN_iff.2 (fun j hj => decide_eq_true ?_)
    rw [hlen] at hj ⊢
    rw [gt_sub hj]
    have hin : inA l i (i + 1 + j) = true := inA_iff.2 (by omega)
    have := h.flat i _ hin
    rw [gd_reach h (by omega), this]
    omega
theorem gd_shal {l : List In} (h : Gd l) : shalB (l ++ [E0]) = true := by
  refine allN_iff.2 (fun i hi => decide_eq_true ?_)
  have : bodN (l ++ [E0]) i 24 ≤ 1 := by
    refine cntN_le_one (fun f g hf hg => ?_)
    rw [Bool.and_eq_true, inA_low] at hf hg
    have hf' := inA_iff.1 hf.1
    have hg' := inA_iff.1 hg.1
    by_cases h1 : f < g
    · have := h.flat f g (inA_iff.2 (by omega)); omega
    · by_cases h2 : g < f
      · have := h.flat g f (inA_iff.2 (by omega)); omega
      · omega
  omega

/-- what is held ahead of instruction i -/
def stO (l : List In) (i : Nat) : List Nat := if 1 ≤ i ∧ (gt l (i - 1)).1 = 9 then [i - 1] else if 2 ≤ i ∧ (gt l (i - 2)).1 = 9 then [i - 2] else []
theorem gt_op_low {l : List In} (i : Nat) (k : Int) (_hk : k ≠ 0) : (gt (l ++ [E0]) i).1 = k ↔ (gt l i).1 = k := by
  by_cases e : i = l.length
  · subst e
    rw [gt_end, gt_out (Nat.le_refl _)]
    rfl
  · rw [gt_low e]
theorem gd_lt {l : List In} {i : Nat} {k : Int} (h : (gt l i).1 = k) (hk : k ≠ 0) : i < l.length := by
  apply Decidable.byContradiction
  intro hn
  rw [gt_out (by omega)] at h
  exact hk h.symm
theorem gd_run {l : List In} (h : Gd l) : ∀ i, i ≤ l.length + 1 → runO (l ++ [E0]) i = some (stO l i)
  | 0, _ => by simp [runO, stO]
  | i + 1, hi => by
    have ih := gd_run h i (by omega)
    have hs : runO (l ++ [E0]) (i + 1) = stepO (l ++ [E0]) i (stO l i) := by
      show (runO _ i).bind _ = _
      rw [ih]
      rfl
    rw [hs]
    unfold stepO
    by_cases h9 : (gt l i).1 = 9
    · have hi' := gd_lt h9 (by decide)
      rw [if_pos ((gt_op_low i 9 (by decide)).2 h9)]
      have e1 : ¬ (1 ≤ i ∧ (gt l (i - 1)).1 = 9) := by
        rintro ⟨a1, a2⟩
        have := h.lock (i - 1) (by omega) a2
        rw [show i - 1 + 1 = i by omega] at this
        omega
      have e2 : ¬ (2 ≤ i ∧ (gt l (i - 2)).1 = 9) := by
        rintro ⟨a1, a2⟩
        have := h.lock (i - 2) (by omega) a2
        rw [show i - 2 + 2 = i by omega] at this
        omega
      have : stO l i = [] := by unfold stO; rw [if_neg e1, if_neg e2]
      rw [this]
      have h2 : stO l (i + 1) = [i] := by unfold stO; rw [if_pos ⟨by omega, by rw [Nat.add_sub_cancel]; exact h9⟩, Nat.add_sub_cancel]
      rw [h2]
      rfl
    · rw [if_neg (fun e => h9 ((gt_op_low i 9 (by decide)).1 e))]
      by_cases h10 : (gt l i).1 = 10
      · have hi' := gd_lt h10 (by decide)
        rw [if_pos ((gt_op_low i 10 (by decide)).2 h10)]
        obtain ⟨a1, a2⟩ := h.un i hi' h10
        obtain ⟨b1, b2, b3, b4⟩ := h.lock (i - 2) (by omega) a2
        rw [show i - 2 + 2 = i by omega] at b1 b2 b3
        rw [show i - 2 + 1 = i - 1 by omega] at b4
        have e1 : stO l i = [i - 2] := by unfold stO; rw [if_neg (by omega), if_pos ⟨a1, a2⟩]
        have e2 : stO l (i + 1) = [] := by
          unfold stO
          rw [if_neg (by rw [Nat.add_sub_cancel]; omega), if_neg (by rw [show i + 1 - 2 = i - 1 by omega]; omega)]
        rw [e1, e2]
        simp only [List.getLast?_singleton, List.dropLast_singleton]
        rw [if_pos]
        refine ⟨?_, ?_⟩
        · rw [gt_low (by omega), gt_low (by omega)]; exact b3.symm
        · rw [scL_low, scL_low, scL_eq]
          intro f _
          have := h.scope f (i - 2) (by omega) a2
          rw [show i - 2 + 2 = i by omega] at this
          exact this
      · rw [if_neg (fun e => h10 ((gt_op_low i 10 (by decide)).1 e))]
        congr 1
        unfold stO
        rw [if_neg (c := 1 ≤ i + 1 ∧ (gt l (i + 1 - 1)).1 = 9) (by rw [Nat.add_sub_cancel]; exact fun e => h9 e.2)]
        by_cases e1 : 1 ≤ i ∧ (gt l (i - 1)).1 = 9
        · rw [if_pos e1, if_pos (by rw [show i + 1 - 2 = i - 1 by omega]; exact ⟨by omega, e1.2⟩), show i + 1 - 2 = i - 1 by omega]
        · have e3 : ¬ (2 ≤ i ∧ (gt l (i - 2)).1 = 9) := by
            rintro ⟨a1, a2⟩
            have := h.lock (i - 2) (gd_lt a2 (by decide)) a2
            rw [show i - 2 + 2 = i by omega] at this
            omega
          rw [if_neg e1, if_neg e3, if_neg (by rw [show i + 1 - 2 = i - 1 by omega]; omega)]
theorem gd_ok {l : List In} (h : Gd l) : okP (l ++ [E0]) = true := by
  unfold okP
  have := gd_run h (l.length + 1) (Nat.le_refl _)
  rw [List.length_append]
  refine decide_eq_true (this.trans ?_)
  have e1 : ¬ (1 ≤ l.length + 1 ∧ (gt l (l.length + 1 - 1)).1 = 9) := by
    rw [Nat.add_sub_cancel, gt_out (Nat.le_refl _)]
    simp [z4]
  have e2 : ¬ (2 ≤ l.length + 1 ∧ (gt l (l.length + 1 - 2)).1 = 9) := by
    rintro ⟨a1, a2⟩
    have := h.lock _ (gd_lt a2 (by decide)) a2
    omega
  unfold stO
  rw [if_neg e1, if_neg e2]
theorem gd_out {l : List In} (h : Gd l) : ∀ m, m ≤ l.length + 1 → ∀ k, k < l.length + 1 → (outO (l ++ [E0]) m).getD k 0 = if (gt l k).1 = 9 ∧ k + 3 ≤ m then (k : Int) + 2 else 0
  | 0, _, k, hk => by
    rw [if_neg (by omega)]
    show (List.replicate _ (0 : Int)).getD k 0 = 0
    simp [List.getD_eq_getElem?_getD, List.getElem?_replicate]
    split <;> rfl
  | m + 1, hm, k, hk => by
    have ih := gd_out h m (by omega) k hk
    show (if (gt (l ++ [E0]) m).1 = 10 then _ else _ : List Int).getD k 0 = _
    by_cases h10 : (gt l m).1 = 10
    · have hm' := gd_lt h10 (by decide)
      rw [if_pos ((gt_op_low m 10 (by decide)).2 h10), gd_run h m (by omega)]
      obtain ⟨a1, a2⟩ := h.un m hm' h10
      obtain ⟨b1, b2, b3, b4⟩ := h.lock (m - 2) (by omega) a2
      rw [show m - 2 + 1 = m - 1 by omega] at b4
      have e1 : stO l m = [m - 2] := by unfold stO; rw [if_neg (by omega), if_pos ⟨a1, a2⟩]
      rw [e1]
      simp only [Option.bind_some, List.getLast?_singleton]
      have hlen : (outO (l ++ [E0]) m).length = l.length + 1 := by rw [outO_len]; simp
      by_cases e : k = m - 2
      · subst e
        rw [if_pos ⟨a2, by omega⟩]
        rw [List.getD_eq_getElem?_getD, List.getElem?_set_self (by omega)]
        simp
        omega
      · rw [List.getD_eq_getElem?_getD, List.getElem?_set_ne (fun h => e h.symm), ← List.getD_eq_getElem?_getD, ih]
        have : ((gt l k).1 = 9 ∧ k + 3 ≤ m) ↔ ((gt l k).1 = 9 ∧ k + 3 ≤ m + 1) := by
          constructor
          · exact fun h => ⟨h.1, by omega⟩
          · rintro ⟨c1, c2⟩
            exact ⟨c1, by omega⟩
        simp only [this]
    · rw [if_neg (fun e => h10 ((gt_op_low m 10 (by decide)).1 e)), ih]
      have : ((gt l k).1 = 9 ∧ k + 3 ≤ m) ↔ ((gt l k).1 = 9 ∧ k + 3 ≤ m + 1) := by
        constructor
        · exact fun h => ⟨h.1, by omega⟩
        · rintro ⟨c1, c2⟩
          refine ⟨c1, ?_⟩
          have := h.lock k (gd_lt c1 (by decide)) c1
          by_cases e : k + 2 = m
          · rw [e] at this; omega
          · omega
      simp only [this]
theorem gd_marks {l : List In} (h : Gd l) : markB (l ++ [E0]) = true := by
  refine allN_iff.2 (fun i hi => ?_)
  rw [List.length_append] at hi
  simp at hi
  by_cases h11 : (gt l i).1 = 11
  · have hi' := gd_lt h11 (by decide)
    have e1 : scL (l ++ [E0]) i = List.replicate 24 0 := by rw [scL_low]; exact scL_zero.2 (fun f _ => h.mark f i hi' h11)
    have e2 : betw (pairL (l ++ [E0])) i = false := by
      refine anyN_no.2 (fun k hk => ?_)
      have hlen : (pairL (l ++ [E0])).length = l.length + 1 := by unfold pairL; rw [outO_len]; simp
      rw [hlen] at hk
      have ho : (pairL (l ++ [E0])).getD k 0 = if (gt l k).1 = 9 ∧ k + 3 ≤ l.length + 1 then (k : Int) + 2 else 0 := by
        unfold pairL
        rw [List.length_append]
        exact gd_out h (l.length + 1) (Nat.le_refl _) k hk
      rw [ho]
      by_cases h9 : (gt l k).1 = 9 ∧ k + 3 ≤ l.length + 1
      · rw [if_pos h9]
        have := h.lock k (gd_lt h9.1 (by decide)) h9.1
        by_cases e : i = k + 1
        · subst e; omega
        · by_cases hki : k < i
          · have : ¬ (i : Int) < (k : Int) + 2 := by omega
            simp [this]
          · simp [hki]
      · rw [if_neg h9]
        have : ¬ (i : Int) < 0 := by omega
        simp [this]
    rw [e1, e2]
    simp
  · have : ((gt (l ++ [E0]) i).1 == 11) = false := by
      rw [beq_eq_false_iff_ne]
      exact fun e => h11 ((gt_op_low i 11 (by decide)).1 e)
    rw [this]
    rfl
theorem gd_may {l : List In} (h : Gd l) (hl : l.length ≤ 23) : okB (l ++ [E0]) = true := by
  unfold okB
  rw [gd_row h hl, gd_nest h, gd_shal h, gd_ok h, gd_marks h]
  rfl
end Go.Proofs.Yteikdocpncdheaa
