/-
  What is held at each place of a program that may be, and that what is held behind a body or a reach is what was held ahead of it: plain facts.
-/
import Derived.Test.YteikdocpncdheaaRefm
namespace Go.Proofs.Yteikdocpncdheaa

/-- a program that may be, in the words of its areas -/
structure Prg (l : List In) : Prop where
  row : rowB l = true
  nest : nestR l
  shal : ∀ i, i < l.length → bodN l i 24 ≤ 2
  pair : okP l = true
  mark : ∀ i, i < l.length → (gt l i).1 = 11 → (∀ f, f < 24 → inA l f i = false) ∧ betw (pairL l) i = false
theorem Prg.le {l : List In} (h : Prg l) : 1 ≤ l.length ∧ l.length ≤ 24 := by
  have := h.row
  unfold rowB at this
  simp only [Bool.and_eq_true, decide_eq_true_eq] at this
  exact this.1
theorem Prg.ins {l : List In} (h : Prg l) (i : Nat) (hi : i < l.length) : mayB (gt l i) = true ∧ ((gt l i).1 = 0 ↔ i + 1 = l.length) := by
  have := h.row
  unfold rowB at this
  simp only [Bool.and_eq_true, decide_eq_true_eq, allN_iff] at this
  obtain ⟨h1, h2⟩ := this.2 i hi
  refine ⟨h1, ?_⟩
  have h3 : ((gt l i).1 == 0) = decide (i + 1 = l.length) := by simpa using h2
  rw [Bool.eq_iff_iff] at h3
  simpa using h3
theorem Prg.all {l : List In} (h : Prg l) : l.all mayB = true := by
  rw [List.all_eq_true]
  intro x hx
  obtain ⟨i, hi, rfl⟩ := List.mem_iff_getElem.1 hx
  have := (h.ins i hi).1
  rwa [gt_eq hi] at this
theorem prg_of {l : List In} (h : okB l = true) : Prg l := by
  unfold okB at h
  simp only [Bool.and_eq_true] at h
  obtain ⟨⟨⟨⟨h1, h2⟩, h3⟩, h4⟩, h5⟩ := h
  have hr := h1
  unfold rowB at hr
  simp only [Bool.and_eq_true, decide_eq_true_eq, allN_iff] at hr
  have hall : l.all mayB = true := by
    rw [List.all_eq_true]
    intro x hx
    obtain ⟨i, hi, rfl⟩ := List.mem_iff_getElem.1 hx
    have := (hr.2 i hi).1
    rwa [gt_eq hi] at this
  have hend : (gt l (l.length - 1)).1 = 0 := by
    have h6 := (hr.2 (l.length - 1) (by omega)).2
    have h7 : ((gt l (l.length - 1)).1 == 0) = decide (l.length - 1 + 1 = l.length) := by simpa using h6
    rw [decide_eq_true (by omega)] at h7
    simpa using h7
  refine ⟨h1, (nest_iff hr.1.1 hall hend).1 h2, fun i hi => of_decide_eq_true (allN_iff.1 h3 i hi), h4, fun i hi h11 => ?_⟩
  have h8 := allN_iff.1 h5 i hi
  rw [h11] at h8
  have h9 : (decide (scL l i ≠ List.replicate 24 0) || betw (pairL l) i) = false := by
    cases hh : (decide (scL l i ≠ List.replicate 24 0) || betw (pairL l) i) with
    | true => rw [hh] at h8; simp at h8
    | false => rfl
  rw [Bool.or_eq_false_iff] at h9
  refine ⟨scL_zero.1 ?_, h9.2⟩
  apply Decidable.byContradiction
  intro hn
  have := h9.1
  rw [decide_eq_true (p := scL l i ≠ List.replicate 24 0) hn] at this
  cases this

/-- what is held ahead of instruction i -/
def opn (l : List In) (i : Nat) : List Nat := (runO l i).getD []
theorem opn_run {l : List In} (h : okP l = true) {i : Nat} (hi : i ≤ l.length) : runO l i = some (opn l i) := by
  cases hr : runO l i with
  | some o => simp [opn, hr]
  | none =>
    have := runO_none hr l.length hi
    unfold okP at h
    have h2 : runO l l.length = some [] := of_decide_eq_true h
    rw [this] at h2
    cases h2
theorem opn_step {l : List In} (h : okP l = true) {i : Nat} (hi : i < l.length) : stepO l i (opn l i) = some (opn l (i + 1)) := by
  have h1 := opn_run h (Nat.le_of_lt hi)
  have h2 := opn_run h (show i + 1 ≤ l.length from hi)
  have h3 : runO l (i + 1) = stepO l i (opn l i) := by
    show (runO l i).bind _ = _
    rw [h1]
    rfl
  rw [← h3, h2]
theorem opn_end {l : List In} (h : okP l = true) : opn l l.length = [] := by
  have h2 : runO l l.length = some [] := of_decide_eq_true h
  simp [opn, h2]
theorem opn_held {l : List In} (h : okP l = true) {i : Nat} (hi : i ≤ l.length) : Held l i (opn l i) := runO_held l i _ (opn_run h hi)
theorem same_in {l : List In} {k j f : Nat} (h : scL l k = scL l j) (hf : f < 24) : inA l f k = inA l f j := scL_eq.1 h f hf

theorem opn_in {l : List In} (h : okP l = true) (hl : l.length ≤ 24) {f : Nat} (hf : f + rch (gt l f) < l.length) : ∀ j, f + 1 ≤ j → j ≤ f + rch (gt l f) + 1 → ∃ ex, opn l j = opn l (f + 1) ++ ex ∧ ∀ k ∈ ex, f + 1 ≤ k ∧ k < j
  | 0, h1, _ => by omega
  | j + 1, h1, h2 => by
    by_cases e : f + 1 = j + 1
    · rw [e]; exact ⟨[], by simp, by simp⟩
    · obtain ⟨ex, he, hk⟩ := opn_in h hl hf j (by omega) (by omega)
      have hj : j < l.length := by omega
      have hs := opn_step h hj
      rcases step_cases hs with ⟨h9, ho, _, _⟩ | ⟨h10, k, ho, hA, hsc⟩ | ⟨h9, h10, ho⟩
      · refine ⟨ex ++ [j], by rw [ho, he, List.append_assoc], fun x hx => ?_⟩
        rcases List.mem_append.1 hx with hx | hx
        · have := hk x hx; omega
        · simp at hx; omega
      · have hin : inA l f j = true := inA_iff.2 (by omega)
        rw [← same_in hsc (by omega)] at hin
        have hin := inA_iff.1 hin
        rcases last_or ex with rfl | ⟨ex1, k1, rfl⟩
        · rw [List.append_nil] at he
          have hm : k ∈ opn l (f + 1) := by rw [← he, ho]; simp
          have := (opn_held h (show f + 1 ≤ l.length by omega)).lt k hm
          omega
        · rw [ho, ← List.append_assoc] at he
          have h3 := List.append_inj' he rfl
          refine ⟨ex1, h3.1, fun x hx => ?_⟩
          have := hk x (by simp [hx])
          omega
      · exact ⟨ex, by rw [ho, he], fun x hx => by have := hk x hx; omega⟩
theorem opn_out {l : List In} (h : okP l = true) (hl : l.length ≤ 24) {f : Nat} (hf : f + rch (gt l f) < l.length) {e0 : Nat} {pre : List Nat} (h0 : opn l (f + rch (gt l f) + 1) = pre ++ [e0]) (he0 : f + 1 ≤ e0) (he1 : e0 ≤ f + rch (gt l f)) :
    ∀ j, f + rch (gt l f) + 1 ≤ j → j ≤ l.length → ∃ more, opn l j = pre ++ [e0] ++ more
  | 0, h1, _ => by omega
  | j + 1, h1, h2 => by
    by_cases e : f + rch (gt l f) + 1 = j + 1
    · rw [← e]; exact ⟨[], by simp [h0]⟩
    · obtain ⟨more, he⟩ := opn_out h hl hf h0 he0 he1 j (by omega) (by omega)
      have hj : j < l.length := by omega
      have hs := opn_step h hj
      rcases step_cases hs with ⟨h9, ho, _, _⟩ | ⟨h10, k, ho, hA, hsc⟩ | ⟨h9, h10, ho⟩
      · exact ⟨more ++ [j], by rw [ho, he]; simp⟩
      · rcases last_or more with rfl | ⟨m1, k1, rfl⟩
        · rw [List.append_nil, ho] at he
          have h3 := List.append_inj' he rfl
          have hk : k = e0 := by simpa using h3.2
          subst hk
          have h4 := same_in (f := f) hsc (by omega)
          have h5 : inA l f k = true := inA_iff.2 (by omega)
          have h6 : inA l f j = false := inA_no.2 (by omega)
          rw [h5, h6] at h4
          cases h4
        · rw [ho, ← List.append_assoc] at he
          exact ⟨m1, (List.append_inj' he rfl).1⟩
      · exact ⟨more, by rw [ho, he]⟩
/-- what is held behind a body or a reach is what is held at its beginning -/
theorem opn_area {l : List In} (h : okP l = true) (hl : l.length ≤ 24) {f : Nat} (hf : f + rch (gt l f) < l.length) : opn l (f + rch (gt l f) + 1) = opn l (f + 1) := by
  obtain ⟨ex, he, hk⟩ := opn_in h hl hf (f + rch (gt l f) + 1) (by omega) (Nat.le_refl _)
  rcases last_or ex with rfl | ⟨ex1, e0, rfl⟩
  · simpa using he
  · rw [← List.append_assoc] at he
    have hb := hk e0 (by simp)
    obtain ⟨more, hm⟩ := opn_out h hl hf he hb.1 (by omega) l.length (by omega) (Nat.le_refl _)
    rw [opn_end h] at hm
    simp at hm
end Go.Proofs.Yteikdocpncdheaa
