/-
  A machine's way through a program that may be: where it is, what is repeated, and that it comes to its end: plain facts.
-/
import Derived.Test.YteikdocpncdheaaEndm
namespace Go.Proofs.Yteikdocpncdheaa

abbrev Rp := Int × Int × Int
/-- what is left to be repeated (the innermost first), when the machine comes to pc -/
def normR (pc : Int) : List Rp → Int × List Rp
  | [] => (pc, [])
  | x :: r => if x.2.1 < pc then (if 0 < x.2.2 then (x.1, (x.1, x.2.1, x.2.2 - 1) :: r) else normR pc r) else (pc, x :: r)
theorem normR_len (pc : Int) : ∀ R, (normR pc R).2.length ≤ R.length
  | [] => Nat.le_refl _
  | x :: r => by
    unfold normR
    split
    · split
      · simp
      · have := normR_len pc r; simp; omega
    · simp
/-- each is a body around pc, one in the other -/
def Ch (l : List In) (pc : Nat) : Nat → List Rp → Prop
  | _, [] => True
  | ub, r :: R => ∃ f : Nat, f < ub ∧ (gt l f).1 = 8 ∧ r.1 = (f : Int) + 1 ∧ r.2.1 = (f : Int) + rch (gt l f) ∧ 0 ≤ r.2.2 ∧ r.2.2 ≤ 2 ∧ inA l f pc = true ∧ Ch l pc f R
/-- .. or one that ends right ahead of it -/
def Cw (l : List In) (nx : Nat) : Nat → List Rp → Prop
  | _, [] => True
  | ub, r :: R => ∃ f : Nat, f < ub ∧ (gt l f).1 = 8 ∧ r.1 = (f : Int) + 1 ∧ r.2.1 = (f : Int) + rch (gt l f) ∧ 0 ≤ r.2.2 ∧ r.2.2 ≤ 2 ∧ f + 1 ≤ nx ∧ nx ≤ f + rch (gt l f) + 1 ∧ Cw l nx f R
theorem cntN_mono {p : Nat → Bool} {a : Nat} : ∀ {b : Nat}, a ≤ b → cntN a p ≤ cntN b p
  | 0, h => by obtain rfl : a = 0 := by omega
               exact Nat.le_refl _
  | b + 1, h => by
    by_cases e : a = b + 1
    · subst e; exact Nat.le_refl _
    · have ih := cntN_mono (p := p) (a := a) (b := b) (by omega)
      cases hp : p b with
      | true => rw [cntN_yes hp]; omega
      | false => rw [cntN_no hp]; exact ih
theorem ch_len {l : List In} {pc : Nat} : ∀ {R : List Rp} {ub : Nat}, Ch l pc ub R → R.length ≤ cntN ub fun f => inA l f pc && (gt l f).1 == 8
  | [], _, _ => Nat.zero_le _
  | r :: R, ub, h => by
    obtain ⟨f, h1, h2, _, _, _, _, h3, h4⟩ := h
    have ih := ch_len h4
    have hy := cntN_yes (n := f) (p := fun f => inA l f pc && (gt l f).1 == 8) (by simp [h3, h2])
    have hm := cntN_mono (p := fun f => inA l f pc && (gt l f).1 == 8) (show f + 1 ≤ ub from h1)
    simp only [List.length_cons]
    omega
theorem ch_none {l : List In} {pc : Nat} (h : ∀ f, f < 24 → inA l f pc = false) (hl : l.length ≤ 24) {R : List Rp} {ub : Nat} (hc : Ch l pc ub R) : R = [] := by
  cases R with
  | nil => rfl
  | cons r R =>
    obtain ⟨f, h1, h2, _, _, _, _, h3, h4⟩ := hc
    have : f < l.length := by
      apply Decidable.byContradiction
      intro hn
      rw [gt_out (by omega)] at h2
      cases h2
    rw [h f (by omega)] at h3
    cases h3
theorem is_ar {l : List In} {f : Nat} (h : (gt l f).1 = 8 ∨ (gt l f).1 = 7) : f ∈ arI l l.length := by
  have : isAr l f = true := by unfold isAr; rcases h with h | h <;> simp [h]
  exact arI_mem.2 ⟨isAr_lt this, this⟩
theorem rch_pos {l : List In} (hP : Prg l) {f : Nat} (h : f ∈ arI l l.length) : 1 ≤ rch (gt l f) := by
  have hf := arI_mem.1 h
  have hm := may_iff.1 (hP.ins f hf.1).1
  have := rch_eq (hP.ins f hf.1).1
  have h2 := hf.2
  unfold isAr at h2
  unfold reachI at this
  unfold mayP at hm
  simp at h2
  rcases h2 with h2 | h2
  · rw [if_neg (by omega), if_pos h2] at this; omega
  · rw [if_pos h2] at this; omega
/-- f is in f2's body -/
theorem cw_in {l : List In} (hP : Prg l) {f f2 nx : Nat} (hf : f ∈ arI l l.length) (hf2 : f2 ∈ arI l l.length) (h1 : f2 < f) (h2 : f + 1 ≤ nx) (h3 : nx ≤ f2 + rch (gt l f2) + 1) : f + rch (gt l f) ≤ f2 + rch (gt l f2) := hP.nest.2 f2 hf2 f hf (inA_iff.2 (by omega))
theorem cw_back {l : List In} (hP : Prg l) {f nx : Nat} (hf : f ∈ arI l l.length) (h2 : f + 1 ≤ nx) : ∀ {R : List Rp} {ub : Nat}, ub ≤ f → Cw l nx ub R → Ch l (f + 1) ub R
  | [], _, _, _ => trivial
  | r :: R, ub, hu, h => by
    obtain ⟨f2, k1, k2, k3, k4, k5, k6, k7, k8, k9⟩ := h
    have hin := cw_in hP hf (is_ar (.inl k2)) (by omega) h2 k8
    have hp := rch_pos hP hf
    exact ⟨f2, k1, k2, k3, k4, k5, k6, inA_iff.2 (by omega), cw_back hP hf h2 (by omega) k9⟩
theorem cw_stay {l : List In} (hP : Prg l) {f nx : Nat} (hf : f ∈ arI l l.length) (h2 : f + 1 ≤ nx) (h3 : nx ≤ f + rch (gt l f)) : ∀ {R : List Rp} {ub : Nat}, ub ≤ f → Cw l nx ub R → Ch l nx ub R
  | [], _, _, _ => trivial
  | r :: R, ub, hu, h => by
    obtain ⟨f2, k1, k2, k3, k4, k5, k6, k7, k8, k9⟩ := h
    have hin := cw_in hP hf (is_ar (.inl k2)) (by omega) h2 k8
    exact ⟨f2, k1, k2, k3, k4, k5, k6, inA_iff.2 (by omega), cw_stay hP hf h2 h3 (by omega) k9⟩
theorem norm_ok {l : List In} (hP : Prg l) {nx : Nat} (hn : nx < l.length) : ∀ {R : List Rp} {ub : Nat}, ub ≤ nx → Cw l nx ub R →
    ∃ pc : Nat, (normR nx R).1 = (pc : Int) ∧ pc < l.length ∧ Ch l pc pc (normR nx R).2 ∧ opn l pc = opn l nx
  | [], _, _, _ => ⟨nx, rfl, hn, trivial, rfl⟩
  | r :: R, ub, hu, h => by
    obtain ⟨f, k1, k2, k3, k4, k5, k6, k7, k8, k9⟩ := h
    have hf := is_ar (.inl k2)
    have hp := rch_pos hP hf
    have hle := hP.le
    have har := hP.nest.1 f hf
    unfold normR
    by_cases c1 : r.2.1 < (nx : Int)
    · rw [if_pos c1]
      have hnx : nx = f + rch (gt l f) + 1 := by omega
      by_cases c2 : 0 < r.2.2
      · rw [if_pos c2]
        refine ⟨f + 1, by rw [k3]; rfl, by omega, ⟨f, by omega, k2, k3, k4, by simp only; omega, by simp only; omega, inA_iff.2 (by omega), cw_back hP hf k7 (Nat.le_refl _) k9⟩, ?_⟩
        rw [hnx]
        exact (opn_area hP.pair hle.2 (by omega)).symm
      · rw [if_neg c2]
        exact norm_ok hP hn (by omega) k9
    · rw [if_neg c1]
      exact ⟨nx, rfl, hn, ⟨f, by omega, k2, k3, k4, k5, k6, inA_iff.2 (by omega), cw_stay hP hf k7 (by omega) (Nat.le_refl _) k9⟩, rfl⟩
/-- one further, or behind a reach -/
theorem ch_next {l : List In} (hP : Prg l) {pc nx : Nat} (hpc : pc < l.length) (hnx : nx = pc + 1 ∨ nx = pc + rch (gt l pc) + 1) : ∀ {R : List Rp} {ub : Nat}, ub ≤ pc → Ch l pc ub R → Cw l nx ub R
  | [], _, _, _ => trivial
  | r :: R, ub, hu, h => by
    obtain ⟨f, k1, k2, k3, k4, k5, k6, k7, k8⟩ := h
    have hin := inA_iff.1 k7
    refine ⟨f, k1, k2, k3, k4, k5, k6, by omega, ?_, ch_next hP hpc hnx (by omega) k8⟩
    rcases hnx with rfl | rfl
    · omega
    · by_cases ha : isAr l pc = true
      · have := hP.nest.2 f (is_ar (.inl k2)) pc (arI_mem.2 ⟨hpc, ha⟩) k7
        omega
      · rw [isAr_no (by simpa using ha)]
        omega
def phi (n pc : Int) : List Rp → Int
  | [] => 9 * (n - pc)
  | [a] => 9 * (n - (a.2.1 + 1)) + 3 * (a.2.2 * (a.2.1 - a.1 + 1) + (a.2.1 + 1 - pc))
  | b :: a :: _ => 9 * (n - (a.2.1 + 1)) + 3 * (a.2.2 * (a.2.1 - a.1 + 1) + (a.2.1 - b.2.1)) + (b.2.2 * (b.2.1 - b.1 + 1) + (b.2.1 + 1 - pc))
theorem mul_one_less (a b : Int) : (a - 1) * b = a * b - b := by rw [Int.sub_mul, Int.one_mul]
theorem phi_norm {l : List In} (n : Int) {nx ub : Nat} {R : List Rp} (h : Cw l nx ub R) (hl : R.length ≤ 2) : phi n (normR nx R).1 (normR nx R).2 = phi n nx R := by
  match R, h, hl with
  | [], _, _ => rfl
  | [a], h, _ =>
    obtain ⟨f, k1, k2, k3, k4, k5, k6, k7, k8, k9⟩ := h
    unfold normR
    by_cases c1 : a.2.1 < (nx : Int)
    · rw [if_pos c1]
      have hx : (nx : Int) = a.2.1 + 1 := by omega
      by_cases c2 : 0 < a.2.2
      · rw [if_pos c2]
        simp only [phi, mul_one_less, hx]
        omega
      · rw [if_neg c2]
        have : a.2.2 = 0 := by omega
        simp only [normR, phi, hx, this]
        omega
    · rw [if_neg c1]
  | [b, a], h, _ =>
    obtain ⟨f, k1, k2, k3, k4, k5, k6, k7, k8, k9⟩ := h
    obtain ⟨g, q1, q2, q3, q4, q5, q6, q7, q8, q9⟩ := k9
    unfold normR
    by_cases c1 : b.2.1 < (nx : Int)
    · rw [if_pos c1]
      have hx : (nx : Int) = b.2.1 + 1 := by omega
      by_cases c2 : 0 < b.2.2
      · rw [if_pos c2]
        simp only [phi, mul_one_less, hx]
        omega
      · rw [if_neg c2]
        have hb : b.2.2 = 0 := by omega
        have e0 : phi n nx [b, a] = phi n nx [a] := by
          simp only [phi, hx, hb]
          omega
        rw [e0]
        unfold normR
        by_cases c3 : a.2.1 < (nx : Int)
        · rw [if_pos c3]
          have hx2 : (nx : Int) = a.2.1 + 1 := by omega
          by_cases c4 : 0 < a.2.2
          · rw [if_pos c4]
            simp only [phi, mul_one_less, hx2]
            omega
          · rw [if_neg c4]
            have : a.2.2 = 0 := by omega
            simp only [normR, phi, hx2, this]
            omega
        · rw [if_neg c3]
    · rw [if_neg c1]
theorem phi_less (n : Int) {pc nx : Int} (h : pc < nx) : ∀ R : List Rp, phi n nx R + 1 ≤ phi n pc R
  | [] => by simp only [phi]; omega
  | [a] => by simp only [phi]; omega
  | b :: a :: r => by simp only [phi]; omega
theorem phi_pos {l : List In} {pc : Nat} (hpc : pc < l.length) (hP : Prg l) : ∀ {R : List Rp}, Ch l pc pc R → R.length ≤ 2 → 1 ≤ phi l.length pc R
  | [], _, _ => by simp only [phi]; omega
  | [a], h, _ => by
    obtain ⟨f, k1, k2, k3, k4, k5, k6, k7, k8⟩ := h
    have hin := inA_iff.1 k7
    have har := hP.nest.1 f (is_ar (.inl k2))
    have : 0 ≤ a.2.2 * (a.2.1 - a.1 + 1) := Int.mul_nonneg k5 (by omega)
    simp only [phi]
    omega
  | [b, a], h, _ => by
    obtain ⟨f, k1, k2, k3, k4, k5, k6, k7, g, q1, q2, q3, q4, q5, q6, q7, q8⟩ := h
    have hin := inA_iff.1 k7
    have hin2 := inA_iff.1 q7
    have har := hP.nest.1 g (is_ar (.inl q2))
    have hn := hP.nest.2 g (is_ar (.inl q2)) f (is_ar (.inl k2)) (inA_iff.2 (by omega))
    have h1 : 0 ≤ a.2.2 * (a.2.1 - a.1 + 1) := Int.mul_nonneg q5 (by omega)
    have h2 : 0 ≤ b.2.2 * (b.2.1 - b.1 + 1) := Int.mul_nonneg k5 (by omega)
    simp only [phi]
    omega
  | _ :: _ :: _ :: _, _, h => by simp at h
theorem body_two {l : List In} (hP : Prg l) {pc : Nat} (hpc : pc < l.length) {R : List Rp} (hC : Ch l pc pc R) : R.length ≤ 2 := by
  have h1 := ch_len hC
  have h2 := hP.shal pc hpc
  have h3 := cntN_mono (p := fun f => inA l f pc && (gt l f).1 == 8) (show pc ≤ 24 by have := hP.le; omega)
  unfold bodN at h2
  omega
/-- One step, whatever it is but an End. -/
theorem mach {l : List In} (hP : Prg l) {pc : Nat} (hpc : pc + 1 < l.length) {R : List Rp} (hC : Ch l pc pc R) {nx : Nat} (hnx : nx = pc + 1 ∨ (gt l pc).1 = 7 ∧ nx = pc + rch (gt l pc) + 1) :
    ∃ pc' : Nat, (normR nx R).1 = (pc' : Int) ∧ pc' < l.length ∧ Ch l pc' pc' (normR nx R).2 ∧ opn l pc' = opn l (pc + 1) ∧ phi l.length pc' (normR nx R).2 + 1 ≤ phi l.length pc R := by
  have hle := hP.le
  have hn : nx < l.length ∧ pc < nx ∧ opn l nx = opn l (pc + 1) := by
    rcases hnx with rfl | ⟨h7, rfl⟩
    · exact ⟨hpc, by omega, rfl⟩
    · have har := hP.nest.1 pc (is_ar (.inr h7))
      exact ⟨by omega, by omega, opn_area hP.pair hle.2 (by omega)⟩
  have hw := ch_next hP (show pc < l.length by omega) (nx := nx) (by rcases hnx with h | ⟨_, h⟩ <;> omega) (Nat.le_refl _) hC
  obtain ⟨pc', e1, e2, e3, e4⟩ := norm_ok hP hn.1 (by omega) hw
  have hl := body_two hP (show pc < l.length by omega) hC
  have hph := phi_norm (l.length : Int) hw hl
  have hle2 := phi_less (l.length : Int) (show (pc : Int) < (nx : Int) by omega) R
  refine ⟨pc', e1, e2, e3, e4.trans hn.2.2, ?_⟩
  rw [e1] at hph
  omega
/-- A Rep: its body is entered. -/
theorem mach_rep {l : List In} (hP : Prg l) {pc : Nat} (hpc : pc + 1 < l.length) {R : List Rp} (hC : Ch l pc pc R) (h8 : (gt l pc).1 = 8) (hN1 : 1 ≤ (gt l pc).2.2.2) (hN3 : (gt l pc).2.2.2 ≤ 3) :
    normR ((pc + 1 : Nat) : Int) (((pc : Int) + 1, (pc : Int) + (rch (gt l pc) : Int), (gt l pc).2.2.2 - 1) :: R) = (((pc + 1 : Nat) : Int), ((pc : Int) + 1, (pc : Int) + (rch (gt l pc) : Int), (gt l pc).2.2.2 - 1) :: R) ∧
    Ch l (pc + 1) (pc + 1) (((pc : Int) + 1, (pc : Int) + (rch (gt l pc) : Int), (gt l pc).2.2.2 - 1) :: R) ∧ phi l.length ((pc + 1 : Nat) : Int) (((pc : Int) + 1, (pc : Int) + (rch (gt l pc) : Int), (gt l pc).2.2.2 - 1) :: R) + 1 ≤ phi l.length pc R := by
  have hf := is_ar (l := l) (.inl h8)
  have hp := rch_pos hP hf
  have har := hP.nest.1 pc hf
  have hw := ch_next hP (show pc < l.length by omega) (nx := pc + 1) (.inl rfl) (Nat.le_refl _) hC
  have hCt : Ch l (pc + 1) pc R := cw_stay hP hf (Nat.le_refl _) (by omega) (Nat.le_refl _) hw
  have hCh : Ch l (pc + 1) (pc + 1) (((pc : Int) + 1, (pc : Int) + (rch (gt l pc) : Int), (gt l pc).2.2.2 - 1) :: R) := ⟨pc, by omega, h8, rfl, rfl, by simp only; omega, by simp only; omega, inA_iff.2 (by omega), hCt⟩
  refine ⟨?_, hCh, ?_⟩
  · unfold normR
    rw [if_neg (by simp only; omega)]
  · have hl := body_two hP hpc hCh
    generalize hN : (gt l pc).2.2.2 = N at *
    generalize hB : rch (gt l pc) = B at *
    have hNB : (N - 1) * ((pc : Int) + B - ((pc : Int) + 1) + 1) = N * B - B := by
      rw [show (pc : Int) + B - ((pc : Int) + 1) + 1 = B by omega, mul_one_less]
    have hNB3 : N * B ≤ 3 * B := Int.mul_le_mul_of_nonneg_right hN3 (by omega)
    match R, hl with
    | [], _ => simp only [phi, hNB]; omega
    | [a], _ => simp only [phi, hNB]; omega
    | b :: a :: r, hl => simp at hl
end Go.Proofs.Yteikdocpncdheaa
