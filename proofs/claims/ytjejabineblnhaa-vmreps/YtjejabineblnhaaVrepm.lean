/-
  The law VmReps, walked.
-/
import Derived.Test.YtjejabineblnhaaVrunm
import Derived.WalkSpells
namespace Go.Proofs.Ytjejabineblnhaa
open Go.ChangeShapes Go.WideShapes Go.ChangeAt Go.RowKit
attribute [local go_sem ↓] Go.wp_at_zero Go.wp_at_succ

theorem stepF_go {l : List In} {pc : Nat} {mem : List Int} {R : List Rp} {x : In} (hp : pc < l.length) (hx : gt l pc = x) (hm : mayB x = true) {nx : Int} {RA : List Rp} {pcF : Int} {RF : List Rp} {memF : List Int} {ov : Bool} (h1 : nxt pc x mem = nx) (h2 : repA pc x R = RA) (h3 : normR nx RA.reverse = (pcF, RF.reverse)) (h4 : memA x mem = memF) (h5 : decide (x.1 = 0) = ov) : stepF l pc mem R false = (pcF, memF, RF, ov, x, true) := by
  subst hx
  unfold stepF
  rw [if_pos (by simp [can, hp, hm]), Int.toNat_natCast, h1, h2, h3, h4, h5]
  simp
/-- the states of the law's machine -/
inductive RS (J K : Nat) : Int → Int → Int → Int → List Rp → Bool → Nat → Prop
  | s0 : RS J K 0 9 0 0 [] false 0
  | s1 : RS J K 1 9 1 0 [] false 1
  | s2 : RS J K 2 0 1 0 [] false 2
  | A (i : Nat) (hi : i ≤ J) : RS J K 3 ((i * (1 + K) : Nat) : Int) 1 (i : Int) [(3, 5, (J : Int) - i)] false (3 + i * (3 + K))
  | B (i : Nat) (hi : i ≤ J) : RS J K 4 ((i * (1 + K) : Nat) : Int) 1 ((i + 1 : Nat) : Int) [(3, 5, (J : Int) - i)] false (4 + i * (3 + K))
  | C (i j : Nat) (hi : i ≤ J) (hj : j ≤ K) : RS J K 5 ((i * (1 + K) + j : Nat) : Int) 1 ((i + 1 : Nat) : Int) [(3, 5, (J : Int) - i), (5, 5, (K : Int) - j)] false (5 + i * (3 + K) + j)
  | D : RS J K 6 (((1 + J) * (1 + K) : Nat) : Int) 1 ((1 + J : Nat) : Int) [] false (3 + (1 + J) * (3 + K))
  | E : RS J K 6 (((1 + J) * (1 + K) : Nat) : Int) 1 ((1 + J : Nat) : Int) [] true (4 + (1 + J) * (3 + K))
theorem rs_le {J K : Nat} (hJ : J ≤ 19) (hK : K ≤ 19) {i : Nat} (hi : i ≤ J) : i * (1 + K) ≤ 380 ∧ i * (3 + K) ≤ 418 := by
  have h1 := Nat.mul_le_mul (Nat.le_trans hi hJ) (show 1 + K ≤ 20 by omega)
  have h2 := Nat.mul_le_mul (Nat.le_trans hi hJ) (show 3 + K ≤ 22 by omega)
  omega
theorem rs_facts {J K : Nat} (hJ : J ≤ 19) (hK : K ≤ 19) {pc a m1 b : Int} {R : List Rp} {ov : Bool} {t : Nat} (h : RS J K pc a m1 b R ov t) : 0 ≤ a ∧ a ≤ 400 ∧ 0 ≤ m1 ∧ m1 ≤ 1 ∧ 0 ≤ b ∧ b ≤ 20 ∧ R.length ≤ 2 ∧ (∀ r ∈ R, -9223372036854775808 ≤ r.2.2 ∧ r.2.2 ≤ 9223372036854775807) ∧ t ≤ 444 ∧ (ov = false → t ≤ 443) := by
  have hM : (1 + J) * (1 + K) ≤ 400 := Nat.mul_le_mul (show 1 + J ≤ 20 by omega) (show 1 + K ≤ 20 by omega)
  have hN : (1 + J) * (3 + K) ≤ 440 := Nat.mul_le_mul (show 1 + J ≤ 20 by omega) (show 3 + K ≤ 22 by omega)
  cases h with
  | s0 => simp
  | s1 => simp
  | s2 => simp
  | A i hi =>
    have := rs_le hJ hK hi
    refine ⟨by omega, by omega, by omega, by omega, by omega, by omega, by simp, fun r hr => ?_, by omega, fun _ => by omega⟩
    simp at hr
    subst hr
    simp only
    omega
  | B i hi =>
    have := rs_le hJ hK hi
    refine ⟨by omega, by omega, by omega, by omega, by omega, by omega, by simp, fun r hr => ?_, by omega, fun _ => by omega⟩
    simp at hr
    subst hr
    simp only
    omega
  | C i j hi hj =>
    have := rs_le hJ hK hi
    refine ⟨by omega, by omega, by omega, by omega, by omega, by omega, by simp, fun r hr => ?_, by omega, fun _ => by omega⟩
    simp at hr
    rcases hr with rfl | rfl <;> simp only <;> omega
  | D => exact ⟨by omega, by omega, by omega, by omega, by omega, by omega, by simp, fun r hr => by simp at hr, by omega, fun _ => by omega⟩
  | E => exact ⟨by omega, by omega, by omega, by omega, by omega, by omega, by simp, fun r hr => by simp at hr, by omega, fun h => by cases h⟩
theorem may8 {B N : Int} (hB : 1 ≤ B ∧ B ≤ 3) (hN : 1 ≤ N ∧ N ≤ 20) : mayB (8, 0, B, N) = true := may_iff.2 (by unfold mayP; exact .inr (.inr (.inr (.inr (.inr (.inr (.inl ⟨rfl, rfl, ⟨hB.1, Int.le_trans hB.2 (by decide)⟩, hN⟩)))))))
theorem normR_stay {pc A B C : Int} {r : List Rp} (h : ¬ B < pc) : normR pc ((A, B, C) :: r) = (pc, (A, B, C) :: r) := by
  unfold normR
  rw [if_neg h]
theorem normR_back {pc A B C : Int} {r : List Rp} (h : B < pc) (hc : 0 < C) : normR pc ((A, B, C) :: r) = (A, (A, B, C - 1) :: r) := by
  unfold normR
  rw [if_pos h, if_pos hc]
theorem rs_step {J K : Nat} (hJ : J ≤ 19) (hK : K ≤ 19) {pc a m1 b : Int} {R : List Rp} {t : Nat} (h : RS J K pc a m1 b R false t) :
    ∃ (pcF aF mF bF : Int) (RF : List Rp) (ovF : Bool) (xo xa xb xn : Int), stepF [(1, 1, 0, 1), (1, 0, 0, 0), (8, 0, 3, 1 + (J : Int)), (2, 2, 1, 0), (8, 0, 1, 1 + (K : Int)), (2, 0, 1, 0), (0, 0, 0, 0)] pc [a, m1, b, 0, 0, 0, 0, 0] R false = (pcF, [aF, mF, bF, 0, 0, 0, 0, 0], RF, ovF, (xo, xa, xb, xn), true) ∧ RS J K pcF aF mF bF RF ovF (t + 1) := by
  cases h with
  | s0 => exact ⟨1, 9, 1, 0, [], false, 1, 1, 0, 1, stepF_go (pc := 0) (x := (1, 1, 0, 1)) (by simp) rfl (by decide) rfl rfl rfl rfl rfl, .s1⟩
  | s1 => exact ⟨2, 0, 1, 0, [], false, 1, 0, 0, 0, stepF_go (pc := 1) (x := (1, 0, 0, 0)) (by simp) rfl (by decide) rfl rfl rfl rfl rfl, .s2⟩
  | s2 =>
    refine ⟨3, 0, 1, 0, [(3, 5, (J : Int))], false, 8, 0, 3, 1 + (J : Int), stepF_go (pc := 2) (x := (8, 0, 3, 1 + (J : Int))) (by simp) rfl (may8 (by omega) (by omega)) (nx := 3) rfl (RA := [(3, 5, (J : Int))]) ?_ (normR_stay (by decide)) rfl rfl, ?_⟩
    · have e : (1 + (J : Int)) - 1 = (J : Int) := by omega
      show [] ++ [(((2 : Nat) : Int) + 1, ((2 : Nat) : Int) + 3, 1 + (J : Int) - 1)] = _
      rw [e]
      rfl
    · have := RS.A (K := K) 0 (Nat.zero_le J)
      simpa using this
  | A i hi =>
    have hb := rs_le hJ hK hi
    refine ⟨4, ((i * (1 + K) : Nat) : Int), 1, ((i + 1 : Nat) : Int), [(3, 5, (J : Int) - i)], false, 2, 2, 1, 0, stepF_go (pc := 3) (x := (2, 2, 1, 0)) (by simp) rfl (by decide) (nx := 4) rfl (RA := [(3, 5, (J : Int) - i)]) rfl (normR_stay (pc := 4) (B := 5) (by decide)) ?_ rfl, ?_⟩
    · show [_, _, wrap64 ((i : Int) + 1), _, _, _, _, _] = _
      rw [wrap64_id (by omega) (by omega), show (i : Int) + 1 = ((i + 1 : Nat) : Int) by omega]
    · rw [show 3 + i * (3 + K) + 1 = 4 + i * (3 + K) by omega]
      exact .B i hi
  | B i hi =>
    refine ⟨5, ((i * (1 + K) : Nat) : Int), 1, ((i + 1 : Nat) : Int), [(3, 5, (J : Int) - i), (5, 5, (K : Int) - (0 : Nat))], false, 8, 0, 1, 1 + (K : Int), stepF_go (pc := 4) (x := (8, 0, 1, 1 + (K : Int))) (by simp) rfl (may8 (by omega) (by omega)) (nx := 5) rfl (RA := [(3, 5, (J : Int) - i), (5, 5, (K : Int) - (0 : Nat))]) ?_ (normR_stay (by decide)) rfl rfl, ?_⟩
    · have e : (1 + (K : Int)) - 1 = (K : Int) - (0 : Nat) := by omega
      show [(3, 5, (J : Int) - i)] ++ [(((4 : Nat) : Int) + 1, ((4 : Nat) : Int) + 1, 1 + (K : Int) - 1)] = _
      rw [e]
      rfl
    · have := RS.C (K := K) i 0 hi (Nat.zero_le K)
      rw [show 4 + i * (3 + K) + 1 = 5 + i * (3 + K) + 0 by omega]
      exact this
  | C i j hi hj =>
    have hb := rs_le hJ hK hi
    have hmem : memA (2, 0, 1, 0) [((i * (1 + K) + j : Nat) : Int), 1, ((i + 1 : Nat) : Int), 0, 0, 0, 0, 0] = [((i * (1 + K) + (j + 1) : Nat) : Int), 1, ((i + 1 : Nat) : Int), 0, 0, 0, 0, 0] := by
      show [wrap64 (((i * (1 + K) + j : Nat) : Int) + 1), _, _, _, _, _, _, _] = _
      rw [wrap64_id (by omega) (by omega), show ((i * (1 + K) + j : Nat) : Int) + 1 = ((i * (1 + K) + (j + 1) : Nat) : Int) by omega]
    by_cases hj2 : j < K
    · refine ⟨5, ((i * (1 + K) + (j + 1) : Nat) : Int), 1, ((i + 1 : Nat) : Int), [(3, 5, (J : Int) - i), (5, 5, (K : Int) - (j + 1 : Nat))], false, 2, 0, 1, 0, stepF_go (pc := 5) (x := (2, 0, 1, 0)) (by simp) rfl (by decide) (nx := 6) rfl (RA := [(3, 5, (J : Int) - i), (5, 5, (K : Int) - j)]) rfl ?_ hmem rfl, ?_⟩
      · show normR 6 ((5, 5, (K : Int) - j) :: [(3, 5, (J : Int) - i)]) = _
        rw [normR_back (by decide) (by omega), show (K : Int) - j - 1 = (K : Int) - (j + 1 : Nat) by omega]
        rfl
      · have := RS.C (K := K) i (j + 1) hi hj2
        rw [show 5 + i * (3 + K) + j + 1 = 5 + i * (3 + K) + (j + 1) by omega]
        exact this
    · obtain rfl : j = K := by omega
      have hmul : (i + 1) * (1 + j) = i * (1 + j) + (j + 1) := by rw [Nat.succ_mul]; omega
      have hmul3 : (i + 1) * (3 + j) = i * (3 + j) + (3 + j) := Nat.succ_mul _ _
      by_cases hi2 : i < J
      · refine ⟨3, ((i * (1 + j) + (j + 1) : Nat) : Int), 1, ((i + 1 : Nat) : Int), [(3, 5, (J : Int) - (i + 1 : Nat))], false, 2, 0, 1, 0, stepF_go (pc := 5) (x := (2, 0, 1, 0)) (by simp) rfl (by decide) (nx := 6) rfl (RA := [(3, 5, (J : Int) - i), (5, 5, (j : Int) - j)]) rfl ?_ hmem rfl, ?_⟩
        · show normR 6 ((5, 5, (j : Int) - j) :: [(3, 5, (J : Int) - i)]) = _
          rw [normR_drop (by decide) (by omega), normR_back (by decide) (by omega), show (J : Int) - i - 1 = (J : Int) - (i + 1 : Nat) by omega]
          rfl
        · have := RS.A (K := j) (i + 1) hi2
          rw [hmul, hmul3] at this
          rw [show 5 + i * (3 + j) + j + 1 = 3 + (i * (3 + j) + (3 + j)) by omega]
          exact this
      · obtain rfl : i = J := by omega
        refine ⟨6, ((i * (1 + j) + (j + 1) : Nat) : Int), 1, ((i + 1 : Nat) : Int), [], false, 2, 0, 1, 0, stepF_go (pc := 5) (x := (2, 0, 1, 0)) (by simp) rfl (by decide) (nx := 6) rfl (RA := [(3, 5, (i : Int) - i), (5, 5, (j : Int) - j)]) rfl ?_ hmem rfl, ?_⟩
        · show normR 6 ((5, 5, (j : Int) - j) :: [(3, 5, (i : Int) - i)]) = _
          rw [normR_drop (by decide) (by omega), normR_drop (by decide) (by omega)]
          rfl
        · have := RS.D (J := i) (K := j)
          rw [show 1 + i = i + 1 by omega, hmul, hmul3] at this
          rw [show 5 + i * (3 + j) + j + 1 = 3 + (i * (3 + j) + (3 + j)) by omega]
          exact this
  | D =>
    refine ⟨6, (((1 + J) * (1 + K) : Nat) : Int), 1, ((1 + J : Nat) : Int), [], true, 0, 0, 0, 0, stepF_go (pc := 6) (x := (0, 0, 0, 0)) (by simp) rfl (by decide) (nx := 6) rfl (RA := []) rfl rfl rfl rfl, ?_⟩
    rw [show 3 + (1 + J) * (3 + K) + 1 = 4 + (1 + J) * (3 + K) by omega]
    exact .E
end Go.Proofs.Ytjejabineblnhaa
