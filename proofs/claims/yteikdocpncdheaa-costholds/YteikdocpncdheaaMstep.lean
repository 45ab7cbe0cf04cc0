/-
  What a machine's step keeps.
-/
import Derived.Test.YteikdocpncdheaaStepl
import Derived.Test.YteikdocpncdheaaPlains
namespace Go.Proofs.Yteikdocpncdheaa
open Go.ChangeShapes Go.WideShapes Go.ChangeAt Go.RowKit
attribute [local go_sem ↓] Go.wp_at_zero Go.wp_at_succ

theorem ch_bd {l : List In} {pc : Nat} : ∀ {R : List Rp} {ub : Nat}, Ch l pc ub R → ∀ r ∈ R, 0 ≤ r.2.2 ∧ r.2.2 ≤ 100
  | [], _, _, r, hr => by cases hr
  | a :: R, ub, h, r, hr => by
    obtain ⟨f, _, _, _, _, k5, k6, _, k8⟩ := h
    rcases List.mem_cons.1 hr with rfl | hr
    · omega
    · exact ch_bd k8 r hr
theorem reach_7 {x : In} (h : x.1 = 7) : reachI x = x.2.2.2 := by unfold reachI; simp [h]
theorem reach_8 {x : In} (h : x.1 = 8) : reachI x = x.2.2.1 := by unfold reachI; simp [h]
/-- a step that is not the last -/
theorem mstep {l : List In} (hP : Prg l) (hW : l.all mayW = true) {pc : Nat} (hpc : pc < l.length) (h0 : (gt l pc).1 ≠ 0) {R RF : List Rp} {pcF : Int} {ov : Bool} (hC : Ch l pc pc R.reverse) (h : StepRel pc R (gt l pc) pcF RF ov) :
    ov = false ∧ ∃ pc' : Nat, pcF = (pc' : Int) ∧ pc' < l.length ∧ Ch l pc' pc' RF.reverse ∧ opn l pc' = opn l (pc + 1) ∧ phi l.length pc' RF.reverse + 1 ≤ phi l.length pc R.reverse := by
  have hi := hP.ins pc hpc
  have hn : pc + 1 < l.length := by
    have := mt hi.2.2 h0
    omega
  have hb := reach_bd hi.1
  have hm := may_iff.1 hi.1
  unfold mayP at hm
  rcases h with ⟨h, _⟩ | ⟨_, rfl, nx, hnx, h⟩
  · exact absurd h h0
  refine ⟨rfl, ?_⟩
  by_cases h8 : (gt l pc).1 = 8
  · rw [if_pos h8] at h
    have hN3 : (gt l pc).2.2.2 ≤ 3 := by
      have hw := List.all_eq_true.1 hW _ (List.getElem_mem hpc)
      rw [← gt_eq hpc] at hw
      unfold mayW at hw
      simp only [Bool.and_eq_true, Bool.or_eq_true, decide_eq_true_eq] at hw
      omega
    have hr : (rch (gt l pc) : Int) = (gt l pc).2.2.1 := by unfold rch; rw [← reach_8 h8]; omega
    obtain ⟨k1, k2, k3⟩ := mach_rep hP hn hC h8 (by omega) hN3
    rcases hnx with rfl | ⟨h7, _⟩
    · rw [← hr] at h
      have e : ((pc : Int) + 1) = ((pc + 1 : Nat) : Int) := by omega
      rw [e] at h
      rw [e] at k1 k2 k3
      rw [k1] at h
      simp only [Prod.mk.injEq] at h
      rw [← h.2, ← h.1]
      exact ⟨pc + 1, rfl, hn, k2, rfl, k3⟩
    · omega
  · rw [if_neg h8] at h
    have key : ∃ nn : Nat, nx = (nn : Int) ∧ (nn = pc + 1 ∨ (gt l pc).1 = 7 ∧ nn = pc + rch (gt l pc) + 1) := by
      rcases hnx with rfl | ⟨h7, rfl⟩
      · exact ⟨pc + 1, by omega, .inl rfl⟩
      · have hr := reach_7 h7
        refine ⟨pc + rch (gt l pc) + 1, ?_, .inr ⟨h7, rfl⟩⟩
        unfold rch
        omega
    obtain ⟨nn, rfl, hnn⟩ := key
    obtain ⟨pc', k1, k2, k3, k4, k5⟩ := mach hP hn hC hnn
    rw [h] at k1 k3 k5
    exact ⟨pc', k1, k2, k3, k4, k5⟩
/-- the last step -/
theorem mlast {l : List In} {pc : Nat} (h0 : (gt l pc).1 = 0) {R RF : List Rp} {pcF : Int} {ov : Bool} (h : StepRel pc R (gt l pc) pcF RF ov) : ov = true := by
  rcases h with ⟨_, h, _⟩ | ⟨h, _⟩
  · exact h
  · exact absurd h0 h
end Go.Proofs.Yteikdocpncdheaa
