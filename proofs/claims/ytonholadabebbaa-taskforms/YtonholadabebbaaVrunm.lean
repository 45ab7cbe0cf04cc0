/-
  What a machine of a program that may be keeps, step by step.
-/
import Derived.Test.YtonholadabebbaaVbegun
namespace Go.Proofs.Ytonholadabebbaa
open Go.ChangeShapes Go.WideShapes Go.ChangeAt Go.RowKit
attribute [local go_sem ↓] Go.wp_at_zero Go.wp_at_succ

def StepRel (pc : Nat) (R : List Rp) (x : In) (pcF : Int) (RF : List Rp) (ov : Bool) : Prop :=
  (x.1 = 0 ∧ ov = true ∧ normR (pc : Int) R.reverse = (pcF, RF.reverse)) ∨
  (x.1 ≠ 0 ∧ ov = false ∧ ∃ nx : Int, (nx = (pc : Int) + 1 ∨ x.1 = 7 ∧ nx = (pc : Int) + 1 + x.2.2.2) ∧ normR nx (if x.1 = 8 then ((pc : Int) + 1, (pc : Int) + x.2.2.1, x.2.2.2 - 1) :: R.reverse else R.reverse) = (pcF, RF.reverse))
theorem ch_bd {l : List In} {pc : Nat} : ∀ {R : List Rp} {ub : Nat}, Ch l pc ub R → ∀ r ∈ R, 0 ≤ r.2.2 ∧ r.2.2 ≤ 100
  | [], _, _, r, hr => by cases hr
  | a :: R, ub, h, r, hr => by
    obtain ⟨f, _, _, _, _, k5, k6, _, k8⟩ := h
    rcases List.mem_cons.1 hr with rfl | hr
    · omega
    · exact ch_bd k8 r hr
theorem reach_7 {x : In} (h : x.1 = 7) : reachI x = x.2.2.2 := by unfold reachI; simp [h]
theorem reach_8 {x : In} (h : x.1 = 8) : reachI x = x.2.2.1 := by unfold reachI; simp [h]
/-- a step that is not the last -/
theorem mstep {l : List In} (hP : Prg l) (hW : l.all mayW = true) {pc : Nat} (hpc : pc < l.length) (h0 : (gt l pc).1 ≠ 0) {R RF : List Rp} {pcF : Int} {ov : Bool} (hC : Ch l pc pc R.reverse) (h : StepRel pc R (gt l pc) pcF RF ov) :
    ov = false ∧ ∃ pc' : Nat, pcF = (pc' : Int) ∧ pc' < l.length ∧ Ch l pc' pc' RF.reverse ∧ opn l pc' = opn l (pc + 1) ∧ phi l.length pc' RF.reverse + 1 ≤ phi l.length pc R.reverse := by
  have hi := hP.ins pc hpc
  have hn : pc + 1 < l.length := by
    have := mt hi.2.2 h0
    omega
  have hb := reach_bd hi.1
  have hm := may_iff.1 hi.1
  unfold mayP at hm
  rcases h with ⟨h, _⟩ | ⟨_, rfl, nx, hnx, h⟩
  · exact absurd h h0
  refine ⟨rfl, ?_⟩
  by_cases h8 : (gt l pc).1 = 8
  · rw [if_pos h8] at h
    have hN3 : (gt l pc).2.2.2 ≤ 3 := by
      have hw := List.all_eq_true.1 hW _ (List.getElem_mem hpc)
      rw [← gt_eq hpc] at hw
      unfold mayW at hw
      simp only [Bool.and_eq_true, Bool.or_eq_true, decide_eq_true_eq] at hw
      omega
    have hr : (rch (gt l pc) : Int) = (gt l pc).2.2.1 := by unfold rch; rw [← reach_8 h8]; omega
    obtain ⟨k1, k2, k3⟩ := mach_rep hP hn hC h8 (by omega) hN3
    rcases hnx with rfl | ⟨h7, _⟩
    · rw [← hr] at h
      have e : ((pc : Int) + 1) = ((pc + 1 : Nat) : Int) := by omega
      rw [e] at h
      rw [e] at k1 k2 k3
      rw [k1] at h
      simp only [Prod.mk.injEq] at h
      rw [← h.2, ← h.1]
      exact ⟨pc + 1, rfl, hn, k2, rfl, k3⟩
    · omega
  · rw [if_neg h8] at h
    have key : ∃ nn : Nat, nx = (nn : Int) ∧ (nn = pc + 1 ∨ (gt l pc).1 = 7 ∧ nn = pc + rch (gt l pc) + 1) := by
      rcases hnx with rfl | ⟨h7, rfl⟩
      · exact ⟨pc + 1, by omega, .inl rfl⟩
      · have hr := reach_7 h7
        refine ⟨pc + rch (gt l pc) + 1, ?_, .inr ⟨h7, rfl⟩⟩
        unfold rch
        omega
    obtain ⟨nn, rfl, hnn⟩ := key
    obtain ⟨pc', k1, k2, k3, k4, k5⟩ := mach hP hn hC hnn
    rw [h] at k1 k3 k5
    exact ⟨pc', k1, k2, k3, k4, k5⟩
/-- the last step -/
theorem mlast {l : List In} {pc : Nat} (h0 : (gt l pc).1 = 0) {R RF : List Rp} {pcF : Int} {ov : Bool} (h : StepRel pc R (gt l pc) pcF RF ov) : ov = true := by
  rcases h with ⟨_, h, _⟩ | ⟨h, _⟩
  · exact h
  · exact absurd h0 h

theorem own_base {α : Type} {E : Elt α} {w : World} {b b' : Nat} {e : TypeId} {p : Option Addr} {c : Nat} {l : List α} (h : Own E w b e p c l) (hb : b' ≤ b) : Own E w b' e p c l := by
  refine ⟨h.1, ?_⟩
  rcases h.2 with hn | ⟨g, cap, cur, h1, h2, h3⟩
  · exact .inl hn
  · exact .inr ⟨g, cap, cur, h1, Nat.le_trans hb h2, h3⟩
theorem normR_bd {pc : Int} : ∀ {R : List Rp}, (∀ r ∈ R, -9223372036854775808 ≤ r.2.2 ∧ r.2.2 ≤ 9223372036854775807) → ∀ r ∈ (normR pc R).2, -9223372036854775808 ≤ r.2.2 ∧ r.2.2 ≤ 9223372036854775807
  | [], _, r, hr => by simp [normR] at hr
  | x :: t, h, r, hr => by
    have hx := h x (by simp)
    unfold normR at hr
    split at hr
    · split at hr
      · simp only [List.mem_cons] at hr
        rcases hr with rfl | hr
        · simp only
          omega
        · exact h r (by simp [hr])
      · exact normR_bd (fun r hr => h r (by simp [hr])) r hr
    · exact h r hr
theorem getD_in {mem : List Int} (h : ∀ v ∈ mem, -9223372036854775808 ≤ v ∧ v ≤ 9223372036854775807) (j : Nat) : -9223372036854775808 ≤ mem.getD j 0 ∧ mem.getD j 0 ≤ 9223372036854775807 := by
  rw [List.getD_eq_getElem?_getD]
  cases hj : mem[j]? with
  | none => simp
  | some V => simpa using h V (List.mem_of_getElem? hj)
theorem set_in {mem : List Int} (h : ∀ v ∈ mem, -9223372036854775808 ≤ v ∧ v ≤ 9223372036854775807) (j : Nat) {y : Int} (hy : -9223372036854775808 ≤ y ∧ y ≤ 9223372036854775807) : ∀ v ∈ mem.set j y, -9223372036854775808 ≤ v ∧ v ≤ 9223372036854775807 := fun v hv => by
  rcases List.mem_or_eq_of_mem_set hv with h1 | rfl
  · exact h v h1
  · exact hy
theorem memA_in {x : In} {mem : List Int} (hmy : mayB x = true) (h : ∀ v ∈ mem, -9223372036854775808 ≤ v ∧ v ≤ 9223372036854775807) : ∀ v ∈ memA x mem, -9223372036854775808 ≤ v ∧ v ≤ 9223372036854775807 := by
  have hm2 := may_iff.1 hmy
  unfold mayP at hm2
  unfold memA
  split
  · exact set_in h _ (by omega)
  split
  · exact set_in h _ (wrap64_bd _)
  split
  · exact set_in h _ (wrap64_bd _)
  split
  · exact set_in h _ (wrap64_bd _)
  split
  · exact set_in h _ (shf_in (getD_in h _).1 (getD_in h _).2 _)
  split
  · exact set_in h _ (nrw_in (getD_in h _).1 (getD_in h _).2 _)
  · exact h
/-- what a program's machine keeps -/
structure VI (l : List In) (pc : Int) (mem : List Int) (R : List Rp) (ov : Bool) : Prop where
  len : mem.length = 8
  mb : ∀ v ∈ mem, -9223372036854775808 ≤ v ∧ v ≤ 9223372036854775807
  rb : ∀ r ∈ R, -9223372036854775808 ≤ r.2.2 ∧ r.2.2 ≤ 9223372036854775807
  rl : R.length ≤ 3
  at_ : ov = false → ∃ p : Nat, pc = (p : Int) ∧ p < l.length ∧ Ch l p p R.reverse
theorem vi_step {l : List In} (hP : Prg l) (hW : l.all mayW = true) {pc : Int} {mem : List Int} {R : List Rp} {ov : Bool} (h : VI l pc mem R ov) {pcF : Int} {memF : List Int} {RF : List Rp} {ovF : Bool} {x : In} {ok : Bool} (hF : stepF l pc mem R ov = (pcF, memF, RF, ovF, x, ok)) : (ok = true ∧ VI l pcF memF RF ovF) ∨ (ok = false ∧ ov = true) := by
  cases ov with
  | true =>
    unfold stepF at hF
    rw [if_neg (by simp [can])] at hF
    simp only [Prod.mk.injEq] at hF
    exact .inr ⟨hF.2.2.2.2.2.symm, rfl⟩
  | false =>
    obtain ⟨p, rfl, hpl, hC⟩ := h.at_ rfl
    have hi := hP.ins p hpl
    have hc : can l (p : Int) false = true := by simp [can, hpl, hi.1]
    unfold stepF at hF
    rw [if_pos hc, Int.toNat_natCast] at hF
    simp only [Prod.mk.injEq] at hF
    obtain ⟨h1, h2, h3, h4, h5, h6⟩ := hF
    have hN : normR (nxt p (gt l p) mem) (repA p (gt l p) R).reverse = (pcF, RF.reverse) := by rw [← h1, ← h3, List.reverse_reverse]
    refine .inl ⟨h6.symm, ?_⟩
    have hb : ∀ r ∈ RF, -9223372036854775808 ≤ r.2.2 ∧ r.2.2 ≤ 9223372036854775807 := by
      intro r hr
      refine normR_bd (pc := nxt p (gt l p) mem) (R := (repA p (gt l p) R).reverse) (fun r hr => repA_bd hi.1 h.rb r (List.mem_reverse.1 hr)) r ?_
      rw [hN]
      exact List.mem_reverse.2 hr
    have hl : memF.length = 8 := by rw [← h2, memA_len, h.len]
    have hmb : ∀ v ∈ memF, -9223372036854775808 ≤ v ∧ v ≤ 9223372036854775807 := by rw [← h2]; exact memA_in hi.1 h.mb
    by_cases h0 : (gt l p).1 = 0
    · have hov : ovF = true := by rw [← h4]; exact decide_eq_true h0
      refine ⟨hl, hmb, hb, ?_, fun hh => by rw [hov] at hh; cases hh⟩
      have hn := normR_len (nxt p (gt l p) mem) (repA p (gt l p) R).reverse
      have hr0 : repA p (gt l p) R = R := by unfold repA; rw [if_neg (by omega)]
      rw [hN, hr0] at hn
      simp only [List.length_reverse] at hn
      have := h.rl
      omega
    · have hrel : StepRel p R (gt l p) pcF RF false := by
        refine .inr ⟨h0, rfl, nxt p (gt l p) mem, ?_, ?_⟩
        · unfold nxt
          rw [if_neg h0]
          split
          · rename_i hh
            exact .inr ⟨hh.1, rfl⟩
          · exact .inl rfl
        · unfold repA at hN
          split at hN
          · rename_i hh
            rw [if_pos hh]
            rw [List.reverse_append] at hN
            exact hN
          · rename_i hh
            rw [if_neg hh]
            exact hN
      obtain ⟨_, pc', rfl, k2, k3, _⟩ := mstep hP hW hpl h0 hC hrel
      have h2' := body_two hP k2 k3
      exact ⟨hl, hmb, hb, by simp at h2'; omega, fun _ => ⟨pc', rfl, k2, k3⟩⟩
end Go.Proofs.Ytonholadabebbaa
