/-
  Proved: for all int64 a, b the law SatSteps returns true: as much more as goes in once makes one more, and what goes into nothing is nothing. No condition.
-/
import Derived.Test.YtbpckoopinjioabRows
import Derived.Test.YtbpckoopinjioabMuls
import Derived.WalkKit
import Derived.ProofKit
import Derived.OpenShut
namespace Go.Proofs.Ytbpckoopinjioab.satSteps
open Go.ChangeShapes Go.WideShapes Go.ChangeAt Go.RowKit
set_option linter.unusedVariables false      -- a walk need not use every 'w<i>' (that an integer argument fits its kind)

theorem own : ownKnob Try.prog.godebug = none := by kernel_rfl

theorem upv_more {a b : Int} (h : 1 ≤ b) : upv (a + b) b = upv a b + 1 := by
  unfold upv
  have : a + b + b - 1 = (a + b - 1) + b * 1 := by omega
  rw [this, Int.add_mul_ediv_left _ _ (by omega)]
theorem upv_nought {b : Int} (h : 1 ≤ b) : upv 0 b = 0 := (upv_zero (Int.le_refl 0) h).2 rfl
theorem upv_one (a : Int) : upv a 1 = a := by unfold upv; omega

/-! ### STEP 1: THE WALK: the Go text returns true. 'Grown w w'': the world has at most new blocks (Derived/RowKit3.lean). Part the cases AHEAD of 'go_enter' where a test parts the walk; take each callee by a contract of your own. -/
theorem walk (a0 : Int) (a1 : Int) (w0 : (Lit.int .i64 a0).wf = true) (w1 : (Lit.int .i64 a1).wf = true) (w : World) :
    Calls Try.prog 3 #[.int .i64 a0, .int .i64 a1] w fun e w' => e = .returned (.bool true) ∧ Grown w w' := by
  have b0 := bounds_i64 w0
  have b1 := bounds_i64 w1
  by_cases c0 : a0 < 0
  · have d0 : decide (a0 < 0) = true := decide_eq_true c0
    go_enter Try.func3, Try.ntmps3
    go_wp2_with (first | (go_at_call 4; refine (begun_any _).mono ?_; rintro e w' ⟨rfl, rfl⟩) | (go_at_call 5; refine (up_yes _ _ _ (by omega) (by omega) (by omega) (by omega)).mono ?_; rintro e w' ⟨rfl, rfl⟩))
    go_ret
    exact ⟨rfl, Grown.refl _⟩
  have d0 : decide (a0 < 0) = false := decide_eq_false c0
  by_cases c1 : a1 < 1
  · have d1 : decide (a1 < 1) = true := decide_eq_true c1
    go_enter Try.func3, Try.ntmps3
    go_wp2_with (first | (go_at_call 4; refine (begun_any _).mono ?_; rintro e w' ⟨rfl, rfl⟩) | (go_at_call 5; refine (up_yes _ _ _ (by omega) (by omega) (by omega) (by omega)).mono ?_; rintro e w' ⟨rfl, rfl⟩))
    go_ret
    exact ⟨rfl, Grown.refl _⟩
  have d1 : decide (a1 < 1) = false := decide_eq_false c1
  by_cases c2 : 4611686018427387904 < a0
  · have d2 : decide (4611686018427387904 < a0) = true := decide_eq_true c2
    go_enter Try.func3, Try.ntmps3
    go_wp2_with (first | (go_at_call 4; refine (begun_any _).mono ?_; rintro e w' ⟨rfl, rfl⟩) | (go_at_call 5; refine (up_yes _ _ _ (by omega) (by omega) (by omega) (by omega)).mono ?_; rintro e w' ⟨rfl, rfl⟩))
    go_ret
    exact ⟨rfl, Grown.refl _⟩
  have d2 : decide (4611686018427387904 < a0) = false := decide_eq_false c2
  by_cases c3 : 4611686018427387903 < a1
  · have d3 : decide (4611686018427387903 < a1) = true := decide_eq_true c3
    go_enter Try.func3, Try.ntmps3
    go_wp2_with (first | (go_at_call 4; refine (begun_any _).mono ?_; rintro e w' ⟨rfl, rfl⟩) | (go_at_call 5; refine (up_yes _ _ _ (by omega) (by omega) (by omega) (by omega)).mono ?_; rintro e w' ⟨rfl, rfl⟩))
    go_ret
    exact ⟨rfl, Grown.refl _⟩
  have d3 : decide (4611686018427387903 < a1) = false := decide_eq_false c3
  have u0 : 0 ≤ a0 := by omega
  have v0 : 1 ≤ a1 := by omega
  have e0 := upv_more (a := a0) v0
  have e1 := upv_nought v0
  have e2 := upv_one a0
  have q0 := upv_nonneg u0 v0
  have q1 := upv_le u0 v0
  go_enter Try.func3, Try.ntmps3
  go_wp2_with (first | (go_at_call 4; refine (begun_any _).mono ?_; rintro e w' ⟨rfl, rfl⟩) | (go_at_call 5; refine (up_yes _ _ _ (by omega) (by omega) (by omega) (by omega)).mono ?_; rintro e w' ⟨rfl, rfl⟩))
  go_ret
  exact ⟨rfl, Grown.refl _⟩

/-! ### THE ROW's STEP: WRITTEN OUT: LEAVE IT -/
set_option maxRecDepth 100000 in
theorem lifted (os : Os) (started : os.Started) (H : Type) (enc : TypeId × Value → H) :
    ReturnsInHanded {} Try.checked os 3 .any (Rows.satStepsSpec.pre6 enc Try.prog Try.f3 Rows.satStepsRow.domain false) (Rows.satStepsSpec.post enc Try.prog Try.f3 false true false false) := by
  refine returnsInHanded_of_change (C := Try.checked) own started (by kernel_rfl) Try.func3
    (ChangeSpec.witness6 (enc := enc) (C := Try.checked) false ⟨#[], #[.int .i64 0, .int .i64 0], []⟩ 8 (by kernel_rfl) (by kernel_rfl) (by kernel_rfl) (by kernel_rfl)) ?_
  intro W base args ds gs before hval0 hW hcnd _
  have hval : ∀ (j : Nat) t v, Try.f3.params[j]? = some t → args[j]? = some v → Value.okWide Try.prog W .any base t v := hval0
  have hW' := hW
  obtain ⟨p, q, hA0, hV, rfl, hfz, hnd⟩ := hW
  have hA : DataW.TrodAll enc Try.prog W 0 (fun _ => true) true Try.f3.params.toList args.toList ds p := hA0
  rw [Try.params3] at hA hval
  obtain ⟨v0, vs0, d0, ds0, p0, q0, hargs, rfl, rfl, h0, r0⟩ := trodAll_cons hA
  obtain ⟨v1, vs1, d1, ds1, p1, q1, rfl, rfl, rfl, h1, r1⟩ := trodAll_cons r0
  obtain ⟨rfl, rfl, rfl⟩ := trodAll_nil r1
  obtain rfl : args = #[v0, v1] := by cases args; simp_all
  obtain ⟨rfl, rfl⟩ := trodVars_none hV
  obtain ⟨a0, rfl, rfl, rfl, w0⟩ := open_int Try.underlying2 (hval 0 2 v0 rfl rfl) h0
  obtain ⟨a1, rfl, rfl, rfl, w1⟩ := open_int Try.underlying2 (hval 1 2 v1 rfl rfl) h1
  clear hA0 hval0
  simp only [List.append_nil] at hW'
  refine (walk a0 a1 w0 w1 W).mono fun e W' ⟨he, hg⟩ => ?_
  subst he
  exact ⟨_, rfl, post_of_same (pa := []) (pv := []) hW' (fun _ _ _ => (trodAll_cons_mk (shut_bool Try.underlying4 _) trodAll_mk0)) (fun sp _ => (trodAll_cons_mk (shut_int Try.underlying2 w0) (trodAll_cons_mk (shut_int Try.underlying2 w1) trodAll_mk0))) (fun _ _ => rfl) rfl
    (hg.frame _) hg.2.1 (ok_one (by kernel_rfl) rfl (okWide_bool_mk Try.underlying4 _))⟩

theorem over : Rows.satStepsRow.holds Try.pinned (OpenSpec.ofChange Rows.satStepsSpec) :=
  OpenClaim.holds_of_wide 3 Try.f3 rfl rfl rfl rfl rfl rfl rfl ⟨rfl, rfl, rfl, rfl, rfl⟩ rfl rfl rfl rfl rfl (by kernel_rfl) Try.func3 (by kernel_rfl)
    (of_decide_eq_true (by kernel_rfl)) (by unfold Func.isWrapper; first | (rw [if_pos (by decide +kernel)]; kernel_rfl) | (rw [if_neg (by decide +kernel)]; exact ⟨rfl, rfl⟩))
    (fun os started H enc _ => lifted os started H enc)

/-- ████ THE STATEMENT ████ -/
theorem proved : Rows.SatStepsSaid :=
  over
end Go.Proofs.Ytbpckoopinjioab.satSteps
namespace Go.Proofs.Ytbpckoopinjioab
theorem satSteps_holds : Rows.SatStepsSaid := satSteps.proved
end Go.Proofs.Ytbpckoopinjioab
