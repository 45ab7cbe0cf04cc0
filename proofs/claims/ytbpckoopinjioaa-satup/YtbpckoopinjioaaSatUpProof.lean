/-
  Proved: for all int64 a, b the law SatUp returns true: Up is the least number that is enough, or 0 and no. No condition.
-/
import Derived.Test.YtbpckoopinjioaaRows
import Derived.Test.YtbpckoopinjioaaMuls
import Derived.WalkKit
import Derived.ProofKit
import Derived.OpenShut
namespace Go.Proofs.Ytbpckoopinjioaa.satUp
open Go.ChangeShapes Go.WideShapes Go.ChangeAt Go.RowKit
set_option linter.unusedVariables false      -- a walk need not use every 'w<i>' (that an integer argument fits its kind)

theorem own : ownKnob Try.prog.godebug = none := by kernel_rfl

/-! ### STEP 1: THE WALK: the Go text returns true. 'Grown w w'': the world has at most new blocks (Derived/RowKit3.lean). Part the cases AHEAD of 'go_enter' where a test parts the walk; take each callee by a contract of your own. -/
theorem walk (a0 : Int) (a1 : Int) (w0 : (Lit.int .i64 a0).wf = true) (w1 : (Lit.int .i64 a1).wf = true) (w : World) :
    Calls Try.prog 4 #[.int .i64 a0, .int .i64 a1] w fun e w' => e = .returned (.bool true) ∧ Grown w w' := by
  have b0 := bounds_i64 w0
  have b1 := bounds_i64 w1
  by_cases u : a0 < 0
  · have du : decide (a0 < 0) = true := decide_eq_true u
    have HU : Hid (a0 < 0 ∨ a1 < 1) := .inl u
    go_enter Try.func4, Try.ntmps4
    go_wp2_with (first | (go_at_call 9; refine (begun_any _).mono ?_; rintro e w' ⟨rfl, rfl⟩) | (go_at_call 16; refine (up_no _ _ _ HU.out).mono ?_; rintro e w' ⟨rfl, rfl⟩))
    go_ret
    exact ⟨rfl, Grown.refl _⟩
  have du : decide (a0 < 0) = false := decide_eq_false u
  by_cases v : a1 < 1
  · have HU : Hid (a0 < 0 ∨ a1 < 1) := .inr v
    have dv : decide (a1 < 1) = true := decide_eq_true v
    go_enter Try.func4, Try.ntmps4
    go_wp2_with (first | (go_at_call 9; refine (begun_any _).mono ?_; rintro e w' ⟨rfl, rfl⟩) | (go_at_call 16; refine (up_no _ _ _ HU.out).mono ?_; rintro e w' ⟨rfl, rfl⟩))
    go_ret
    exact ⟨rfl, Grown.refl _⟩
  have dv : decide (a1 < 1) = false := decide_eq_false v
  have u0 : 0 ≤ a0 := by omega
  have v0 : 1 ≤ a1 := by omega
  have q0 := upv_nonneg u0 v0
  have q1 := upv_le u0 v0
  have q2 := upv_low (a := a0) v0
  have q3 := upv_zero u0 v0
  have l0 : a0 - (upv a0 a1 - 1) * a1 ≤ a1 := by rw [Int.sub_mul]; omega
  have l1 : 0 < a0 - (upv a0 a1 - 1) * a1 := by omega
  have d1 : decide (upv a0 a1 < 0) = false := decide_eq_false (by omega)
  have d2 : decide (a0 < upv a0 a1) = false := decide_eq_false (by omega)
  have l2 : -9223372036854775808 ≤ (upv a0 a1 - 1) * a1 := by omega
  have l3 : (upv a0 a1 - 1) * a1 ≤ 9223372036854775807 := by omega
  clear q2
  by_cases z : a0 = 0
  · have z' : upv a0 a1 = 0 := q3.2 z
    have z3 : (a0 == 0) = true := by simp [z]
    have Z : Hid (a0 = 0) := z
    clear q3 z
    go_enter Try.func4, Try.ntmps4
    go_wp2_with (first | (go_at_call 9; refine (begun_any _).mono ?_; rintro e w' ⟨rfl, rfl⟩) | (go_at_call 16; refine (up_yes _ _ _ (by omega) (by omega) (by omega) (by omega)).mono ?_; rintro e w' ⟨rfl, rfl⟩))
    go_ret
    exact ⟨rfl, Grown.refl _⟩
  · have z' : 0 < upv a0 a1 := by omega
    have z2 : (upv a0 a1 == 0) = false := by simp; omega
    clear q3
    go_enter Try.func4, Try.ntmps4
    go_wp2_with (first | (go_at_call 9; refine (begun_any _).mono ?_; rintro e w' ⟨rfl, rfl⟩) | (go_at_call 16; refine (up_yes _ _ _ (by omega) (by omega) (by omega) (by omega)).mono ?_; rintro e w' ⟨rfl, rfl⟩))
    go_ret
    exact ⟨rfl, Grown.refl _⟩

/-! ### THE ROW's STEP: WRITTEN OUT: LEAVE IT -/
set_option maxRecDepth 100000 in
theorem lifted (os : Os) (started : os.Started) (H : Type) (enc : TypeId × Value → H) :
    ReturnsInHanded {} Try.checked os 4 .any (Rows.satUpSpec.pre6 enc Try.prog Try.f4 Rows.satUpRow.domain false) (Rows.satUpSpec.post enc Try.prog Try.f4 false true false false) := by
  refine returnsInHanded_of_change (C := Try.checked) own started (by kernel_rfl) Try.func4
    (ChangeSpec.witness6 (enc := enc) (C := Try.checked) false ⟨#[], #[.int .i64 0, .int .i64 0], []⟩ 8 (by kernel_rfl) (by kernel_rfl) (by kernel_rfl) (by kernel_rfl)) ?_
  intro W base args ds gs before hval0 hW hcnd _
  have hval : ∀ (j : Nat) t v, Try.f4.params[j]? = some t → args[j]? = some v → Value.okWide Try.prog W .any base t v := hval0
  have hW' := hW
  obtain ⟨p, q, hA0, hV, rfl, hfz, hnd⟩ := hW
  have hA : DataW.TrodAll enc Try.prog W 0 (fun _ => true) true Try.f4.params.toList args.toList ds p := hA0
  rw [Try.params4] at hA hval
  obtain ⟨v0, vs0, d0, ds0, p0, q0, hargs, rfl, rfl, h0, r0⟩ := trodAll_cons hA
  obtain ⟨v1, vs1, d1, ds1, p1, q1, rfl, rfl, rfl, h1, r1⟩ := trodAll_cons r0
  obtain ⟨rfl, rfl, rfl⟩ := trodAll_nil r1
  obtain rfl : args = #[v0, v1] := by cases args; simp_all
  obtain ⟨rfl, rfl⟩ := trodVars_none hV
  obtain ⟨a0, rfl, rfl, rfl, w0⟩ := open_int Try.underlying2 (hval 0 2 v0 rfl rfl) h0
  obtain ⟨a1, rfl, rfl, rfl, w1⟩ := open_int Try.underlying2 (hval 1 2 v1 rfl rfl) h1
  clear hA0 hval0
  simp only [List.append_nil] at hW'
  refine (walk a0 a1 w0 w1 W).mono fun e W' ⟨he, hg⟩ => ?_
  subst he
  exact ⟨_, rfl, post_of_same (pa := []) (pv := []) hW' (fun _ _ _ => (trodAll_cons_mk (shut_bool Try.underlying4 _) trodAll_mk0)) (fun sp _ => (trodAll_cons_mk (shut_int Try.underlying2 w0) (trodAll_cons_mk (shut_int Try.underlying2 w1) trodAll_mk0))) (fun _ _ => rfl) rfl
    (hg.frame _) hg.2.1 (ok_one (by kernel_rfl) rfl (okWide_bool_mk Try.underlying4 _))⟩

theorem over : Rows.satUpRow.holds Try.pinned (OpenSpec.ofChange Rows.satUpSpec) :=
  OpenClaim.holds_of_wide 4 Try.f4 rfl rfl rfl rfl rfl rfl rfl ⟨rfl, rfl, rfl, rfl, rfl⟩ rfl rfl rfl rfl rfl (by kernel_rfl) Try.func4 (by kernel_rfl)
    (of_decide_eq_true (by kernel_rfl)) (by unfold Func.isWrapper; first | (rw [if_pos (by decide +kernel)]; kernel_rfl) | (rw [if_neg (by decide +kernel)]; exact ⟨rfl, rfl⟩))
    (fun os started H enc _ => lifted os started H enc)

/-- ████ THE STATEMENT ████ -/
theorem proved : Rows.SatUpSaid :=
  over
end Go.Proofs.Ytbpckoopinjioaa.satUp
namespace Go.Proofs.Ytbpckoopinjioaa
theorem satUp_holds : Rows.SatUpSaid := satUp.proved
end Go.Proofs.Ytbpckoopinjioaa
