/-
  Proved: for all int64 a, b the law SatBack returns true: what was added is taken away again, what goes beyond is told at the right end, order is no matter. No condition.
-/
import Derived.Test.YtbpckoopinjioaaRows
import Derived.Test.YtbpckoopinjioaaMuls
import Derived.WalkKit
import Derived.ProofKit
import Derived.OpenShut
namespace Go.Proofs.Ytbpckoopinjioaa.satBack
open Go.ChangeShapes Go.WideShapes Go.ChangeAt Go.RowKit
set_option linter.unusedVariables false      -- a walk need not use every 'w<i>' (that an integer argument fits its kind)

theorem own : ownKnob Try.prog.godebug = none := by kernel_rfl

/-! ### STEP 1: THE WALK: the Go text returns true. 'Grown w w'': the world has at most new blocks (Derived/RowKit3.lean). Part the cases AHEAD of 'go_enter' where a test parts the walk; take each callee by a contract of your own. -/
theorem walk (a0 : Int) (a1 : Int) (w0 : (Lit.int .i64 a0).wf = true) (w1 : (Lit.int .i64 a1).wf = true) (w : World) :
    Calls Try.prog 5 #[.int .i64 a0, .int .i64 a1] w fun e w' => e = .returned (.bool true) ∧ Grown w w' := by
  have b0 := bounds_i64 w0
  have b1 := bounds_i64 w1
  have c0 : a1 + a0 = a0 + a1 := Int.add_comm _ _
  have c1 : a1 * a0 = a0 * a1 := Int.mul_comm _ _
  by_cases p : a0 + a1 < -9223372036854775808
  · have s0 := satv_low p
    have s1 := fits_out (.inl p)
    have d0 : decide (0 < a0) = false := decide_eq_false (by omega)
    have d1 : decide (0 < a1) = false := decide_eq_false (by omega)
    have d2 : decide (a0 < 0) = true := decide_eq_true (by omega)
    clear p
    go_enter Try.func5, Try.ntmps5
    go_wp2_with (first | (go_at_call 9; refine (begun_any _).mono ?_; rintro e w' ⟨rfl, rfl⟩) | (go_at_call 10; refine (add_any _ _ _ (by omega) (by omega) (by omega) (by omega)).mono ?_; rintro e w' ⟨rfl, rfl⟩) | (go_at_call 12; refine (sub_any _ _ _ (by omega) (by omega) (by omega) (by omega)).mono ?_; rintro e w' ⟨rfl, rfl⟩) | (go_at_call 14; refine (mul_any _ _ _ (by omega) (by omega) (by omega) (by omega)).mono ?_; rintro e w' ⟨rfl, rfl⟩))
    go_ret
    exact ⟨rfl, Grown.refl _⟩
  by_cases q : 9223372036854775807 < a0 + a1
  · have s0 := satv_top q
    have s1 := fits_out (.inr q)
    have d0 : decide (0 < a0) = true := decide_eq_true (by omega)
    have d1 : decide (0 < a1) = true := decide_eq_true (by omega)
    clear p q
    go_enter Try.func5, Try.ntmps5
    go_wp2_with (first | (go_at_call 9; refine (begun_any _).mono ?_; rintro e w' ⟨rfl, rfl⟩) | (go_at_call 10; refine (add_any _ _ _ (by omega) (by omega) (by omega) (by omega)).mono ?_; rintro e w' ⟨rfl, rfl⟩) | (go_at_call 12; refine (sub_any _ _ _ (by omega) (by omega) (by omega) (by omega)).mono ?_; rintro e w' ⟨rfl, rfl⟩) | (go_at_call 14; refine (mul_any _ _ _ (by omega) (by omega) (by omega) (by omega)).mono ?_; rintro e w' ⟨rfl, rfl⟩))
    go_ret
    exact ⟨rfl, Grown.refl _⟩
  have s0 : fitsB (a0 + a1) = true := fits_in (by omega)
  have s1 : satv (a0 + a1) = a0 + a1 := satv_fits s0
  have e0 : a0 + a1 - a1 = a0 := by omega
  have s2 : fitsB a0 = true := fits_in b0
  have s3 : satv a0 = a0 := satv_fits s2
  have r0 : -9223372036854775808 ≤ a0 + a1 := by omega
  have r1 : a0 + a1 ≤ 9223372036854775807 := by omega
  clear p q
  by_cases r : fitsB (a0 * a1) = true
  · have t0 : satv (a0 * a1) = a0 * a1 := satv_fits r
    by_cases z : a1 = 0
    · subst z
      go_enter Try.func5, Try.ntmps5
      go_wp2_with (first | (go_at_call 9; refine (begun_any _).mono ?_; rintro e w' ⟨rfl, rfl⟩) | (go_at_call 10; refine (add_any _ _ _ (by omega) (by omega) (by omega) (by omega)).mono ?_; rintro e w' ⟨rfl, rfl⟩) | (go_at_call 12; refine (sub_any _ _ _ (by omega) (by omega) (by omega) (by omega)).mono ?_; rintro e w' ⟨rfl, rfl⟩) | (go_at_call 14; refine (mul_any _ _ _ (by omega) (by omega) (by omega) (by omega)).mono ?_; rintro e w' ⟨rfl, rfl⟩))
      go_ret
      exact ⟨rfl, Grown.refl _⟩
    · have z1 : (a1 == 0) = false := by simp [z]
      have k0 : (a0 * a1).tmod a1 = 0 := Int.mul_tmod_left a0 a1
      have k1 : (a0 * a1).tdiv a1 = a0 := Int.mul_tdiv_cancel a0 z
      have k2 : wrap64 a0 = a0 := w64 _ b0
      have k3 : wrap64 0 = 0 := w64 _ (by omega)
      go_enter Try.func5, Try.ntmps5
      go_wp2_with (first | (go_at_call 9; refine (begun_any _).mono ?_; rintro e w' ⟨rfl, rfl⟩) | (go_at_call 10; refine (add_any _ _ _ (by omega) (by omega) (by omega) (by omega)).mono ?_; rintro e w' ⟨rfl, rfl⟩) | (go_at_call 12; refine (sub_any _ _ _ (by omega) (by omega) (by omega) (by omega)).mono ?_; rintro e w' ⟨rfl, rfl⟩) | (go_at_call 14; refine (mul_any _ _ _ (by omega) (by omega) (by omega) (by omega)).mono ?_; rintro e w' ⟨rfl, rfl⟩))
      go_ret
      exact ⟨rfl, Grown.refl _⟩
  · have r' : fitsB (a0 * a1) = false := by simpa using r
    have hs := sign_mul (a := a0) (b := a1)
    have f' : a0 * a1 < -9223372036854775808 ∨ 9223372036854775807 < a0 * a1 := by
      rw [fits_iff] at r; omega
    rcases f' with f' | f'
    · have t0 := satv_low f'
      have g0 : (decide (0 < a0) == decide (0 < a1)) = false := by
        have h1 := hs.2.1 (by omega)
        rcases h1 with ⟨x, y⟩ | ⟨x, y⟩
        · rw [decide_eq_true x, decide_eq_false (by omega)]; rfl
        · rw [decide_eq_false (by omega), decide_eq_true y]; rfl
      clear hs r f'
      go_enter Try.func5, Try.ntmps5
      go_wp2_with (first | (go_at_call 9; refine (begun_any _).mono ?_; rintro e w' ⟨rfl, rfl⟩) | (go_at_call 10; refine (add_any _ _ _ (by omega) (by omega) (by omega) (by omega)).mono ?_; rintro e w' ⟨rfl, rfl⟩) | (go_at_call 12; refine (sub_any _ _ _ (by omega) (by omega) (by omega) (by omega)).mono ?_; rintro e w' ⟨rfl, rfl⟩) | (go_at_call 14; refine (mul_any _ _ _ (by omega) (by omega) (by omega) (by omega)).mono ?_; rintro e w' ⟨rfl, rfl⟩))
      go_ret
      exact ⟨rfl, Grown.refl _⟩
    · have t0 := satv_top f'
      have g0 : (decide (0 < a0) == decide (0 < a1)) = true := by
        have h1 := hs.1.1 (by omega)
        rcases h1 with ⟨x, y⟩ | ⟨x, y⟩
        · rw [decide_eq_true x, decide_eq_true y]; rfl
        · rw [decide_eq_false (by omega), decide_eq_false (by omega)]; rfl
      clear hs r f'
      go_enter Try.func5, Try.ntmps5
      go_wp2_with (first | (go_at_call 9; refine (begun_any _).mono ?_; rintro e w' ⟨rfl, rfl⟩) | (go_at_call 10; refine (add_any _ _ _ (by omega) (by omega) (by omega) (by omega)).mono ?_; rintro e w' ⟨rfl, rfl⟩) | (go_at_call 12; refine (sub_any _ _ _ (by omega) (by omega) (by omega) (by omega)).mono ?_; rintro e w' ⟨rfl, rfl⟩) | (go_at_call 14; refine (mul_any _ _ _ (by omega) (by omega) (by omega) (by omega)).mono ?_; rintro e w' ⟨rfl, rfl⟩))
      go_ret
      exact ⟨rfl, Grown.refl _⟩

/-! ### THE ROW's STEP: WRITTEN OUT: LEAVE IT -/
set_option maxRecDepth 100000 in
theorem lifted (os : Os) (started : os.Started) (H : Type) (enc : TypeId × Value → H) :
    ReturnsInHanded {} Try.checked os 5 .any (Rows.satBackSpec.pre6 enc Try.prog Try.f5 Rows.satBackRow.domain false) (Rows.satBackSpec.post enc Try.prog Try.f5 false true false false) := by
  refine returnsInHanded_of_change (C := Try.checked) own started (by kernel_rfl) Try.func5
    (ChangeSpec.witness6 (enc := enc) (C := Try.checked) false ⟨#[], #[.int .i64 0, .int .i64 0], []⟩ 8 (by kernel_rfl) (by kernel_rfl) (by kernel_rfl) (by kernel_rfl)) ?_
  intro W base args ds gs before hval0 hW hcnd _
  have hval : ∀ (j : Nat) t v, Try.f5.params[j]? = some t → args[j]? = some v → Value.okWide Try.prog W .any base t v := hval0
  have hW' := hW
  obtain ⟨p, q, hA0, hV, rfl, hfz, hnd⟩ := hW
  have hA : DataW.TrodAll enc Try.prog W 0 (fun _ => true) true Try.f5.params.toList args.toList ds p := hA0
  rw [Try.params5] at hA hval
  obtain ⟨v0, vs0, d0, ds0, p0, q0, hargs, rfl, rfl, h0, r0⟩ := trodAll_cons hA
  obtain ⟨v1, vs1, d1, ds1, p1, q1, rfl, rfl, rfl, h1, r1⟩ := trodAll_cons r0
  obtain ⟨rfl, rfl, rfl⟩ := trodAll_nil r1
  obtain rfl : args = #[v0, v1] := by cases args; simp_all
  obtain ⟨rfl, rfl⟩ := trodVars_none hV
  obtain ⟨a0, rfl, rfl, rfl, w0⟩ := open_int Try.underlying2 (hval 0 2 v0 rfl rfl) h0
  obtain ⟨a1, rfl, rfl, rfl, w1⟩ := open_int Try.underlying2 (hval 1 2 v1 rfl rfl) h1
  clear hA0 hval0
  simp only [List.append_nil] at hW'
  refine (walk a0 a1 w0 w1 W).mono fun e W' ⟨he, hg⟩ => ?_
  subst he
  exact ⟨_, rfl, post_of_same (pa := []) (pv := []) hW' (fun _ _ _ => (trodAll_cons_mk (shut_bool Try.underlying4 _) trodAll_mk0)) (fun sp _ => (trodAll_cons_mk (shut_int Try.underlying2 w0) (trodAll_cons_mk (shut_int Try.underlying2 w1) trodAll_mk0))) (fun _ _ => rfl) rfl
    (hg.frame _) hg.2.1 (ok_one (by kernel_rfl) rfl (okWide_bool_mk Try.underlying4 _))⟩

theorem over : Rows.satBackRow.holds Try.pinned (OpenSpec.ofChange Rows.satBackSpec) :=
  OpenClaim.holds_of_wide 5 Try.f5 rfl rfl rfl rfl rfl rfl rfl ⟨rfl, rfl, rfl, rfl, rfl⟩ rfl rfl rfl rfl rfl (by kernel_rfl) Try.func5 (by kernel_rfl)
    (of_decide_eq_true (by kernel_rfl)) (by unfold Func.isWrapper; first | (rw [if_pos (by decide +kernel)]; kernel_rfl) | (rw [if_neg (by decide +kernel)]; exact ⟨rfl, rfl⟩))
    (fun os started H enc _ => lifted os started H enc)

/-- ████ THE STATEMENT ████ -/
theorem proved : Rows.SatBackSaid :=
  over
end Go.Proofs.Ytbpckoopinjioaa.satBack
namespace Go.Proofs.Ytbpckoopinjioaa
theorem satBack_holds : Rows.SatBackSaid := satBack.proved
end Go.Proofs.Ytbpckoopinjioaa
