/-
  Proved: the closed law RowForms returns true: each bit alone, the full row, the empty row, bits that are not there. No condition.
-/
import Derived.Test.YtnhbodloiimagaaRows
import Derived.Test.YtnhbodloiimagaaBegun
import Derived.Test.YtnhbodloiimagaaFormsMath
import Derived.WalkKit
import Derived.ProofKit
import Derived.OpenShut
import Derived.Outline
import Derived.WalkLawsBesides
namespace Go.Proofs.Ytnhbodloiimagaa.rowForms
open Go.ChangeShapes Go.WideShapes Go.ChangeAt Go.RowKit
set_option linter.unusedVariables false      -- a walk need not use every 'w<i>' (that an integer argument fits its kind)

theorem own : ownKnob Try.prog.godebug = none := by kernel_rfl

theorem first_full (w : World) : Calls Try.prog 8 #[.int .u64 18446744073709551615] w fun e w' => e = .returned (.tuple #[.int .i64 0, .bool true]) ∧ w' = w :=
  first_lit 18446744073709551615 _ _ w rfl (by decide) (by decide) (by rw [full_first]; rfl)
theorem count_full (w : World) : Calls Try.prog 16 #[.int .u64 18446744073709551615] w fun e w' => e = .returned (.int .i64 64) ∧ w' = w :=
  count_lit 18446744073709551615 _ _ w rfl (by decide) (by rw [full_cnt]; rfl)
theorem count_none (w : World) : Calls Try.prog 16 #[.int .u64 0] w fun e w' => e = .returned (.int .i64 0) ∧ w' = w :=
  count_lit 0 _ _ w rfl (by decide) (by decide +kernel)
theorem set_far (w : World) : Calls Try.prog 10 #[.int .u64 5, .int .i64 1099511627776] w fun e w' => e = .returned (.int .u64 5) ∧ w' = w :=
  set_lit 5 _ _ _ w rfl (by decide) (by decide) (by decide) (by rw [setv_out 5 (by decide)]; rfl)
theorem clear_far (w : World) : Calls Try.prog 12 #[.int .u64 5, .int .i64 (-1099511627776)] w fun e w' => e = .returned (.int .u64 5) ∧ w' = w :=
  clear_lit 5 _ _ _ w rfl (by decide) (by decide) (by decide) (by rw [clrv_out (by decide) (by decide)]; rfl)

/-! ### STEP 1: THE WALK: the Go text returns true. 'Grown w w'': the world has at most new blocks (Derived/RowKit3.lean). Part the cases AHEAD of 'go_enter' where a test parts the walk; take each callee by a contract of your own. -/
theorem walk  (w : World) :
    Calls Try.prog 6 #[] w fun e w' => e = .returned (.bool true) ∧ Grown w w' := by
  go_enter Try.func6, Try.ntmps6
  go_wp2_with (go_at_call 7; refine (begun_any _).mono ?_; rintro e w' ⟨rfl, rfl⟩)
  go_loop [1] (fun i => ∃ k : Nat, k ≤ 64 ∧ i = .int .i64 k) (fun i => 64 - (intOf i).toNat)
  case atStart => exact ⟨0, by omega, rfl⟩
  case round =>
    obtain ⟨k, hk, rfl⟩ := hrel
    by_cases hlt : k < 64
    · have c1 : ∀ w, Calls Try.prog 10 #[.int .u64 0, .int .i64 (k : Int)] w fun e w' => e = .returned (.int .u64 (setv 0 (k : Int) : Int)) ∧ w' = w := fun w => set_any 0 _ w (by decide) (by omega) (by omega)
      have hx : setv 0 (k : Int) < 18446744073709551616 := setv_lt (by decide) _
      have c2 : ∀ w, Calls Try.prog 8 #[.int .u64 (setv 0 (k : Int) : Int)] w fun e w' => e = .returned (.tuple #[.int .i64 (k : Int), .bool true]) ∧ w' = w := fun w => first_lit _ _ _ w rfl hx (one_ne k (by omega)) (by rw [one_first k (by omega)])
      have c3 : ∀ w, Calls Try.prog 16 #[.int .u64 (setv 0 (k : Int) : Int)] w fun e w' => e = .returned (.int .i64 1) ∧ w' = w := fun w => count_lit _ _ _ w rfl hx (by rw [one_cnt k (by omega)]; rfl)
      have c4 : ∀ w, Calls Try.prog 12 #[.int .u64 (setv 0 (k : Int) : Int), .int .i64 (k : Int)] w fun e w' => e = .returned (.int .u64 0) ∧ w' = w := fun w => clear_lit _ _ _ _ w rfl hx (by omega) (by omega) (by rw [one_clr k]; rfl)
      have hv := one_set k (by omega)
      have HV : Hid (setv 0 (k : Int) = 2 ^ k) := hv
      clear hv
      generalize setv 0 (k : Int) = p at *
      have hb : ((p : Int) != IntKind.u64.wrap (2 ^ k)) = false := by
        have e : ((2 : Int) ^ k) = (p : Int) := by rw [HV.out]; simp
        rw [e, IntKind.wrap_u64]; simp; omega
      go_wp2_with (first
        | (go_at_call 10; with_reducible refine (c1 _).mono ?_; rintro e w' ⟨rfl, rfl⟩)
        | (go_at_call 8; with_reducible refine (c2 _).mono ?_; rintro e w' ⟨rfl, rfl⟩)
        | (go_at_call 16; with_reducible refine (c3 _).mono ?_; rintro e w' ⟨rfl, rfl⟩)
        | (go_at_call 12; with_reducible refine (c4 _).mono ?_; rintro e w' ⟨rfl, rfl⟩))
      go_round
      case rel => exact ⟨k + 1, by omega, by go_num⟩
      case measure => simp [intOf]; omega
    · go_wp2_with (first
        | (go_at_call 8; with_reducible refine (first_full _).mono ?_; rintro e w' ⟨rfl, rfl⟩)
        | (go_at_call 16; with_reducible refine (count_full _).mono ?_; rintro e w' ⟨rfl, rfl⟩)
        | (go_at_call 16; with_reducible refine (count_none _).mono ?_; rintro e w' ⟨rfl, rfl⟩)
        | (go_at_call 10; with_reducible refine (set_far _).mono ?_; rintro e w' ⟨rfl, rfl⟩)
        | (go_at_call 12; with_reducible refine (clear_far _).mono ?_; rintro e w' ⟨rfl, rfl⟩))
      go_ret
      exact ⟨rfl, Grown.refl _⟩

/-! ### THE ROW's STEP: WRITTEN OUT: LEAVE IT -/
set_option maxRecDepth 100000 in
theorem lifted (os : Os) (started : os.Started) (H : Type) (enc : TypeId × Value → H) :
    ReturnsInHanded {} Try.checked os 6 .any (Rows.rowFormsSpec.pre6 enc Try.prog Try.f6 Rows.rowFormsRow.domain false) (Rows.rowFormsSpec.post enc Try.prog Try.f6 false true false false) := by
  refine returnsInHanded_of_change (C := Try.checked) own started (by kernel_rfl) Try.func6
    (ChangeSpec.witness6 (enc := enc) (C := Try.checked) false ⟨#[], #[], []⟩ 8 (by kernel_rfl) (by kernel_rfl) (by kernel_rfl) (by kernel_rfl)) ?_
  intro W base args ds gs before hval0 hW hcnd _
  have hval : ∀ (j : Nat) t v, Try.f6.params[j]? = some t → args[j]? = some v → Value.okWide Try.prog W .any base t v := hval0
  have hW' := hW
  obtain ⟨p, q, hA0, hV, rfl, hfz, hnd⟩ := hW
  have hA : DataW.TrodAll enc Try.prog W 0 (fun _ => true) true Try.f6.params.toList args.toList ds p := hA0
  rw [Try.params6] at hA hval
  obtain ⟨rfl, rfl, rfl⟩ := trodAll_none hA
  obtain ⟨rfl, rfl⟩ := trodVars_none hV
  clear hA0 hval0
  simp only [List.append_nil] at hW'
  refine (walk  W).mono fun e W' ⟨he, hg⟩ => ?_
  subst he
  exact ⟨_, rfl, post_of_same (pa := []) (pv := []) hW' (fun _ _ _ => (trodAll_cons_mk (shut_bool Try.underlying4 _) trodAll_mk0)) (fun sp _ => rfl) (fun _ _ => rfl) rfl
    (hg.frame _) hg.2.1 (ok_one (by kernel_rfl) rfl (okWide_bool_mk Try.underlying4 _))⟩

theorem over : Rows.rowFormsRow.holds Try.pinned (OpenSpec.ofChange Rows.rowFormsSpec) :=
  OpenClaim.holds_of_wide 6 Try.f6 rfl rfl rfl rfl rfl rfl rfl ⟨rfl, rfl, rfl, rfl, rfl⟩ rfl rfl rfl rfl rfl (by kernel_rfl) Try.func6 (by kernel_rfl)
    (of_decide_eq_true (by kernel_rfl)) (by unfold Func.isWrapper; first | (rw [if_pos (by decide +kernel)]; kernel_rfl) | (rw [if_neg (by decide +kernel)]; exact ⟨rfl, rfl⟩))
    (fun os started H enc _ => lifted os started H enc)

/-- ████ THE STATEMENT ████ -/
theorem proved : Rows.RowFormsSaid :=
  over
end Go.Proofs.Ytnhbodloiimagaa.rowForms
namespace Go.Proofs.Ytnhbodloiimagaa
theorem rowForms_holds : Rows.RowFormsSaid := rowForms.proved
end Go.Proofs.Ytnhbodloiimagaa
