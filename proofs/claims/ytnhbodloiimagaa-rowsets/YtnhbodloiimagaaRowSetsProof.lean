/-
  Proved: for every uint64 r and uint8 i, k the law RowSets returns true: to set is to have, to clear is not to have, and no other bit is touched. No condition.
-/
import Derived.Test.YtnhbodloiimagaaRows
import Derived.Test.YtnhbodloiimagaaUse
import Derived.WalkKit
import Derived.ProofKit
import Derived.OpenShut
import Derived.Outline
import Derived.WalkLawsBesides
namespace Go.Proofs.Ytnhbodloiimagaa.rowSets
open Go.ChangeShapes Go.WideShapes Go.ChangeAt Go.RowKit
set_option linter.unusedVariables false      -- a walk need not use every 'w<i>' (that an integer argument fits its kind)

theorem own : ownKnob Try.prog.godebug = none := by kernel_rfl

/-! ### STEP 1: THE WALK: the Go text returns true. 'Grown w w'': the world has at most new blocks (Derived/RowKit3.lean). Part the cases AHEAD of 'go_enter' where a test parts the walk; take each callee by a contract of your own. -/
set_option maxHeartbeats 1000000 in
theorem walk (a0 : Int) (a1 : Int) (a2 : Int) (w0 : (Lit.int .u64 a0).wf = true) (w1 : (Lit.int .u8 a1).wf = true) (w2 : (Lit.int .u8 a2).wf = true) (w : World) :
    Calls Try.prog 5 #[.int .u64 a0, .int .u8 a1, .int .u8 a2] w fun e w' => e = .returned (.bool true) ∧ Grown w w' := by
  have b0 := bounds_u64 w0
  have b1 := bounds_u8 w1
  have b2 := bounds_u8 w2
  obtain ⟨r, rfl⟩ := Int.eq_ofNat_of_zero_le b0.1
  have hr : r < 18446744073709551616 := by omega
  have hx := setv_lt hr (a1 % 64)
  have hy := clrv_lt hr (a1 % 64)
  have s1 : ∀ w, Calls Try.prog 10 #[.int .u64 (r : Int), .int .i64 (a1 % 64)] w fun e w' => e = .returned (.int .u64 ((setv r (a1 % 64) : Nat) : Int)) ∧ w' = w := fun w => set_any r _ w hr (by omega) (by omega)
  have s2 : ∀ w, Calls Try.prog 12 #[.int .u64 (r : Int), .int .i64 (a1 % 64)] w fun e w' => e = .returned (.int .u64 ((clrv r (a1 % 64) : Nat) : Int)) ∧ w' = w := fun w => clear_any r _ w hr (by omega) (by omega)
  have s3 : ∀ w, Calls Try.prog 14 #[.int .u64 ((setv r (a1 % 64) : Nat) : Int), .int .i64 (a1 % 64)] w fun e w' => e = .returned (.bool true) ∧ w' = w := fun w => is_lit _ _ _ _ w rfl hx (by omega) (by omega) (is_set r (by omega) (by omega))
  have s4 : ∀ w, Calls Try.prog 14 #[.int .u64 ((clrv r (a1 % 64) : Nat) : Int), .int .i64 (a1 % 64)] w fun e w' => e = .returned (.bool false) ∧ w' = w := fun w => is_lit _ _ _ _ w rfl hy (by omega) (by omega) (is_clr hr _)
  have s7 : ∀ w, Calls Try.prog 14 #[.int .u64 (r : Int), .int .i64 (a2 % 64)] w fun e w' => e = .returned (.bool (isv r (a2 % 64))) ∧ w' = w := fun w => is_any r _ w hr (by omega) (by omega)
  have s8 : ∀ w, Calls Try.prog 16 #[.int .u64 ((setv r (a1 % 64) : Nat) : Int)] w fun e w' => e = .returned (.int .i64 ((cntv (clrv r (a1 % 64)) : Int) + 1)) ∧ w' = w := fun w => count_lit _ _ _ w rfl hx (by rw [cnt_set_clr hr (by omega) (by omega)]; rfl)
  have s9 : ∀ w, Calls Try.prog 16 #[.int .u64 ((clrv r (a1 % 64) : Nat) : Int)] w fun e w' => e = .returned (.int .i64 (cntv (clrv r (a1 % 64)) : Int)) ∧ w' = w := fun w => count_any _ w hy
  have s10 : ∀ w, Calls Try.prog 10 #[.int .u64 ((clrv r (a1 % 64) : Nat) : Int), .int .i64 (a1 % 64)] w fun e w' => e = .returned (.int .u64 ((setv r (a1 % 64) : Nat) : Int)) ∧ w' = w := fun w => set_lit _ _ _ _ w rfl hy (by omega) (by omega) (by rw [set_clr hr])
  have s11 : ∀ w, Calls Try.prog 12 #[.int .u64 ((setv r (a1 % 64) : Nat) : Int), .int .i64 (a1 % 64)] w fun e w' => e = .returned (.int .u64 ((clrv r (a1 % 64) : Nat) : Int)) ∧ w' = w := fun w => clear_lit _ _ _ _ w rfl hx (by omega) (by omega) (by rw [clr_set hr])
  have s12 : ∀ w, Calls Try.prog 10 #[.int .u64 (r : Int), .int .i64 64] w fun e w' => e = .returned (.int .u64 (r : Int)) ∧ w' = w := fun w => set_lit _ _ _ _ w rfl hr (by omega) (by omega) (by rw [setv_out r (by omega)])
  have s13 : ∀ w, Calls Try.prog 12 #[.int .u64 (r : Int), .int .i64 (-1)] w fun e w' => e = .returned (.int .u64 (r : Int)) ∧ w' = w := fun w => clear_lit _ _ _ _ w rfl hr (by omega) (by omega) (by rw [clrv_out hr (by omega)])
  have s14 : ∀ w, Calls Try.prog 14 #[.int .u64 (r : Int), .int .i64 64] w fun e w' => e = .returned (.bool false) ∧ w' = w := fun w => is_lit _ _ _ _ w rfl hr (by omega) (by omega) (isv_out r (by omega))
  have s15 : ∀ w, Calls Try.prog 14 #[.int .u64 (r : Int), .int .i64 (-1)] w fun e w' => e = .returned (.bool false) ∧ w' = w := fun w => is_lit _ _ _ _ w rfl hr (by omega) (by omega) (isv_out r (by omega))
  have c3 := cntv_le (clrv r (a1 % 64))
  by_cases h : a1 % 64 = a2 % 64
  · have hd : (a1 % 64 == a2 % 64) = true := by simp [h]
    clear h
    clear hx hy b0 w0 w1 w2 hr
    generalize cntv (clrv r (a1 % 64)) = n at *
    generalize setv r (a1 % 64) = X at *
    generalize clrv r (a1 % 64) = Y at *
    generalize isv r (a2 % 64) = q at *
    go_enter Try.func5, Try.ntmps5
    simp only [List.append]
    go_wp2_with (first
      | (go_at_call 7; refine (begun_any _).mono ?_; rintro e w' ⟨rfl, rfl⟩)
      | (go_at_call 10; with_reducible refine (s1 _).mono ?_; rintro e w' ⟨rfl, rfl⟩)
      | (go_at_call 12; with_reducible refine (s2 _).mono ?_; rintro e w' ⟨rfl, rfl⟩)
      | (go_at_call 14; with_reducible refine (s3 _).mono ?_; rintro e w' ⟨rfl, rfl⟩)
      | (go_at_call 14; with_reducible refine (s4 _).mono ?_; rintro e w' ⟨rfl, rfl⟩)
      | (go_at_call 14; with_reducible refine (s7 _).mono ?_; rintro e w' ⟨rfl, rfl⟩)
      | (go_at_call 16; with_reducible refine (s8 _).mono ?_; rintro e w' ⟨rfl, rfl⟩)
      | (go_at_call 16; with_reducible refine (s9 _).mono ?_; rintro e w' ⟨rfl, rfl⟩)
      | (go_at_call 10; with_reducible refine (s10 _).mono ?_; rintro e w' ⟨rfl, rfl⟩)
      | (go_at_call 12; with_reducible refine (s11 _).mono ?_; rintro e w' ⟨rfl, rfl⟩)
      | (go_at_call 10; with_reducible refine (s12 _).mono ?_; rintro e w' ⟨rfl, rfl⟩)
      | (go_at_call 12; with_reducible refine (s13 _).mono ?_; rintro e w' ⟨rfl, rfl⟩)
      | (go_at_call 14; with_reducible refine (s14 _).mono ?_; rintro e w' ⟨rfl, rfl⟩)
      | (go_at_call 14; with_reducible refine (s15 _).mono ?_; rintro e w' ⟨rfl, rfl⟩))
    go_ret
    exact ⟨rfl, Grown.refl _⟩
  · have hd : (a1 % 64 == a2 % 64) = false := by simp [h]
    have s5 : ∀ w, Calls Try.prog 14 #[.int .u64 ((setv r (a1 % 64) : Nat) : Int), .int .i64 (a2 % 64)] w fun e w' => e = .returned (.bool (isv r (a2 % 64))) ∧ w' = w := fun w => is_lit _ _ _ _ w rfl hx (by omega) (by omega) (is_set_ne r h)
    have s6 : ∀ w, Calls Try.prog 14 #[.int .u64 ((clrv r (a1 % 64) : Nat) : Int), .int .i64 (a2 % 64)] w fun e w' => e = .returned (.bool (isv r (a2 % 64))) ∧ w' = w := fun w => is_lit _ _ _ _ w rfl hy (by omega) (by omega) (is_clr_ne hr h)
    clear h
    clear hx hy b0 w0 w1 w2 hr
    generalize cntv (clrv r (a1 % 64)) = n at *
    generalize setv r (a1 % 64) = X at *
    generalize clrv r (a1 % 64) = Y at *
    generalize isv r (a2 % 64) = q at *
    go_enter Try.func5, Try.ntmps5
    simp only [List.append]
    go_wp2_with (first
      | (go_at_call 7; refine (begun_any _).mono ?_; rintro e w' ⟨rfl, rfl⟩)
      | (go_at_call 10; with_reducible refine (s1 _).mono ?_; rintro e w' ⟨rfl, rfl⟩)
      | (go_at_call 12; with_reducible refine (s2 _).mono ?_; rintro e w' ⟨rfl, rfl⟩)
      | (go_at_call 14; with_reducible refine (s3 _).mono ?_; rintro e w' ⟨rfl, rfl⟩)
      | (go_at_call 14; with_reducible refine (s4 _).mono ?_; rintro e w' ⟨rfl, rfl⟩)
      | (go_at_call 14; with_reducible refine (s7 _).mono ?_; rintro e w' ⟨rfl, rfl⟩)
      | (go_at_call 16; with_reducible refine (s8 _).mono ?_; rintro e w' ⟨rfl, rfl⟩)
      | (go_at_call 16; with_reducible refine (s9 _).mono ?_; rintro e w' ⟨rfl, rfl⟩)
      | (go_at_call 10; with_reducible refine (s10 _).mono ?_; rintro e w' ⟨rfl, rfl⟩)
      | (go_at_call 12; with_reducible refine (s11 _).mono ?_; rintro e w' ⟨rfl, rfl⟩)
      | (go_at_call 10; with_reducible refine (s12 _).mono ?_; rintro e w' ⟨rfl, rfl⟩)
      | (go_at_call 12; with_reducible refine (s13 _).mono ?_; rintro e w' ⟨rfl, rfl⟩)
      | (go_at_call 14; with_reducible refine (s14 _).mono ?_; rintro e w' ⟨rfl, rfl⟩)
      | (go_at_call 14; with_reducible refine (s15 _).mono ?_; rintro e w' ⟨rfl, rfl⟩)
      | (go_at_call 14; with_reducible refine (s5 _).mono ?_; rintro e w' ⟨rfl, rfl⟩)
      | (go_at_call 14; with_reducible refine (s6 _).mono ?_; rintro e w' ⟨rfl, rfl⟩))
    go_ret
    exact ⟨rfl, Grown.refl _⟩

/-! ### THE ROW's STEP: WRITTEN OUT: LEAVE IT -/
set_option maxRecDepth 100000 in
theorem lifted (os : Os) (started : os.Started) (H : Type) (enc : TypeId × Value → H) :
    ReturnsInHanded {} Try.checked os 5 .any (Rows.rowSetsSpec.pre6 enc Try.prog Try.f5 Rows.rowSetsRow.domain false) (Rows.rowSetsSpec.post enc Try.prog Try.f5 false true false false) := by
  refine returnsInHanded_of_change (C := Try.checked) own started (by kernel_rfl) Try.func5
    (ChangeSpec.witness6 (enc := enc) (C := Try.checked) false ⟨#[], #[.int .u64 0, .int .u8 0, .int .u8 0], []⟩ 8 (by kernel_rfl) (by kernel_rfl) (by kernel_rfl) (by kernel_rfl)) ?_
  intro W base args ds gs before hval0 hW hcnd _
  have hval : ∀ (j : Nat) t v, Try.f5.params[j]? = some t → args[j]? = some v → Value.okWide Try.prog W .any base t v := hval0
  have hW' := hW
  obtain ⟨p, q, hA0, hV, rfl, hfz, hnd⟩ := hW
  have hA : DataW.TrodAll enc Try.prog W 0 (fun _ => true) true Try.f5.params.toList args.toList ds p := hA0
  rw [Try.params5] at hA hval
  obtain ⟨v0, vs0, d0, ds0, p0, q0, hargs, rfl, rfl, h0, r0⟩ := trodAll_cons hA
  obtain ⟨v1, vs1, d1, ds1, p1, q1, rfl, rfl, rfl, h1, r1⟩ := trodAll_cons r0
  obtain ⟨v2, vs2, d2, ds2, p2, q2, rfl, rfl, rfl, h2, r2⟩ := trodAll_cons r1
  obtain ⟨rfl, rfl, rfl⟩ := trodAll_nil r2
  obtain rfl : args = #[v0, v1, v2] := by cases args; simp_all
  obtain ⟨rfl, rfl⟩ := trodVars_none hV
  obtain ⟨a0, rfl, rfl, rfl, w0⟩ := open_int Try.underlying22 (hval 0 22 v0 rfl rfl) h0
  obtain ⟨a1, rfl, rfl, rfl, w1⟩ := open_int Try.underlying5 (hval 1 5 v1 rfl rfl) h1
  obtain ⟨a2, rfl, rfl, rfl, w2⟩ := open_int Try.underlying5 (hval 2 5 v2 rfl rfl) h2
  clear hA0 hval0
  simp only [List.append_nil] at hW'
  refine (walk a0 a1 a2 w0 w1 w2 W).mono fun e W' ⟨he, hg⟩ => ?_
  subst he
  exact ⟨_, rfl, post_of_same (pa := []) (pv := []) hW' (fun _ _ _ => (trodAll_cons_mk (shut_bool Try.underlying4 _) trodAll_mk0)) (fun sp _ => (trodAll_cons_mk (shut_int Try.underlying22 w0) (trodAll_cons_mk (shut_int Try.underlying5 w1) (trodAll_cons_mk (shut_int Try.underlying5 w2) trodAll_mk0)))) (fun _ _ => rfl) rfl
    (hg.frame _) hg.2.1 (ok_one (by kernel_rfl) rfl (okWide_bool_mk Try.underlying4 _))⟩

theorem over : Rows.rowSetsRow.holds Try.pinned (OpenSpec.ofChange Rows.rowSetsSpec) :=
  OpenClaim.holds_of_wide 5 Try.f5 rfl rfl rfl rfl rfl rfl rfl ⟨rfl, rfl, rfl, rfl, rfl⟩ rfl rfl rfl rfl rfl (by kernel_rfl) Try.func5 (by kernel_rfl)
    (of_decide_eq_true (by kernel_rfl)) (by unfold Func.isWrapper; first | (rw [if_pos (by decide +kernel)]; kernel_rfl) | (rw [if_neg (by decide +kernel)]; exact ⟨rfl, rfl⟩))
    (fun os started H enc _ => lifted os started H enc)

/-- ████ THE STATEMENT ████ -/
theorem proved : Rows.RowSetsSaid :=
  over
end Go.Proofs.Ytnhbodloiimagaa.rowSets
namespace Go.Proofs.Ytnhbodloiimagaa
theorem rowSets_holds : Rows.RowSetsSaid := rowSets.proved
end Go.Proofs.Ytnhbodloiimagaa
