/-
  Proved: for every uint64 r the law RowFirst returns true: the first bit is set, none below it is, and the bits that are cleared one by one from the front are as many as Count tells. No condition.
-/
import Derived.Test.YtnhbodloiimagaaRows
import Derived.Test.YtnhbodloiimagaaBegun
import Derived.Test.YtnhbodloiimagaaFormsMath
import Derived.WalkKit
import Derived.ProofKit
import Derived.OpenShut
import Derived.Outline
import Derived.WalkLawsBesides
namespace Go.Proofs.Ytnhbodloiimagaa.rowFirst
open Go.ChangeShapes Go.WideShapes Go.ChangeAt Go.RowKit
set_option linter.unusedVariables false      -- a walk need not use every 'w<i>' (that an integer argument fits its kind)

theorem own : ownKnob Try.prog.godebug = none := by kernel_rfl

/-! ### STEP 1: THE WALK: the Go text returns true. 'Grown w w'': the world has at most new blocks (Derived/RowKit3.lean). Part the cases AHEAD of 'go_enter' where a test parts the walk; take each callee by a contract of your own. -/
theorem walk (a0 : Int) (w0 : (Lit.int .u64 a0).wf = true) (w : World) :
    Calls Try.prog 4 #[.int .u64 a0] w fun e w' => e = .returned (.bool true) ∧ Grown w w' := by
  have b0 := bounds_u64 w0
  obtain ⟨r, rfl⟩ := Int.eq_ofNat_of_zero_le b0.1
  have hr : r < 18446744073709551616 := by omega
  go_enter Try.func4, Try.ntmps4
  go_wp2_with (go_at_call 7; refine (begun_any _).mono ?_; rintro e w' ⟨rfl, rfl⟩)
  go_loop [3, 4, 5] (fun n l x => ∃ L X : Nat, L ≤ 64 ∧ Tail r L X ∧ X < 18446744073709551616 ∧ n = .int .i64 (cntTo r L : Int) ∧ l = .int .i64 ((L : Int) - 1) ∧ x = .int .u64 (X : Int)) (fun _ l _ => (63 - intOf l).toNat)
  case atStart => exact ⟨0, r, by omega, tail_start r, hr, rfl, by go_num, rfl⟩
  case round =>
    obtain ⟨L, x, hL, t, hx, rfl, rfl, rfl⟩ := hrel
    have T : Hid (Tail r L x) := t
    clear t
    have hc := cnt_le r L
    by_cases hn : x = 0
    · have HE : Hid (cntTo r L = cntv r) := tail_end hL (hn ▸ T.out)
      have hz : ((x : Int) != 0) = false := by rw [hn]; rfl
      clear hn
      go_wp2_with (go_at_call 16; refine (count_any _ _ (by omega)).mono ?_; rintro e w' ⟨rfl, rfl⟩)
      go_ret
      refine ⟨ret_b ?_, Grown.refl _⟩
      rw [HE.out]; simp
    · have hz : ((x : Int) != 0) = true := by simp; omega
      obtain ⟨g1, g2, g3, g4, g5, g6, g7, g8⟩ := tail_step hx T.out hn
      have c1 : ∀ w, Calls Try.prog 8 #[.int .u64 (x : Int)] w fun e w' => e = .returned (.tuple #[.int .i64 (firstv x : Int), .bool true]) ∧ w' = w := fun w => first_yes x w hx hn
      have c2 : ∀ w, Calls Try.prog 14 #[.int .u64 (r : Int), .int .i64 (firstv x : Int)] w fun e w' => e = .returned (.bool true) ∧ w' = w := fun w => is_lit _ _ _ _ w rfl hr (by omega) (by omega) g3
      have c3 : ∀ w, Calls Try.prog 12 #[.int .u64 (x : Int), .int .i64 (firstv x : Int)] w fun e w' => e = .returned (.int .u64 (clrv x (firstv x : Int) : Int)) ∧ w' = w := fun w => clear_any _ _ w hx (by omega) (by omega)
      have c4 : ∀ w, Calls Try.prog 10 #[.int .u64 (clrv x (firstv x : Int) : Int), .int .i64 (firstv x : Int)] w fun e w' => e = .returned (.int .u64 (x : Int)) ∧ w' = w := fun w => set_lit _ _ _ _ w rfl (by omega) (by omega) (by omega) (by rw [g5])
      have c5 : ∀ k : Nat, L ≤ k → k < firstv x → ∀ w, Calls Try.prog 14 #[.int .u64 (r : Int), .int .i64 (k : Int)] w fun e w' => e = .returned (.bool false) ∧ w' = w := fun k h1 h2 w => is_lit _ _ _ _ w rfl hr (by omega) (by omega) (g4 k h1 h2)
      have G7 : Hid (Tail r (firstv x + 1) (clrv x (firstv x : Int))) := g7
      have G8 : Hid (cntTo r (firstv x + 1) = cntTo r L + 1) := g8
      clear g3 g4 g5 g7 g8 hn T
      generalize clrv x (firstv x : Int) = y at *
      generalize firstv x = i at *
      generalize cntTo r L = n at *
      go_wp2_with (first
        | (go_at_call 8; with_reducible refine (c1 _).mono ?_; rintro e w' ⟨rfl, rfl⟩)
        | (go_at_call 14; with_reducible refine (c2 _).mono ?_; rintro e w' ⟨rfl, rfl⟩))
      go_loop [8] (fun k => ∃ K : Nat, L ≤ K ∧ K ≤ i ∧ k = .int .i64 (K : Int)) (fun k => i - (intOf k).toNat)
      case atStart => exact ⟨L, by omega, by omega, by go_num⟩
      case round =>
        obtain ⟨K, h1, h2, rfl⟩ := hrel
        by_cases hk : K < i
        · have c6 := c5 K h1 hk
          go_wp2_with (go_at_call 14; with_reducible refine (c6 _).mono ?_; rintro e w' ⟨rfl, rfl⟩)
          go_round
          case rel => exact ⟨K + 1, by omega, by omega, by go_num⟩
          case measure => simp [intOf]; omega
        · go_wp2_with (first
            | (go_at_call 12; with_reducible refine (c3 _).mono ?_; rintro e w' ⟨rfl, rfl⟩)
            | (go_at_call 10; with_reducible refine (c4 _).mono ?_; rintro e w' ⟨rfl, rfl⟩))
          go_round
          case rel => exact ⟨i + 1, y, by omega, G7.out, by omega, by rw [G8.out]; go_num, by go_num, rfl⟩
          case measure => simp [intOf]; omega

/-! ### THE ROW's STEP: WRITTEN OUT: LEAVE IT -/
set_option maxRecDepth 100000 in
theorem lifted (os : Os) (started : os.Started) (H : Type) (enc : TypeId × Value → H) :
    ReturnsInHanded {} Try.checked os 4 .any (Rows.rowFirstSpec.pre6 enc Try.prog Try.f4 Rows.rowFirstRow.domain false) (Rows.rowFirstSpec.post enc Try.prog Try.f4 false true false false) := by
  refine returnsInHanded_of_change (C := Try.checked) own started (by kernel_rfl) Try.func4
    (ChangeSpec.witness6 (enc := enc) (C := Try.checked) false ⟨#[], #[.int .u64 0], []⟩ 8 (by kernel_rfl) (by kernel_rfl) (by kernel_rfl) (by kernel_rfl)) ?_
  intro W base args ds gs before hval0 hW hcnd _
  have hval : ∀ (j : Nat) t v, Try.f4.params[j]? = some t → args[j]? = some v → Value.okWide Try.prog W .any base t v := hval0
  have hW' := hW
  obtain ⟨p, q, hA0, hV, rfl, hfz, hnd⟩ := hW
  have hA : DataW.TrodAll enc Try.prog W 0 (fun _ => true) true Try.f4.params.toList args.toList ds p := hA0
  rw [Try.params4] at hA hval
  obtain ⟨v0, vs0, d0, ds0, p0, q0, hargs, rfl, rfl, h0, r0⟩ := trodAll_cons hA
  obtain ⟨rfl, rfl, rfl⟩ := trodAll_nil r0
  obtain rfl : args = #[v0] := by cases args; simp_all
  obtain ⟨rfl, rfl⟩ := trodVars_none hV
  obtain ⟨a0, rfl, rfl, rfl, w0⟩ := open_int Try.underlying22 (hval 0 22 v0 rfl rfl) h0
  clear hA0 hval0
  simp only [List.append_nil] at hW'
  refine (walk a0 w0 W).mono fun e W' ⟨he, hg⟩ => ?_
  subst he
  exact ⟨_, rfl, post_of_same (pa := []) (pv := []) hW' (fun _ _ _ => (trodAll_cons_mk (shut_bool Try.underlying4 _) trodAll_mk0)) (fun sp _ => (trodAll_cons_mk (shut_int Try.underlying22 w0) trodAll_mk0)) (fun _ _ => rfl) rfl
    (hg.frame _) hg.2.1 (ok_one (by kernel_rfl) rfl (okWide_bool_mk Try.underlying4 _))⟩

theorem over : Rows.rowFirstRow.holds Try.pinned (OpenSpec.ofChange Rows.rowFirstSpec) :=
  OpenClaim.holds_of_wide 4 Try.f4 rfl rfl rfl rfl rfl rfl rfl ⟨rfl, rfl, rfl, rfl, rfl⟩ rfl rfl rfl rfl rfl (by kernel_rfl) Try.func4 (by kernel_rfl)
    (of_decide_eq_true (by kernel_rfl)) (by unfold Func.isWrapper; first | (rw [if_pos (by decide +kernel)]; kernel_rfl) | (rw [if_neg (by decide +kernel)]; exact ⟨rfl, rfl⟩))
    (fun os started H enc _ => lifted os started H enc)

/-- ████ THE STATEMENT ████ -/
theorem proved : Rows.RowFirstSaid :=
  over
end Go.Proofs.Ytnhbodloiimagaa.rowFirst
namespace Go.Proofs.Ytnhbodloiimagaa
theorem rowFirst_holds : Rows.RowFirstSaid := rowFirst.proved
end Go.Proofs.Ytnhbodloiimagaa
