/-
  Proved: the closed law SatForms returns true: some products, sums, differences and quotients at the ends of int64. No condition.
-/
import Derived.Test.YtbpckoopinjioaaRows
import Derived.Test.YtbpckoopinjioaaMuls
import Derived.WalkKit
import Derived.ProofKit
import Derived.OpenShut
import Derived.Deep.QuietTactic
import Derived.BigQuiet
namespace Go.Proofs.Ytbpckoopinjioaa.satForms
open Go.ChangeShapes Go.WideShapes Go.ChangeAt Go.RowKit
set_option linter.unusedVariables false      -- a walk need not use every 'w<i>' (that an integer argument fits its kind)

theorem own : ownKnob Try.prog.godebug = none := by kernel_rfl

def as_ : List Int := [-9223372036854775808, -9223372036854775808, -1, 9223372036854775807, 9223372036854775807, 4294967296, 2147483648, 0, -9223372036854775808]
def bs_ : List Int := [-1, 1, -9223372036854775808, 2, 1, 2147483648, 4294967296, -9223372036854775808, -9223372036854775808]
def ws_ : List Int := [9223372036854775807, -9223372036854775808, 9223372036854775807, 9223372036854775807, 9223372036854775807, 9223372036854775807, 9223372036854775807, 0, 9223372036854775807]
def os_ : List Bool := [false, true, false, false, true, false, false, true, false]
/-- the four rows that the law lays, as they lie from block B on -/
def laid (B : Nat) (wx : World) : Prop :=
  (∀ k, k < 9 → wx.cell? ⟨B, k, none⟩ = some (.int .i64 (as_.getD k 0))) ∧ (∀ k, k < 9 → wx.cell? ⟨B + 1, k, none⟩ = some (.int .i64 (bs_.getD k 0))) ∧
  (∀ k, k < 9 → wx.cell? ⟨B + 1 + 1, k, none⟩ = some (.int .i64 (ws_.getD k 0))) ∧ (∀ k, k < 9 → wx.cell? ⟨B + 1 + 1 + 1, k, none⟩ = some (.bool (os_.getD k false)))
theorem nine {p : Nat → Prop} (h0 : p 0) (h1 : p 1) (h2 : p 2) (h3 : p 3) (h4 : p 4) (h5 : p 5) (h6 : p 6) (h7 : p 7) (h8 : p 8) : ∀ k, k < 9 → p k := by
  intro k hk
  match k, hk with
  | 0, _ => exact h0
  | 1, _ => exact h1
  | 2, _ => exact h2
  | 3, _ => exact h3
  | 4, _ => exact h4
  | 5, _ => exact h5
  | 6, _ => exact h6
  | 7, _ => exact h7
  | 8, _ => exact h8

/-! ### STEP 1: THE WALK: the Go text returns true. 'Grown w w'': the world has at most new blocks (Derived/RowKit3.lean). Part the cases AHEAD of 'go_enter' where a test parts the walk; take each callee by a contract of your own. -/
set_option maxHeartbeats 4000000 in
theorem walk  (w : World) :
    Calls Try.prog 6 #[] w fun e w' => e = .returned (.bool true) ∧ Grown w w' := by
  go_enter Try.func6, Try.ntmps6
  go_wp2_with (first | (go_at_call 9; refine (begun_any _).mono ?_; rintro e w' ⟨rfl, rfl⟩))
  go_loopw [5] (fun i wx => ∃ k : Int, (k = 0 ∨ k = 1 ∨ k = 2 ∨ k = 3 ∨ k = 4 ∨ k = 5 ∨ k = 6 ∨ k = 7 ∨ k = 8 ∨ k = 9) ∧ i = .int .i64 k ∧ laid w'.heap.size wx ∧ Grown w' wx) (fun i wx => 9 - (intOf i).toNat)
  case atStart =>
    refine ⟨0, .inl rfl, rfl, ⟨nine ?_ ?_ ?_ ?_ ?_ ?_ ?_ ?_ ?_, nine ?_ ?_ ?_ ?_ ?_ ?_ ?_ ?_ ?_, nine ?_ ?_ ?_ ?_ ?_ ?_ ?_ ?_ ?_, nine ?_ ?_ ?_ ?_ ?_ ?_ ?_ ?_ ?_⟩, ((((Grown.refl _).alloc _ _).alloc _ _).alloc _ _).alloc _ _⟩
    all_goals (simp [go_sem, as_, bs_, ws_, os_])
  case round =>
    obtain ⟨k, hk, rfl, hc, hg⟩ := hrel
    rcases hk with rfl | rfl | rfl | rfl | rfl | rfl | rfl | rfl | rfl | rfl
    · have h0 : wr.cell? ⟨w'.heap.size, 0, none⟩ = some (.int .i64 (-9223372036854775808)) := hc.1 0 (by omega)
      have h1 : wr.cell? ⟨w'.heap.size + 1, 0, none⟩ = some (.int .i64 (-1)) := hc.2.1 0 (by omega)
      have h2 : wr.cell? ⟨w'.heap.size + 1 + 1, 0, none⟩ = some (.int .i64 9223372036854775807) := hc.2.2.1 0 (by omega)
      have h3 : wr.cell? ⟨w'.heap.size + 1 + 1 + 1, 0, none⟩ = some (.bool false) := hc.2.2.2 0 (by omega)
      have HC : Hid _ := hc
      have HG : Hid _ := hg
      have s0 : satv ((-9223372036854775808) * (-1)) = 9223372036854775807 := by decide
      have s1 : fitsB ((-9223372036854775808) * (-1)) = false := by decide
      clear hc hg
      go_wp2
      go_quiet ((go_at_call 14; exact Calls.quiet_of_same (by have := mul_any (-9223372036854775808) (-1); rw [s0, s1] at this; exact this _ (by omega) (by omega) (by omega) (by omega))))
      go_wp2
      go_roundw
      case rel => exact ⟨1, by omega, rfl, HC.out, HG.out⟩
      case measure => simp [intOf]
    · have h0 : wr.cell? ⟨w'.heap.size, 1, none⟩ = some (.int .i64 (-9223372036854775808)) := hc.1 1 (by omega)
      have h1 : wr.cell? ⟨w'.heap.size + 1, 1, none⟩ = some (.int .i64 1) := hc.2.1 1 (by omega)
      have h2 : wr.cell? ⟨w'.heap.size + 1 + 1, 1, none⟩ = some (.int .i64 (-9223372036854775808)) := hc.2.2.1 1 (by omega)
      have h3 : wr.cell? ⟨w'.heap.size + 1 + 1 + 1, 1, none⟩ = some (.bool true) := hc.2.2.2 1 (by omega)
      have HC : Hid _ := hc
      have HG : Hid _ := hg
      have s0 : satv ((-9223372036854775808) * 1) = (-9223372036854775808) := by decide
      have s1 : fitsB ((-9223372036854775808) * 1) = true := by decide
      clear hc hg
      go_wp2
      go_quiet ((go_at_call 14; exact Calls.quiet_of_same (by have := mul_any (-9223372036854775808) 1; rw [s0, s1] at this; exact this _ (by omega) (by omega) (by omega) (by omega))))
      go_wp2
      go_roundw
      case rel => exact ⟨2, by omega, rfl, HC.out, HG.out⟩
      case measure => simp [intOf]
    · have h0 : wr.cell? ⟨w'.heap.size, 2, none⟩ = some (.int .i64 (-1)) := hc.1 2 (by omega)
      have h1 : wr.cell? ⟨w'.heap.size + 1, 2, none⟩ = some (.int .i64 (-9223372036854775808)) := hc.2.1 2 (by omega)
      have h2 : wr.cell? ⟨w'.heap.size + 1 + 1, 2, none⟩ = some (.int .i64 9223372036854775807) := hc.2.2.1 2 (by omega)
      have h3 : wr.cell? ⟨w'.heap.size + 1 + 1 + 1, 2, none⟩ = some (.bool false) := hc.2.2.2 2 (by omega)
      have HC : Hid _ := hc
      have HG : Hid _ := hg
      have s0 : satv ((-1) * (-9223372036854775808)) = 9223372036854775807 := by decide
      have s1 : fitsB ((-1) * (-9223372036854775808)) = false := by decide
      clear hc hg
      go_wp2
      go_quiet ((go_at_call 14; exact Calls.quiet_of_same (by have := mul_any (-1) (-9223372036854775808); rw [s0, s1] at this; exact this _ (by omega) (by omega) (by omega) (by omega))))
      go_wp2
      go_roundw
      case rel => exact ⟨3, by omega, rfl, HC.out, HG.out⟩
      case measure => simp [intOf]
    · have h0 : wr.cell? ⟨w'.heap.size, 3, none⟩ = some (.int .i64 9223372036854775807) := hc.1 3 (by omega)
      have h1 : wr.cell? ⟨w'.heap.size + 1, 3, none⟩ = some (.int .i64 2) := hc.2.1 3 (by omega)
      have h2 : wr.cell? ⟨w'.heap.size + 1 + 1, 3, none⟩ = some (.int .i64 9223372036854775807) := hc.2.2.1 3 (by omega)
      have h3 : wr.cell? ⟨w'.heap.size + 1 + 1 + 1, 3, none⟩ = some (.bool false) := hc.2.2.2 3 (by omega)
      have HC : Hid _ := hc
      have HG : Hid _ := hg
      have s0 : satv (9223372036854775807 * 2) = 9223372036854775807 := by decide
      have s1 : fitsB (9223372036854775807 * 2) = false := by decide
      clear hc hg
      go_wp2
      go_quiet ((go_at_call 14; exact Calls.quiet_of_same (by have := mul_any 9223372036854775807 2; rw [s0, s1] at this; exact this _ (by omega) (by omega) (by omega) (by omega))))
      go_wp2
      go_roundw
      case rel => exact ⟨4, by omega, rfl, HC.out, HG.out⟩
      case measure => simp [intOf]
    · have h0 : wr.cell? ⟨w'.heap.size, 4, none⟩ = some (.int .i64 9223372036854775807) := hc.1 4 (by omega)
      have h1 : wr.cell? ⟨w'.heap.size + 1, 4, none⟩ = some (.int .i64 1) := hc.2.1 4 (by omega)
      have h2 : wr.cell? ⟨w'.heap.size + 1 + 1, 4, none⟩ = some (.int .i64 9223372036854775807) := hc.2.2.1 4 (by omega)
      have h3 : wr.cell? ⟨w'.heap.size + 1 + 1 + 1, 4, none⟩ = some (.bool true) := hc.2.2.2 4 (by omega)
      have HC : Hid _ := hc
      have HG : Hid _ := hg
      have s0 : satv (9223372036854775807 * 1) = 9223372036854775807 := by decide
      have s1 : fitsB (9223372036854775807 * 1) = true := by decide
      clear hc hg
      go_wp2
      go_quiet ((go_at_call 14; exact Calls.quiet_of_same (by have := mul_any 9223372036854775807 1; rw [s0, s1] at this; exact this _ (by omega) (by omega) (by omega) (by omega))))
      go_wp2
      go_roundw
      case rel => exact ⟨5, by omega, rfl, HC.out, HG.out⟩
      case measure => simp [intOf]
    · have h0 : wr.cell? ⟨w'.heap.size, 5, none⟩ = some (.int .i64 4294967296) := hc.1 5 (by omega)
      have h1 : wr.cell? ⟨w'.heap.size + 1, 5, none⟩ = some (.int .i64 2147483648) := hc.2.1 5 (by omega)
      have h2 : wr.cell? ⟨w'.heap.size + 1 + 1, 5, none⟩ = some (.int .i64 9223372036854775807) := hc.2.2.1 5 (by omega)
      have h3 : wr.cell? ⟨w'.heap.size + 1 + 1 + 1, 5, none⟩ = some (.bool false) := hc.2.2.2 5 (by omega)
      have HC : Hid _ := hc
      have HG : Hid _ := hg
      have s0 : satv (4294967296 * 2147483648) = 9223372036854775807 := by decide
      have s1 : fitsB (4294967296 * 2147483648) = false := by decide
      clear hc hg
      go_wp2
      go_quiet ((go_at_call 14; exact Calls.quiet_of_same (by have := mul_any 4294967296 2147483648; rw [s0, s1] at this; exact this _ (by omega) (by omega) (by omega) (by omega))))
      go_wp2
      go_roundw
      case rel => exact ⟨6, by omega, rfl, HC.out, HG.out⟩
      case measure => simp [intOf]
    · have h0 : wr.cell? ⟨w'.heap.size, 6, none⟩ = some (.int .i64 2147483648) := hc.1 6 (by omega)
      have h1 : wr.cell? ⟨w'.heap.size + 1, 6, none⟩ = some (.int .i64 4294967296) := hc.2.1 6 (by omega)
      have h2 : wr.cell? ⟨w'.heap.size + 1 + 1, 6, none⟩ = some (.int .i64 9223372036854775807) := hc.2.2.1 6 (by omega)
      have h3 : wr.cell? ⟨w'.heap.size + 1 + 1 + 1, 6, none⟩ = some (.bool false) := hc.2.2.2 6 (by omega)
      have HC : Hid _ := hc
      have HG : Hid _ := hg
      have s0 : satv (2147483648 * 4294967296) = 9223372036854775807 := by decide
      have s1 : fitsB (2147483648 * 4294967296) = false := by decide
      clear hc hg
      go_wp2
      go_quiet ((go_at_call 14; exact Calls.quiet_of_same (by have := mul_any 2147483648 4294967296; rw [s0, s1] at this; exact this _ (by omega) (by omega) (by omega) (by omega))))
      go_wp2
      go_roundw
      case rel => exact ⟨7, by omega, rfl, HC.out, HG.out⟩
      case measure => simp [intOf]
    · have h0 : wr.cell? ⟨w'.heap.size, 7, none⟩ = some (.int .i64 0) := hc.1 7 (by omega)
      have h1 : wr.cell? ⟨w'.heap.size + 1, 7, none⟩ = some (.int .i64 (-9223372036854775808)) := hc.2.1 7 (by omega)
      have h2 : wr.cell? ⟨w'.heap.size + 1 + 1, 7, none⟩ = some (.int .i64 0) := hc.2.2.1 7 (by omega)
      have h3 : wr.cell? ⟨w'.heap.size + 1 + 1 + 1, 7, none⟩ = some (.bool true) := hc.2.2.2 7 (by omega)
      have HC : Hid _ := hc
      have HG : Hid _ := hg
      have s0 : satv (0 * (-9223372036854775808)) = 0 := by decide
      have s1 : fitsB (0 * (-9223372036854775808)) = true := by decide
      clear hc hg
      go_wp2
      go_quiet ((go_at_call 14; exact Calls.quiet_of_same (by have := mul_any 0 (-9223372036854775808); rw [s0, s1] at this; exact this _ (by omega) (by omega) (by omega) (by omega))))
      go_wp2
      go_roundw
      case rel => exact ⟨8, by omega, rfl, HC.out, HG.out⟩
      case measure => simp [intOf]
    · have h0 : wr.cell? ⟨w'.heap.size, 8, none⟩ = some (.int .i64 (-9223372036854775808)) := hc.1 8 (by omega)
      have h1 : wr.cell? ⟨w'.heap.size + 1, 8, none⟩ = some (.int .i64 (-9223372036854775808)) := hc.2.1 8 (by omega)
      have h2 : wr.cell? ⟨w'.heap.size + 1 + 1, 8, none⟩ = some (.int .i64 9223372036854775807) := hc.2.2.1 8 (by omega)
      have h3 : wr.cell? ⟨w'.heap.size + 1 + 1 + 1, 8, none⟩ = some (.bool false) := hc.2.2.2 8 (by omega)
      have HC : Hid _ := hc
      have HG : Hid _ := hg
      have s0 : satv ((-9223372036854775808) * (-9223372036854775808)) = 9223372036854775807 := by decide
      have s1 : fitsB ((-9223372036854775808) * (-9223372036854775808)) = false := by decide
      clear hc hg
      go_wp2
      go_quiet ((go_at_call 14; exact Calls.quiet_of_same (by have := mul_any (-9223372036854775808) (-9223372036854775808); rw [s0, s1] at this; exact this _ (by omega) (by omega) (by omega) (by omega))))
      go_wp2
      go_roundw
      case rel => exact ⟨9, by omega, rfl, HC.out, HG.out⟩
      case measure => simp [intOf]
    · have HG : Hid _ := hg
      clear hc hg
      have s1 : satv (0 - -9223372036854775808) = 9223372036854775807 := by decide
      have s2 : fitsB (0 - -9223372036854775808) = false := by decide
      have s3 : satv (-1 - -9223372036854775808) = 9223372036854775807 := by decide
      have s4 : fitsB (-1 - -9223372036854775808) = true := by decide
      have s5 : satv (-9223372036854775808 + -1) = -9223372036854775808 := by decide
      have s6 : fitsB (-9223372036854775808 + -1) = false := by decide
      have s7 : upv 9223372036854775807 2 = 4611686018427387904 := by decide
      go_wp2_with (first | (go_at_call 10; refine (add_any _ _ _ (by omega) (by omega) (by omega) (by omega)).mono ?_; rintro e w'' ⟨rfl, rfl⟩; rw [s5, s6]) | (go_at_call 12; refine (sub_any _ _ _ (by omega) (by omega) (by omega) (by omega)).mono ?_; rintro e w'' ⟨rfl, rfl⟩; first | rw [s1, s2] | rw [s3, s4]) | (go_at_call 16; first | (refine (up_yes _ _ _ (by omega) (by omega) (by omega) (by omega)).mono ?_; rintro e w'' ⟨rfl, rfl⟩; rw [s7]) | (refine (up_no _ _ _ (by omega)).mono ?_; rintro e w'' ⟨rfl, rfl⟩)))
      go_ret
      exact ⟨rfl, HG.out⟩

/-! ### THE ROW's STEP: WRITTEN OUT: LEAVE IT -/
set_option maxRecDepth 100000 in
theorem lifted (os : Os) (started : os.Started) (H : Type) (enc : TypeId × Value → H) :
    ReturnsInHanded {} Try.checked os 6 .any (Rows.satFormsSpec.pre6 enc Try.prog Try.f6 Rows.satFormsRow.domain false) (Rows.satFormsSpec.post enc Try.prog Try.f6 false true false false) := by
  refine returnsInHanded_of_change (C := Try.checked) own started (by kernel_rfl) Try.func6
    (ChangeSpec.witness6 (enc := enc) (C := Try.checked) false ⟨#[], #[], []⟩ 8 (by kernel_rfl) (by kernel_rfl) (by kernel_rfl) (by kernel_rfl)) ?_
  intro W base args ds gs before hval0 hW hcnd _
  have hval : ∀ (j : Nat) t v, Try.f6.params[j]? = some t → args[j]? = some v → Value.okWide Try.prog W .any base t v := hval0
  have hW' := hW
  obtain ⟨p, q, hA0, hV, rfl, hfz, hnd⟩ := hW
  have hA : DataW.TrodAll enc Try.prog W 0 (fun _ => true) true Try.f6.params.toList args.toList ds p := hA0
  rw [Try.params6] at hA hval
  obtain ⟨rfl, rfl, rfl⟩ := trodAll_none hA
  obtain ⟨rfl, rfl⟩ := trodVars_none hV
  clear hA0 hval0
  simp only [List.append_nil] at hW'
  refine (walk  W).mono fun e W' ⟨he, hg⟩ => ?_
  subst he
  exact ⟨_, rfl, post_of_same (pa := []) (pv := []) hW' (fun _ _ _ => (trodAll_cons_mk (shut_bool Try.underlying4 _) trodAll_mk0)) (fun sp _ => rfl) (fun _ _ => rfl) rfl
    (hg.frame _) hg.2.1 (ok_one (by kernel_rfl) rfl (okWide_bool_mk Try.underlying4 _))⟩

theorem over : Rows.satFormsRow.holds Try.pinned (OpenSpec.ofChange Rows.satFormsSpec) :=
  OpenClaim.holds_of_wide 6 Try.f6 rfl rfl rfl rfl rfl rfl rfl ⟨rfl, rfl, rfl, rfl, rfl⟩ rfl rfl rfl rfl rfl (by kernel_rfl) Try.func6 (by kernel_rfl)
    (of_decide_eq_true (by kernel_rfl)) (by unfold Func.isWrapper; first | (rw [if_pos (by decide +kernel)]; kernel_rfl) | (rw [if_neg (by decide +kernel)]; exact ⟨rfl, rfl⟩))
    (fun os started H enc _ => lifted os started H enc)

/-- ████ THE STATEMENT ████ -/
theorem proved : Rows.SatFormsSaid :=
  over
end Go.Proofs.Ytbpckoopinjioaa.satForms
namespace Go.Proofs.Ytbpckoopinjioaa
theorem satForms_holds : Rows.SatFormsSaid := satForms.proved
end Go.Proofs.Ytbpckoopinjioaa
