/-
  Proved: for all int32 a, b and uint8 n the law SatHalves returns true: a product of small numbers is the sum of its parts, and one that is no int64 is told to be none. No condition.
-/
import Derived.Test.YtbpckoopinjioaaRows
import Derived.Test.YtbpckoopinjioaaMuls
import Derived.WalkKit
import Derived.ProofKit
import Derived.OpenShut
namespace Go.Proofs.Ytbpckoopinjioaa.satHalves
open Go.ChangeShapes Go.WideShapes Go.ChangeAt Go.RowKit
set_option linter.unusedVariables false      -- a walk need not use every 'w<i>' (that an integer argument fits its kind)

theorem own : ownKnob Try.prog.godebug = none := by kernel_rfl

theorem two_pow (a : Int) (h : 0 ≤ a ∧ a ≤ 255) : 1 ≤ (2 : Int) ^ (a % 32).toNat ∧ (2 : Int) ^ (a % 32).toNat ≤ 2147483648 := by
  have hk : (a % 32).toNat ≤ 31 := by omega
  generalize (a % 32).toNat = k at *
  have e : ((2 : Int) ^ k) = ((2 ^ k : Nat) : Int) := by simp
  have h1 : 2 ^ k ≤ 2 ^ 31 := Nat.pow_le_pow_right (by omega) hk
  have h2 : 0 < 2 ^ k := Nat.two_pow_pos k
  rw [e]; omega
theorem shift_bd {a K : Int} (h : -2147483648 ≤ a ∧ a ≤ 2147483647) (k : 1 ≤ K ∧ K ≤ 2147483648) : -4611686018427387904 ≤ a * K ∧ a * K ≤ 4611686018427387904 := by
  have h1 : a * K ≤ 2147483648 * K := Int.mul_le_mul_of_nonneg_right (by omega) (by omega)
  have h2 : -2147483648 * K ≤ a * K := Int.mul_le_mul_of_nonneg_right (by omega) (by omega)
  omega
theorem prod_small {a b : Int} (h : -2147483648 ≤ a ∧ a ≤ 2147483647) (k : -2147483648 ≤ b ∧ b ≤ 2147483647) : -4611686018427387904 ≤ a * b ∧ a * b ≤ 4611686018427387904 := by
  by_cases z : 1 ≤ b
  · exact shift_bd h ⟨z, by omega⟩
  · by_cases y : b = 0
    · subst y; omega
    · have := shift_bd (a := a) (K := -b) h (by omega)
      rw [Int.mul_neg] at this; omega
theorem back_shift {x K : Int} (k : 1 ≤ K ∧ K ≤ 2147483648) (e : wrap64 (x * K) / K = x) : fitsB (x * K) = true := by
  obtain ⟨j, hj⟩ := wrap64_off (x * K)
  have hb := wrap64_bd (x * K)
  have h1 := Int.mul_ediv_add_emod (wrap64 (x * K)) K
  have h2 := Int.emod_nonneg (wrap64 (x * K)) (b := K) (by omega)
  have h3 := Int.emod_lt_of_pos (wrap64 (x * K)) (b := K) (by omega)
  rw [e, Int.mul_comm] at h1
  exact fits_in (by omega)

/-! ### STEP 1: THE WALK: the Go text returns true. 'Grown w w'': the world has at most new blocks (Derived/RowKit3.lean). Part the cases AHEAD of 'go_enter' where a test parts the walk; take each callee by a contract of your own. -/
theorem walk (a0 : Int) (a1 : Int) (a2 : Int) (w0 : (Lit.int .i32 a0).wf = true) (w1 : (Lit.int .i32 a1).wf = true) (w2 : (Lit.int .u8 a2).wf = true) (w : World) :
    Calls Try.prog 8 #[.int .i32 a0, .int .i32 a1, .int .u8 a2] w fun e w' => e = .returned (.bool true) ∧ Grown w w' := by
  have b0 := bounds_i32 w0
  have b1 := bounds_i32 w1
  have b2 := bounds_u8 w2
  have hk := two_pow a2 b2
  have mb := prod_small b0 b1
  have f : fitsB (a0 * a1) = true := fits_in (by omega)
  have s : satv (a0 * a1) = a0 * a1 := satv_fits f
  have sb := shift_bd b0 hk
  have hw : wrap64 (a0 * 2 ^ (a2 % 32).toNat) = a0 * 2 ^ (a2 % 32).toNat := w64 _ (by omega)
  have ec : a0 * 2 ^ (a2 % 32).toNat * a1 = a0 * a1 * 2 ^ (a2 % 32).toNat := by
    rw [Int.mul_assoc, Int.mul_comm (2 ^ (a2 % 32).toNat) a1, ← Int.mul_assoc]
  have EC : Hid (a0 * 2 ^ (a2 % 32).toNat * a1 = a0 * a1 * 2 ^ (a2 % 32).toNat) := ec
  clear ec
  by_cases g : fitsB (a0 * a1 * 2 ^ (a2 % 32).toNat) = true
  · have g1 : fitsB (a0 * 2 ^ (a2 % 32).toNat * a1) = true := by rw [EC.out]; exact g
    have g2 : satv (a0 * 2 ^ (a2 % 32).toNat * a1) = a0 * a1 * 2 ^ (a2 % 32).toNat := by rw [EC.out]; exact satv_fits g
    have g3 : wrap64 (a0 * a1 * 2 ^ (a2 % 32).toNat) = a0 * a1 * 2 ^ (a2 % 32).toNat := w64 _ ((fits_iff _).1 g)
    have g4 : a0 * a1 * 2 ^ (a2 % 32).toNat / 2 ^ (a2 % 32).toNat = a0 * a1 := Int.mul_ediv_cancel _ (by omega)
    go_enter Try.func8, Try.ntmps8
    go_wp2_with (first | (go_at_call 9; refine (begun_any _).mono ?_; rintro e w' ⟨rfl, rfl⟩) | (go_at_call 14; refine (mul_any _ _ _ (by omega) (by omega) (by omega) (by omega)).mono ?_; rintro e w' ⟨rfl, rfl⟩))
    go_ret
    exact ⟨rfl, Grown.refl _⟩
  · have g1 : fitsB (a0 * 2 ^ (a2 % 32).toNat * a1) = false := by rw [EC.out]; simpa using g
    have g2 : (wrap64 (a0 * a1 * 2 ^ (a2 % 32).toNat) / 2 ^ (a2 % 32).toNat == a0 * a1) = false := by
      cases e : (wrap64 (a0 * a1 * 2 ^ (a2 % 32).toNat) / 2 ^ (a2 % 32).toNat == a0 * a1) with
      | false => rfl
      | true => exact absurd (back_shift hk (eq_of_beq e)) g
    clear g
    go_enter Try.func8, Try.ntmps8
    go_wp2_with (first | (go_at_call 9; refine (begun_any _).mono ?_; rintro e w' ⟨rfl, rfl⟩) | (go_at_call 14; refine (mul_any _ _ _ (by omega) (by omega) (by omega) (by omega)).mono ?_; rintro e w' ⟨rfl, rfl⟩))
    go_ret
    exact ⟨rfl, Grown.refl _⟩

/-! ### THE ROW's STEP: WRITTEN OUT: LEAVE IT -/
set_option maxRecDepth 100000 in
theorem lifted (os : Os) (started : os.Started) (H : Type) (enc : TypeId × Value → H) :
    ReturnsInHanded {} Try.checked os 8 .any (Rows.satHalvesSpec.pre6 enc Try.prog Try.f8 Rows.satHalvesRow.domain false) (Rows.satHalvesSpec.post enc Try.prog Try.f8 false true false false) := by
  refine returnsInHanded_of_change (C := Try.checked) own started (by kernel_rfl) Try.func8
    (ChangeSpec.witness6 (enc := enc) (C := Try.checked) false ⟨#[], #[.int .i32 0, .int .i32 0, .int .u8 0], []⟩ 8 (by kernel_rfl) (by kernel_rfl) (by kernel_rfl) (by kernel_rfl)) ?_
  intro W base args ds gs before hval0 hW hcnd _
  have hval : ∀ (j : Nat) t v, Try.f8.params[j]? = some t → args[j]? = some v → Value.okWide Try.prog W .any base t v := hval0
  have hW' := hW
  obtain ⟨p, q, hA0, hV, rfl, hfz, hnd⟩ := hW
  have hA : DataW.TrodAll enc Try.prog W 0 (fun _ => true) true Try.f8.params.toList args.toList ds p := hA0
  rw [Try.params8] at hA hval
  obtain ⟨v0, vs0, d0, ds0, p0, q0, hargs, rfl, rfl, h0, r0⟩ := trodAll_cons hA
  obtain ⟨v1, vs1, d1, ds1, p1, q1, rfl, rfl, rfl, h1, r1⟩ := trodAll_cons r0
  obtain ⟨v2, vs2, d2, ds2, p2, q2, rfl, rfl, rfl, h2, r2⟩ := trodAll_cons r1
  obtain ⟨rfl, rfl, rfl⟩ := trodAll_nil r2
  obtain rfl : args = #[v0, v1, v2] := by cases args; simp_all
  obtain ⟨rfl, rfl⟩ := trodVars_none hV
  obtain ⟨a0, rfl, rfl, rfl, w0⟩ := open_int Try.underlying21 (hval 0 21 v0 rfl rfl) h0
  obtain ⟨a1, rfl, rfl, rfl, w1⟩ := open_int Try.underlying21 (hval 1 21 v1 rfl rfl) h1
  obtain ⟨a2, rfl, rfl, rfl, w2⟩ := open_int Try.underlying5 (hval 2 5 v2 rfl rfl) h2
  clear hA0 hval0
  simp only [List.append_nil] at hW'
  refine (walk a0 a1 a2 w0 w1 w2 W).mono fun e W' ⟨he, hg⟩ => ?_
  subst he
  exact ⟨_, rfl, post_of_same (pa := []) (pv := []) hW' (fun _ _ _ => (trodAll_cons_mk (shut_bool Try.underlying4 _) trodAll_mk0)) (fun sp _ => (trodAll_cons_mk (shut_int Try.underlying21 w0) (trodAll_cons_mk (shut_int Try.underlying21 w1) (trodAll_cons_mk (shut_int Try.underlying5 w2) trodAll_mk0)))) (fun _ _ => rfl) rfl
    (hg.frame _) hg.2.1 (ok_one (by kernel_rfl) rfl (okWide_bool_mk Try.underlying4 _))⟩

theorem over : Rows.satHalvesRow.holds Try.pinned (OpenSpec.ofChange Rows.satHalvesSpec) :=
  OpenClaim.holds_of_wide 8 Try.f8 rfl rfl rfl rfl rfl rfl rfl ⟨rfl, rfl, rfl, rfl, rfl⟩ rfl rfl rfl rfl rfl (by kernel_rfl) Try.func8 (by kernel_rfl)
    (of_decide_eq_true (by kernel_rfl)) (by unfold Func.isWrapper; first | (rw [if_pos (by decide +kernel)]; kernel_rfl) | (rw [if_neg (by decide +kernel)]; exact ⟨rfl, rfl⟩))
    (fun os started H enc _ => lifted os started H enc)

/-- ████ THE STATEMENT ████ -/
theorem proved : Rows.SatHalvesSaid :=
  over
end Go.Proofs.Ytbpckoopinjioaa.satHalves
namespace Go.Proofs.Ytbpckoopinjioaa
theorem satHalves_holds : Rows.SatHalvesSaid := satHalves.proved
end Go.Proofs.Ytbpckoopinjioaa
