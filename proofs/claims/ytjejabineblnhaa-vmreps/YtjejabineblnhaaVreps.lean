/-
  The law VmReps, walked.
-/
import Derived.Test.YtjejabineblnhaaVrepm
import Derived.WalkSpells
namespace Go.Proofs.Ytjejabineblnhaa
open Go.ChangeShapes Go.WideShapes Go.ChangeAt Go.RowKit
attribute [local go_sem ↓] Go.wp_at_zero Go.wp_at_succ

/-- the machine of the law, at block g, the program at block p -/
def Rpw (J K g p : Nat) (X Y : Int) (w wr : World) (pc a m1 b : Int) (q : Option Addr) (k d : Nat) (ov : Bool) (R : List Rp) (t : Nat) : Prop :=
  wr.heap[g]? = some (.cells #[.int .i64 pc, .int .i64 a, .int .i64 m1, .int .i64 b, .int .i64 0, .int .i64 0, .int .i64 0, .int .i64 0, .int .i64 0, .slice q k d, .bool ov] 27 (0, 0)) ∧ Own eRp wr 0 52 q d R ∧ R.length = k ∧ RS J K pc a m1 b R ov t ∧ wr.heap[p]? = some (.cells (#[.int .i64 1, .int .i64 1, .int .i64 0, .int .i64 1, .int .i64 1, .int .i64 0, .int .i64 0, .int .i64 0, .int .i64 8, .int .i64 0, .int .i64 3, .int .i64 X, .int .i64 2, .int .i64 2, .int .i64 1, .int .i64 0, .int .i64 8, .int .i64 0, .int .i64 1, .int .i64 Y, .int .i64 2, .int .i64 0, .int .i64 1, .int .i64 0, .int .i64 0, .int .i64 0, .int .i64 0, .int .i64 0] : Array Value) 38 (0, 0)) ∧ Below w.heap.size w wr
theorem rpw_go {J K g p : Nat} {X Y : Int} {w w2 : World} (hg : w.heap.size ≤ g) {ca : Array Value} (r6 : w2.heap[g]? = some (.cells ca 27 (0, 0))) {pcF aF mF bF : Int} {q9 : Option Addr} {kF d9 : Nat} {ovF : Bool} {RF : List Rp} {t : Nat} (o9 : Own eRp w2 0 52 q9 d9 RF) (hk : RF.length = kF) (hv : RS J K pcF aF mF bF RF ovF t) (hp : w2.heap[p]? = some (.cells #[.int .i64 1, .int .i64 1, .int .i64 0, .int .i64 1, .int .i64 1, .int .i64 0, .int .i64 0, .int .i64 0, .int .i64 8, .int .i64 0, .int .i64 3, .int .i64 X, .int .i64 2, .int .i64 2, .int .i64 1, .int .i64 0, .int .i64 8, .int .i64 0, .int .i64 1, .int .i64 Y, .int .i64 2, .int .i64 0, .int .i64 1, .int .i64 0, .int .i64 0, .int .i64 0, .int .i64 0, .int .i64 0] 38 (0, 0))) (hb : Below w.heap.size w w2) :
    Rpw J K g p X Y w (w2.setRow g #[.int .i64 pcF, .int .i64 aF, .int .i64 mF, .int .i64 bF, .int .i64 0, .int .i64 0, .int .i64 0, .int .i64 0, .int .i64 0, .slice q9 kF d9, .bool ovF]) pcF aF mF bF q9 kF d9 ovF RF t := by
  refine ⟨setRow_heap _ _ _ _ _ _ r6, own_other o9 r6 (by decide) (fun b hb => setRow_other _ _ _ _ hb), hk, hv, (setRow_other _ _ _ _ ?_).trans hp, below_setRow hb hg _⟩
  rintro rfl
  rw [r6] at hp
  simp at hp
theorem rs_end {J K : Nat} {pc a m1 b : Int} {R : List Rp} {t : Nat} (h : RS J K pc a m1 b R true t) : a = (1 + (J : Int)) * (1 + (K : Int)) ∧ b = 1 + (J : Int) ∧ (t : Int) = 4 + (1 + (J : Int)) * (2 + (1 + (K : Int))) ∧ R = [] := by
  cases h
  refine ⟨by simp, by simp, ?_, rfl⟩
  rw [show (2 : Int) + (1 + (K : Int)) = 3 + (K : Int) by omega]
  simp
theorem row_ones (pc a0 a1 a2 a3 a4 a5 a6 a7 : Int) (q : Option Addr) (k d : Nat) (ov : Bool) : (#[Value.int .i64 pc, .int .i64 a0, .int .i64 a1, .int .i64 a2, .int .i64 a3, .int .i64 a4, .int .i64 a5, .int .i64 a6, .int .i64 a7, .slice q k d, .bool ov] : Array Value).all (·.oneCell') = true := mcell_one pc [a0, a1, a2, a3, a4, a5, a6, a7] q k d ov
set_option maxRecDepth 100000 in
set_option maxHeartbeats 8000000 in
theorem reps_walk (u v : Int) (w : World) (hu0 : 0 ≤ u) (_ : u ≤ 255) (hv0 : 0 ≤ v) (_ : v ≤ 255) : Calls Try.prog 8 #[.int .u8 u, .int .u8 v] w fun e w' => e = .returned (.bool true) ∧ Below w.heap.size w w' := by
  obtain ⟨X, hX⟩ : ∃ X : Int, u % 20 = X - 1 := ⟨u % 20 + 1, by omega⟩
  obtain ⟨Y, hY⟩ : ∃ Y : Int, v % 20 = Y - 1 := ⟨v % 20 + 1, by omega⟩
  have hX1 : 1 ≤ X := by omega
  have hX2 : X ≤ 20 := by omega
  have hY1 : 1 ≤ Y := by omega
  have hY2 : Y ≤ 20 := by omega
  have eJ : u.tmod 20 = X - 1 := by rw [Int.tmod_eq_emod_of_nonneg hu0, hX]
  have eK : v.tmod 20 = Y - 1 := by rw [Int.tmod_eq_emod_of_nonneg hv0, hY]
  clear hX hY
  obtain ⟨J, hJ⟩ : ∃ J : Nat, 1 + (J : Int) = X := ⟨(X - 1).toNat, by omega⟩
  obtain ⟨K, hK⟩ : ∃ K : Nat, 1 + (K : Int) = Y := ⟨(Y - 1).toNat, by omega⟩
  have hJ2 : J ≤ 19 := by omega
  have hK2 : K ≤ 19 := by omega
  have HJ : Hid (1 + (J : Int) = X) := hJ
  have HKK : Hid (1 + (K : Int) = Y) := hK
  have e1 : 1 + (X - 1) = X := by omega
  have e2 : 1 + (Y - 1) = Y := by omega
  clear hJ hK
  go_enter Try.func8, Try.ntmps8
  go_wp2_with (first
    | (go_at_call 9; refine (begun_any _).mono ?_; rintro e w1 ⟨rfl, b1⟩)
    | (go_at_call 15; refine (vnew_any _ _).mono ?_; rintro e w2 ⟨rfl, b2⟩))
  have z1 := b1.size
  have z2 := b2.size
  simp at z2
  have hg : w.heap.size ≤ w2.heap.size := by omega
  have T0 : Rpw J K w2.heap.size w1.heap.size X Y w (w2.alloc (.cells #[.int .i64 0, .int .i64 9, .int .i64 0, .int .i64 0, .int .i64 0, .int .i64 0, .int .i64 0, .int .i64 0, .int .i64 0, .slice none 0 0, .bool false] 27)) 0 9 0 0 none 0 0 false [] 0 :=
    ⟨heap_at rfl, own_nil _ _ _, rfl, .s0, up1 (keepc b2 (heap_at rfl)), (((b1.alloc (by omega) _).trans (b2.mono (by simp; omega))).alloc (by omega) _)⟩
  clear b1 b2 z1 z2
  generalize w2.alloc (.cells #[.int .i64 0, .int .i64 9, .int .i64 0, .int .i64 0, .int .i64 0, .int .i64 0, .int .i64 0, .int .i64 0, .int .i64 0, .slice none 0 0, .bool false] 27) = wz at T0 ⊢
  generalize w2.heap.size = g at T0 hg ⊢
  generalize w1.heap.size = p at T0 ⊢
  go_loopw [9] (fun t wr => ∃ (i : Nat) (pc a m1 b : Int) (q : Option Addr) (k d : Nat) (ov : Bool) (R : List Rp), t = .int .i64 i ∧ Rpw J K g p X Y w wr pc a m1 b q k d ov R i) (fun t _ => 500 - (intOf t).toNat)
  case atStart => exact ⟨0, _, _, _, _, _, _, _, _, _, rfl, T0⟩
  case round =>
    obtain ⟨i, pc, a, m1, b, q, k, d, ov, R, rfl, r6, oa, hk, hS, hp, hB⟩ := hrel
    clear T0
    have hf := rs_facts hJ2 hK2 hS
    have l6 := lt_of_block r6
    have n10 : wr.cell? ⟨g, 10, none⟩ = some (.bool ov) := by rw [cell_of_row _ _ _ _ _ _ r6]; rfl
    cases ov with
    | false =>
      obtain ⟨pcF, aF, mF, bF, RF, ovF, xo, xa, xb, xn, hF, hS2⟩ := rs_step hJ2 hK2 hS
      rw [HJ.out, HKK.out] at hF
      have HF : Hid (stepF [(1, 1, 0, 1), (1, 0, 0, 0), (8, 0, 3, X), (2, 2, 1, 0), (8, 0, 1, Y), (2, 0, 1, 0), (0, 0, 0, 0)] pc [a, m1, b, 0, 0, 0, 0, 0] R false = (pcF, [aF, mF, bF, 0, 0, 0, 0, 0], RF, ovF, (xo, xa, xb, xn), true)) := hF
      obtain ⟨kF, hkF⟩ : ∃ kF, RF.length = kF := ⟨_, rfl⟩
      have HKF : Hid (RF.length = kF) := hkF
      have HK : Hid (R.length = k) := hk
      have HMB : Hid (∀ v ∈ [a, m1, b, 0, 0, 0, 0, 0], -9223372036854775808 ≤ v ∧ v ≤ 9223372036854775807) := by
        intro v hv
        simp at hv
        rcases hv with rfl | rfl | rfl | rfl <;> omega
      have HRB : Hid (∀ r ∈ R, -9223372036854775808 ≤ r.2.2 ∧ r.2.2 ≤ 9223372036854775807) := hf.2.2.2.2.2.2.2.1
      have hk3 : k ≤ 1000 := by have := hf.2.2.2.2.2.2.1; omega
      have hi4 : i ≤ 443 := hf.2.2.2.2.2.2.2.2.2 rfl
      have d1 : decide ((2000 : Int) < (i : Int) + 1) = false := decide_eq_false (by omega)
      clear hF hkF hk hf hS
      go_wp2_with (first
        | (refine wpList_load_row rfl 27 (.tmp 8) rfl g rfl 27 #[.int .i64 pc, .int .i64 a, .int .i64 m1, .int .i64 b, .int .i64 0, .int .i64 0, .int .i64 0, .int .i64 0, .int .i64 0, .slice q k d, .bool false] (0, 0) _ r6 Try.underlying27 rfl info38 ?_)
        | (go_at_call 19; refine (vstep_c _ 7 [(1, 1, 0, 1), (1, 0, 0, 0), (8, 0, 3, X), (2, 2, 1, 0), (8, 0, 1, Y), (2, 0, 1, 0), (0, 0, 0, 0)] _ (rd_ins hp 7 rfl rfl) 7 rfl (by decide) pc a m1 b 0 0 0 0 0 HMB.out q d k R (own_rd oa) HK.out hk3 HRB.out false pcF aF mF bF 0 0 0 0 0 RF ovF xo xa xb xn true kF HF.out HKF.out).mono ?_; rintro e w9 ⟨⟨q9, d9, rfl, o9⟩, b9⟩
           have r69 := keepc b9 r6
           have hp9 := keepc b9 hp
           have B9 := hB.trans (b9.mono hB.size)
           have l69 := lt_of_block r69
           have o99 := own_base (own_al (own_al o9 (.cells #[.int .i64 pcF, .int .i64 aF, .int .i64 mF, .int .i64 bF, .int .i64 0, .int .i64 0, .int .i64 0, .int .i64 0, .int .i64 0, .slice q9 kF d9, .bool ovF] 27)) (.cells #[.int .i64 xo, .int .i64 xa, .int .i64 xb, .int .i64 xn] 38)) (Nat.zero_le _)
           have B99 := (B9.alloc B9.size (.cells #[.int .i64 pcF, .int .i64 aF, .int .i64 mF, .int .i64 bF, .int .i64 0, .int .i64 0, .int .i64 0, .int .i64 0, .int .i64 0, .slice q9 kF d9, .bool ovF] 27)).alloc (by have := B9.size; simp; omega) (.cells #[.int .i64 xo, .int .i64 xa, .int .i64 xb, .int .i64 xn] 38))
        | (refine wpList_load_row rfl 27 (.tmp 10) rfl w9.heap.size rfl 27 #[.int .i64 pcF, .int .i64 aF, .int .i64 mF, .int .i64 bF, .int .i64 0, .int .i64 0, .int .i64 0, .int .i64 0, .int .i64 0, .slice q9 kF d9, .bool ovF] (0, 0) _ (up1 (heap_at rfl)) Try.underlying27 rfl info38 ?_)
        | (refine wpList_store_row rfl 27 (.tmp 8) (.tmp 52) rfl g #[.int .i64 pcF, .int .i64 aF, .int .i64 mF, .int .i64 bF, .int .i64 0, .int .i64 0, .int .i64 0, .int .i64 0, .int .i64 0, .slice q9 kF d9, .bool ovF] rfl rfl 27 _ (up1 (up1 r69)) info38 rfl (row_ones _ _ _ _ _ _ _ _ _ _ _ _ _) ?_))
      have hTF := rpw_go (w := w) (t := i + 1) hg (up1 (up1 r69)) o99 HKF.out hS2 (up1 (up1 hp9)) B99
      clear o99 B99 B9 hp9 r69 l69 o9 b9
      generalize (((w9.alloc (.cells #[.int .i64 pcF, .int .i64 aF, .int .i64 mF, .int .i64 bF, .int .i64 0, .int .i64 0, .int .i64 0, .int .i64 0, .int .i64 0, .slice q9 kF d9, .bool ovF] 27)).alloc (.cells #[.int .i64 xo, .int .i64 xa, .int .i64 xb, .int .i64 xn] 38)).setRow g #[.int .i64 pcF, .int .i64 aF, .int .i64 mF, .int .i64 bF, .int .i64 0, .int .i64 0, .int .i64 0, .int .i64 0, .int .i64 0, .slice q9 kF d9, .bool ovF]) = wy at hTF ⊢
      simp only [Act.put, List.setIfInBounds_toArray, List.set_cons_zero, List.set_cons_succ]
      go_roundw
      case rel => exact ⟨i + 1, _, _, _, _, _, _, _, _, _, by go_num, hTF⟩
      case measure => simp [intOf]; omega
    | true =>
      have n1 : wr.cell? ⟨g, 1, none⟩ = some (.int .i64 a) := by rw [cell_of_row _ _ _ _ _ _ r6]; rfl
      have n3 : wr.cell? ⟨g, 3, none⟩ = some (.int .i64 b) := by rw [cell_of_row _ _ _ _ _ _ r6]; rfl
      have n9 : wr.cell? ⟨g, 9, none⟩ = some (.slice q k d) := by rw [cell_of_row _ _ _ _ _ _ r6]; rfl
      obtain ⟨ha, hb2, ht, hR0⟩ := rs_end hS
      rw [HJ.out, HKK.out] at ha ht
      rw [HJ.out] at hb2
      subst hR0
      obtain rfl : k = 0 := hk.symm
      have hM0 : 0 ≤ X * Y := Int.mul_nonneg (by omega) (by omega)
      have hM1 : X * Y ≤ 20 * 20 := Int.mul_le_mul hX2 hY2 (by omega) (by omega)
      have hN0 : 0 ≤ X * (2 + Y) := Int.mul_nonneg (by omega) (by omega)
      have hN1 : X * (2 + Y) ≤ 20 * 22 := Int.mul_le_mul hX2 (by omega) (by omega) (by omega)
      have wM : wrap64 (X * Y) = X * Y := wrap64_id (by omega) (by omega)
      have wN : wrap64 (X * (2 + Y)) = X * (2 + Y) := wrap64_id (by omega) (by omega)
      have wQ : wrap64 (4 + X * (2 + Y)) = 4 + X * (2 + Y) := wrap64_id (by omega) (by omega)
      have hMe : (a == X * Y) = true := by rw [ha]; simp
      have hBe : (b == X) = true := by rw [hb2]; simp
      have hNe : ((i : Int) == 4 + X * (2 + Y)) = true := by rw [ht]; simp
      clear hM0 hM1 hN0 hN1 ha hb2 ht hf hS
      go_wp2

      go_ret
      exact ⟨rfl, hB⟩
end Go.Proofs.Ytjejabineblnhaa
