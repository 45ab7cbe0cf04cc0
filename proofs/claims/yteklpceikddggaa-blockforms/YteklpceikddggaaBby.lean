/-
  Ceil and By of package block.
-/
import Derived.Test.YteklpceikddggaaBheld
namespace Go.Proofs.Yteklpceikddggaa
open Go.ChangeShapes Go.WideShapes Go.ChangeAt Go.RowKit
attribute [local go_sem ↓] Go.wp_at_zero Go.wp_at_succ

set_option maxHeartbeats 2000000 in
theorem ceil_any (p : Option Addr) (c n : Nat) (P : List Tv) (SP : List Sn) (w : World) (h : Rowd w p c n P SP) (hn : n ≤ 100) (s C : Int) (hC : IsCeil SP n s C) :
    Calls Try.prog 12 #[.slice p n c, .int .i64 s] w fun e w' => e = .returned (.int .i64 C) ∧ Below w.heap.size w w' := by
  have K1 := hmap_any p c n P SP w h hn
  go_enter Try.func12, Try.ntmps12
  go_wp2_with (first
    | (go_at_call 20; (with_reducible (refine (first_any w.heap.size SP n s C _ h1 (by omega) hC).mono ?_)); rintro e w2 ⟨rfl, b2⟩)
    | (go_at_call 19; (with_reducible (refine K1.mono ?_)); rintro e w1 ⟨rfl, h1, b1⟩))
  go_ret
  exact ⟨rfl, bel_call b1 (Nat.le_refl _) b2⟩
set_option maxRecDepth 20000 in
set_option maxHeartbeats 2000000 in
theorem by_any (p : Option Addr) (c n : Nat) (P : List Tv) (SP : List Sn) (w : World) (h : Rowd w p c n P SP) (hn : n ≤ 100) (i B : Int) (hB9 : byv SP n i = B) :
    Calls Try.prog 10 #[.slice p n c, .int .i64 i] w fun e w' => e = .returned (.int .i64 B) ∧ Below w.heap.size w w' := by
  by_cases hi : (n : Int) ≤ i
  · have di : decide ((n : Int) ≤ i) = true := decide_eq_true hi
    obtain rfl : 0 = B := by rw [← hB9]; unfold byv; rw [if_pos hi]
    go_enter Try.func10, Try.ntmps10
    go_wp2
    go_ret
    exact ⟨rfl, Below.refl _ _⟩
  · have di : decide ((n : Int) ≤ i) = false := decide_eq_false hi
    have HB9 : Hid (byN SP n i 4 = B) := by show _ = _; rw [← hB9]; unfold byv; rw [if_neg hi]
    have K1 := hmap_any p c n P SP w h hn
    clear hB9
    go_enter Try.func10, Try.ntmps10
    go_upto_region 5 with (go_at_call 19; (with_reducible (refine K1.mono ?_)); rintro e w1 ⟨rfl, h1, b1⟩)
    go_wp2
    clear K1
    go_loopw [6, 14] (fun t i9 wr => ∃ (k : Nat) (M : Int), k ≤ 4 ∧ i9 = .int .i64 k ∧ t = .int .i64 M ∧ Hid (byN SP n i k = M) ∧ Below w1.heap.size w1 wr) (fun _ i9 _ => 4 - (intOf i9).toNat)
    case atStart => exact ⟨0, 0, Nat.zero_le _, rfl, rfl, rfl, Below.refl _ _⟩
    case round =>
      obtain ⟨k, M, hk, rfl, rfl, HM, hbw⟩ := hrel
      by_cases hlt : k < 4
      · have hkI : (k : Int) < 4 := by omega
        have dk : decide ((k : Int) < 4) = true := decide_eq_true hkI
        have hC := ceil_is SP n (k : Int)
        obtain ⟨C, hCe⟩ : ∃ C, ceilv SP n (k : Int) = C := ⟨_, rfl⟩
        rw [hCe] at hC
        have h2 := h1.below hbw
        have KF := fun w' (hb : Below wr.heap.size wr w') => first_any w.heap.size SP n (k : Int) C w' (h2.below hb) (by omega) hC
        by_cases hc : C ≤ i
        · have dc : decide (C ≤ i) = true := decide_eq_true hc
          obtain ⟨A, hA9⟩ : ∃ A, lngN SP (k : Int) i n = A := ⟨_, rfl⟩
          have KL := fun w' (hb : Below wr.heap.size wr w') => longest_any w.heap.size SP n (k : Int) i A w' (h2.below hb) (by omega) hA9
          have HM2 : Hid (byN SP n i (k + 1) = if M < A then A else M) := by show _ = _; rw [byN, hCe, if_pos hc, HM.out, hA9, max_is]
          clear hc hA9 hCe hC HM
          go_wp2_with (first
            | (go_at_call 20; (with_reducible (refine (KF _ (Below.refl _ _)).mono ?_)); rintro e w2 ⟨rfl, b2⟩)
            | (go_at_call 21; (with_reducible (refine (KL _ b2).mono ?_)); rintro e w3 ⟨rfl, b3⟩))
          all_goals
            have b9 := bel_call hbw (Nat.le_refl _) (bel_call b2 (Nat.le_refl _) b3)
            go_roundw
            case rel => first | exact ⟨k + 1, _, by omega, by go_num, rfl, HM2, b9⟩ | exact ⟨k + 1, A, by omega, by go_num, rfl, by show _ = _; rw [HM2.out]; rw [if_pos (by assumption)], b9⟩ | exact ⟨k + 1, M, by omega, by go_num, rfl, by show _ = _; rw [HM2.out]; rw [if_neg (by assumption)], b9⟩
            case measure => simp [intOf]; omega
        · have dc : decide (C ≤ i) = false := decide_eq_false hc
          have HM2 : Hid (byN SP n i (k + 1) = M) := by show _ = _; rw [byN, hCe, if_neg hc]; exact HM.out
          clear hc hCe hC HM
          go_wp2_with (go_at_call 20; (with_reducible (refine (KF _ (Below.refl _ _)).mono ?_)); rintro e w2 ⟨rfl, b2⟩)
          have b9 := bel_call hbw (Nat.le_refl _) b2
          go_roundw
          case rel => exact ⟨k + 1, M, by omega, by go_num, rfl, HM2, b9⟩
          case measure => simp [intOf]; omega
      · obtain rfl : k = 4 := by omega
        obtain rfl := HM.out.symm.trans HB9.out
        go_wp2
        go_ret
        exact ⟨rfl, bel_call b1 (Nat.le_refl _) hbw⟩
end Go.Proofs.Yteklpceikddggaa
