/-
  What same of the law's package says of a row of timers and of when they come.
-/
import Derived.Test.YtannkdnjbacbdaaRefs2
namespace Go.Proofs.Ytannkdnjbacbdaa
open Go.ChangeShapes Go.WideShapes Go.ChangeAt Go.RowKit
attribute [local go_sem ↓] Go.wp_at_zero Go.wp_at_succ

theorem absT_get : ∀ (l : List Tm) (s : Int) (k : Nat) (h : k < l.length), (absT s l)[k]'(by rw [absT_length]; exact h) = (s + sumA (l.take (k + 1)), l[k].2)
  | x :: r, s, 0, _ => by simp [absT, sumA]
  | x :: r, s, k + 1, h => by
    have := absT_get r (s + x.1) k (by simpa using h)
    simp only [absT, List.getElem_cons_succ, List.take_succ_cons, sumA]
    rw [this, Int.add_assoc]

set_option maxHeartbeats 2000000 in
theorem same_any (pa : Option Addr) (ca : Nat) (l : List Tm) (pb : Option Addr) (cb : Nat) (w : World) (hra : Rd w pa ca l) (hrb : Rd w pb cb (absT 0 l)) (hl : l.length ≤ 100) (hB : Bd l) :
    Calls Try.prog 14 #[.slice pa l.length ca, .slice pb l.length cb] w fun e w' => e = .returned (.bool true) ∧ Below w.heap.size w w' := by
  go_enter Try.func14, Try.ntmps14
  go_wp2
  go_loopw [5, 6] (fun t i wr => ∃ k : Nat, k ≤ l.length ∧ i = .int .i64 k ∧ t = .int .i64 (sumA (l.take k)) ∧ Below w.heap.size w wr) (fun _ i _ => l.length - (intOf i).toNat)
  case atStart => exact ⟨0, Nat.zero_le _, rfl, rfl, Below.refl _ _⟩
  case round =>
    obtain ⟨k, hk, rfl, rfl, hbw⟩ := hrel
    by_cases hlt : k < l.length
    · have hlt' : k < (absT 0 l).length := by rw [absT_length]; exact hlt
      obtain ⟨b, o, rfl, hb, hc1, hc2⟩ := (hra.below hbw).cells k hlt
      obtain ⟨b', o', rfl, hb', hd1, hd2⟩ := (hrb.below hbw).cells k hlt'
      have hg := absT_get l 0 k hlt
      have hmem : ((absT 0 l)[k]'hlt').1 = sumA (l.take (k + 1)) ∧ ((absT 0 l)[k]'hlt').2 = l[k].2 := by rw [hg]; simp
      have hleft := leftT_abs hB (x := sumA (l.take (k + 1))) (k := l[k].2) (by
        have := List.getElem_mem hlt'
        rw [hg] at this
        simpa using this)
      rw [hmem.1] at hd1
      rw [hmem.2] at hd2
      have hst := sumA_take_succ l k hlt
      have hs0 := sumA_take_le l hB.low k
      have hm := mem_le_sum l hB.low k hlt
      have hs1 := sumA_take_le l hB.low (k + 1)
      have hlim := hB.sum
      rw [hst] at hd1 hleft hs1
      have HS : Hid (sumA (l.take (k + 1)) = sumA (l.take k) + l[k].1) := hst
      have HL1 : Hid (leftT l l[k].2 = sumA (l.take k) + l[k].1) := hleft.1
      have HL2 : Hid (hasT l l[k].2 = true) := hleft.2
      have ha0 : 0 ≤ l[k].1 := hm.1
      have ha1 : l[k].1 ≤ 4611686018427387904 := by omega
      have hS0 : 0 ≤ sumA (l.take k) := hs0.1
      have hS1 : sumA (l.take k) ≤ 4611686018427387904 := by omega
      have hS2 : sumA (l.take k) + l[k].1 ≤ 4611686018427387904 := by omega
      clear hleft hst hmem hg hs0 hs1 hm
      generalize sumA (l.take k) = S at *
      generalize l[k].1 = xa at *
      generalize l[k].2 = xk at *
      have dx : decide (xa < 0) = false := by simp; omega
      go_wp2_with (go_at_call 15; refine (left_c _ _ l _ l.length xk (S + xa) true rfl HL1.out HL2.out (hra.below hbw) hl hB).mono ?_; rintro e w2 ⟨rfl, hb2⟩)
      have ec1 := (hb2.cell (p := ⟨b, o + k * 2, none⟩) hb).trans hc1
      have ec2 := (hb2.cell (p := ⟨b, o + k * 2 + 1, none⟩) hb).trans hc2
      have ed1 := (hb2.cell (p := ⟨b', o' + k * 2, none⟩) hb').trans hd1
      have ed2 := (hb2.cell (p := ⟨b', o' + k * 2 + 1, none⟩) hb').trans hd2
      have hbw2 := bel_call hbw (Nat.le_refl _) hb2
      clear hc1 hc2 hd1 hd2 hb2
      go_quiet (fail)
      go_wp2
      go_roundw
      case rel => exact ⟨k + 1, by omega, by go_num, by rw [HS.out], ⟨hbw2.os, hbw2.tape, hbw2.output, hbw2.size, hbw2.block⟩⟩
      case measure => simp [intOf]; omega
    · obtain rfl : k = l.length := by omega
      go_wp2
      go_ret
      exact ⟨rfl, hbw⟩
end Go.Proofs.Ytannkdnjbacbdaa
