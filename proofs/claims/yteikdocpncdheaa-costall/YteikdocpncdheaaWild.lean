/-
  A program of any instructions that may be, out of choices.
-/
import Derived.Test.YteikdocpncdheaaRowIn
namespace Go.Proofs.Yteikdocpncdheaa
open Go.ChangeShapes Go.WideShapes Go.ChangeAt Go.RowKit
attribute [local go_sem ↓] Go.wp_at_zero Go.wp_at_succ

set_option maxRecDepth 100000 in
set_option maxHeartbeats 8000000 in
theorem wild_any (g : Nat) (w : World) (hp : Pk w g) :
    Calls Try.prog 12 #[.pointer (some ⟨g, 0, none⟩)] w fun e w' => RowTold (fun _ => True) g w 1 12 e w' := by
  have hg := hp.lt
  go_enter Try.func12, Try.ntmps12
  go_wp2_with (go_at_call 22; refine (num_any g _ _ hp (by omega) (by omega)).mono ?_; rintro e w1 ⟨v, rfl, va, vb, hp1, hk1⟩)
  go_loopw [3, 4] (fun t i wr => ∃ (k : Int) (p' : Option Addr) (n c' : Nat) (l : List In), 0 ≤ k ∧ n + k ≤ 11 ∧ i = .int .i64 k ∧ t = .slice p' n c' ∧ Row g w wr p' n c' l) (fun _ i _ => (intOf i).toNat)
  case atStart => exact ⟨v, none, 0, 0, [], va, by omega, rfl, rfl, own_nil _ _ _, rfl, rfl, hp1, hk1⟩
  case round =>
    obtain ⟨k, p', n, c', l, hk0, hk11, rfl, rfl, hR⟩ := hrel
    have hpr := hR.pk
    have hKw := hR.kp
    have hsz := hKw.size
    have HL : Hid (l.length = n) := hR.len
    have hown := hR.own
    clear hp1 hk1 va vb
    by_cases hlt : 0 < k
    · have d : decide (0 < k) = true := by simpa using hlt
      go_wp2_with (first
        | (go_at_call 24; refine (plain_any g _ hpr).mono ?_; rintro e w2 ⟨⟨xo, xa, xb, xn⟩, rfl, hxm, hp2, hk2⟩; have hz2 := hk2.size; have hKr := hk2
           obtain ⟨r, hr⟩ : ∃ r, w2.heap.size = r := ⟨_, rfl⟩
           have hA : At4 (w2.alloc (.cells #[.int .i64 xo, .int .i64 xa, .int .i64 xb, .int .i64 xn] 45)) r (.int .i64 xo) (.int .i64 xa) (.int .i64 xb) (.int .i64 xn) := At4.new hr
           have hpA : Pk (w2.alloc (.cells #[.int .i64 xo, .int .i64 xa, .int .i64 xb, .int .i64 xn] 45)) g := hp2.alloc _
           have hKr : Kp g wr (w2.alloc (.cells #[.int .i64 xo, .int .i64 xa, .int .i64 xb, .int .i64 xn] 45)) := hk2.alloc _
           have hgr : g < r := by have := hp2.lt; omega
           have hne : ¬ r = g := by omega)
        | (go_at_call 22; refine (num_any g _ _ (by with_reducible assumption) (by omega) (by omega)).mono ?_; rintro e w3 ⟨v, rfl, va, vb, hp3, hk3⟩; have hKr := Kp.trans hKr hk3; have hA := At4.kp hA hk3 hne; have hAA := hA; obtain ⟨q0, q1, q2, q3, qf⟩ := hAA; have hz3 := hKr.size; clear hk3)
        | (at_builtin; refine wpList_app tIn _ rfl _ _ rfl w.heap.size p' c' l n HL.out rfl (own_kp hown (by repeat (first | with_reducible exact hKr | (with_reducible refine Kp.alloc ?_ _) | (with_reducible refine Kp.setNew ?_ ?hs _; case hs => dsimp only; omega))) hg) _ _ [(_, _, _, _)] 1 rfl rfl (rd_one (heap_at (by first | rfl | simp))) (by omega) (by simp; omega) (n + 1) rfl ?_; intro p6 c6 w6 ho6 hb6 hst6))
      all_goals
        have hKx : Kp g w w6 := by
          refine Kp.own (Kp.trans hKw ?_) hb6
          repeat (first | with_reducible exact hKr | (with_reducible refine Kp.alloc ?_ _) | (with_reducible refine Kp.setNew ?_ ?hs _; case hs => dsimp only; omega))
        have hPx : Pk w6 g := by
          refine Pk.under (B := w.heap.size) ?_ hb6 hg
          repeat (first | with_reducible assumption | (with_reducible refine Pk.alloc ?_ _) | (with_reducible refine Pk.set ?_ ?hs _; case hs => dsimp only; omega))
        have hRx := Row.snoc hR ho6 (by first | exact mw_pl hxm | exact mw_of (by unfold mayP; simp <;> omega) (by simp <;> omega)) hPx hKx
        go_roundw
        case rel => exact ⟨k - 1, p6, n + 1, c6, _, by omega, by omega, rfl, rfl, hRx⟩
        case measure => simp [intOf]; omega
    · have d : decide (0 < k) = false := by simpa using hlt
      have hgx := hpr.lt
      go_wp2_with (first
        | (at_builtin; refine wpList_app tIn _ rfl _ _ rfl w.heap.size p' c' l n HL.out rfl (own_below hown ((Below.refl _ _).alloc (Nat.le_refl _) _)) _ _ [(0, 0, 0, 0)] 1 rfl rfl (rd_one (heap_at (by first | rfl | simp))) (by omega) (by simp; omega) (n + 1) rfl ?_; intro p6 c6 w6 ho6 hb6 hst6))
      go_ret
      exact ⟨p6, n + 1, c6, _, rfl, Row.snoc hR ho6 (by decide) ((hpr.alloc _).under hb6 hg) (Kp.own (hKw.alloc _) hb6), by omega, by omega, trivial⟩
end Go.Proofs.Yteikdocpncdheaa
