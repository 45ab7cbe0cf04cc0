/-
  Pieces of programs out of choices.
-/
import Derived.Test.YtjejabineblnhaaRowIn
namespace Go.Proofs.Ytjejabineblnhaa
open Go.ChangeShapes Go.WideShapes Go.ChangeAt Go.RowKit
attribute [local go_sem ↓] Go.wp_at_zero Go.wp_at_succ

set_option maxRecDepth 100000 in
set_option maxHeartbeats 8000000 in
theorem some_any (g : Nat) (w : World) (hp : Pk w g) (most locks : Int) (h1 : 1 ≤ most) (h2 : most ≤ 2) (h3 : 1 ≤ locks) (h4 : locks ≤ 3) :
    Calls Try.prog 31 #[.pointer (some ⟨g, 0, none⟩), .int .i64 most, .int .i64 locks] w fun e w' => RowTold Gd0 g w 1 6 e w' := by
  have hg := hp.lt
  have dl : decide (0 < locks) = true := by simp; omega
  go_enter Try.func31, Try.ntmps31
  go_wp2_with (go_at_call 23; refine (num_any g _ _ hp (by omega) (by omega)).mono ?_; rintro e w1 ⟨v, rfl, va, vb, hp1, hk1⟩)
  go_loopw [7, 8] (fun t i wr => ∃ (k : Int) (p' : Option Addr) (n c' : Nat) (l : List In), 0 ≤ k ∧ n + 3 * k ≤ 6 ∧ 1 ≤ n + k ∧ i = .int .i64 k ∧ t = .slice p' n c' ∧ Row g w wr p' n c' l ∧ Gd0 l) (fun _ i _ => (intOf i).toNat)
  case atStart => exact ⟨v + 1, none, 0, 0, [], by omega, by omega, by omega, rfl, rfl, ⟨own_nil _ _ _, rfl, rfl, hp1, hk1⟩, gd0_nil⟩
  case round =>
    obtain ⟨k, p', n, c', l, hk0, hk11, hk1n, rfl, rfl, hR, hG⟩ := hrel
    have hpr := hR.pk
    have hKw := hR.kp
    have hsz := hKw.size
    have HL : Hid (l.length = n) := hR.len
    have hown := hR.own
    clear hp1 hk1 va vb
    by_cases hlt : 0 < k
    · have d : decide (0 < k) = true := by simpa using hlt
      go_wp2_with (first
        | (go_at_call 23; refine (num_any g _ _ (by with_reducible assumption) (by omega) (by omega)).mono ?_; rintro e w3 ⟨v, rfl, va, vb, hp3, hk3⟩; have hown := own_kp hown hk3 hg; have hKw := Kp.trans hKw hk3; have hz := hKw.size; clear hk3)
        | (go_at_call 24; refine (plain_any g _ (by with_reducible assumption)).mono ?_; rintro e w4 ⟨⟨xo, xa, xb, xn⟩, rfl, hxm, hp4, hk4⟩; have hown := own_kp hown hk4 hg; have hKw := Kp.trans hKw hk4; have hz := hKw.size; clear hk4)
        | (at_builtin; refine wpList_app tIn _ rfl _ _ rfl w.heap.size p' c' l n HL.out rfl (own_below hown ((Below.refl _ _).alloc (Nat.le_refl _) _)) _ _ [(_, _, _, _)] 1 rfl rfl (rd_one (heap_at (by first | rfl | simp))) (by omega) (by simp; omega) (n + 1) rfl ?_; intro p5 c5 w5 hown hb5 hst5; have hKw := Kp.own (hKw.alloc _) hb5; have hz := hKw.size; have hp5 : Pk w5 g := Pk.under (Pk.alloc (by with_reducible assumption) _) hb5 hg)
        | (at_builtin; refine wpList_app tIn _ rfl _ _ rfl w.heap.size p5 c5 _ (n + 1) (by rw [List.length_append, HL.out]; rfl) rfl (own_below hown ((Below.refl _ _).alloc (Nat.le_refl _) _)) _ _ [(_, _, _, _)] 1 rfl rfl (rd_one (heap_at (by first | rfl | simp))) (by omega) (by simp; omega) (n + 2) rfl ?_; intro p6 c6 w6 hown hb6 hst6; have hKw := Kp.own (hKw.alloc _) hb6; have hz := hKw.size; have hp6 : Pk w6 g := Pk.under (Pk.alloc (by with_reducible assumption) _) hb6 hg)
        | (at_builtin; refine wpList_app tIn _ rfl _ _ rfl w.heap.size p6 c6 _ (n + 2) (by rw [List.length_append, List.length_append, HL.out]; rfl) rfl (own_below hown ((Below.refl _ _).alloc (Nat.le_refl _) _)) _ _ [(_, _, _, _)] 1 rfl rfl (rd_one (heap_at (by first | rfl | simp))) (by omega) (by simp; omega) (n + 3) rfl ?_; intro p7 c7 w7 hown hb7 hst7; have hKw := Kp.own (hKw.alloc _) hb7; have hz := hKw.size; have hp7 : Pk w7 g := Pk.under (Pk.alloc (by with_reducible assumption) _) hb7 hg))
      · have hRx : Row g w w7 p7 (n + 3) c7 _ := ⟨hown, all_snoc (all_snoc (all_snoc hR.all (mw_of (by unfold mayP; simp <;> omega) (by simp))) (mw_pl hxm)) (mw_of (by unfold mayP; simp <;> omega) (by simp)), by simp [HL.out], hp7, hKw⟩
        go_roundw
        case rel => exact ⟨k - 1, p7, n + 3, c7, _, by omega, by omega, by omega, rfl, rfl, hRx, by rw [List.append_assoc, List.append_assoc]; exact gd0_app hG (gd0_pair hxm (by omega) (by omega))⟩
        case measure => simp [intOf]; omega
      · have hRx : Row g w w5 p5 (n + 1) c5 _ := ⟨hown, all_snoc hR.all (mw_pl hxm), by simp [HL.out], hp5, hKw⟩
        go_roundw
        case rel => exact ⟨k - 1, p5, n + 1, c5, _, by omega, by omega, by omega, rfl, rfl, hRx, gd0_app hG (gd0_plain hxm)⟩
        case measure => simp [intOf]; omega
    · have d : decide (0 < k) = false := by simpa using hlt
      go_wp2
      go_ret
      exact ⟨p', n, c', l, rfl, hR, by omega, by omega, hG⟩
end Go.Proofs.Ytjejabineblnhaa
