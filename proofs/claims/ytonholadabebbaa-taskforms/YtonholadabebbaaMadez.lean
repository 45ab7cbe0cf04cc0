/-
  Code without semaphores.
-/
import Derived.Test.YtonholadabebbaaMade
namespace Go.Proofs.Ytonholadabebbaa
open Go.ChangeShapes Go.WideShapes Go.ChangeAt Go.RowKit
attribute [local go_sem ↓] Go.wp_at_zero Go.wp_at_succ

set_option maxRecDepth 100000 in
set_option maxHeartbeats 8000000 in
theorem some_z (g : Nat) (w : World) (hp : Pk w g) (most : Int) (h1 : 1 ≤ most) (h2 : most ≤ 2) :
    Calls Try.prog 26 #[.pointer (some ⟨g, 0, none⟩), .int .i64 most, .int .i64 0] w fun e w' => RowTold Gd0 g w 1 6 e w' := by
  have hg := hp.lt
  go_enter Try.func26, Try.ntmps26
  go_wp2_with (go_at_call 17; refine (num_any g _ _ hp (by omega) (by omega)).mono ?_; rintro e w1 ⟨v, rfl, va, vb, hp1, hk1⟩)
  go_loopw [7, 8] (fun t i wr => ∃ (k : Int) (p' : Option Addr) (n c' : Nat) (l : List In), 0 ≤ k ∧ n + 3 * k ≤ 6 ∧ 1 ≤ n + k ∧ i = .int .i64 k ∧ t = .slice p' n c' ∧ Row g w wr p' n c' l ∧ Gd0 l) (fun _ i _ => (intOf i).toNat)
  case atStart => exact ⟨v + 1, none, 0, 0, [], by omega, by omega, by omega, rfl, rfl, ⟨own_nil _ _ _, rfl, rfl, hp1, hk1⟩, gd0_nil⟩
  case round =>
    obtain ⟨k, p', n, c', l, hk0, hk11, hk1n, rfl, rfl, hR, hG⟩ := hrel
    have hpr := hR.pk
    have hKw := hR.kp
    have hsz := hKw.size
    have HL : Hid (l.length = n) := hR.len
    have hown := hR.own
    clear hp1 hk1 va vb
    by_cases hlt : 0 < k
    · have d : decide (0 < k) = true := by simpa using hlt
      go_wp2_with (first
        | (go_at_call 17; refine (num_any g _ _ (by with_reducible assumption) (by omega) (by omega)).mono ?_; rintro e w3 ⟨v, rfl, va, vb, hp3, hk3⟩; have hown := own_kp hown hk3 hg; have hKw := Kp.trans hKw hk3; have hz := hKw.size; clear hk3)
        | (go_at_call 18; refine (plain_any g _ (by with_reducible assumption)).mono ?_; rintro e w4 ⟨⟨xo, xa, xb, xn⟩, rfl, hxm, hp4, hk4⟩; have hown := own_kp hown hk4 hg; have hKw := Kp.trans hKw hk4; have hz := hKw.size; clear hk4)
        | (at_builtin; refine wpList_app tIn _ rfl _ _ rfl w.heap.size p' c' l n HL.out rfl (own_below hown ((Below.refl _ _).alloc (Nat.le_refl _) _)) _ _ [(_, _, _, _)] 1 rfl rfl (rd_one (heap_at (by first | rfl | simp))) (by omega) (by simp; omega) (n + 1) rfl ?_; intro p5 c5 w5 hown hb5 hst5; have hKw := Kp.own (hKw.alloc _) hb5; have hz := hKw.size; have hp5 : Pk w5 g := Pk.under (Pk.alloc (by with_reducible assumption) _) hb5 hg))
      have hRx : Row g w w5 p5 (n + 1) c5 _ := ⟨hown, all_snoc hR.all (mw_pl hxm), by simp [HL.out], hp5, hKw⟩
      go_roundw
      case rel => exact ⟨k - 1, p5, n + 1, c5, _, by omega, by omega, by omega, rfl, rfl, hRx, gd0_app hG (gd0_plain hxm)⟩
      case measure => simp [intOf]; omega
    · have d : decide (0 < k) = false := by simpa using hlt
      go_wp2
      go_ret
      exact ⟨p', n, c', l, rfl, hR, by omega, by omega, hG⟩
set_option maxRecDepth 100000 in
set_option maxHeartbeats 8000000 in
theorem code_z (g : Nat) (w : World) (hp : Pk w g) :
    Calls Try.prog 16 #[.pointer (some ⟨g, 0, none⟩), .int .i64 0] w fun e w' => RowTold (fun l => ∃ l0, l = l0 ++ [E0] ∧ Gd l0) g w 1 23 e w' := by
  have hg := hp.lt
  go_enter Try.func16, Try.ntmps16
  go_wp2_with (go_at_call 17; refine (num_any g _ _ hp (by omega) (by omega)).mono ?_; rintro e w1 ⟨v, rfl, va, vb, hp1, hk1⟩)
  go_loopw [5, 6] (fun t i wr => ∃ (k : Int) (p' : Option Addr) (n c' : Nat) (l : List In), 0 ≤ k ∧ k ≤ 4 ∧ n ≤ 22 ∧ i = .int .i64 k ∧ t = .slice p' n c' ∧ Row g w wr p' n c' l ∧ Gd l) (fun _ i _ => (intOf i).toNat)
  case atStart => exact ⟨v + 1, none, 0, 0, [], by omega, by omega, by omega, rfl, rfl, ⟨own_nil _ _ _, rfl, rfl, hp1, hk1⟩, gd_nil⟩
  case round =>
    obtain ⟨k, p', n, c', l, hk0, hk4, hn22, rfl, rfl, hR, hG⟩ := hrel
    have hpr := hR.pk
    have hKw := hR.kp
    have hsz := hKw.size
    have HL : Hid (l.length = n) := hR.len
    have HA : Hid (l.all mayW = true) := hR.all
    have hown := hR.own
    clear hp1 hk1 va vb hR
    by_cases hlt : 0 < k
    · have d : decide (0 < k) = true := by simpa using hlt
      go_wp2_with (first
        | (go_at_call 17; refine (num_any g _ _ (by with_reducible assumption) (by omega) (by omega)).mono ?_; rintro e w3 ⟨v, rfl, va, vb, hp3, hk3⟩; have hownb := own_kp hownb hk3 hgb; have hown := own_kp hown hk3 hg; have hKw := Kp.trans hKw hk3; have hz := hKw.size; clear hk3)
        | (go_at_call 17; refine (num_any g _ _ (by with_reducible assumption) (by omega) (by omega)).mono ?_; rintro e w3 ⟨v, rfl, va, vb, hp3, hk3⟩; have hown := own_kp hown hk3 hg; have hKw := Kp.trans hKw hk3; have hz := hKw.size; clear hk3)
        | (go_at_call 26; refine (some_z g _ (by with_reducible assumption) _ (by omega) (by omega)).mono ?_; rintro e w4 ⟨p4, n4, c4, b, rfl, ⟨hownb, hallb, hlenb, hp4, hk4⟩, n41, n46, hGb⟩
           have HB : Hid (b.length = n4) := hlenb
           have HAB : Hid (b.all mayW = true) := hallb
           have hgb : g < w3.heap.size := by omega
           have hown := own_kp hown hk4 hg; have hKw := Kp.trans hKw hk4; have hz := hKw.size; clear hk4 hlenb hallb)
        | (at_builtin; (refine wpList_app tIn _ rfl _ _ rfl w3.heap.size (some ⟨w3.heap.size, 0, none⟩) 1 [(_, _, _, _)] 1 rfl rfl own_one p4 c4 b n4 HB.out rfl (own_rd (own_below hownb ((Below.refl _ _).alloc (Nat.le_refl _) _))) (by omega) (by simp) (1 + n4) rfl ?_); intro p5 c5 w5 ho5 hb5 hst5
           have hB5 := ((Below.refl _ _).alloc (Nat.le_refl _) _).trans hb5
           have hown := own_below hown hB5
           have hKw := Kp.trans hKw (Kp.of_below hB5); have hz := hKw.size
           have hp5 : Pk w5 g := Pk.below (by with_reducible assumption) hB5
           clear hB5 hb5 hst5)
        | (at_builtin; refine wpList_app tIn _ rfl _ _ rfl w.heap.size p' c' l n HL.out rfl hown p5 c5 _ (1 + n4) (by rw [List.length_append, HB.out]; rfl) rfl (own_rd ho5) (by omega) (by omega) (n + (1 + n4)) rfl ?_; intro p6 c6 w6 ho6 hb6 hst6
           have hx : Pk w6 g := Pk.under (by with_reducible assumption) hb6 hg)
        | (at_builtin; refine wpList_app tIn _ rfl _ _ rfl w.heap.size p' c' l n HL.out rfl hown p4 c4 b n4 HB.out rfl (own_rd hownb) (by omega) (by omega) (n + n4) rfl ?_; intro p6 c6 w6 ho6 hb6 hst6
           have hx : Pk w6 g := Pk.under (by with_reducible assumption) hb6 hg)
        | (at_builtin; refine wpList_app tIn _ rfl _ _ rfl w.heap.size p' c' l n HL.out rfl (own_below hown ((Below.refl _ _).alloc (Nat.le_refl _) _)) _ _ [(_, _, _, _)] 1 rfl rfl (rd_one (heap_at (by first | rfl | simp))) (by omega) (by simp; omega) (n + 1) rfl ?_; intro p6 c6 w6 ho6 hb6 hst6
           have hx : Pk w6 g := Pk.under (Pk.alloc (by with_reducible assumption) _) hb6 hg))
      all_goals go_roundw
      all_goals (first | (case measure => simp [intOf]; omega) | skip)
      · exact ⟨k - 1, p6, n + (1 + n4), c6, _, by omega, by omega, by omega, rfl, rfl, ⟨ho6, all_append HA.out (all_cons (mw_of (by unfold mayP; simp <;> omega) (by simp <;> omega)) HAB.out), by simp [HL.out, HB.out]; omega, hx, Kp.own hKw hb6⟩, gd_app hG (gd_head hGb (mw_of (by unfold mayP; simp <;> omega) (by simp <;> omega)) (by simp) (by show _ = b.length; rw [HB.out]; simp [rch, reachI]))⟩
      · exact ⟨k - 1, p', n, c', l, by omega, by omega, by omega, rfl, rfl, ⟨hown, HA.out, HL.out, by with_reducible assumption, hKw⟩, hG⟩
      · exact ⟨k - 1, p6, n + (1 + n4), c6, _, by omega, by omega, by omega, rfl, rfl, ⟨ho6, all_append HA.out (all_cons (mw_of (by unfold mayP; simp <;> omega) (by simp <;> omega)) HAB.out), by simp [HL.out, HB.out]; omega, hx, Kp.own hKw hb6⟩, gd_app hG (gd_head hGb (mw_of (by unfold mayP; simp <;> omega) (by simp <;> omega)) (by simp) (by show _ = b.length; rw [HB.out]; simp [rch, reachI]))⟩
      · exact ⟨k - 1, p', n, c', l, by omega, by omega, by omega, rfl, rfl, ⟨hown, HA.out, HL.out, by with_reducible assumption, hKw⟩, hG⟩
      · exact ⟨k - 1, p6, n + 1, c6, _, by omega, by omega, by omega, rfl, rfl, ⟨ho6, all_append HA.out (by decide), by simp [HL.out], hx, Kp.own (hKw.alloc _) hb6⟩, gd_app hG gd_mark⟩
      · exact ⟨k - 1, p', n, c', l, by omega, by omega, by omega, rfl, rfl, ⟨own_below hown ((Below.refl _ _).alloc (Nat.le_refl _) _), HA.out, HL.out, Pk.alloc (by with_reducible assumption) _, hKw.alloc _⟩, hG⟩
      · exact ⟨k - 1, p6, n + n4, c6, _, by omega, by omega, by omega, rfl, rfl, ⟨ho6, all_append HA.out HAB.out, by simp [HL.out, HB.out], hx, Kp.own hKw hb6⟩, gd_app hG (gd_of0 hGb)⟩
      · exact ⟨k - 1, p', n, c', l, by omega, by omega, by omega, rfl, rfl, ⟨hown, HA.out, HL.out, by with_reducible assumption, hKw⟩, hG⟩
    · have d : decide (0 < k) = false := by simpa using hlt
      go_wp2_with (first
        | (at_builtin; refine wpList_app tIn _ rfl _ _ rfl w.heap.size p' c' l n HL.out rfl (own_below hown ((Below.refl _ _).alloc (Nat.le_refl _) _)) _ _ [(0, 0, 0, 0)] 1 rfl rfl (rd_one (heap_at (by first | rfl | simp))) (by omega) (by simp; omega) (n + 1) rfl ?_; intro p6 c6 w6 ho6 hb6 hst6))
      go_ret
      exact ⟨p6, n + 1, c6, _, rfl, ⟨ho6, all_snoc HA.out (by decide), by rw [List.length_append, HL.out]; rfl, (hpr.alloc _).under hb6 hg, Kp.own (hKw.alloc _) hb6⟩, by omega, by omega, l, rfl, hG⟩
end Go.Proofs.Ytonholadabebbaa
