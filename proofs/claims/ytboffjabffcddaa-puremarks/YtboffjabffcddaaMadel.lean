/-
  What is made of choices, more closely: memories below 3; code without semaphores.
-/
import Derived.Test.YtboffjabffcddaaMade
import Derived.Test.YtboffjabffcddaaPmath
namespace Go.Proofs.Ytboffjabffcddaa
open Go.ChangeShapes Go.WideShapes Go.ChangeAt Go.RowKit
attribute [local go_sem ↓] Go.wp_at_zero Go.wp_at_succ

theorem Lw.nil : Lw [] := fun x hx => by cases hx
theorem Lw.app {a b : List In} (h : Lw a) (h' : Lw b) : Lw (a ++ b) := fun x hx => by
  rcases List.mem_append.1 hx with h1 | h1
  · exact h x h1
  · exact h' x h1
theorem Lw.one {x : In} (h : x.2.1 ≤ 2) : Lw [x] := fun y hy _ _ => by
  obtain rfl := List.mem_singleton.1 hy
  exact h
theorem Lw.other {x : In} (h : ¬ (1 ≤ x.1 ∧ x.1 ≤ 6)) : Lw [x] := fun y hy h1 h2 => by
  obtain rfl := List.mem_singleton.1 hy
  exact absurd ⟨h1, h2⟩ h
def GdL0 (l : List In) : Prop := Gd0 l ∧ Lw l
def GdL (l : List In) : Prop := Gd l ∧ Lw l
theorem gdl0_nil : GdL0 [] := ⟨gd0_nil, Lw.nil⟩
theorem gdl0_app {a b : List In} (ha : GdL0 a) (hb : GdL0 b) : GdL0 (a ++ b) := ⟨gd0_app ha.1 hb.1, ha.2.app hb.2⟩
theorem gdl0_plain {x : In} (h : plB x = true) (hl : x.2.1 ≤ 2) : GdL0 [x] := ⟨gd0_plain h, Lw.one hl⟩
theorem gdl0_pair {s : Int} {x : In} (h : plB x = true) (hl : x.2.1 ≤ 2) (h0 : 0 ≤ s) (h3 : s ≤ 3) : GdL0 [(9, s, 0, 0), x, (10, s, 0, 0)] := ⟨gd0_pair h h0 h3, (Lw.other (x := (9, s, 0, 0)) (by simp)).app ((Lw.one hl).app (Lw.other (x := (10, s, 0, 0)) (by simp)))⟩
theorem gdl_nil : GdL [] := ⟨gd_nil, Lw.nil⟩
theorem gdl_app {a b : List In} (ha : GdL a) (hb : GdL b) : GdL (a ++ b) := ⟨gd_app ha.1 hb.1, ha.2.app hb.2⟩
theorem gdl_of0 {l : List In} (h : GdL0 l) : GdL l := ⟨gd_of0 h.1, h.2⟩
theorem gdl_mark : GdL [(11, 0, 0, 0)] := ⟨gd_mark, Lw.other (by decide)⟩
theorem gdl_head {x : In} {b : List In} (hb : GdL0 b) (hx : mayW x = true) (ho : x.1 = 7 ∨ x.1 = 8) (hr : rch x = b.length) : GdL (x :: b) := ⟨gd_head hb.1 hx ho hr, (Lw.other (x := x) (by omega)).app hb.2⟩
theorem plain_finl {a : Act} {w w1 : World} {g r : Nat} {A B C D : Int} (hK : Kp g w w1) (hp : Pk w1 g) (hr : w.heap.size = r) (hg : g < w.heap.size) (hd : a.defers = []) (hm : plB (A, B, C, D) = true) (hlo : B ≤ 2)
    (hrun : (results Try.f28 a.tmps).run Try.prog ((((w1.setCell ⟨r, 0, none⟩ (.int .i64 A)).setCell ⟨r, 1, none⟩ (.int .i64 B)).setCell ⟨r, 2, none⟩ (.int .i64 C)).setCell ⟨r, 3, none⟩ (.int .i64 D)) = .ok (.agg #[.int .i64 A, .int .i64 B, .int .i64 C, .int .i64 D]) ((((w1.setCell ⟨r, 0, none⟩ (.int .i64 A)).setCell ⟨r, 1, none⟩ (.int .i64 B)).setCell ⟨r, 2, none⟩ (.int .i64 C)).setCell ⟨r, 3, none⟩ (.int .i64 D))) :
    bodyPost Try.prog Try.f28 (fun e w' => ∃ x : In, e = .returned (.agg #[.int .i64 x.1, .int .i64 x.2.1, .int .i64 x.2.2.1, .int .i64 x.2.2.2]) ∧ plB x = true ∧ x.2.1 ≤ 2 ∧ Pk w' g ∧ Kp g w w') Exit.ret a
      ((((w1.setCell ⟨r, 0, none⟩ (.int .i64 A)).setCell ⟨r, 1, none⟩ (.int .i64 B)).setCell ⟨r, 2, none⟩ (.int .i64 C)).setCell ⟨r, 3, none⟩ (.int .i64 D)) := by
  have h1 : w.heap.size ≤ r := by omega
  have h2 : g < r := by omega
  exact bodyPost_ret hrun hd ⟨(A, B, C, D), rfl, hm, hlo, (((hp.set h2 _).set h2 _).set h2 _).set h2 _, (((hK.setNew h1 _).setNew h1 _).setNew h1 _).setNew h1 _⟩

set_option maxHeartbeats 4000000 in
theorem plain_l (g : Nat) (w : World) (hp : Pk w g) :
    Calls Try.prog 28 #[.pointer (some ⟨g, 0, none⟩)] w fun e w' => ∃ x : In, e = .returned (.agg #[.int .i64 x.1, .int .i64 x.2.1, .int .i64 x.2.2.1, .int .i64 x.2.2.2]) ∧ plB x = true ∧ x.2.1 ≤ 2 ∧ Pk w' g ∧ Kp g w w' := by
  have hg := hp.lt
  have hp1 : Pk (w.alloc (.cells #[.int .i64 0, .int .i64 0, .int .i64 0, .int .i64 0] 34)) g := hp.alloc _
  have hK : Kp g w (w.alloc (.cells #[.int .i64 0, .int .i64 0, .int .i64 0, .int .i64 0] 34)) := (Kp.refl _ _).alloc _
  obtain ⟨r, hr⟩ : ∃ r, w.heap.size = r := ⟨_, rfl⟩
  have hA : At4 (w.alloc (.cells #[.int .i64 0, .int .i64 0, .int .i64 0, .int .i64 0] 34)) r (.int .i64 0) (.int .i64 0) (.int .i64 0) (.int .i64 0) := At4.new hr
  have HR : Hid (w.heap.size = r) := hr
  have hne : ¬ r = g := by omega
  go_enter Try.func28, Try.ntmps28
  go_wp2_with (first
    | (go_at_call 26; refine (num_any g _ _ (by assumption) (by omega) (by omega)).mono ?_; rintro e w1 ⟨v, rfl, va, vb, hp1, hk1⟩; have hK := Kp.trans hK hk1; have hA := At4.kp hA hk1 hne; have hAA := hA; obtain ⟨q0, q1, q2, q3, qf⟩ := hAA; clear hk1))
  all_goals
    refine plain_finl hK hp1 HR.out hg rfl ?_ ?_ ?_
    · exact pl_of (by unfold mayP; simp <;> omega) (by simp) (by simp)
    · omega
    · simp [results, Try.results28, go_sem, q0, q1, q2, q3]
set_option maxRecDepth 100000 in
set_option maxHeartbeats 8000000 in
theorem some_l (g : Nat) (w : World) (hp : Pk w g) (most locks : Int) (h1 : 1 ≤ most) (h2 : most ≤ 2) (h3 : 1 ≤ locks) (h4 : locks ≤ 3) :
    Calls Try.prog 27 #[.pointer (some ⟨g, 0, none⟩), .int .i64 most, .int .i64 locks] w fun e w' => RowTold GdL0 g w 1 6 e w' := by
  have hg := hp.lt
  have dl : decide (0 < locks) = true := by simp; omega
  go_enter Try.func27, Try.ntmps27
  go_wp2_with (go_at_call 26; refine (num_any g _ _ hp (by omega) (by omega)).mono ?_; rintro e w1 ⟨v, rfl, va, vb, hp1, hk1⟩)
  go_loopw [7, 8] (fun t i wr => ∃ (k : Int) (p' : Option Addr) (n c' : Nat) (l : List In), 0 ≤ k ∧ n + 3 * k ≤ 6 ∧ 1 ≤ n + k ∧ i = .int .i64 k ∧ t = .slice p' n c' ∧ Row g w wr p' n c' l ∧ GdL0 l) (fun _ i _ => (intOf i).toNat)
  case atStart => exact ⟨v + 1, none, 0, 0, [], by omega, by omega, by omega, rfl, rfl, ⟨own_nil _ _ _, rfl, rfl, hp1, hk1⟩, gdl0_nil⟩
  case round =>
    obtain ⟨k, p', n, c', l, hk0, hk11, hk1n, rfl, rfl, hR, hG⟩ := hrel
    have hpr := hR.pk
    have hKw := hR.kp
    have hsz := hKw.size
    have HL : Hid (l.length = n) := hR.len
    have hown := hR.own
    clear hp1 hk1 va vb
    by_cases hlt : 0 < k
    · have d : decide (0 < k) = true := by simpa using hlt
      go_wp2_with (first
        | (go_at_call 26; refine (num_any g _ _ (by with_reducible assumption) (by omega) (by omega)).mono ?_; rintro e w3 ⟨v, rfl, va, vb, hp3, hk3⟩; have hown := own_kp hown hk3 hg; have hKw := Kp.trans hKw hk3; have hz := hKw.size; clear hk3)
        | (go_at_call 28; refine (plain_l g _ (by with_reducible assumption)).mono ?_; rintro e w4 ⟨⟨xo, xa, xb, xn⟩, rfl, hxm, hxl, hp4, hk4⟩; have hown := own_kp hown hk4 hg; have hKw := Kp.trans hKw hk4; have hz := hKw.size; clear hk4)
        | (at_builtin; refine wpList_app tIn _ rfl _ _ rfl w.heap.size p' c' l n HL.out rfl (own_below hown ((Below.refl _ _).alloc (Nat.le_refl _) _)) _ _ [(_, _, _, _)] 1 rfl rfl (rd_one (heap_at (by first | rfl | simp))) (by omega) (by simp; omega) (n + 1) rfl ?_; intro p5 c5 w5 hown hb5 hst5; have hKw := Kp.own (hKw.alloc _) hb5; have hz := hKw.size; have hp5 : Pk w5 g := Pk.under (Pk.alloc (by with_reducible assumption) _) hb5 hg)
        | (at_builtin; refine wpList_app tIn _ rfl _ _ rfl w.heap.size p5 c5 _ (n + 1) (by rw [List.length_append, HL.out]; rfl) rfl (own_below hown ((Below.refl _ _).alloc (Nat.le_refl _) _)) _ _ [(_, _, _, _)] 1 rfl rfl (rd_one (heap_at (by first | rfl | simp))) (by omega) (by simp; omega) (n + 2) rfl ?_; intro p6 c6 w6 hown hb6 hst6; have hKw := Kp.own (hKw.alloc _) hb6; have hz := hKw.size; have hp6 : Pk w6 g := Pk.under (Pk.alloc (by with_reducible assumption) _) hb6 hg)
        | (at_builtin; refine wpList_app tIn _ rfl _ _ rfl w.heap.size p6 c6 _ (n + 2) (by rw [List.length_append, List.length_append, HL.out]; rfl) rfl (own_below hown ((Below.refl _ _).alloc (Nat.le_refl _) _)) _ _ [(_, _, _, _)] 1 rfl rfl (rd_one (heap_at (by first | rfl | simp))) (by omega) (by simp; omega) (n + 3) rfl ?_; intro p7 c7 w7 hown hb7 hst7; have hKw := Kp.own (hKw.alloc _) hb7; have hz := hKw.size; have hp7 : Pk w7 g := Pk.under (Pk.alloc (by with_reducible assumption) _) hb7 hg))
      · have hRx : Row g w w7 p7 (n + 3) c7 _ := ⟨hown, all_snoc (all_snoc (all_snoc hR.all (mw_of (by unfold mayP; simp <;> omega) (by simp))) (mw_pl hxm)) (mw_of (by unfold mayP; simp <;> omega) (by simp)), by simp [HL.out], hp7, hKw⟩
        go_roundw
        case rel => exact ⟨k - 1, p7, n + 3, c7, _, by omega, by omega, by omega, rfl, rfl, hRx, by rw [List.append_assoc, List.append_assoc]; exact gdl0_app hG (gdl0_pair hxm hxl (by omega) (by omega))⟩
        case measure => simp [intOf]; omega
      · have hRx : Row g w w5 p5 (n + 1) c5 _ := ⟨hown, all_snoc hR.all (mw_pl hxm), by simp [HL.out], hp5, hKw⟩
        go_roundw
        case rel => exact ⟨k - 1, p5, n + 1, c5, _, by omega, by omega, by omega, rfl, rfl, hRx, gdl0_app hG (gdl0_plain hxm hxl)⟩
        case measure => simp [intOf]; omega
    · have d : decide (0 < k) = false := by simpa using hlt
      go_wp2
      go_ret
      exact ⟨p', n, c', l, rfl, hR, by omega, by omega, hG⟩
set_option maxRecDepth 100000 in
set_option maxHeartbeats 8000000 in
theorem code_l (g : Nat) (w : World) (hp : Pk w g) :
    Calls Try.prog 11 #[.pointer (some ⟨g, 0, none⟩), .int .i64 3] w fun e w' => RowTold (fun l => ∃ l0, l = l0 ++ [E0] ∧ GdL l0) g w 1 23 e w' := by
  have hg := hp.lt
  go_enter Try.func11, Try.ntmps11
  go_wp2_with (go_at_call 26; refine (num_any g _ _ hp (by omega) (by omega)).mono ?_; rintro e w1 ⟨v, rfl, va, vb, hp1, hk1⟩)
  go_loopw [5, 6] (fun t i wr => ∃ (k : Int) (p' : Option Addr) (n c' : Nat) (l : List In), 0 ≤ k ∧ k ≤ 4 ∧ n ≤ 22 ∧ i = .int .i64 k ∧ t = .slice p' n c' ∧ Row g w wr p' n c' l ∧ GdL l) (fun _ i _ => (intOf i).toNat)
  case atStart => exact ⟨v + 1, none, 0, 0, [], by omega, by omega, by omega, rfl, rfl, ⟨own_nil _ _ _, rfl, rfl, hp1, hk1⟩, gdl_nil⟩
  case round =>
    obtain ⟨k, p', n, c', l, hk0, hk4, hn22, rfl, rfl, hR, hG⟩ := hrel
    have hpr := hR.pk
    have hKw := hR.kp
    have hsz := hKw.size
    have HL : Hid (l.length = n) := hR.len
    have HA : Hid (l.all mayW = true) := hR.all
    have hown := hR.own
    clear hp1 hk1 va vb hR
    by_cases hlt : 0 < k
    · have d : decide (0 < k) = true := by simpa using hlt
      go_wp2_with (first
        | (go_at_call 26; refine (num_any g _ _ (by with_reducible assumption) (by omega) (by omega)).mono ?_; rintro e w3 ⟨v, rfl, va, vb, hp3, hk3⟩; have hownb := own_kp hownb hk3 hgb; have hown := own_kp hown hk3 hg; have hKw := Kp.trans hKw hk3; have hz := hKw.size; clear hk3)
        | (go_at_call 26; refine (num_any g _ _ (by with_reducible assumption) (by omega) (by omega)).mono ?_; rintro e w3 ⟨v, rfl, va, vb, hp3, hk3⟩; have hown := own_kp hown hk3 hg; have hKw := Kp.trans hKw hk3; have hz := hKw.size; clear hk3)
        | (go_at_call 27; refine (some_l g _ (by with_reducible assumption) _ _ (by omega) (by omega) (by omega) (by omega)).mono ?_; rintro e w4 ⟨p4, n4, c4, b, rfl, ⟨hownb, hallb, hlenb, hp4, hk4⟩, n41, n46, hGb⟩
           have HB : Hid (b.length = n4) := hlenb
           have HAB : Hid (b.all mayW = true) := hallb
           have hgb : g < w3.heap.size := by omega
           have hown := own_kp hown hk4 hg; have hKw := Kp.trans hKw hk4; have hz := hKw.size; clear hk4 hlenb hallb)
        | (at_builtin; (refine wpList_app tIn _ rfl _ _ rfl w3.heap.size (some ⟨w3.heap.size, 0, none⟩) 1 [(_, _, _, _)] 1 rfl rfl own_one p4 c4 b n4 HB.out rfl (own_rd (own_below hownb ((Below.refl _ _).alloc (Nat.le_refl _) _))) (by omega) (by simp) (1 + n4) rfl ?_); intro p5 c5 w5 ho5 hb5 hst5
           have hB5 := ((Below.refl _ _).alloc (Nat.le_refl _) _).trans hb5
           have hown := own_below hown hB5
           have hKw := Kp.trans hKw (Kp.of_below hB5); have hz := hKw.size
           have hp5 : Pk w5 g := Pk.below (by with_reducible assumption) hB5
           clear hB5 hb5 hst5)
        | (at_builtin; refine wpList_app tIn _ rfl _ _ rfl w.heap.size p' c' l n HL.out rfl hown p5 c5 _ (1 + n4) (by rw [List.length_append, HB.out]; rfl) rfl (own_rd ho5) (by omega) (by omega) (n + (1 + n4)) rfl ?_; intro p6 c6 w6 ho6 hb6 hst6
           have hx : Pk w6 g := Pk.under (by with_reducible assumption) hb6 hg)
        | (at_builtin; refine wpList_app tIn _ rfl _ _ rfl w.heap.size p' c' l n HL.out rfl hown p4 c4 b n4 HB.out rfl (own_rd hownb) (by omega) (by omega) (n + n4) rfl ?_; intro p6 c6 w6 ho6 hb6 hst6
           have hx : Pk w6 g := Pk.under (by with_reducible assumption) hb6 hg)
        | (at_builtin; refine wpList_app tIn _ rfl _ _ rfl w.heap.size p' c' l n HL.out rfl (own_below hown ((Below.refl _ _).alloc (Nat.le_refl _) _)) _ _ [(_, _, _, _)] 1 rfl rfl (rd_one (heap_at (by first | rfl | simp))) (by omega) (by simp; omega) (n + 1) rfl ?_; intro p6 c6 w6 ho6 hb6 hst6
           have hx : Pk w6 g := Pk.under (Pk.alloc (by with_reducible assumption) _) hb6 hg))
      all_goals go_roundw
      all_goals (first | (case measure => simp [intOf]; omega) | skip)
      · exact ⟨k - 1, p6, n + (1 + n4), c6, _, by omega, by omega, by omega, rfl, rfl, ⟨ho6, all_append HA.out (all_cons (mw_of (by unfold mayP; simp <;> omega) (by simp <;> omega)) HAB.out), by simp [HL.out, HB.out]; omega, hx, Kp.own hKw hb6⟩, gdl_app hG (gdl_head hGb (mw_of (by unfold mayP; simp <;> omega) (by simp <;> omega)) (by simp) (by show _ = b.length; rw [HB.out]; simp [rch, reachI]))⟩
      · exact ⟨k - 1, p', n, c', l, by omega, by omega, by omega, rfl, rfl, ⟨hown, HA.out, HL.out, by with_reducible assumption, hKw⟩, hG⟩
      · exact ⟨k - 1, p6, n + (1 + n4), c6, _, by omega, by omega, by omega, rfl, rfl, ⟨ho6, all_append HA.out (all_cons (mw_of (by unfold mayP; simp <;> omega) (by simp <;> omega)) HAB.out), by simp [HL.out, HB.out]; omega, hx, Kp.own hKw hb6⟩, gdl_app hG (gdl_head hGb (mw_of (by unfold mayP; simp <;> omega) (by simp <;> omega)) (by simp) (by show _ = b.length; rw [HB.out]; simp [rch, reachI]))⟩
      · exact ⟨k - 1, p', n, c', l, by omega, by omega, by omega, rfl, rfl, ⟨hown, HA.out, HL.out, by with_reducible assumption, hKw⟩, hG⟩
      · exact ⟨k - 1, p6, n + 1, c6, _, by omega, by omega, by omega, rfl, rfl, ⟨ho6, all_append HA.out (by decide), by simp [HL.out], hx, Kp.own (hKw.alloc _) hb6⟩, gdl_app hG gdl_mark⟩
      · exact ⟨k - 1, p', n, c', l, by omega, by omega, by omega, rfl, rfl, ⟨own_below hown ((Below.refl _ _).alloc (Nat.le_refl _) _), HA.out, HL.out, Pk.alloc (by with_reducible assumption) _, hKw.alloc _⟩, hG⟩
      · exact ⟨k - 1, p6, n + n4, c6, _, by omega, by omega, by omega, rfl, rfl, ⟨ho6, all_append HA.out HAB.out, by simp [HL.out, HB.out], hx, Kp.own hKw hb6⟩, gdl_app hG (gdl_of0 hGb)⟩
      · exact ⟨k - 1, p', n, c', l, by omega, by omega, by omega, rfl, rfl, ⟨hown, HA.out, HL.out, by with_reducible assumption, hKw⟩, hG⟩
    · have d : decide (0 < k) = false := by simpa using hlt
      go_wp2_with (first
        | (at_builtin; refine wpList_app tIn _ rfl _ _ rfl w.heap.size p' c' l n HL.out rfl (own_below hown ((Below.refl _ _).alloc (Nat.le_refl _) _)) _ _ [(0, 0, 0, 0)] 1 rfl rfl (rd_one (heap_at (by first | rfl | simp))) (by omega) (by simp; omega) (n + 1) rfl ?_; intro p6 c6 w6 ho6 hb6 hst6))
      go_ret
      exact ⟨p6, n + 1, c6, _, rfl, ⟨ho6, all_snoc HA.out (by decide), by rw [List.length_append, HL.out]; rfl, (hpr.alloc _).under hb6 hg, Kp.own (hKw.alloc _) hb6⟩, by omega, by omega, l, rfl, hG⟩
end Go.Proofs.Ytboffjabffcddaa
