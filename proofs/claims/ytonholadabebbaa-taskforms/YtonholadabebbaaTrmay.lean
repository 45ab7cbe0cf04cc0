/-
  The document's May.
-/
import Derived.Test.YtonholadabebbaaTmay
namespace Go.Proofs.Ytonholadabebbaa
open Go.ChangeShapes Go.WideShapes Go.ChangeAt Go.RowKit
attribute [local go_sem ↓] Go.wp_at_zero Go.wp_at_succ

theorem er1 {r p e : Int} {M W O : List In} (c1 : ¬ (0 ≤ r ∧ r ≤ 63)) : erT r p e M W O = 1 := by unfold erT; rw [if_pos c1]
theorem er2 {r p e : Int} {M W O : List In} (c1 : 0 ≤ r ∧ r ≤ 63) (c2 : ¬ ((1 ≤ p ∧ p ≤ 16384) ∧ (1 ≤ e ∧ e ≤ p))) : erT r p e M W O = 9 := by
  unfold erT
  rw [if_neg (by simp only [Classical.not_not]; exact c1)]
  by_cases c3 : 1 ≤ p ∧ p ≤ 16384
  · rw [if_neg (by simp only [Classical.not_not]; exact c3), if_pos (fun h => c2 ⟨c3, h⟩)]
  · rw [if_pos c3]
theorem er3 {r p e : Int} {M W O : List In} (c1 : 0 ≤ r ∧ r ≤ 63) (c2 : 1 ≤ p ∧ p ≤ 16384) (c3 : 1 ≤ e ∧ e ≤ p) : erT r p e M W O = if okB M = false then 2 else if wyB W = false then 2 else if optB O = false then 2 else if e < (tk M : Nat) then 10 else if tk M < twk W then 12 else 0 := by
  unfold erT
  rw [if_neg (by simp only [Classical.not_not]; exact c1), if_neg (by simp only [Classical.not_not]; exact c2), if_neg (by simp only [Classical.not_not]; exact c3)]
theorem wy_zero {l : List In} (h : l.length = 0) : wyB l = true := by unfold wyB; rw [h]; rfl
theorem wy_pos {l : List In} (h : 0 < l.length) : wyB l = okB l := by
  unfold wyB
  have : (l.length == 0) = false := by rw [beq_eq_false_iff_ne]; omega
  rw [this]; rfl
theorem opt_zero {l : List In} (h : l.length = 0) : optB l = true := by unfold optB; rw [h]; rfl
theorem opt_pos {l : List In} (h : 0 < l.length) : optB l = (okB l && !lkB l) := by
  unfold optB
  have : (l.length == 0) = false := by rw [beq_eq_false_iff_ne]; omega
  rw [this]; rfl
theorem twk_zero {l : List In} (h : l.length = 0) : twk l = 0 := by unfold twk; rw [if_pos h]
theorem twk_pos {l : List In} (h : 0 < l.length) : twk l = tk l := by unfold twk; rw [if_neg (by omega)]
set_option maxRecDepth 20000 in
set_option maxHeartbeats 6000000 in
theorem rmay_any (r p e : Int) (mp : Option Addr) (mn mc : Nat) (wp : Option Addr) (wn wc : Nat) (op : Option Addr) (on oc : Nat) (M W O : List In) (w : World) (h3 : Tk3 w mp mn mc wp wn wc op on oc M W O) (E : Int) (hE : erT r p e M W O = E) :
    Calls Try.prog 14 #[.agg #[.int .i64 r, .int .i64 p, .int .i64 e, .slice mp mn mc, .slice wp wn wc, .slice op on oc]] w fun e9 w' => e9 = .returned (.int .i64 E) ∧ Below w.heap.size w w' := by
  have HE : Hid (erT r p e M W O = E) := hE
  obtain ⟨kM, hkM⟩ : ∃ kM, okB M = kM := ⟨_, rfl⟩
  obtain ⟨kW, hkW⟩ : ∃ kW, okB W = kW := ⟨_, rfl⟩
  obtain ⟨kO, hkO⟩ : ∃ kO, okB O = kO := ⟨_, rfl⟩
  obtain ⟨kL, hkL⟩ : ∃ kL, lkB O = kL := ⟨_, rfl⟩
  have HK : Hid (okB M = kM ∧ okB W = kW ∧ okB O = kO ∧ lkB O = kL) := ⟨hkM, hkW, hkO, hkL⟩
  have HN : Hid (W.length = wn ∧ O.length = on) := ⟨h3.n, h3.o⟩
  clear hE hkM hkW hkO hkL
  have s1 := bel_self w (.cells #[.int .i64 r, .int .i64 p, .int .i64 e, .slice mp mn mc, .slice wp wn wc, .slice op on oc] 24)
  have h31 := h3.below s1
  have A1 := Lv.new w #[.int .i64 r, .int .i64 p, .int .i64 e, .slice mp mn mc, .slice wp wn wc, .slice op on oc] 24
  have a0 := A1.c 0 rfl
  have a1 := A1.c 1 rfl
  have a2 := A1.c 2 rfl
  have a3 := A1.c 3 rfl
  have a4 := A1.c 4 rfl
  have a5 := A1.c 5 rfl
  clear h3
  go_enter Try.func14, Try.ntmps14
  go_upto_region 4 with (first
    | (go_at_call 22; refine (refcost_any op oc O _ h33.rO on h33.o h33.o9 kO HK.out.2.2.1).mono ?_; rintro e9 w4 ⟨⟨X3, rfl, hX3, hZ3⟩, b4⟩; have B4 := bel_call b4 (Nat.le_refl _) (bel_self w4 (.cells #[.int .i64 X3.a, .int .i64 X3.b, .slice X3.q X3.m X3.d] 53)); have A4 := A3.below B4; have h34 := h33.below B4; clear hX3 hZ3 c0 c1 c2 d0 d1 d2; have V14 := V13.below B4; have V24 := V23.below B4; obtain ⟨c0, c1, c2⟩ := V14.at; obtain ⟨d0, d1, d2⟩ := V24.at; clear a0 a1 a2 a3 a4 a5; have a0 := A4.c 0 rfl; have a1 := A4.c 1 rfl; have a2 := A4.c 2 rfl; have a3 := A4.c 3 rfl; have a4 := A4.c 4 rfl; have a5 := A4.c 5 rfl)
    | (go_at_call 22; refine (refcost_any wp wc W _ h32.rW wn h32.n h32.n9 kW HK.out.2.1).mono ?_; rintro e9 w3 ⟨⟨X2, rfl, hX2, hZ2⟩, b3⟩; have B3 := bel_call b3 (Nat.le_refl _) (bel_self w3 (.cells #[.int .i64 X2.a, .int .i64 X2.b, .slice X2.q X2.m X2.d] 53)); have A3 := A2.below B3; have h33 := h32.below B3; have H2 : Hid (kW = true → X2.a = (tk W : Nat)) := (fun h => (hX2 h).a); clear hX2 hZ2 c0 c1 c2; have V13 := V12.below B3; have V23 := Vc.new w3 X2; obtain ⟨c0, c1, c2⟩ := V13.at; obtain ⟨d0, d1, d2⟩ := V23.at; clear a0 a1 a2 a3 a4 a5; have a0 := A3.c 0 rfl; have a1 := A3.c 1 rfl; have a2 := A3.c 2 rfl; have a3 := A3.c 3 rfl; have a4 := A3.c 4 rfl; have a5 := A3.c 5 rfl)
    | (go_at_call 22; refine (refcost_any mp mc M _ h31.rM mn h31.m h31.m9 kM HK.out.1).mono ?_; rintro e9 w2 ⟨⟨X1, rfl, hX1, hZ1⟩, b2⟩; have B2 := bel_call b2 (Nat.le_refl _) (bel_self w2 (.cells #[.int .i64 X1.a, .int .i64 X1.b, .slice X1.q X1.m X1.d] 53)); have A2 := A1.below B2; have h32 := h31.below B2; have H1 : Hid (kM = true → X1.a = (tk M : Nat)) := (fun h => (hX1 h).a); clear hX1 hZ1; have V12 := Vc.new w2 X1; obtain ⟨c0, c1, c2⟩ := V12.at; clear a0 a1 a2 a3 a4 a5; have a0 := A2.c 0 rfl; have a1 := A2.c 1 rfl; have a2 := A2.c 2 rfl; have a3 := A2.c 3 rfl; have a4 := A2.c 4 rfl; have a5 := A2.c 5 rfl))
  have BX := bel_call (bel_call (bel_call s1 (Nat.le_refl _) B2) (Nat.le_refl _) B3) (Nat.le_refl _) B4
  obtain ⟨WX, hWX⟩ : ∃ WX, WX = w4.alloc (.cells #[.int .i64 X3.a, .int .i64 X3.b, .slice X3.q X3.m X3.d] 53) := ⟨_, rfl⟩
  rw [← hWX] at BX h34 c0 c1 c2 d0 d1 d2 a0 a1 a2 a3 a4 a5 ⊢
  clear hWX A1 A2 A3 A4 V12 V13 V14 V23 V24 h31 h32 h33 s1 B2 B3 B4
  by_cases z1 : r < 0
  · have v1 : decide (r < 0) = true := by simp; omega
    go_wp2
    go_ret
    exact ⟨by rw [show E = 1 from HE.out.symm.trans (er1 (by omega))] <;> rfl, BX⟩
  · have v1 : decide (r < 0) = false := by simp; omega
    by_cases z2 : r > 63
    · have v2 : decide (r > 63) = true := by simp; omega
      go_wp2
      go_ret
      exact ⟨by rw [show E = 1 from HE.out.symm.trans (er1 (by omega))] <;> rfl, BX⟩
    · have v2 : decide (r > 63) = false := by simp; omega
      have r1 : 0 ≤ r ∧ r ≤ 63 := by omega
      go_upto_region 6 with fail
      clear z1 z2 v1 v2
      by_cases y1 : p < 1
      · have u1 : decide (p < 1) = true := by simp; omega
        go_wp2
        go_ret
        exact ⟨by rw [show E = 9 from HE.out.symm.trans (er2 r1 (fun h => by omega))] <;> rfl, BX⟩
      · have u1 : decide (p < 1) = false := by simp; omega
        by_cases y2 : p > 16384
        · have u2 : decide (p > 16384) = true := by simp; omega
          go_wp2
          go_ret
          exact ⟨by rw [show E = 9 from HE.out.symm.trans (er2 r1 (fun h => by omega))] <;> rfl, BX⟩
        · have u2 : decide (p > 16384) = false := by simp; omega
          by_cases y3 : e < 1
          · have u3 : decide (e < 1) = true := by simp; omega
            go_wp2
            go_ret
            exact ⟨by rw [show E = 9 from HE.out.symm.trans (er2 r1 (fun h => by omega))] <;> rfl, BX⟩
          · have u3 : decide (e < 1) = false := by simp; omega
            by_cases y4 : e > p
            · have u4 : decide (e > p) = true := by simp; omega
              go_wp2
              go_ret
              exact ⟨by rw [show E = 9 from HE.out.symm.trans (er2 r1 (fun h => by omega))] <;> rfl, BX⟩
            · have u4 : decide (e > p) = false := by simp; omega
              have p1 : 1 ≤ p ∧ p ≤ 16384 := by omega
              have e1 : 1 ≤ e ∧ e ≤ p := by omega
              go_upto_region 8 with fail
              clear y1 y2 y3 y4 u1 u2 u3 u4
              cases kM with
              | false =>
                go_wp2
                go_ret
                exact ⟨by rw [show E = 2 from HE.out.symm.trans ((er3 r1 p1 e1).trans (if_pos HK.out.1))] <;> rfl, BX⟩
              | true =>
                by_cases hw0 : wn = 0
                · have q6 : decide ((wn : Int) > 0) = false := by simp; omega
                  by_cases ho0 : on = 0
                  · have q7 : decide ((on : Int) > 0) = false := by simp; omega
                    go_upto_region 10 with fail
                    have E3 := er3 (M := M) (W := W) (O := O) r1 p1 e1
                    rw [if_neg (by rw [HK.out.1]; decide), if_neg (by rw [wy_zero (HN.out.1.trans hw0)]; decide), if_neg (by rw [opt_zero (HN.out.2.trans ho0)]; decide)] at E3
                    have x1 := H1.out (by trivial)
                    by_cases x4 : X1.a > e
                    · have q4 : decide (X1.a > e) = true := by simp; omega
                      go_wp2
                      go_ret
                      exact ⟨by rw [show E = 10 from HE.out.symm.trans (E3.trans (if_pos (by omega)))] <;> rfl, BX⟩
                    · have q4 : decide (X1.a > e) = false := by simp; omega
                      have t4 := twk_zero (HN.out.1.trans hw0)
                      go_wp2
                      go_ret
                      exact ⟨by rw [show E = 0 from HE.out.symm.trans (E3.trans ((if_neg (by omega)).trans (if_neg (by omega))))] <;> rfl, BX⟩
                  · have ho1 : 0 < on := by omega
                    have q7 : decide ((on : Int) > 0) = true := by simp; omega
                    clear ho0
                    cases kO with
                    | false =>
                      go_wp2
                      go_ret
                      exact ⟨by rw [show E = 2 from HE.out.symm.trans ((er3 r1 p1 e1).trans ((if_neg (by rw [HK.out.1]; decide)).trans ((if_neg (by rw [wy_zero (HN.out.1.trans hw0)]; decide)).trans (if_pos ((opt_pos (by rw [HN.out.2]; exact ho1)).trans (by rw [HK.out.2.2.1] <;> rfl))))))] <;> rfl, BX⟩
                    | true =>
                      cases kL with
                      | false =>
                        go_upto_region 10 with (go_at_call 23; refine (rlocks_any op oc O _ h34.rO on h34.o h34.o9 _ HK.out.2.2.2).mono ?_; rintro e9 wq ⟨rfl, hq⟩; rw [hq]; clear hq wq)
                        have E3 := er3 (M := M) (W := W) (O := O) r1 p1 e1
                        rw [if_neg (by rw [HK.out.1]; decide), if_neg (by rw [wy_zero (HN.out.1.trans hw0)]; decide), if_neg (by rw [(opt_pos (by rw [HN.out.2]; exact ho1)).trans (by rw [HK.out.2.2.1, HK.out.2.2.2] <;> rfl)]; decide)] at E3
                        have x1 := H1.out (by trivial)
                        by_cases x4 : X1.a > e
                        · have q4 : decide (X1.a > e) = true := by simp; omega
                          go_wp2
                          go_ret
                          exact ⟨by rw [show E = 10 from HE.out.symm.trans (E3.trans (if_pos (by omega)))] <;> rfl, BX⟩
                        · have q4 : decide (X1.a > e) = false := by simp; omega
                          have t4 := twk_zero (HN.out.1.trans hw0)
                          go_wp2
                          go_ret
                          exact ⟨by rw [show E = 0 from HE.out.symm.trans (E3.trans ((if_neg (by omega)).trans (if_neg (by omega))))] <;> rfl, BX⟩
                      | true =>
                        go_wp2_with (go_at_call 23; refine (rlocks_any op oc O _ h34.rO on h34.o h34.o9 _ HK.out.2.2.2).mono ?_; rintro e9 wq ⟨rfl, hq⟩; rw [hq]; clear hq wq)
                        go_ret
                        exact ⟨by rw [show E = 2 from HE.out.symm.trans ((er3 r1 p1 e1).trans ((if_neg (by rw [HK.out.1]; decide)).trans ((if_neg (by rw [wy_zero (HN.out.1.trans hw0)]; decide)).trans (if_pos ((opt_pos (by rw [HN.out.2]; exact ho1)).trans (by rw [HK.out.2.2.1, HK.out.2.2.2] <;> rfl))))))] <;> rfl, BX⟩
                · have hw1 : 0 < wn := by omega
                  have q6 : decide ((wn : Int) > 0) = true := by simp; omega
                  clear hw0
                  cases kW with
                  | false =>
                    go_wp2
                    go_ret
                    exact ⟨by rw [show E = 2 from HE.out.symm.trans ((er3 r1 p1 e1).trans ((if_neg (by rw [HK.out.1]; decide)).trans (if_pos ((wy_pos (by rw [HN.out.1]; exact hw1)).trans HK.out.2.1))))] <;> rfl, BX⟩
                  | true =>
                    by_cases ho0 : on = 0
                    · have q7 : decide ((on : Int) > 0) = false := by simp; omega
                      go_upto_region 10 with fail
                      have E3 := er3 (M := M) (W := W) (O := O) r1 p1 e1
                      rw [if_neg (by rw [HK.out.1]; decide), if_neg (by rw [(wy_pos (by rw [HN.out.1]; exact hw1)).trans HK.out.2.1]; decide), if_neg (by rw [opt_zero (HN.out.2.trans ho0)]; decide)] at E3
                      have x1 := H1.out (by trivial)
                      by_cases x4 : X1.a > e
                      · have q4 : decide (X1.a > e) = true := by simp; omega
                        go_wp2
                        go_ret
                        exact ⟨by rw [show E = 10 from HE.out.symm.trans (E3.trans (if_pos (by omega)))] <;> rfl, BX⟩
                      · have q4 : decide (X1.a > e) = false := by simp; omega
                        have t4 := twk_pos (by rw [HN.out.1]; exact hw1)
                        have x2 := H2.out (by trivial)
                        go_upto_region 12 with fail
                        by_cases x5 : X2.a > X1.a
                        · have q5 : decide (X2.a > X1.a) = true := by simp; omega
                          go_wp2
                          go_ret
                          exact ⟨by rw [show E = 12 from HE.out.symm.trans (E3.trans ((if_neg (by omega)).trans (if_pos (by omega))))] <;> rfl, BX⟩
                        · have q5 : decide (X2.a > X1.a) = false := by simp; omega
                          go_wp2
                          go_ret
                          exact ⟨by rw [show E = 0 from HE.out.symm.trans (E3.trans ((if_neg (by omega)).trans (if_neg (by omega))))] <;> rfl, BX⟩
                    · have ho1 : 0 < on := by omega
                      have q7 : decide ((on : Int) > 0) = true := by simp; omega
                      clear ho0
                      cases kO with
                      | false =>
                        go_wp2
                        go_ret
                        exact ⟨by rw [show E = 2 from HE.out.symm.trans ((er3 r1 p1 e1).trans ((if_neg (by rw [HK.out.1]; decide)).trans ((if_neg (by rw [(wy_pos (by rw [HN.out.1]; exact hw1)).trans HK.out.2.1]; decide)).trans (if_pos ((opt_pos (by rw [HN.out.2]; exact ho1)).trans (by rw [HK.out.2.2.1] <;> rfl))))))] <;> rfl, BX⟩
                      | true =>
                        cases kL with
                        | false =>
                          go_upto_region 10 with (go_at_call 23; refine (rlocks_any op oc O _ h34.rO on h34.o h34.o9 _ HK.out.2.2.2).mono ?_; rintro e9 wq ⟨rfl, hq⟩; rw [hq]; clear hq wq)
                          have E3 := er3 (M := M) (W := W) (O := O) r1 p1 e1
                          rw [if_neg (by rw [HK.out.1]; decide), if_neg (by rw [(wy_pos (by rw [HN.out.1]; exact hw1)).trans HK.out.2.1]; decide), if_neg (by rw [(opt_pos (by rw [HN.out.2]; exact ho1)).trans (by rw [HK.out.2.2.1, HK.out.2.2.2] <;> rfl)]; decide)] at E3
                          have x1 := H1.out (by trivial)
                          by_cases x4 : X1.a > e
                          · have q4 : decide (X1.a > e) = true := by simp; omega
                            go_wp2
                            go_ret
                            exact ⟨by rw [show E = 10 from HE.out.symm.trans (E3.trans (if_pos (by omega)))] <;> rfl, BX⟩
                          · have q4 : decide (X1.a > e) = false := by simp; omega
                            have t4 := twk_pos (by rw [HN.out.1]; exact hw1)
                            have x2 := H2.out (by trivial)
                            go_upto_region 12 with fail
                            by_cases x5 : X2.a > X1.a
                            · have q5 : decide (X2.a > X1.a) = true := by simp; omega
                              go_wp2
                              go_ret
                              exact ⟨by rw [show E = 12 from HE.out.symm.trans (E3.trans ((if_neg (by omega)).trans (if_pos (by omega))))] <;> rfl, BX⟩
                            · have q5 : decide (X2.a > X1.a) = false := by simp; omega
                              go_wp2
                              go_ret
                              exact ⟨by rw [show E = 0 from HE.out.symm.trans (E3.trans ((if_neg (by omega)).trans (if_neg (by omega))))] <;> rfl, BX⟩
                        | true =>
                          go_wp2_with (go_at_call 23; refine (rlocks_any op oc O _ h34.rO on h34.o h34.o9 _ HK.out.2.2.2).mono ?_; rintro e9 wq ⟨rfl, hq⟩; rw [hq]; clear hq wq)
                          go_ret
                          exact ⟨by rw [show E = 2 from HE.out.symm.trans ((er3 r1 p1 e1).trans ((if_neg (by rw [HK.out.1]; decide)).trans ((if_neg (by rw [(wy_pos (by rw [HN.out.1]; exact hw1)).trans HK.out.2.1]; decide)).trans (if_pos ((opt_pos (by rw [HN.out.2]; exact ho1)).trans (by rw [HK.out.2.2.1, HK.out.2.2.2] <;> rfl))))))] <;> rfl, BX⟩
end Go.Proofs.Ytonholadabebbaa
