/-
  The law MboxForms, walked.
-/
import Derived.Test.YtfghondhonflaaaKeep
namespace Go.Proofs.Ytfghondhonflaaa
open Go.ChangeShapes Go.WideShapes Go.ChangeAt Go.RowKit
attribute [local go_sem ↓] Go.wp_at_zero Go.wp_at_succ

def rngI (k : Nat) : List Int := (List.range k).map fun (i : Nat) => (i : Int)
def qsI (k : Nat) : List Int := (List.range k).map fun (i : Nat) => (i : Int) + 1
theorem rngI_len (k : Nat) : (rngI k).length = k := by simp [rngI]
theorem qsI_len (k : Nat) : (qsI k).length = k := by simp [qsI]
theorem rngI_post {k : Nat} (hk : k < 4) : postB (rngI k) [] = true ∧ postL (rngI k) [] (k : Int) = rngI (k + 1) := by
  refine ⟨by simp [postB, rngI_len]; omega, ?_⟩
  simp only [postL, rngI_len, List.isEmpty_nil, Bool.true_and, decide_eq_true hk, if_true]
  simp [rngI, List.range_succ]
theorem rngI_full {k : Nat} (hk : k = 4) : postB (rngI k) [] = false ∧ ∀ v, postL (rngI k) [] v = rngI k := by
  refine ⟨by simp [postB, rngI_len, hk], fun v => by simp [postL, rngI_len, hk]⟩
theorem qsI_take {k : Nat} (hk : k < 4) : takeOk [] (qsI k) ((k : Int) + 1) = true ∧ takeQ [] (qsI k) ((k : Int) + 1) = qsI (k + 1) := by
  have hany : (qsI k).any (· == ((k : Int) + 1)) = false := by
    rw [List.any_eq_false]
    intro y hy
    simp [qsI] at hy
    obtain ⟨i, hi, rfl⟩ := hy
    simp
    omega
  have h0 : decide ((0 : Int) < (k : Int) + 1) = true := decide_eq_true (by omega)
  refine ⟨by simp [takeOk, hany, qsI_len, hk], ?_⟩
  simp only [takeQ, hany, h0, qsI_len, decide_eq_true hk]
  simp [qsI, List.range_succ]
set_option maxRecDepth 100000 in
set_option maxHeartbeats 8000000 in
theorem forms_walk (w : World) : Calls Try.prog 5 #[] w fun e w' => e = .returned (.bool true) ∧ Below w.heap.size w w' := by
  go_enter Try.func5, Try.ntmps5
  go_wp2_with (go_at_call 7; refine (begun_any _).mono ?_; rintro e w1 ⟨rfl, b1⟩)
  obtain ⟨W, hW⟩ : ∃ W, W = w1.alloc (.cells #[.slice none 0 0, .slice none 0 0] 25) := ⟨_, rfl⟩
  have s1 := bel_self w1 (.cells #[.slice none 0 0, .slice none 0 0] 25)
  have v1 := BV.new w1 none 0 0 none 0 0
  rw [← hW] at s1 v1 ⊢
  have B1 := bel_call b1 (Nat.le_refl _) s1
  obtain ⟨gb, hgb⟩ : ∃ g, g = w1.heap.size := ⟨_, rfl⟩
  have hgw : w.heap.size ≤ gb := by rw [hgb]; exact b1.size
  rw [← hgb] at v1
  simp only [← hgb]
  have x1 : Bx W none 0 0 (rngI 0) none 0 0 [] := Bx.nil W
  clear hgb hW s1 b1 w1
  go_loopw [2] (fun i wr => ∃ (k : Nat) (p : Option Addr) (c : Nat) (q : Option Addr) (d : Nat), k ≤ 4 ∧ i = .int .i64 k ∧ BV wr gb p c k q d 0 ∧ Bx wr p c k (rngI k) q d 0 [] ∧ Below w.heap.size w wr) (fun i _ => 4 - (intOf i).toNat)
  case atStart => exact ⟨0, none, 0, none, 0, by omega, rfl, v1, x1, B1⟩
  case round =>
    obtain ⟨k, p, c, q, d, hk, rfl, vb, xb, hbw⟩ := hrel
    clear v1 x1 B1
    have c0 := vb.c0
    have c1 := vb.c1
    by_cases hlt : k < 4
    · obtain ⟨hB, hL⟩ := rngI_post hlt
      have HB : Hid (postB (rngI k) [] = true) := hB
      have HL : Hid (postL (rngI k) [] (k : Int) = rngI (k + 1)) := hL
      have HN : Hid ((rngI (k + 1)).length = k + 1) := rngI_len _
      clear hB hL
      go_wp2_with (first
        | (go_at_call 8; (with_reducible (refine (post_c xb (k : Int) 0 ?h1 true HB.out (rngI (k + 1)) [] HL.out ?h2 (k + 1) 0 HN.out ?h3 (by omega) (by decide)).mono ?_)); (case h1 => rfl); (case h2 => rfl); (case h3 => rfl); (rintro e w2 ⟨p2, c2, q2, d2, rfl, x2, b2⟩; have v2 := vb.below b2; have lt2 := BV.lt v2; have e0 := v2.c0; have e1 := v2.c1; have f0 := v2.fz 0; have f1 := v2.fz 1)))
      have v3 := v2.put p2 c2 (k + 1) q2 d2 0
      have x3 := x2.stored v2 (.slice p2 (k + 1) c2) (.slice q2 0 d2)
      have b3 : Below w.heap.size w ((w2.setCell ⟨gb, 0, none⟩ (.slice p2 (k + 1) c2)).setCell ⟨gb, 1, none⟩ (.slice q2 0 d2)) := by
        refine Below.setCell (Below.setCell (bel_call hbw (Nat.le_refl _) b2) ?_ _) ?_ _ <;> exact hgw
      have s3 := bel_self ((w2.setCell ⟨gb, 0, none⟩ (.slice p2 (k + 1) c2)).setCell ⟨gb, 1, none⟩ (.slice q2 0 d2)) (.cells #[.slice p2 (k + 1) c2, .slice q2 0 d2] 25)
      go_roundw
      case rel => exact ⟨k + 1, p2, c2, q2, d2, by omega, by go_num, v3.below s3, x3.below s3, bel_call b3 (Nat.le_refl _) s3⟩
      case measure => simp [intOf]; omega
    · have dk : decide ((k : Int) < 4) = false := by simp; omega
      have HK : Hid (k = 4) := by show k = 4; omega
      obtain ⟨hB, hL⟩ := rngI_full HK.out
      have HB : Hid (postB (rngI k) [] = false) := hB
      have HL : Hid (postL (rngI k) [] 9 = rngI k) := hL 9
      have HN : Hid ((rngI k).length = k) := rngI_len _
      clear hB hL
      go_wp2_with (first
        | (go_at_call 8; (with_reducible (refine (post_c xb 9 0 ?h1 false HB.out (rngI k) [] HL.out ?h2 k 0 HN.out ?h3 (by omega) (by decide)).mono ?_)); (case h1 => rfl); (case h2 => rfl); (case h3 => rfl); (rintro e w2 ⟨p2, c2, q2, d2, rfl, x2, b2⟩)))
      have s2 := bel_self w2 (.cells #[.slice p2 k c2, .slice q2 0 d2] 25)
      have s3 := bel_self (w2.alloc (.cells #[.slice p2 k c2, .slice q2 0 d2] 25)) (.cells #[.slice none 0 0, .slice none 0 0] 25)
      have vb := ((vb.below b2).below s2).below s3
      have xb := ((xb.below b2).below s2).below s3
      have vc := (BV.new w2 p2 c2 k q2 d2 0).below s3
      have vw : BV ((w2.alloc (.cells #[.slice p2 k c2, .slice q2 0 d2] 25)).alloc (.cells #[.slice none 0 0, .slice none 0 0] 25)) (w2.heap.size + 1) none 0 0 none 0 0 := heap_at (by simp)
      have BW := bel_call (bel_call (bel_call hbw (Nat.le_refl _) b2) (Nat.le_refl _) s2) (Nat.le_refl _) s3
      have hlb : gb < w2.heap.size + 1 := by
        have h1 := b2.size
        have h2 := lt_of_cell c0
        omega
      have hwg : w.heap.size ≤ w2.heap.size + 1 := by
        have h1 := b2.size
        have h2 := lt_of_cell c0
        omega
      obtain ⟨W2, hW2⟩ : ∃ x, x = (w2.alloc (.cells #[.slice p2 k c2, .slice q2 0 d2] 25)).alloc (.cells #[.slice none 0 0, .slice none 0 0] 25) := ⟨_, rfl⟩
      obtain ⟨gc, hgc⟩ : ∃ g, g = w2.heap.size := ⟨_, rfl⟩
      obtain ⟨gw, hgw2⟩ : ∃ g, g = w2.heap.size + 1 := ⟨_, rfl⟩
      have hcw : gc ≠ gw := by omega
      rw [← hW2] at vb xb vc vw BW ⊢
      rw [← hgw2] at vw hlb hwg
      rw [← hgc] at vc
      simp only [← hgw2]
      simp only [← hgc]
      have hbw2 : gb ≠ gw := by omega
      have xw : Bx W2 none 0 0 [] none 0 0 (qsI 0) := Bx.nil W2
      clear hW2 hgc hgw2 s2 s3 x2 b2 c0 c1 hbw hlb
      have HB2 : Hid (gb ≠ gw) := hbw2
      have HC2 : Hid (gc ≠ gw) := hcw
      clear hbw2 hcw HB HL
      go_loopw [10] (fun i wr => ∃ (j : Nat) (p : Option Addr) (c : Nat) (q : Option Addr) (d : Nat), j ≤ 4 ∧ i = .int .i64 ((j : Int) + 1) ∧ BV wr gw p c 0 q d j ∧ Bx wr p c 0 [] q d j (qsI j) ∧ Kp gw W2 wr) (fun i _ => 5 - (intOf i).toNat)
      case atStart => exact ⟨0, none, 0, none, 0, by omega, rfl, vw, xw, Kp.refl _ _⟩
      case round =>
        obtain ⟨j, p5, c5, q5, d5, hj, rfl, vw5, xw5, hkp⟩ := hrel
        have k0 := vw5.c0
        have k1 := vw5.c1
        by_cases hltj : j < 4
        · obtain ⟨hB, hQ⟩ := qsI_take hltj
          have HB : Hid (takeOk [] (qsI j) ((j : Int) + 1) = true) := hB
          have HQ : Hid (takeQ [] (qsI j) ((j : Int) + 1) = qsI (j + 1)) := hQ
          have HM : Hid ((qsI (j + 1)).length = j + 1) := qsI_len _
          have dj : (j : Int) + 1 ≤ 4 := by omega
          have dj2 : decide ((j : Int) + 1 ≤ 4) = true := by simpa using dj
          clear hB hQ
          go_wp2_with (first
            | (go_at_call 11; (with_reducible (refine (take_c xw5 ((j : Int) + 1) 0 ?h1 false ?h2 true HB.out [] (qsI (j + 1)) ?h3 HQ.out 0 (j + 1) ?h4 HM.out (by decide) (by omega)).mono ?_)); (case h1 => simp [takeV, takeGot]); (case h2 => simp [takeGot]); (case h3 => simp [takeL]); (case h4 => rfl); (rintro e w6 ⟨p6, c6, q6, d6, rfl, x6, b6⟩; have v6 := vw5.below b6; have lt6 := BV.lt v6; have e0 := v6.c0; have e1 := v6.c1; have f0 := v6.fz 0; have f1 := v6.fz 1)))
          have v7 := v6.put p6 c6 0 q6 d6 (j + 1)
          have x7 := x6.stored v6 (.slice p6 0 c6) (.slice q6 (j + 1) d6)
          have s7 := bel_self ((w6.setCell ⟨gw, 0, none⟩ (.slice p6 0 c6)).setCell ⟨gw, 1, none⟩ (.slice q6 (j + 1) d6)) (.cells #[.slice p6 0 c6, .slice q6 (j + 1) d6] 25)
          go_roundw
          case rel => exact ⟨j + 1, p6, c6, q6, d6, by omega, by simp, v7.below s7, x7.below s7, ((hkp.bel b6).put _ _).bel s7⟩
          case measure => simp [intOf]; omega
        · obtain rfl : j = 4 := by omega
          obtain rfl : k = 4 := HK.out
          have vb := vb.kp hkp HB2.out
          have vc := vc.kp hkp HC2.out
          have xb := xb.kp vw hkp
          have BW := BW.trans (hkp.below hwg BW.size)
          have xw := xw5
          have vw := vw5
          have dj2 : decide (((4 : Nat) : Int) + 1 ≤ 4) = false := by decide
          have l0 := vb.c0
          have l1 := vb.c1
          clear hkp HB2 HC2 dk xw5 vw5 hwg
          simp only [show qsI 4 = [1, 2, 3, 4] from by decide] at xw
          simp only [show rngI 4 = [0, 1, 2, 3] from by decide] at xb
          go_wp2_with (first
            | (go_at_call 11; (with_reducible (refine (take_c xw (9) 0 ?h1 false ?h2 false ?h3 [] [1, 2, 3, 4] ?h4 ?h5 0 4 ?h6 ?h7 (by decide) (by decide)).mono ?_)); (case h1 => rfl); (case h2 => rfl); (case h3 => rfl); (case h4 => rfl); (case h5 => rfl); (case h6 => rfl); (case h7 => rfl); (rintro e y1 ⟨p1, c1, q1, d1, rfl, x1, b1⟩; have vw := vw.below b1; have ltvw_1 := BV.lt vw; have cavw_1 := vw.c0; have cbvw_1 := vw.c1; have vb := vb.below b1; have ltvb_1 := BV.lt vb; have cavb_1 := vb.c0; have cbvb_1 := vb.c1; have vc := vc.below b1; have ltvc_1 := BV.lt vc; have cavc_1 := vc.c0; have cbvc_1 := vc.c1; have xw := xw.below b1; have xb := xb.below b1; have BW := bel_call BW (Nat.le_refl _) b1; have s1 := bel_self y1 (.cells #[.slice p1 0 c1, .slice q1 4 d1] 25); have vw := vw.below s1; have vb := vb.below s1; have vc := vc.below s1; have xw := xw.below s1; have xb := xb.below s1; have BW := bel_call BW (Nat.le_refl _) s1))
            | (go_at_call 11; (with_reducible (refine (take_c xw (2) 0 ?h1 false ?h2 false ?h3 [] [1, 2, 3, 4] ?h4 ?h5 0 4 ?h6 ?h7 (by decide) (by decide)).mono ?_)); (case h1 => rfl); (case h2 => rfl); (case h3 => rfl); (case h4 => rfl); (case h5 => rfl); (case h6 => rfl); (case h7 => rfl); (rintro e y2 ⟨p2, c2, q2, d2, rfl, x2, b2⟩; have vw := vw.below b2; have ltvw_2 := BV.lt vw; have cavw_2 := vw.c0; have cbvw_2 := vw.c1; have vb := vb.below b2; have ltvb_2 := BV.lt vb; have cavb_2 := vb.c0; have cbvb_2 := vb.c1; have vc := vc.below b2; have ltvc_2 := BV.lt vc; have cavc_2 := vc.c0; have cbvc_2 := vc.c1; have xw := xw.below b2; have xb := xb.below b2; have BW := bel_call BW (Nat.le_refl _) b2; have s2 := bel_self y2 (.cells #[.slice p2 0 c2, .slice q2 4 d2] 25); have vw := vw.below s2; have vb := vb.below s2; have vc := vc.below s2; have xw := xw.below s2; have xb := xb.below s2; have BW := bel_call BW (Nat.le_refl _) s2))
            | (go_at_call 11; (with_reducible (refine (take_c xb (0) 0 ?h1 false ?h2 false ?h3 [0, 1, 2, 3] [] ?h4 ?h5 4 0 ?h6 ?h7 (by decide) (by decide)).mono ?_)); (case h1 => rfl); (case h2 => rfl); (case h3 => rfl); (case h4 => rfl); (case h5 => rfl); (case h6 => rfl); (case h7 => rfl); (rintro e y3 ⟨p3, c3, q3, d3, rfl, x3, b3⟩; have vw := vw.below b3; have ltvw_3 := BV.lt vw; have cavw_3 := vw.c0; have cbvw_3 := vw.c1; have vb := vb.below b3; have ltvb_3 := BV.lt vb; have cavb_3 := vb.c0; have cbvb_3 := vb.c1; have vc := vc.below b3; have ltvc_3 := BV.lt vc; have cavc_3 := vc.c0; have cbvc_3 := vc.c1; have xw := xw.below b3; have xb := xb.below b3; have BW := bel_call BW (Nat.le_refl _) b3; have s3 := bel_self y3 (.cells #[.slice p3 4 c3, .slice q3 0 d3] 25); have vw := vw.below s3; have vb := vb.below s3; have vc := vc.below s3; have xw := xw.below s3; have xb := xb.below s3; have BW := bel_call BW (Nat.le_refl _) s3))
            | (go_at_call 11; (with_reducible (refine (take_c xb (-1) 0 ?h1 false ?h2 false ?h3 [0, 1, 2, 3] [] ?h4 ?h5 4 0 ?h6 ?h7 (by decide) (by decide)).mono ?_)); (case h1 => rfl); (case h2 => rfl); (case h3 => rfl); (case h4 => rfl); (case h5 => rfl); (case h6 => rfl); (case h7 => rfl); (rintro e y4 ⟨p4, c4, q4, d4, rfl, x4, b4⟩; have vw := vw.below b4; have ltvw_4 := BV.lt vw; have cavw_4 := vw.c0; have cbvw_4 := vw.c1; have vb := vb.below b4; have ltvb_4 := BV.lt vb; have cavb_4 := vb.c0; have cbvb_4 := vb.c1; have vc := vc.below b4; have ltvc_4 := BV.lt vc; have cavc_4 := vc.c0; have cbvc_4 := vc.c1; have xw := xw.below b4; have xb := xb.below b4; have BW := bel_call BW (Nat.le_refl _) b4; have s4 := bel_self y4 (.cells #[.slice p4 4 c4, .slice q4 0 d4] 25); have vw := vw.below s4; have vb := vb.below s4; have vc := vc.below s4; have xw := xw.below s4; have xb := xb.below s4; have BW := bel_call BW (Nat.le_refl _) s4))
            | (go_at_call 8; (with_reducible (refine (post_c xw 5 1 ?h1 true ?h2 [] [2, 3, 4] ?h3 ?h4 0 3 ?h5 ?h6 (by decide) (by decide)).mono ?_)); (case h1 => rfl); (case h2 => rfl); (case h3 => rfl); (case h4 => rfl); (case h5 => rfl); (case h6 => rfl); (rintro e y5 ⟨p5, c5, q5, d5, rfl, x5, b5⟩; have vw := vw.below b5; have ltvw_5 := BV.lt vw; have cavw_5 := vw.c0; have cbvw_5 := vw.c1; have vb := vb.below b5; have ltvb_5 := BV.lt vb; have cavb_5 := vb.c0; have cbvb_5 := vb.c1; have vc := vc.below b5; have ltvc_5 := BV.lt vc; have cavc_5 := vc.c0; have cbvc_5 := vc.c1; have xw := xw.below b5; have xb := xb.below b5; have BW := bel_call BW (Nat.le_refl _) b5; have s5 := bel_self y5 (.cells #[.slice p5 0 c5, .slice q5 3 d5] 25); have vw := vw.below s5; have vb := vb.below s5; have vc := vc.below s5; have xw := xw.below s5; have xb := xb.below s5; have BW := bel_call BW (Nat.le_refl _) s5; have vd := BV.new y5 p5 c5 0 q5 d5 3))
            | (go_at_call 13; (with_reducible (refine (reset_c xw).mono ?_)); (rintro e y6 ⟨q6, d6, rfl, o6, b6⟩; have vw := vw.below b6; have ltvw_6 := BV.lt vw; have cavw_6 := vw.c0; have cbvw_6 := vw.c1; have vb := vb.below b6; have ltvb_6 := BV.lt vb; have cavb_6 := vb.c0; have cbvb_6 := vb.c1; have vc := vc.below b6; have ltvc_6 := BV.lt vc; have cavc_6 := vc.c0; have cbvc_6 := vc.c1; have vd := vd.below b6; have ltvd_6 := BV.lt vd; have cavd_6 := vd.c0; have cbvd_6 := vd.c1; have xw := xw.below b6; have xb := xb.below b6; have BW := bel_call BW (Nat.le_refl _) b6; have rl := own_rd o6; have s6 := bel_self y6 (.cells #[.slice none 0 0, .slice none 0 0] 25); have vw := vw.below s6; have vb := vb.below s6; have vc := vc.below s6; have vd := vd.below s6; have xw := xw.below s6; have xb := xb.below s6; have rl := rl.below s6; have BW := bel_call BW (Nat.le_refl _) s6; have ve := BV.new y6 none 0 0 none 0 0))
            | (go_at_call 13; (with_reducible (refine (reset_c xb).mono ?_)); (rintro e y7 ⟨q7, d7, rfl, o7, b7⟩; have vw := vw.below b7; have ltvw_7 := BV.lt vw; have cavw_7 := vw.c0; have cbvw_7 := vw.c1; have vb := vb.below b7; have ltvb_7 := BV.lt vb; have cavb_7 := vb.c0; have cbvb_7 := vb.c1; have vc := vc.below b7; have ltvc_7 := BV.lt vc; have cavc_7 := vc.c0; have cbvc_7 := vc.c1; have vd := vd.below b7; have ltvd_7 := BV.lt vd; have cavd_7 := vd.c0; have cbvd_7 := vd.c1; have ve := ve.below b7; have ltve_7 := BV.lt ve; have cave_7 := ve.c0; have cbve_7 := ve.c1; have xw := xw.below b7; have xb := xb.below b7; have rl := rl.below b7; have BW := bel_call BW (Nat.le_refl _) b7; have s7 := bel_self y7 (.cells #[.slice none 0 0, .slice none 0 0] 25); have vw := vw.below s7; have vb := vb.below s7; have vc := vc.below s7; have vd := vd.below s7; have ve := ve.below s7; have xw := xw.below s7; have xb := xb.below s7; have rl := rl.below s7; have BW := bel_call BW (Nat.le_refl _) s7; obtain ⟨lb, lo, le, lbt, lc⟩ := rl.num 3 (by decide); subst le; simp at lc)))
          go_ret
          exact ⟨rfl, BW⟩
end Go.Proofs.Ytfghondhonflaaa
