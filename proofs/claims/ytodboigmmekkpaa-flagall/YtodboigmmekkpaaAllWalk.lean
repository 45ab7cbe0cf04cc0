/-
  The law FlagAll, walked.
-/
import Derived.Test.YtodboigmmekkpaaUse
import Derived.Test.YtodboigmmekkpaaHand
import Derived.Deep.CutRange
namespace Go.Proofs.Ytodboigmmekkpaa
open Go.ChangeShapes Go.WideShapes Go.ChangeAt Go.RowKit
attribute [local go_sem ↓] Go.wp_at_zero Go.wp_at_succ

theorem three_at {w : World} {g : Nat} {a b c : Int} (h : Lv w g #[.int .i64 a, .int .i64 b, .int .i64 c] 3) (k : Nat) (hk : k < 3) : w.cell? ⟨g, k, none⟩ = some (.int .i64 ([a, b, c][k]'hk)) :=
  h.c k (by
    have : k = 0 ∨ k = 1 ∨ k = 2 := by omega
    rcases this with rfl | rfl | rfl <;> rfl)
set_option maxRecDepth 100000 in
set_option maxHeartbeats 8000000 in
theorem all_walk (b : Nat) (p : Option Addr) (c : Nat) (l : List Wt) (m : Nat) (t : Int) (w : World) (hb32 : b < 4294967296) (hm32 : m < 4294967296) (h : Rd eW w p c l) (hU : UL l) (n : Nat) (hn : l.length = n) :
    Calls Try.prog 3 #[.agg #[.int .u32 (b : Int), .slice p n c], .int .u32 (m : Int), .int .i64 t] w fun e w' => e = .returned (.bool true) ∧ Below w.heap.size w w' := by
  by_cases c1 : 8 < n
  · have d1 : decide ((8 : Int) < (n : Int)) = true := by simp; omega
    go_enter Try.func3, Try.ntmps3
    go_wp2_with (go_at_call 7; refine (begun_any _).mono ?_; rintro e w1 ⟨rfl, b1⟩; have V1 := (Fv.new w b p n c).below b1; have e0 := V1.c0; have e1 := V1.c1)
    go_ret
    exact ⟨rfl, bel_call (bel_self _ _) (Nat.le_refl _) b1⟩
  have d1 : decide ((8 : Int) < (n : Int)) = false := by simp; omega
  have hX : Fx w b p c n l := ⟨h, hn, hU, hb32, by omega⟩
  obtain ⟨B0, hB0⟩ : ∃ x, lf (b ||| m) l = x := ⟨_, rfl⟩
  obtain ⟨L0, hL0⟩ : ∃ x, kp (b ||| m) l = x := ⟨_, rfl⟩
  obtain ⟨T0, hT0⟩ : ∃ x, tl (b ||| m) l = x := ⟨_, rfl⟩
  obtain ⟨n0, hn0⟩ : ∃ x, L0.length = x := ⟨_, rfl⟩
  obtain ⟨t0, ht0⟩ : ∃ x, T0.length = x := ⟨_, rfl⟩
  have ht9 : t0 ≤ 1000 := by
    have := tl_le (b ||| m) l
    rw [hT0, ht0] at this
    omega
  have HB0 : Hid (lf (b ||| m) l = B0) := hB0
  have HL0 : Hid (kp (b ||| m) l = L0) := hL0
  have HT0 : Hid (tl (b ||| m) l = T0) := hT0
  have HN0 : Hid (L0.length = n0) := hn0
  have HT9 : Hid (T0.length = t0) := ht0
  clear hB0 hL0 hT0 hn0 ht0 hn h
  go_enter Try.func3, Try.ntmps3
  go_wp2_with (first
    | (go_at_call 7; refine (begun_any _).mono ?_; rintro e w1 ⟨rfl, b1⟩
       have V1 := (Fv.new w b p n c).below b1; have e0 := V1.c0; have e1 := V1.c1
       have B1 := bel_call (bel_self w (.cells #[.int .u32 (b : Int), .slice p n c] 25)) (Nat.le_refl _) b1
       have X1 := hX.below B1)
    | (go_at_call 8; (with_reducible (refine (raise_c X1 (b : Int) rfl m hm32 (m : Int) rfl B0 HB0.out (B0 : Int) rfl L0 T0 HL0.out HT0.out n0 t0 HN0.out HT9.out).mono ?_)); rintro e w2 ⟨q2, d2, u2, v2, rfl, x2, r2, b2⟩
       have B2 := bel_call B1 (Nat.le_refl _) b2
       have s2 := bel_self w2 (.cells #[.int .u32 (B0 : Int), .slice q2 n0 d2] 25)
       have B2s := bel_call B2 (Nat.le_refl _) s2
       have V2 := V1.below b2; have lt2 : w.heap.size < w2.heap.size := V2.lt; have f0 := (V2.below s2).c0; have f1 := (V2.below s2).c1
       have X2 := (X1.below b2).below s2; have Y2 := x2.below s2; have R2 := r2.below s2; have W2 := Fv.new w2 B0 q2 n0 d2)
    | (go_at_call 9; (with_reducible (refine (rraise_c X2 (b : Int) rfl m hm32 (m : Int) rfl B0 HB0.out (B0 : Int) rfl L0 T0 HL0.out HT0.out n0 t0 HN0.out HT9.out).mono ?_)); rintro e w3 ⟨q3, d3, u3, v3, rfl, x3, r3, b3⟩
       have B3 := bel_call B2s (Nat.le_refl _) b3
       have s3 := bel_self w3 (.cells #[.int .u32 (B0 : Int), .slice q3 n0 d3] 25)
       have B3s := bel_call B3 (Nat.le_refl _) s3
       have V3 := ((V2.below s2).below b3).below s3; have W3 := (W2.below b3).below s3; have U3 := Fv.new w3 B0 q3 n0 d3
       have X3 := (X2.below b3).below s3; have Y3 := (Y2.below b3).below s3; have Z3 := x3.below s3; have R3 := (R2.below b3).below s3; have S3 := r3.below s3
       have g0 := W3.c0; have g1 := W3.c1; have g2 := U3.c0; have g3 := U3.c1)
    | (go_at_call 10; (with_reducible (refine (same_c Y3 Z3 (B0 : Int) rfl).mono ?_)); rintro e w4 ⟨rfl, b4⟩
       have B4 := bel_call B3s (Nat.le_refl _) b4; have V4 := V3.below b4; have X4 := X3.below b4; have R4 := R3.below b4; have S4 := S3.below b4)
    | (go_at_call 11; (with_reducible (refine (samewaiters_yes _ _ _ _ T0 _ R4 S4 t0 HT9.out ht9).mono ?_)); rintro e w5 ⟨rfl, b5⟩
       have B5 := bel_call B4 (Nat.le_refl _) b5; have V5 := V4.below b5; have X5 := X4.below b5))
  obtain ⟨W, hW⟩ : ∃ W, W = w5.alloc (.cells #[.int .i64 t, .int .i64 1, .int .i64 2] 3) := ⟨_, rfl⟩
  have s5 := bel_self w5 (.cells #[.int .i64 t, .int .i64 1, .int .i64 2] 3)
  have T5 := Lv.new w5 #[.int .i64 t, .int .i64 1, .int .i64 2] 3
  rw [← hW] at s5 T5 ⊢
  have V6 := V5.below s5
  have X6 := X5.below s5
  have B6 := bel_call B5 (Nat.le_refl _) s5
  obtain ⟨gt, hgt⟩ : ∃ g, g = w5.heap.size := ⟨_, rfl⟩
  rw [← hgt] at T5
  simp only [← hgt]
  clear hgt hW s5 V5 X5 B5 b5 V4 X4 R4 S4 B4 b4 X3 Y3 Z3 R3 S3 V3 W3 U3 s3 B3s B3 g0 g1 g2 g3 b3 x3 r3 X2 Y2 R2 W2 V2 s2 B2s B2 f0 f1 lt2 b2 x2 r2 X1 V1 B1 b1 e0 e1 HB0 HL0 HT0 HN0 HT9 ht9
  go_loopw [12] (fun i wr => ∃ k : Nat, k ≤ 3 ∧ i = .int .i64 k ∧ Below W.heap.size W wr) (fun i _ => 3 - (intOf i).toNat)
  case atStart => exact ⟨0, by omega, rfl, Below.refl _ _⟩
  case round =>
    obtain ⟨k, hk, rfl, hbw⟩ := hrel
    have hv := V6.below hbw
    have hb := X6.below hbw
    by_cases hlt : k < 3
    · have hct := Lv.below T5 hbw
      obtain ⟨V, hV⟩ : ∃ V, ([t, 1, 2][k]'hlt) = V := ⟨_, rfl⟩
      have HVV : Hid (([t, 1, 2][k]'hlt) = V) := hV
      obtain ⟨B1, hB1⟩ : ∃ x, awB b V m = x := ⟨_, rfl⟩
      obtain ⟨G1, hG1⟩ : ∃ x, awG b V m = x := ⟨_, rfl⟩
      obtain ⟨O1, hO1⟩ : ∃ x, awO b l V m = x := ⟨_, rfl⟩
      obtain ⟨L1, hL1⟩ : ∃ x, awW b l V m = x := ⟨_, rfl⟩
      obtain ⟨n1, hn0⟩ : ∃ x, L1.length = x := ⟨_, rfl⟩
      have hn1 : n1 ≤ 1000 := by
        rw [← hn0, ← hL1]
        have := X6.ln
        unfold awW
        split
        · simp; omega
        · omega
      have HB : Hid (awB b V m = B1) := hB1
      have HG : Hid (awG b V m = G1) := hG1
      have HO : Hid (awO b l V m = O1) := hO1
      have HL : Hid (awW b l V m = L1) := hL1
      have HN1 : Hid (L1.length = n1) := hn0
      clear hV hB1 hG1 hO1 hL1 hn0
      have dk : decide ((k : Int) < 3) = true := by simp; omega
      have dk2 : (k : Int) < 3 := by omega
      go_upto_region 13 with fail
      go_cut [13, 14, 15] from 55 to 90 (fun a y o wx => ∃ (g : Nat) (q : Option Addr) (d : Nat), a = .pointer (some ⟨g, 0, none⟩) ∧ y = .int .u32 (G1 : Int) ∧ o = .bool O1 ∧ Fv wx g B1 q n1 d ∧ Fx wx B1 q d n1 L1 ∧ Below wr.heap.size wr wx)
      case first =>
        refine wp_region_held_drew (S := fun w' => Below wr.heap.size wr w') (by kernel_rfl) (Below.refl _ _).drew (fun hHeld => ?_)
        refine wpAnyH_take (i := 0) (oi := _) (v := ?_) rfl (by kernel_rfl) (by kernel_rfl) (by kernel_rfl) (fun _ _ _ h => h) (Or.inl ⟨by rfl, ?_⟩) hHeld ?_
        rotate_left
        · intro w' hSw
          have s0 := (hv.below hSw).c0
          have s1 := (hv.below hSw).c1
          (go_simp <;> with_reducible rfl)
        try simp only [Act.put, List.getElem_toArray, List.getElem_cons_zero, List.setIfInBounds_toArray, List.set_cons_zero, List.set_cons_succ]
        refine wpAnyH_take (i := 1) (oi := _) (v := ?_) rfl (by kernel_rfl) (by kernel_rfl) (by kernel_rfl) (fun _ _ _ h => h) (Or.inl ⟨by rfl, ?_⟩) hHeld ?_
        rotate_left
        · intro w' hSw
          (go_simp <;> with_reducible rfl)
        try simp only [Act.put, List.getElem_toArray, List.getElem_cons_succ, List.getElem_cons_zero, List.setIfInBounds_toArray, List.set_cons_zero, List.set_cons_succ]
        refine wpAnyH_take (i := 2) (oi := _) (v := ?_) rfl (by kernel_rfl) (by kernel_rfl) (by kernel_rfl) (fun _ _ _ h => h) (Or.inl ⟨by rfl, ?_⟩) hHeld ?_
        rotate_left
        · intro w' hSw
          (go_simp <;> with_reducible rfl)
        try simp only [Act.put, List.getElem_toArray, List.getElem_cons_succ, List.getElem_cons_zero, List.setIfInBounds_toArray, List.set_cons_zero, List.set_cons_succ]
        refine wpAnyH_take (i := 3) (oi := _) (v := ?_) rfl (by kernel_rfl) (by kernel_rfl) (by kernel_rfl) (fun _ _ _ h => h) (Or.inl ⟨by rfl, ?_⟩) hHeld ?_
        rotate_left
        · intro w' hSw
          (go_simp <;> with_reducible rfl)
        try simp only [Act.put, List.getElem_toArray, List.getElem_cons_succ, List.getElem_cons_zero, List.setIfInBounds_toArray, List.set_cons_zero, List.set_cons_succ]
        refine wpAnyH_take (i := 4) (oi := _) (v := ?_) rfl (by kernel_rfl) (by kernel_rfl) (by kernel_rfl) (fun _ _ _ h => h) (Or.inl ⟨by rfl, ?_⟩) hHeld ?_
        rotate_left
        · intro w' hSw
          have s0 := (hSw.cell (p := ⟨gt, k, none⟩) hct.lt).trans (three_at hct k hlt)
          rw [HVV.out] at s0
          (go_simp <;> with_reducible rfl)
        try simp only [Act.put, List.getElem_toArray, List.getElem_cons_succ, List.getElem_cons_zero, List.setIfInBounds_toArray, List.set_cons_zero, List.set_cons_succ]
        refine wpAnyH_take (i := 5) (oi := _) (v := ?_) rfl (by kernel_rfl) (by kernel_rfl) (by kernel_rfl) (fun _ _ _ h => h) (Or.inl ⟨by rfl, ?_⟩) hHeld ?_
        rotate_left
        · intro w' hSw
          (go_simp <;> with_reducible rfl)
        try simp only [Act.put, List.getElem_toArray, List.getElem_cons_succ, List.getElem_cons_zero, List.setIfInBounds_toArray, List.set_cons_zero, List.set_cons_succ]
        refine wpAnyH_ready (rs := [6, 11]) (by kernel_rfl) (by simp) ?_
        refine AllReadyH.cons (o := _) rfl (fun K hK => ?_) (AllReadyH.cons (o := _) rfl (fun K hK => ?_) (AllReadyH.nil))
        · go_simp
          go_at_call 12
          (with_reducible (refine ((await_c (hb.below hHeld) (b : Int) rfl V m hm32 (m : Int) rfl B1 HB.out (B1 : Int) rfl G1 HG.out (G1 : Int) rfl O1 HO.out L1 HL.out n1 HN1.out hn1).mono ?_)))
          rintro e w1 ⟨q0, d0, rfl, x0, b1⟩
          refine hK.out _ _ (bel_call hHeld (Nat.le_refl _) b1) (fun hHeld => ?_)
          clear hK K
          try simp only [Act.put, List.getElem_toArray, List.getElem_cons_succ, List.getElem_cons_zero, List.setIfInBounds_toArray, List.set_cons_zero, List.set_cons_succ]
          refine wpAnyH_take (i := 7) (oi := _) (v := ?_) rfl (by kernel_rfl) (by kernel_rfl) (by kernel_rfl) (fun _ _ _ h => h) (Or.inl ⟨by rfl, ?_⟩) hHeld ?_
          rotate_left
          · intro w' hSw
            (go_simp <;> with_reducible rfl)
          try simp only [Act.put, List.getElem_toArray, List.getElem_cons_succ, List.getElem_cons_zero, List.setIfInBounds_toArray, List.set_cons_zero, List.set_cons_succ]
          refine wpAnyH_take (i := 8) (oi := _) (v := ?_) rfl (by kernel_rfl) (by kernel_rfl) (by kernel_rfl) (fun _ _ _ h => h) (Or.inl ⟨by rfl, ?_⟩) hHeld ?_
          rotate_left
          · intro w' hSw
            (go_simp <;> with_reducible rfl)
          try simp only [Act.put, List.getElem_toArray, List.getElem_cons_succ, List.getElem_cons_zero, List.setIfInBounds_toArray, List.set_cons_zero, List.set_cons_succ]
          refine wpAnyH_take (i := 9) (oi := _) (v := ?_) rfl (by kernel_rfl) (by kernel_rfl) (by kernel_rfl) (fun _ _ _ h => h) (Or.inl ⟨by rfl, ?_⟩) hHeld ?_
          rotate_left
          · intro w' hSw
            (go_simp <;> with_reducible rfl)
          try simp only [Act.put, List.getElem_toArray, List.getElem_cons_succ, List.getElem_cons_zero, List.setIfInBounds_toArray, List.set_cons_zero, List.set_cons_succ]
          refine wpAnyH_take (i := 10) (oi := _) (v := ?_) rfl (by kernel_rfl) (by kernel_rfl) (by kernel_rfl) (fun _ _ _ h => h) (Or.inl ⟨by rfl, ?_⟩) hHeld ?_
          rotate_left
          · intro w' hSw
            (go_simp <;> with_reducible rfl)
          try simp only [Act.put, List.getElem_toArray, List.getElem_cons_succ, List.getElem_cons_zero, List.setIfInBounds_toArray, List.set_cons_zero, List.set_cons_succ]
          refine wpAnyH_ready (rs := [11]) (by kernel_rfl) (by simp) ?_
          refine AllReadyH.cons (o := _) rfl (fun K hK => ?_) (AllReadyH.nil)
          go_simp
          have b7 : Below w1.heap.size w1 (w1.alloc (.cells #[.int .u32 0, .slice none 0 0] 25)) := bel_self _ _
          have hz : Fv (w1.alloc (.cells #[.int .u32 0, .slice none 0 0] 25)) w1.heap.size 0 none 0 0 := Lv.new w1 _ _
          obtain ⟨g7, hg7⟩ : ∃ g, g = w1.heap.size := ⟨_, rfl⟩
          have hg7W : wr.heap.size ≤ g7 := by have := hHeld.size; rw [hg7]; exact this
          have x0 := x0.below b7
          refine hK.out _ _ (hHeld.alloc hHeld.size _) (fun hHeld => ?_)
          clear hK K
          rw [← hg7] at hz
          simp only [← hg7]
          generalize (w1.alloc (.cells #[.int .u32 0, .slice none 0 0] 25)) = w7 at *
          clear hg7 b7
          try simp only [Act.put, List.getElem_toArray, List.getElem_cons_succ, List.getElem_cons_zero, List.setIfInBounds_toArray, List.set_cons_zero, List.set_cons_succ]
          refine wpAnyH_ready (rs := [12]) (by kernel_rfl) (by simp) ?_
          refine AllReadyH.cons (o := _) rfl (fun K hK => ?_) (AllReadyH.nil)
          have z0 := hz.c0
          have z1 := hz.c1
          have y0 := hz.f0
          have y1 := hz.f1
          go_simp
          have x0 := x0.stored hz (.int .u32 (B1 : Int)) (.slice q0 n1 d0)
          have hv0 : Fv ((w7.setCell ⟨g7, 0, none⟩ (.int .u32 (B1 : Int))).setCell ⟨g7, 1, none⟩ (.slice q0 n1 d0)) g7 B1 q0 n1 d0 := hz.put B1 q0 n1 d0
          have hS9 : Below wr.heap.size wr ((w7.setCell ⟨g7, 0, none⟩ (.int .u32 (B1 : Int))).setCell ⟨g7, 1, none⟩ (.slice q0 n1 d0)) := by refine Below.setCell (Below.setCell hHeld ?_ _) ?_ _ <;> exact hg7W
          refine hK.out _ _ hS9 (fun hHeld => ?_)
          clear hK K
          try simp only [Act.put, List.getElem_toArray, List.getElem_cons_succ, List.getElem_cons_zero, List.setIfInBounds_toArray, List.set_cons_zero, List.set_cons_succ]
          refine wpAnyH_take (i := 13) (oi := _) (v := ?_) rfl (by kernel_rfl) (by kernel_rfl) (by kernel_rfl) (fun _ _ _ h => h) (Or.inl ⟨by rfl, ?_⟩) hHeld ?_
          rotate_left
          · intro w' hSw
            (go_simp <;> with_reducible rfl)
          try simp only [Act.put, List.getElem_toArray, List.getElem_cons_succ, List.getElem_cons_zero, List.setIfInBounds_toArray, List.set_cons_zero, List.set_cons_succ]
          refine wpAnyH_take (i := 14) (oi := _) (v := ?_) rfl (by kernel_rfl) (by kernel_rfl) (by kernel_rfl) (fun _ _ _ h => h) (Or.inl ⟨by rfl, ?_⟩) hHeld ?_
          rotate_left
          · intro w' hSw
            (go_simp <;> with_reducible rfl)
          try simp only [Act.put, List.getElem_toArray, List.getElem_cons_succ, List.getElem_cons_zero, List.setIfInBounds_toArray, List.set_cons_zero, List.set_cons_succ]
          refine wpAnyH_done (by kernel_rfl) ?_ _
          go_wp2_with fail
          go_meet
          case rel => exact ⟨g7, q0, d0, rfl, rfl, rfl, hv0, x0, hHeld⟩
        · go_simp
          have b7 : Below wr.heap.size wr (wr.alloc (.cells #[.int .u32 0, .slice none 0 0] 25)) := bel_self _ _
          have hz : Fv ((wr.alloc (.cells #[.int .u32 0, .slice none 0 0] 25)).drew) wr.heap.size 0 none 0 0 := Lv.new wr _ _
          have hg7W : wr.heap.size ≤ wr.heap.size := Nat.le_refl _
          refine hK.out _ _ (hHeld.alloc hHeld.size _) (fun hHeld => ?_)
          clear hK K
          generalize ((wr.alloc (.cells #[.int .u32 0, .slice none 0 0] 25)).drew) = w7 at *
          clear b7
          try simp only [Act.put, List.getElem_toArray, List.getElem_cons_succ, List.getElem_cons_zero, List.setIfInBounds_toArray, List.set_cons_zero, List.set_cons_succ]
          refine wpAnyH_ready (rs := [6]) (by kernel_rfl) (by simp) ?_
          refine AllReadyH.cons (o := _) rfl (fun K hK => ?_) (AllReadyH.nil)
          go_simp
          go_at_call 12
          (with_reducible (refine ((await_c (hb.below hHeld) (b : Int) rfl V m hm32 (m : Int) rfl B1 HB.out (B1 : Int) rfl G1 HG.out (G1 : Int) rfl O1 HO.out L1 HL.out n1 HN1.out hn1).mono ?_)))
          rintro e w1 ⟨q0, d0, rfl, x0, b1⟩
          have hz := Fv.below hz b1
          refine hK.out _ _ (bel_call hHeld (Nat.le_refl _) b1) (fun hHeld => ?_)
          clear hK K
          try simp only [Act.put, List.getElem_toArray, List.getElem_cons_succ, List.getElem_cons_zero, List.setIfInBounds_toArray, List.set_cons_zero, List.set_cons_succ]
          refine wpAnyH_take (i := 7) (oi := _) (v := ?_) rfl (by kernel_rfl) (by kernel_rfl) (by kernel_rfl) (fun _ _ _ h => h) (Or.inl ⟨by rfl, ?_⟩) hHeld ?_
          rotate_left
          · intro w' hSw
            (go_simp <;> with_reducible rfl)
          try simp only [Act.put, List.getElem_toArray, List.getElem_cons_succ, List.getElem_cons_zero, List.setIfInBounds_toArray, List.set_cons_zero, List.set_cons_succ]
          refine wpAnyH_take (i := 8) (oi := _) (v := ?_) rfl (by kernel_rfl) (by kernel_rfl) (by kernel_rfl) (fun _ _ _ h => h) (Or.inl ⟨by rfl, ?_⟩) hHeld ?_
          rotate_left
          · intro w' hSw
            (go_simp <;> with_reducible rfl)
          try simp only [Act.put, List.getElem_toArray, List.getElem_cons_succ, List.getElem_cons_zero, List.setIfInBounds_toArray, List.set_cons_zero, List.set_cons_succ]
          refine wpAnyH_take (i := 9) (oi := _) (v := ?_) rfl (by kernel_rfl) (by kernel_rfl) (by kernel_rfl) (fun _ _ _ h => h) (Or.inl ⟨by rfl, ?_⟩) hHeld ?_
          rotate_left
          · intro w' hSw
            (go_simp <;> with_reducible rfl)
          try simp only [Act.put, List.getElem_toArray, List.getElem_cons_succ, List.getElem_cons_zero, List.setIfInBounds_toArray, List.set_cons_zero, List.set_cons_succ]
          refine wpAnyH_take (i := 10) (oi := _) (v := ?_) rfl (by kernel_rfl) (by kernel_rfl) (by kernel_rfl) (fun _ _ _ h => h) (Or.inl ⟨by rfl, ?_⟩) hHeld ?_
          rotate_left
          · intro w' hSw
            (go_simp <;> with_reducible rfl)
          try simp only [Act.put, List.getElem_toArray, List.getElem_cons_succ, List.getElem_cons_zero, List.setIfInBounds_toArray, List.set_cons_zero, List.set_cons_succ]
          refine wpAnyH_ready (rs := [12]) (by kernel_rfl) (by simp) ?_
          refine AllReadyH.cons (o := _) rfl (fun K hK => ?_) (AllReadyH.nil)
          have z0 := hz.c0
          have z1 := hz.c1
          have y0 := hz.f0
          have y1 := hz.f1
          go_simp
          have x0 := x0.stored hz (.int .u32 (B1 : Int)) (.slice q0 n1 d0)
          have hv0 : Fv ((w1.setCell ⟨wr.heap.size, 0, none⟩ (.int .u32 (B1 : Int))).setCell ⟨wr.heap.size, 1, none⟩ (.slice q0 n1 d0)) wr.heap.size B1 q0 n1 d0 := hz.put B1 q0 n1 d0
          have hS9 : Below wr.heap.size wr ((w1.setCell ⟨wr.heap.size, 0, none⟩ (.int .u32 (B1 : Int))).setCell ⟨wr.heap.size, 1, none⟩ (.slice q0 n1 d0)) := by refine Below.setCell (Below.setCell hHeld ?_ _) ?_ _ <;> exact hg7W
          refine hK.out _ _ hS9 (fun hHeld => ?_)
          clear hK K
          try simp only [Act.put, List.getElem_toArray, List.getElem_cons_succ, List.getElem_cons_zero, List.setIfInBounds_toArray, List.set_cons_zero, List.set_cons_succ]
          refine wpAnyH_take (i := 13) (oi := _) (v := ?_) rfl (by kernel_rfl) (by kernel_rfl) (by kernel_rfl) (fun _ _ _ h => h) (Or.inl ⟨by rfl, ?_⟩) hHeld ?_
          rotate_left
          · intro w' hSw
            (go_simp <;> with_reducible rfl)
          try simp only [Act.put, List.getElem_toArray, List.getElem_cons_succ, List.getElem_cons_zero, List.setIfInBounds_toArray, List.set_cons_zero, List.set_cons_succ]
          refine wpAnyH_take (i := 14) (oi := _) (v := ?_) rfl (by kernel_rfl) (by kernel_rfl) (by kernel_rfl) (fun _ _ _ h => h) (Or.inl ⟨by rfl, ?_⟩) hHeld ?_
          rotate_left
          · intro w' hSw
            (go_simp <;> with_reducible rfl)
          try simp only [Act.put, List.getElem_toArray, List.getElem_cons_succ, List.getElem_cons_zero, List.setIfInBounds_toArray, List.set_cons_zero, List.set_cons_succ]
          refine wpAnyH_done (by kernel_rfl) ?_ _
          go_wp2_with fail
          go_meet
          case rel => exact ⟨wr.heap.size, q0, d0, rfl, rfl, rfl, hv0, x0, hHeld⟩
      case rest =>
        obtain ⟨g0, q0, d0, rfl, rfl, rfl, hv0, x0, b0⟩ := hcut
        obtain ⟨wx0, hw0⟩ : ∃ x : World, x = wc := ⟨_, rfl⟩
        subst hw0
        have hb1 := hb.below b0
        have hvb1 := hv.below b0
        have hct1 := Lv.below hct b0
        go_upto_region 14 with fail
        go_cut [16, 17, 18] from 55 to 90 (fun a y o wx => ∃ (g : Nat) (q : Option Addr) (d : Nat), a = .pointer (some ⟨g, 0, none⟩) ∧ y = .int .u32 (G1 : Int) ∧ o = .bool O1 ∧ Fv wx g B1 q n1 d ∧ Fx wx B1 q d n1 L1 ∧ Below wx0.heap.size wx0 wx)
        case first =>
          refine wp_region_held_drew (S := fun w' => Below wx0.heap.size wx0 w') (by kernel_rfl) (Below.refl _ _).drew (fun hHeld => ?_)
          refine wpAnyH_take (i := 0) (oi := _) (v := ?_) rfl (by kernel_rfl) (by kernel_rfl) (by kernel_rfl) (fun _ _ _ h => h) (Or.inl ⟨by rfl, ?_⟩) hHeld ?_
          rotate_left
          · intro w' hSw
            have s0 := (hvb1.below hSw).c0
            have s1 := (hvb1.below hSw).c1
            (go_simp <;> with_reducible rfl)
          try simp only [Act.put, List.getElem_toArray, List.getElem_cons_zero, List.setIfInBounds_toArray, List.set_cons_zero, List.set_cons_succ]
          refine wpAnyH_take (i := 1) (oi := _) (v := ?_) rfl (by kernel_rfl) (by kernel_rfl) (by kernel_rfl) (fun _ _ _ h => h) (Or.inl ⟨by rfl, ?_⟩) hHeld ?_
          rotate_left
          · intro w' hSw
            (go_simp <;> with_reducible rfl)
          try simp only [Act.put, List.getElem_toArray, List.getElem_cons_succ, List.getElem_cons_zero, List.setIfInBounds_toArray, List.set_cons_zero, List.set_cons_succ]
          refine wpAnyH_take (i := 2) (oi := _) (v := ?_) rfl (by kernel_rfl) (by kernel_rfl) (by kernel_rfl) (fun _ _ _ h => h) (Or.inl ⟨by rfl, ?_⟩) hHeld ?_
          rotate_left
          · intro w' hSw
            (go_simp <;> with_reducible rfl)
          try simp only [Act.put, List.getElem_toArray, List.getElem_cons_succ, List.getElem_cons_zero, List.setIfInBounds_toArray, List.set_cons_zero, List.set_cons_succ]
          refine wpAnyH_take (i := 3) (oi := _) (v := ?_) rfl (by kernel_rfl) (by kernel_rfl) (by kernel_rfl) (fun _ _ _ h => h) (Or.inl ⟨by rfl, ?_⟩) hHeld ?_
          rotate_left
          · intro w' hSw
            (go_simp <;> with_reducible rfl)
          try simp only [Act.put, List.getElem_toArray, List.getElem_cons_succ, List.getElem_cons_zero, List.setIfInBounds_toArray, List.set_cons_zero, List.set_cons_succ]
          refine wpAnyH_take (i := 4) (oi := _) (v := ?_) rfl (by kernel_rfl) (by kernel_rfl) (by kernel_rfl) (fun _ _ _ h => h) (Or.inl ⟨by rfl, ?_⟩) hHeld ?_
          rotate_left
          · intro w' hSw
            have s0 := (hSw.cell (p := ⟨gt, k, none⟩) hct1.lt).trans (three_at hct1 k hlt)
            rw [HVV.out] at s0
            (go_simp <;> with_reducible rfl)
          try simp only [Act.put, List.getElem_toArray, List.getElem_cons_succ, List.getElem_cons_zero, List.setIfInBounds_toArray, List.set_cons_zero, List.set_cons_succ]
          refine wpAnyH_take (i := 5) (oi := _) (v := ?_) rfl (by kernel_rfl) (by kernel_rfl) (by kernel_rfl) (fun _ _ _ h => h) (Or.inl ⟨by rfl, ?_⟩) hHeld ?_
          rotate_left
          · intro w' hSw
            (go_simp <;> with_reducible rfl)
          try simp only [Act.put, List.getElem_toArray, List.getElem_cons_succ, List.getElem_cons_zero, List.setIfInBounds_toArray, List.set_cons_zero, List.set_cons_succ]
          refine wpAnyH_ready (rs := [6, 11]) (by kernel_rfl) (by simp) ?_
          refine AllReadyH.cons (o := _) rfl (fun K hK => ?_) (AllReadyH.cons (o := _) rfl (fun K hK => ?_) (AllReadyH.nil))
          · go_simp
            go_at_call 13
            (with_reducible (refine ((rawait_c (hb1.below hHeld) (b : Int) rfl V m hm32 (m : Int) rfl B1 HB.out (B1 : Int) rfl G1 HG.out (G1 : Int) rfl O1 HO.out L1 HL.out n1 HN1.out hn1).mono ?_)))
            rintro e w1 ⟨q1, d1, rfl, x1, b1⟩
            refine hK.out _ _ (bel_call hHeld (Nat.le_refl _) b1) (fun hHeld => ?_)
            clear hK K
            try simp only [Act.put, List.getElem_toArray, List.getElem_cons_succ, List.getElem_cons_zero, List.setIfInBounds_toArray, List.set_cons_zero, List.set_cons_succ]
            refine wpAnyH_take (i := 7) (oi := _) (v := ?_) rfl (by kernel_rfl) (by kernel_rfl) (by kernel_rfl) (fun _ _ _ h => h) (Or.inl ⟨by rfl, ?_⟩) hHeld ?_
            rotate_left
            · intro w' hSw
              (go_simp <;> with_reducible rfl)
            try simp only [Act.put, List.getElem_toArray, List.getElem_cons_succ, List.getElem_cons_zero, List.setIfInBounds_toArray, List.set_cons_zero, List.set_cons_succ]
            refine wpAnyH_take (i := 8) (oi := _) (v := ?_) rfl (by kernel_rfl) (by kernel_rfl) (by kernel_rfl) (fun _ _ _ h => h) (Or.inl ⟨by rfl, ?_⟩) hHeld ?_
            rotate_left
            · intro w' hSw
              (go_simp <;> with_reducible rfl)
            try simp only [Act.put, List.getElem_toArray, List.getElem_cons_succ, List.getElem_cons_zero, List.setIfInBounds_toArray, List.set_cons_zero, List.set_cons_succ]
            refine wpAnyH_take (i := 9) (oi := _) (v := ?_) rfl (by kernel_rfl) (by kernel_rfl) (by kernel_rfl) (fun _ _ _ h => h) (Or.inl ⟨by rfl, ?_⟩) hHeld ?_
            rotate_left
            · intro w' hSw
              (go_simp <;> with_reducible rfl)
            try simp only [Act.put, List.getElem_toArray, List.getElem_cons_succ, List.getElem_cons_zero, List.setIfInBounds_toArray, List.set_cons_zero, List.set_cons_succ]
            refine wpAnyH_take (i := 10) (oi := _) (v := ?_) rfl (by kernel_rfl) (by kernel_rfl) (by kernel_rfl) (fun _ _ _ h => h) (Or.inl ⟨by rfl, ?_⟩) hHeld ?_
            rotate_left
            · intro w' hSw
              (go_simp <;> with_reducible rfl)
            try simp only [Act.put, List.getElem_toArray, List.getElem_cons_succ, List.getElem_cons_zero, List.setIfInBounds_toArray, List.set_cons_zero, List.set_cons_succ]
            refine wpAnyH_ready (rs := [11]) (by kernel_rfl) (by simp) ?_
            refine AllReadyH.cons (o := _) rfl (fun K hK => ?_) (AllReadyH.nil)
            go_simp
            have b7 : Below w1.heap.size w1 (w1.alloc (.cells #[.int .u32 0, .slice none 0 0] 25)) := bel_self _ _
            have hz : Fv (w1.alloc (.cells #[.int .u32 0, .slice none 0 0] 25)) w1.heap.size 0 none 0 0 := Lv.new w1 _ _
            obtain ⟨g7, hg7⟩ : ∃ g, g = w1.heap.size := ⟨_, rfl⟩
            have hg7W : wx0.heap.size ≤ g7 := by have := hHeld.size; rw [hg7]; exact this
            have x1 := x1.below b7
            refine hK.out _ _ (hHeld.alloc hHeld.size _) (fun hHeld => ?_)
            clear hK K
            rw [← hg7] at hz
            simp only [← hg7]
            generalize (w1.alloc (.cells #[.int .u32 0, .slice none 0 0] 25)) = w7 at *
            clear hg7 b7
            try simp only [Act.put, List.getElem_toArray, List.getElem_cons_succ, List.getElem_cons_zero, List.setIfInBounds_toArray, List.set_cons_zero, List.set_cons_succ]
            refine wpAnyH_ready (rs := [12]) (by kernel_rfl) (by simp) ?_
            refine AllReadyH.cons (o := _) rfl (fun K hK => ?_) (AllReadyH.nil)
            have z0 := hz.c0
            have z1 := hz.c1
            have y0 := hz.f0
            have y1 := hz.f1
            go_simp
            have x1 := x1.stored hz (.int .u32 (B1 : Int)) (.slice q1 n1 d1)
            have hv1 : Fv ((w7.setCell ⟨g7, 0, none⟩ (.int .u32 (B1 : Int))).setCell ⟨g7, 1, none⟩ (.slice q1 n1 d1)) g7 B1 q1 n1 d1 := hz.put B1 q1 n1 d1
            have hS9 : Below wx0.heap.size wx0 ((w7.setCell ⟨g7, 0, none⟩ (.int .u32 (B1 : Int))).setCell ⟨g7, 1, none⟩ (.slice q1 n1 d1)) := by refine Below.setCell (Below.setCell hHeld ?_ _) ?_ _ <;> exact hg7W
            refine hK.out _ _ hS9 (fun hHeld => ?_)
            clear hK K
            try simp only [Act.put, List.getElem_toArray, List.getElem_cons_succ, List.getElem_cons_zero, List.setIfInBounds_toArray, List.set_cons_zero, List.set_cons_succ]
            refine wpAnyH_take (i := 13) (oi := _) (v := ?_) rfl (by kernel_rfl) (by kernel_rfl) (by kernel_rfl) (fun _ _ _ h => h) (Or.inl ⟨by rfl, ?_⟩) hHeld ?_
            rotate_left
            · intro w' hSw
              (go_simp <;> with_reducible rfl)
            try simp only [Act.put, List.getElem_toArray, List.getElem_cons_succ, List.getElem_cons_zero, List.setIfInBounds_toArray, List.set_cons_zero, List.set_cons_succ]
            refine wpAnyH_take (i := 14) (oi := _) (v := ?_) rfl (by kernel_rfl) (by kernel_rfl) (by kernel_rfl) (fun _ _ _ h => h) (Or.inl ⟨by rfl, ?_⟩) hHeld ?_
            rotate_left
            · intro w' hSw
              (go_simp <;> with_reducible rfl)
            try simp only [Act.put, List.getElem_toArray, List.getElem_cons_succ, List.getElem_cons_zero, List.setIfInBounds_toArray, List.set_cons_zero, List.set_cons_succ]
            refine wpAnyH_done (by kernel_rfl) ?_ _
            go_wp2_with fail
            go_meet
            case rel => exact ⟨g7, q1, d1, rfl, rfl, rfl, hv1, x1, hHeld⟩
          · go_simp
            have b7 : Below wx0.heap.size wx0 (wx0.alloc (.cells #[.int .u32 0, .slice none 0 0] 25)) := bel_self _ _
            have hz : Fv ((wx0.alloc (.cells #[.int .u32 0, .slice none 0 0] 25)).drew) wx0.heap.size 0 none 0 0 := Lv.new wx0 _ _
            have hg7W : wx0.heap.size ≤ wx0.heap.size := Nat.le_refl _
            refine hK.out _ _ (hHeld.alloc hHeld.size _) (fun hHeld => ?_)
            clear hK K
            generalize ((wx0.alloc (.cells #[.int .u32 0, .slice none 0 0] 25)).drew) = w7 at *
            clear b7
            try simp only [Act.put, List.getElem_toArray, List.getElem_cons_succ, List.getElem_cons_zero, List.setIfInBounds_toArray, List.set_cons_zero, List.set_cons_succ]
            refine wpAnyH_ready (rs := [6]) (by kernel_rfl) (by simp) ?_
            refine AllReadyH.cons (o := _) rfl (fun K hK => ?_) (AllReadyH.nil)
            go_simp
            go_at_call 13
            (with_reducible (refine ((rawait_c (hb1.below hHeld) (b : Int) rfl V m hm32 (m : Int) rfl B1 HB.out (B1 : Int) rfl G1 HG.out (G1 : Int) rfl O1 HO.out L1 HL.out n1 HN1.out hn1).mono ?_)))
            rintro e w1 ⟨q1, d1, rfl, x1, b1⟩
            have hz := Fv.below hz b1
            refine hK.out _ _ (bel_call hHeld (Nat.le_refl _) b1) (fun hHeld => ?_)
            clear hK K
            try simp only [Act.put, List.getElem_toArray, List.getElem_cons_succ, List.getElem_cons_zero, List.setIfInBounds_toArray, List.set_cons_zero, List.set_cons_succ]
            refine wpAnyH_take (i := 7) (oi := _) (v := ?_) rfl (by kernel_rfl) (by kernel_rfl) (by kernel_rfl) (fun _ _ _ h => h) (Or.inl ⟨by rfl, ?_⟩) hHeld ?_
            rotate_left
            · intro w' hSw
              (go_simp <;> with_reducible rfl)
            try simp only [Act.put, List.getElem_toArray, List.getElem_cons_succ, List.getElem_cons_zero, List.setIfInBounds_toArray, List.set_cons_zero, List.set_cons_succ]
            refine wpAnyH_take (i := 8) (oi := _) (v := ?_) rfl (by kernel_rfl) (by kernel_rfl) (by kernel_rfl) (fun _ _ _ h => h) (Or.inl ⟨by rfl, ?_⟩) hHeld ?_
            rotate_left
            · intro w' hSw
              (go_simp <;> with_reducible rfl)
            try simp only [Act.put, List.getElem_toArray, List.getElem_cons_succ, List.getElem_cons_zero, List.setIfInBounds_toArray, List.set_cons_zero, List.set_cons_succ]
            refine wpAnyH_take (i := 9) (oi := _) (v := ?_) rfl (by kernel_rfl) (by kernel_rfl) (by kernel_rfl) (fun _ _ _ h => h) (Or.inl ⟨by rfl, ?_⟩) hHeld ?_
            rotate_left
            · intro w' hSw
              (go_simp <;> with_reducible rfl)
            try simp only [Act.put, List.getElem_toArray, List.getElem_cons_succ, List.getElem_cons_zero, List.setIfInBounds_toArray, List.set_cons_zero, List.set_cons_succ]
            refine wpAnyH_take (i := 10) (oi := _) (v := ?_) rfl (by kernel_rfl) (by kernel_rfl) (by kernel_rfl) (fun _ _ _ h => h) (Or.inl ⟨by rfl, ?_⟩) hHeld ?_
            rotate_left
            · intro w' hSw
              (go_simp <;> with_reducible rfl)
            try simp only [Act.put, List.getElem_toArray, List.getElem_cons_succ, List.getElem_cons_zero, List.setIfInBounds_toArray, List.set_cons_zero, List.set_cons_succ]
            refine wpAnyH_ready (rs := [12]) (by kernel_rfl) (by simp) ?_
            refine AllReadyH.cons (o := _) rfl (fun K hK => ?_) (AllReadyH.nil)
            have z0 := hz.c0
            have z1 := hz.c1
            have y0 := hz.f0
            have y1 := hz.f1
            go_simp
            have x1 := x1.stored hz (.int .u32 (B1 : Int)) (.slice q1 n1 d1)
            have hv1 : Fv ((w1.setCell ⟨wx0.heap.size, 0, none⟩ (.int .u32 (B1 : Int))).setCell ⟨wx0.heap.size, 1, none⟩ (.slice q1 n1 d1)) wx0.heap.size B1 q1 n1 d1 := hz.put B1 q1 n1 d1
            have hS9 : Below wx0.heap.size wx0 ((w1.setCell ⟨wx0.heap.size, 0, none⟩ (.int .u32 (B1 : Int))).setCell ⟨wx0.heap.size, 1, none⟩ (.slice q1 n1 d1)) := by refine Below.setCell (Below.setCell hHeld ?_ _) ?_ _ <;> exact hg7W
            refine hK.out _ _ hS9 (fun hHeld => ?_)
            clear hK K
            try simp only [Act.put, List.getElem_toArray, List.getElem_cons_succ, List.getElem_cons_zero, List.setIfInBounds_toArray, List.set_cons_zero, List.set_cons_succ]
            refine wpAnyH_take (i := 13) (oi := _) (v := ?_) rfl (by kernel_rfl) (by kernel_rfl) (by kernel_rfl) (fun _ _ _ h => h) (Or.inl ⟨by rfl, ?_⟩) hHeld ?_
            rotate_left
            · intro w' hSw
              (go_simp <;> with_reducible rfl)
            try simp only [Act.put, List.getElem_toArray, List.getElem_cons_succ, List.getElem_cons_zero, List.setIfInBounds_toArray, List.set_cons_zero, List.set_cons_succ]
            refine wpAnyH_take (i := 14) (oi := _) (v := ?_) rfl (by kernel_rfl) (by kernel_rfl) (by kernel_rfl) (fun _ _ _ h => h) (Or.inl ⟨by rfl, ?_⟩) hHeld ?_
            rotate_left
            · intro w' hSw
              (go_simp <;> with_reducible rfl)
            try simp only [Act.put, List.getElem_toArray, List.getElem_cons_succ, List.getElem_cons_zero, List.setIfInBounds_toArray, List.set_cons_zero, List.set_cons_succ]
            refine wpAnyH_done (by kernel_rfl) ?_ _
            go_wp2_with fail
            go_meet
            case rel => exact ⟨wx0.heap.size, q1, d1, rfl, rfl, rfl, hv1, x1, hHeld⟩
        case rest =>
          obtain ⟨g1, q1, d1, rfl, rfl, rfl, hv1, x1, b1⟩ := hcut
          obtain ⟨wx1, hw1⟩ : ∃ x : World, x = wc := ⟨_, rfl⟩
          subst hw1
          have X0 := x0.below b1
          have V0 := hv0.below b1
          have j0 := V0.c0
          have j1 := V0.c1
          have j2 := hv1.c0
          have j3 := hv1.c1
          go_wp2_with (go_at_call 10; (with_reducible (refine (same_c X0 x1 (B1 : Int) rfl).mono ?_)); (rintro e w9 ⟨rfl, b9⟩))
          go_roundw
          case rel => exact ⟨k + 1, by omega, by go_num, bel_call (bel_call (bel_call hbw (Nat.le_refl _) b0) (Nat.le_refl _) b1) (Nat.le_refl _) b9⟩
          case measure => simp [intOf]; omega
    · obtain rfl : k = 3 := by omega
      have j0 := hv.c0
      have j1 := hv.c1
      obtain ⟨A, hA⟩ : ∃ A, l.map (·.1) = A := ⟨_, rfl⟩
      have HA : Hid (l.map (·.1) = A) := hA
      have HAn : Hid (A.length = n) := by show _ = _; rw [← hA, List.length_map]; exact hb.ln
      clear hA
      go_wp2_with (first
        | (go_at_call 14; (with_reducible (refine (reset_c hb (b : Int) rfl A HA.out).mono ?_)); rintro e w6 ⟨u6, v6, rfl, r6, b6⟩
           have s6 := bel_self w6 (.cells #[.int .u32 0, .slice none 0 0] 25)
           have U6 := Fv.new w6 0 none 0 0
           have V7 := (hv.below b6).below s6; have i0 := V7.c0; have i1 := V7.c1; have i2 := U6.c0; have i3 := U6.c1
           have X7 := (hb.below b6).below s6; have R7 := r6.below s6
           have C6 := bel_call (bel_call hbw (Nat.le_refl _) b6) (Nat.le_refl _) s6)
        | (go_at_call 10; (with_reducible (refine (same_c (Fx.nil _ (b := 0) (by decide)) (Fx.nil _ (by decide)) 0 rfl).mono ?_)); rintro e w7 ⟨rfl, b7⟩
           have V8 := V7.below b7; have l0 := V8.c0; have l1 := V8.c1; have X8 := X7.below b7; have R8 := R7.below b7)
        | (go_at_call 16; (with_reducible (refine (clients_c X8 (b : Int) rfl A HA.out).mono ?_)); rintro e w8 ⟨u8, v8, rfl, r8, b8⟩; have R9 := R8.below b8)
        | (go_at_call 15; (with_reducible (refine (sameints_yes _ _ _ _ A _ R9 r8 n HAn.out X8.n9).mono ?_)); rintro e w9 ⟨rfl, b9⟩))
      go_ret
      exact ⟨rfl, bel_call B6 (Nat.le_refl _) (bel_call (bel_call (bel_call C6 (Nat.le_refl _) b7) (Nat.le_refl _) b8) (Nat.le_refl _) b9)⟩
theorem all_walki (b : Nat) (p : Option Addr) (c : Nat) (l : List Wt) (M t : Int) (w : World) (hb32 : b < 4294967296) (h0 : 0 ≤ M) (h1 : M < 4294967296) (h : Rd eW w p c l) (hU : UL l) (n : Nat) (hn : l.length = n) :
    Calls Try.prog 3 #[.agg #[.int .u32 (b : Int), .slice p n c], .int .u32 M, .int .i64 t] w fun e w' => e = .returned (.bool true) ∧ Below w.heap.size w w' := by
  obtain ⟨m, rfl⟩ := Int.eq_ofNat_of_zero_le h0
  exact all_walk b p c l m t w hb32 (by omega) h hU n hn
end Go.Proofs.Ytodboigmmekkpaa
