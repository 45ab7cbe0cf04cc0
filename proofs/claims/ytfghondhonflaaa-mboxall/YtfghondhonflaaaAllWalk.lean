/-
  The law MboxAll, walked.
-/
import Derived.Test.YtfghondhonflaaaKeep
import Derived.Test.YtfghondhonflaaaHand
import Derived.Deep.CutRange
namespace Go.Proofs.Ytfghondhonflaaa
open Go.ChangeShapes Go.WideShapes Go.ChangeAt Go.RowKit
attribute [local go_sem ↓] Go.wp_at_zero Go.wp_at_succ

set_option maxRecDepth 100000 in
set_option maxHeartbeats 8000000 in
theorem all_walk (p : Option Addr) (c : Nat) (L : List Int) (q : Option Addr) (d : Nat) (Q : List Int) (v t : Int) (w : World) (hL : Rd eI w p c L) (hQ : Rd eI w q d Q) (n m : Nat) (hn : L.length = n) (hm : Q.length = m) :
    Calls Try.prog 3 #[.agg #[.slice p n c, .slice q m d], .int .i64 v, .int .i64 t] w fun e w' => e = .returned (.bool true) ∧ Below w.heap.size w w' := by
  by_cases c1 : 8 < n
  · have d1 : decide ((8 : Int) < (n : Int)) = true := by simp; omega
    go_enter Try.func3, Try.ntmps3
    go_wp2_with (go_at_call 7; refine (begun_any _).mono ?_; rintro e w1 ⟨rfl, b1⟩; have V1 := (BV.new w p c n q d m).below b1; have e0 := V1.c0; have e1 := V1.c1)
    go_ret
    exact ⟨rfl, bel_call (bel_self _ _) (Nat.le_refl _) b1⟩
  have d1 : decide ((8 : Int) < (n : Int)) = false := by simp; omega
  by_cases c2 : 8 < m
  · have d2 : decide ((8 : Int) < (m : Int)) = true := by simp; omega
    go_enter Try.func3, Try.ntmps3
    go_wp2_with (go_at_call 7; refine (begun_any _).mono ?_; rintro e w1 ⟨rfl, b1⟩; have V1 := (BV.new w p c n q d m).below b1; have e0 := V1.c0; have e1 := V1.c1)
    go_ret
    exact ⟨rfl, bel_call (bel_self _ _) (Nat.le_refl _) b1⟩
  have d2 : decide ((8 : Int) < (m : Int)) = false := by simp; omega
  have hX : Bx w p c n L q d m Q := ⟨hL, hQ, hn, hm, by omega, by omega⟩
  obtain ⟨C, hC⟩ : ∃ C, postC Q = C := ⟨_, rfl⟩
  obtain ⟨B, hB⟩ : ∃ B, postB L Q = B := ⟨_, rfl⟩
  obtain ⟨L1, hL1⟩ : ∃ x, postL L Q v = x := ⟨_, rfl⟩
  obtain ⟨Q1, hQ1⟩ : ∃ x, postQ Q = x := ⟨_, rfl⟩
  obtain ⟨n1, hn1⟩ : ∃ x, L1.length = x := ⟨_, rfl⟩
  obtain ⟨m1, hm1⟩ : ∃ x, Q1.length = x := ⟨_, rfl⟩
  have n19 : n1 ≤ 1000 := by
    rw [← hn1, ← hL1]
    unfold postL
    split
    · simp; omega
    · omega
  have m19 : m1 ≤ 1000 := by
    rw [← hm1, ← hQ1]
    simp [postQ]; omega
  have HC : Hid (postC Q = C) := hC
  have HB : Hid (postB L Q = B) := hB
  have HL1 : Hid (postL L Q v = L1) := hL1
  have HQ1 : Hid (postQ Q = Q1) := hQ1
  have HN1 : Hid (L1.length = n1) := hn1
  have HM1 : Hid (Q1.length = m1) := hm1
  clear hC hB hL1 hQ1 hn1 hm1 hn hm hL hQ
  go_enter Try.func3, Try.ntmps3
  go_wp2_with (first
    | (go_at_call 7; refine (begun_any _).mono ?_; rintro e w1 ⟨rfl, b1⟩
       have V1 := (BV.new w p c n q d m).below b1; have e0 := V1.c0; have e1 := V1.c1
       have B1 := bel_call (bel_self w (.cells #[.slice p n c, .slice q m d] 25)) (Nat.le_refl _) b1
       have X1 := hX.below B1)
    | (go_at_call 8; (with_reducible (refine (post_c X1 v C HC.out B HB.out L1 Q1 HL1.out HQ1.out n1 m1 HN1.out HM1.out n19 m19).mono ?_)); (rintro e w2 ⟨p2, c2, q2, d2, rfl, x2, b2⟩; have B2 := bel_call B1 (Nat.le_refl _) b2; have s2 := bel_self w2 (.cells #[.slice p2 n1 c2, .slice q2 m1 d2] 25); have B2s := bel_call B2 (Nat.le_refl _) s2; have V2 := V1.below b2; have lt2 : w.heap.size < w2.heap.size := Lv.lt V2; have f0 := V2.c0; have f1 := V2.c1; have X2 := (X1.below b2).below s2; have Y2 := x2.below s2; have W2 := BV.new w2 p2 c2 n1 q2 d2 m1))
    | (go_at_call 9; (with_reducible (refine (rpost_c X2 v C HC.out B HB.out L1 Q1 HL1.out HQ1.out n1 m1 HN1.out HM1.out n19 m19).mono ?_)); (rintro e w3 ⟨p3, c3, q3, d3, rfl, x3, b3⟩; have B3 := bel_call B2s (Nat.le_refl _) b3; have s3 := bel_self w3 (.cells #[.slice p3 n1 c3, .slice q3 m1 d3] 25); have B3s := bel_call B3 (Nat.le_refl _) s3; have V3 := (V2.below s2).below b3; have W3 := W2.below b3; have lt3 : w.heap.size < w3.heap.size := Lv.lt V3; have lt4 : w2.heap.size < w3.heap.size := Lv.lt W3; have g0 := W3.c0; have g1 := W3.c1; have X3 := (X2.below b3).below s3; have Y3 := (Y2.below b3).below s3; have Z3 := x3.below s3))
    | (go_at_call 10; (with_reducible (refine (same_c Y3 Z3).mono ?_)); (rintro e w4 ⟨rfl, b4⟩; have B4 := bel_call B3s (Nat.le_refl _) b4; have V4 := (V3.below s3).below b4; have X4 := X3.below b4)))
  obtain ⟨W, hW⟩ : ∃ W, W = w4.alloc (.cells #[.int .i64 t, .int .i64 1, .int .i64 2] 3) := ⟨_, rfl⟩
  have s5 := bel_self w4 (.cells #[.int .i64 t, .int .i64 1, .int .i64 2] 3)
  have T5 := Lv.new w4 #[.int .i64 t, .int .i64 1, .int .i64 2] 3
  rw [← hW] at s5 T5 ⊢
  have V5 := V4.below s5
  have X5 := X4.below s5
  have B5 := bel_call B4 (Nat.le_refl _) s5
  obtain ⟨gt, hgt⟩ : ∃ g, g = w4.heap.size := ⟨_, rfl⟩
  rw [← hgt] at T5
  simp only [← hgt]
  clear hgt hW s5 V4 X4 B4 b4 X3 Y3 Z3 V3 W3 s3 B3s B3 g0 g1 lt3 lt4 b3 x3 X2 Y2 W2 V2 s2 B2s B2 f0 f1 lt2 b2 x2 X1 V1 B1 b1 e0 e1 HC HB HL1 HQ1 HN1 HM1 n19 m19
  go_loopw [14] (fun i wr => ∃ k : Nat, k ≤ 3 ∧ i = .int .i64 k ∧ Below W.heap.size W wr) (fun i _ => 3 - (intOf i).toNat)
  case atStart => exact ⟨0, by omega, rfl, Below.refl _ _⟩
  case round =>
    obtain ⟨k, hk, rfl, hbw⟩ := hrel
    have hv := V5.below hbw
    have hb := X5.below hbw
    by_cases hlt : k < 3
    · have hct := Lv.below T5 hbw
      have hct' := hct
      obtain ⟨V, hV⟩ : ∃ V, ([t, 1, 2][k]'hlt) = V := ⟨_, rfl⟩
      have HVV : Hid (([t, 1, 2][k]'hlt) = V) := hV
      obtain ⟨VV, hV1⟩ : ∃ x, takeV L V = x := ⟨_, rfl⟩
      obtain ⟨GG, hG⟩ : ∃ x, takeGot L V = x := ⟨_, rfl⟩
      obtain ⟨BB, hBB⟩ : ∃ x, takeOk L Q V = x := ⟨_, rfl⟩
      obtain ⟨L1, hL1⟩ : ∃ x, takeL L V = x := ⟨_, rfl⟩
      obtain ⟨Q1, hQ1⟩ : ∃ x, takeQ L Q V = x := ⟨_, rfl⟩
      obtain ⟨n1, hn0⟩ : ∃ x, L1.length = x := ⟨_, rfl⟩
      obtain ⟨m1, hm0⟩ : ∃ x, Q1.length = x := ⟨_, rfl⟩
      have hn1 : n1 ≤ 1000 := by
        rw [← hn0, ← hL1]
        have := X5.ln
        unfold takeL
        split
        · simp; omega
        · omega
      have hm1 : m1 ≤ 1000 := by
        rw [← hm0, ← hQ1]
        have := X5.lm
        unfold takeQ
        split
        · simp; omega
        · omega
      have HV : Hid (takeV L V = VV) := hV1
      have HG : Hid (takeGot L V = GG) := hG
      have HB : Hid (takeOk L Q V = BB) := hBB
      have HL1 : Hid (takeL L V = L1) := hL1
      have HQ1 : Hid (takeQ L Q V = Q1) := hQ1
      have HN1 : Hid (L1.length = n1) := hn0
      have HM1 : Hid (Q1.length = m1) := hm0
      clear hV hV1 hG hBB hL1 hQ1 hn0 hm0 hct'
      have dk : decide ((k : Int) < 3) = true := by simp; omega
      have dk2 : (k : Int) < 3 := by omega
      go_upto_region 13 with fail
      go_cut [15, 16, 17, 18] from 67 to 111 (fun a b c9 e9 wx => ∃ (g : Nat) (p1 : Option Addr) (c1 : Nat) (q1 : Option Addr) (d1 : Nat), a = .pointer (some ⟨g, 0, none⟩) ∧ b = .int .i64 VV ∧ c9 = .bool GG ∧ e9 = .bool BB ∧ BV wx g p1 c1 n1 q1 d1 m1 ∧ Bx wx p1 c1 n1 L1 q1 d1 m1 Q1 ∧ Below wr.heap.size wr wx)
      case first =>
        refine wp_region_held_drew (S := fun w' => Below wr.heap.size wr w') (by kernel_rfl) (Below.refl _ _).drew (fun hHeld => ?_)
        refine wpAnyH_take (i := 0) (oi := _) (v := ?_) rfl (by kernel_rfl) (by kernel_rfl) (by kernel_rfl) (fun _ _ _ h => h) (Or.inl ⟨by rfl, ?_⟩) hHeld ?_
        rotate_left
        · intro w' hSw
          have s0 := (hv.below hSw).c0
          have s1 := (hv.below hSw).c1
          (go_simp <;> with_reducible rfl)
        try simp only [Act.put, List.getElem_toArray, List.getElem_cons_zero, List.setIfInBounds_toArray, List.set_cons_zero, List.set_cons_succ]
        refine wpAnyH_take (i := 1) (oi := _) (v := ?_) rfl (by kernel_rfl) (by kernel_rfl) (by kernel_rfl) (fun _ _ _ h => h) (Or.inl ⟨by rfl, ?_⟩) hHeld ?_
        rotate_left
        · intro w' hSw
          (go_simp <;> with_reducible rfl)
        try simp only [Act.put, List.getElem_toArray, List.getElem_cons_succ, List.getElem_cons_zero, List.setIfInBounds_toArray, List.set_cons_zero, List.set_cons_succ]
        refine wpAnyH_take (i := 2) (oi := _) (v := ?_) rfl (by kernel_rfl) (by kernel_rfl) (by kernel_rfl) (fun _ _ _ h => h) (Or.inl ⟨by rfl, ?_⟩) hHeld ?_
        rotate_left
        · intro w' hSw
          (go_simp <;> with_reducible rfl)
        try simp only [Act.put, List.getElem_toArray, List.getElem_cons_succ, List.getElem_cons_zero, List.setIfInBounds_toArray, List.set_cons_zero, List.set_cons_succ]
        refine wpAnyH_take (i := 3) (oi := _) (v := ?_) rfl (by kernel_rfl) (by kernel_rfl) (by kernel_rfl) (fun _ _ _ h => h) (Or.inl ⟨by rfl, ?_⟩) hHeld ?_
        rotate_left
        · intro w' hSw
          (go_simp <;> with_reducible rfl)
        try simp only [Act.put, List.getElem_toArray, List.getElem_cons_succ, List.getElem_cons_zero, List.setIfInBounds_toArray, List.set_cons_zero, List.set_cons_succ]
        refine wpAnyH_take (i := 4) (oi := _) (v := ?_) rfl (by kernel_rfl) (by kernel_rfl) (by kernel_rfl) (fun _ _ _ h => h) (Or.inl ⟨by rfl, ?_⟩) hHeld ?_
        rotate_left
        · intro w' hSw
          have s0 := (hSw.cell (p := ⟨gt, k, none⟩) hct.lt).trans (three_at hct k hlt)
          rw [HVV.out] at s0
          (go_simp <;> with_reducible rfl)
        try simp only [Act.put, List.getElem_toArray, List.getElem_cons_succ, List.getElem_cons_zero, List.setIfInBounds_toArray, List.set_cons_zero, List.set_cons_succ]
        refine wpAnyH_ready (rs := [5, 11]) (by kernel_rfl) (by simp) ?_
        refine AllReadyH.cons (o := _) rfl (fun K hK => ?_) (AllReadyH.cons (o := _) rfl (fun K hK => ?_) (AllReadyH.nil))
        · go_simp
          go_at_call 11
          (with_reducible (refine (take_c (hb.below hHeld) V VV HV.out GG HG.out BB HB.out L1 Q1 HL1.out HQ1.out n1 m1 HN1.out HM1.out hn1 hm1).mono ?_))
          rintro e w1 ⟨p0, c0, q0, d0, rfl, x0, b1⟩
          refine hK.out _ _ (bel_call hHeld (Nat.le_refl _) b1) (fun hHeld => ?_)
          clear hK K
          try simp only [Act.put, List.getElem_toArray, List.getElem_cons_succ, List.getElem_cons_zero, List.setIfInBounds_toArray, List.set_cons_zero, List.set_cons_succ]
          refine wpAnyH_take (i := 6) (oi := _) (v := ?_) rfl (by kernel_rfl) (by kernel_rfl) (by kernel_rfl) (fun _ _ _ h => h) (Or.inl ⟨by rfl, ?_⟩) hHeld ?_
          rotate_left
          · intro w' hSw
            (go_simp <;> with_reducible rfl)
          try simp only [Act.put, List.getElem_toArray, List.getElem_cons_succ, List.getElem_cons_zero, List.setIfInBounds_toArray, List.set_cons_zero, List.set_cons_succ]
          refine wpAnyH_take (i := 7) (oi := _) (v := ?_) rfl (by kernel_rfl) (by kernel_rfl) (by kernel_rfl) (fun _ _ _ h => h) (Or.inl ⟨by rfl, ?_⟩) hHeld ?_
          rotate_left
          · intro w' hSw
            (go_simp <;> with_reducible rfl)
          try simp only [Act.put, List.getElem_toArray, List.getElem_cons_succ, List.getElem_cons_zero, List.setIfInBounds_toArray, List.set_cons_zero, List.set_cons_succ]
          refine wpAnyH_take (i := 8) (oi := _) (v := ?_) rfl (by kernel_rfl) (by kernel_rfl) (by kernel_rfl) (fun _ _ _ h => h) (Or.inl ⟨by rfl, ?_⟩) hHeld ?_
          rotate_left
          · intro w' hSw
            (go_simp <;> with_reducible rfl)
          try simp only [Act.put, List.getElem_toArray, List.getElem_cons_succ, List.getElem_cons_zero, List.setIfInBounds_toArray, List.set_cons_zero, List.set_cons_succ]
          refine wpAnyH_take (i := 9) (oi := _) (v := ?_) rfl (by kernel_rfl) (by kernel_rfl) (by kernel_rfl) (fun _ _ _ h => h) (Or.inl ⟨by rfl, ?_⟩) hHeld ?_
          rotate_left
          · intro w' hSw
            (go_simp <;> with_reducible rfl)
          try simp only [Act.put, List.getElem_toArray, List.getElem_cons_succ, List.getElem_cons_zero, List.setIfInBounds_toArray, List.set_cons_zero, List.set_cons_succ]
          refine wpAnyH_take (i := 10) (oi := _) (v := ?_) rfl (by kernel_rfl) (by kernel_rfl) (by kernel_rfl) (fun _ _ _ h => h) (Or.inl ⟨by rfl, ?_⟩) hHeld ?_
          rotate_left
          · intro w' hSw
            (go_simp <;> with_reducible rfl)
          try simp only [Act.put, List.getElem_toArray, List.getElem_cons_succ, List.getElem_cons_zero, List.setIfInBounds_toArray, List.set_cons_zero, List.set_cons_succ]
          refine wpAnyH_ready (rs := [11]) (by kernel_rfl) (by simp) ?_
          refine AllReadyH.cons (o := _) rfl (fun K hK => ?_) (AllReadyH.nil)
          go_simp
          have b7 : Below w1.heap.size w1 (w1.alloc (.cells #[.slice none 0 0, .slice none 0 0] 25)) := bel_self _ _
          have hz : Lv (w1.alloc (.cells #[.slice none 0 0, .slice none 0 0] 25)) w1.heap.size #[.slice none 0 0, .slice none 0 0] 25 := Lv.new w1 _ _
          obtain ⟨g7, hg7⟩ : ∃ g, g = w1.heap.size := ⟨_, rfl⟩
          have hg7W : wr.heap.size ≤ g7 := by have := hHeld.size; rw [hg7]; exact this
          have x0 := x0.below b7
          refine hK.out _ _ (hHeld.alloc hHeld.size _) (fun hHeld => ?_)
          clear hK K
          rw [← hg7] at hz
          simp only [← hg7]
          generalize (w1.alloc (.cells #[.slice none 0 0, .slice none 0 0] 25)) = w7 at *
          clear hg7 b7
          try simp only [Act.put, List.getElem_toArray, List.getElem_cons_succ, List.getElem_cons_zero, List.setIfInBounds_toArray, List.set_cons_zero, List.set_cons_succ]
          refine wpAnyH_ready (rs := [12]) (by kernel_rfl) (by simp) ?_
          refine AllReadyH.cons (o := _) rfl (fun K hK => ?_) (AllReadyH.nil)
          have z0 := hz.c 0 rfl
          have z1 := hz.c 1 rfl
          have y0 := hz.fz 0
          have y1 := hz.fz 1
          go_simp
          have x0 := x0.stored hz (.slice p0 n1 c0) (.slice q0 m1 d0)
          have hv0 : BV ((w7.setCell ⟨g7, 0, none⟩ (.slice p0 n1 c0)).setCell ⟨g7, 1, none⟩ (.slice q0 m1 d0)) g7 p0 c0 n1 q0 d0 m1 := (hz.set 0 (.slice p0 n1 c0)).set 1 (.slice q0 m1 d0)
          have hS9 : Below wr.heap.size wr ((w7.setCell ⟨g7, 0, none⟩ (.slice p0 n1 c0)).setCell ⟨g7, 1, none⟩ (.slice q0 m1 d0)) := by refine Below.setCell (Below.setCell hHeld ?_ _) ?_ _ <;> exact hg7W
          refine hK.out _ _ hS9 (fun hHeld => ?_)
          clear hK K
          try simp only [Act.put, List.getElem_toArray, List.getElem_cons_succ, List.getElem_cons_zero, List.setIfInBounds_toArray, List.set_cons_zero, List.set_cons_succ]
          refine wpAnyH_take (i := 13) (oi := _) (v := ?_) rfl (by kernel_rfl) (by kernel_rfl) (by kernel_rfl) (fun _ _ _ h => h) (Or.inl ⟨by rfl, ?_⟩) hHeld ?_
          rotate_left
          · intro w' hSw
            (go_simp <;> with_reducible rfl)
          try simp only [Act.put, List.getElem_toArray, List.getElem_cons_succ, List.getElem_cons_zero, List.setIfInBounds_toArray, List.set_cons_zero, List.set_cons_succ]
          refine wpAnyH_take (i := 14) (oi := _) (v := ?_) rfl (by kernel_rfl) (by kernel_rfl) (by kernel_rfl) (fun _ _ _ h => h) (Or.inl ⟨by rfl, ?_⟩) hHeld ?_
          rotate_left
          · intro w' hSw
            (go_simp <;> with_reducible rfl)
          try simp only [Act.put, List.getElem_toArray, List.getElem_cons_succ, List.getElem_cons_zero, List.setIfInBounds_toArray, List.set_cons_zero, List.set_cons_succ]
          refine wpAnyH_take (i := 15) (oi := _) (v := ?_) rfl (by kernel_rfl) (by kernel_rfl) (by kernel_rfl) (fun _ _ _ h => h) (Or.inl ⟨by rfl, ?_⟩) hHeld ?_
          rotate_left
          · intro w' hSw
            (go_simp <;> with_reducible rfl)
          try simp only [Act.put, List.getElem_toArray, List.getElem_cons_succ, List.getElem_cons_zero, List.setIfInBounds_toArray, List.set_cons_zero, List.set_cons_succ]
          refine wpAnyH_done (by kernel_rfl) ?_ _
          go_wp2_with fail
          go_meet
          case rel => exact ⟨g7, p0, c0, q0, d0, rfl, rfl, rfl, rfl, hv0, x0, hHeld⟩
        · go_simp
          have b7 : Below wr.heap.size wr (wr.alloc (.cells #[.slice none 0 0, .slice none 0 0] 25)) := bel_self _ _
          have hz : Lv ((wr.alloc (.cells #[.slice none 0 0, .slice none 0 0] 25)).drew) wr.heap.size #[.slice none 0 0, .slice none 0 0] 25 := Lv.new wr _ _
          have hg7W : wr.heap.size ≤ wr.heap.size := Nat.le_refl _
          refine hK.out _ _ (hHeld.alloc hHeld.size _) (fun hHeld => ?_)
          clear hK K
          generalize ((wr.alloc (.cells #[.slice none 0 0, .slice none 0 0] 25)).drew) = w7 at *
          clear b7
          try simp only [Act.put, List.getElem_toArray, List.getElem_cons_succ, List.getElem_cons_zero, List.setIfInBounds_toArray, List.set_cons_zero, List.set_cons_succ]
          refine wpAnyH_ready (rs := [5]) (by kernel_rfl) (by simp) ?_
          refine AllReadyH.cons (o := _) rfl (fun K hK => ?_) (AllReadyH.nil)
          go_simp
          go_at_call 11
          (with_reducible (refine (take_c (hb.below hHeld) V VV HV.out GG HG.out BB HB.out L1 Q1 HL1.out HQ1.out n1 m1 HN1.out HM1.out hn1 hm1).mono ?_))
          rintro e w1 ⟨p0, c0, q0, d0, rfl, x0, b1⟩
          have hz := Lv.below hz b1
          refine hK.out _ _ (bel_call hHeld (Nat.le_refl _) b1) (fun hHeld => ?_)
          clear hK K
          try simp only [Act.put, List.getElem_toArray, List.getElem_cons_succ, List.getElem_cons_zero, List.setIfInBounds_toArray, List.set_cons_zero, List.set_cons_succ]
          refine wpAnyH_take (i := 6) (oi := _) (v := ?_) rfl (by kernel_rfl) (by kernel_rfl) (by kernel_rfl) (fun _ _ _ h => h) (Or.inl ⟨by rfl, ?_⟩) hHeld ?_
          rotate_left
          · intro w' hSw
            (go_simp <;> with_reducible rfl)
          try simp only [Act.put, List.getElem_toArray, List.getElem_cons_succ, List.getElem_cons_zero, List.setIfInBounds_toArray, List.set_cons_zero, List.set_cons_succ]
          refine wpAnyH_take (i := 7) (oi := _) (v := ?_) rfl (by kernel_rfl) (by kernel_rfl) (by kernel_rfl) (fun _ _ _ h => h) (Or.inl ⟨by rfl, ?_⟩) hHeld ?_
          rotate_left
          · intro w' hSw
            (go_simp <;> with_reducible rfl)
          try simp only [Act.put, List.getElem_toArray, List.getElem_cons_succ, List.getElem_cons_zero, List.setIfInBounds_toArray, List.set_cons_zero, List.set_cons_succ]
          refine wpAnyH_take (i := 8) (oi := _) (v := ?_) rfl (by kernel_rfl) (by kernel_rfl) (by kernel_rfl) (fun _ _ _ h => h) (Or.inl ⟨by rfl, ?_⟩) hHeld ?_
          rotate_left
          · intro w' hSw
            (go_simp <;> with_reducible rfl)
          try simp only [Act.put, List.getElem_toArray, List.getElem_cons_succ, List.getElem_cons_zero, List.setIfInBounds_toArray, List.set_cons_zero, List.set_cons_succ]
          refine wpAnyH_take (i := 9) (oi := _) (v := ?_) rfl (by kernel_rfl) (by kernel_rfl) (by kernel_rfl) (fun _ _ _ h => h) (Or.inl ⟨by rfl, ?_⟩) hHeld ?_
          rotate_left
          · intro w' hSw
            (go_simp <;> with_reducible rfl)
          try simp only [Act.put, List.getElem_toArray, List.getElem_cons_succ, List.getElem_cons_zero, List.setIfInBounds_toArray, List.set_cons_zero, List.set_cons_succ]
          refine wpAnyH_take (i := 10) (oi := _) (v := ?_) rfl (by kernel_rfl) (by kernel_rfl) (by kernel_rfl) (fun _ _ _ h => h) (Or.inl ⟨by rfl, ?_⟩) hHeld ?_
          rotate_left
          · intro w' hSw
            (go_simp <;> with_reducible rfl)
          try simp only [Act.put, List.getElem_toArray, List.getElem_cons_succ, List.getElem_cons_zero, List.setIfInBounds_toArray, List.set_cons_zero, List.set_cons_succ]
          refine wpAnyH_ready (rs := [12]) (by kernel_rfl) (by simp) ?_
          refine AllReadyH.cons (o := _) rfl (fun K hK => ?_) (AllReadyH.nil)
          have z0 := hz.c 0 rfl
          have z1 := hz.c 1 rfl
          have y0 := hz.fz 0
          have y1 := hz.fz 1
          go_simp
          have x0 := x0.stored hz (.slice p0 n1 c0) (.slice q0 m1 d0)
          have hv0 : BV ((w1.setCell ⟨wr.heap.size, 0, none⟩ (.slice p0 n1 c0)).setCell ⟨wr.heap.size, 1, none⟩ (.slice q0 m1 d0)) wr.heap.size p0 c0 n1 q0 d0 m1 := (hz.set 0 (.slice p0 n1 c0)).set 1 (.slice q0 m1 d0)
          have hS9 : Below wr.heap.size wr ((w1.setCell ⟨wr.heap.size, 0, none⟩ (.slice p0 n1 c0)).setCell ⟨wr.heap.size, 1, none⟩ (.slice q0 m1 d0)) := by refine Below.setCell (Below.setCell hHeld ?_ _) ?_ _ <;> exact hg7W
          refine hK.out _ _ hS9 (fun hHeld => ?_)
          clear hK K
          try simp only [Act.put, List.getElem_toArray, List.getElem_cons_succ, List.getElem_cons_zero, List.setIfInBounds_toArray, List.set_cons_zero, List.set_cons_succ]
          refine wpAnyH_take (i := 13) (oi := _) (v := ?_) rfl (by kernel_rfl) (by kernel_rfl) (by kernel_rfl) (fun _ _ _ h => h) (Or.inl ⟨by rfl, ?_⟩) hHeld ?_
          rotate_left
          · intro w' hSw
            (go_simp <;> with_reducible rfl)
          try simp only [Act.put, List.getElem_toArray, List.getElem_cons_succ, List.getElem_cons_zero, List.setIfInBounds_toArray, List.set_cons_zero, List.set_cons_succ]
          refine wpAnyH_take (i := 14) (oi := _) (v := ?_) rfl (by kernel_rfl) (by kernel_rfl) (by kernel_rfl) (fun _ _ _ h => h) (Or.inl ⟨by rfl, ?_⟩) hHeld ?_
          rotate_left
          · intro w' hSw
            (go_simp <;> with_reducible rfl)
          try simp only [Act.put, List.getElem_toArray, List.getElem_cons_succ, List.getElem_cons_zero, List.setIfInBounds_toArray, List.set_cons_zero, List.set_cons_succ]
          refine wpAnyH_take (i := 15) (oi := _) (v := ?_) rfl (by kernel_rfl) (by kernel_rfl) (by kernel_rfl) (fun _ _ _ h => h) (Or.inl ⟨by rfl, ?_⟩) hHeld ?_
          rotate_left
          · intro w' hSw
            (go_simp <;> with_reducible rfl)
          try simp only [Act.put, List.getElem_toArray, List.getElem_cons_succ, List.getElem_cons_zero, List.setIfInBounds_toArray, List.set_cons_zero, List.set_cons_succ]
          refine wpAnyH_done (by kernel_rfl) ?_ _
          go_wp2_with fail
          go_meet
          case rel => exact ⟨wr.heap.size, p0, c0, q0, d0, rfl, rfl, rfl, rfl, hv0, x0, hHeld⟩
      case rest =>
        obtain ⟨g0, p0, c0, q0, d0, rfl, rfl, rfl, rfl, hv0, x0, b0⟩ := hcut
        obtain ⟨wx0, hw0⟩ : ∃ x : World, x = wc := ⟨_, rfl⟩
        subst hw0
        have hb1 := hb.below b0
        have hvb1 := hv.below b0
        have hct1 := Lv.below hct b0
        go_upto_region 14 with fail
        go_cut [19, 20, 21, 22] from 67 to 111 (fun a b c9 e9 wx => ∃ (g : Nat) (p1 : Option Addr) (c1 : Nat) (q1 : Option Addr) (d1 : Nat), a = .pointer (some ⟨g, 0, none⟩) ∧ b = .int .i64 VV ∧ c9 = .bool GG ∧ e9 = .bool BB ∧ BV wx g p1 c1 n1 q1 d1 m1 ∧ Bx wx p1 c1 n1 L1 q1 d1 m1 Q1 ∧ Below wx0.heap.size wx0 wx)
        case first =>
          refine wp_region_held_drew (S := fun w' => Below wx0.heap.size wx0 w') (by kernel_rfl) (Below.refl _ _).drew (fun hHeld => ?_)
          refine wpAnyH_take (i := 0) (oi := _) (v := ?_) rfl (by kernel_rfl) (by kernel_rfl) (by kernel_rfl) (fun _ _ _ h => h) (Or.inl ⟨by rfl, ?_⟩) hHeld ?_
          rotate_left
          · intro w' hSw
            have s0 := (hvb1.below hSw).c0
            have s1 := (hvb1.below hSw).c1
            (go_simp <;> with_reducible rfl)
          try simp only [Act.put, List.getElem_toArray, List.getElem_cons_zero, List.setIfInBounds_toArray, List.set_cons_zero, List.set_cons_succ]
          refine wpAnyH_take (i := 1) (oi := _) (v := ?_) rfl (by kernel_rfl) (by kernel_rfl) (by kernel_rfl) (fun _ _ _ h => h) (Or.inl ⟨by rfl, ?_⟩) hHeld ?_
          rotate_left
          · intro w' hSw
            (go_simp <;> with_reducible rfl)
          try simp only [Act.put, List.getElem_toArray, List.getElem_cons_succ, List.getElem_cons_zero, List.setIfInBounds_toArray, List.set_cons_zero, List.set_cons_succ]
          refine wpAnyH_take (i := 2) (oi := _) (v := ?_) rfl (by kernel_rfl) (by kernel_rfl) (by kernel_rfl) (fun _ _ _ h => h) (Or.inl ⟨by rfl, ?_⟩) hHeld ?_
          rotate_left
          · intro w' hSw
            (go_simp <;> with_reducible rfl)
          try simp only [Act.put, List.getElem_toArray, List.getElem_cons_succ, List.getElem_cons_zero, List.setIfInBounds_toArray, List.set_cons_zero, List.set_cons_succ]
          refine wpAnyH_take (i := 3) (oi := _) (v := ?_) rfl (by kernel_rfl) (by kernel_rfl) (by kernel_rfl) (fun _ _ _ h => h) (Or.inl ⟨by rfl, ?_⟩) hHeld ?_
          rotate_left
          · intro w' hSw
            (go_simp <;> with_reducible rfl)
          try simp only [Act.put, List.getElem_toArray, List.getElem_cons_succ, List.getElem_cons_zero, List.setIfInBounds_toArray, List.set_cons_zero, List.set_cons_succ]
          refine wpAnyH_take (i := 4) (oi := _) (v := ?_) rfl (by kernel_rfl) (by kernel_rfl) (by kernel_rfl) (fun _ _ _ h => h) (Or.inl ⟨by rfl, ?_⟩) hHeld ?_
          rotate_left
          · intro w' hSw
            have s0 := (hSw.cell (p := ⟨gt, k, none⟩) hct1.lt).trans (three_at hct1 k hlt)
            rw [HVV.out] at s0
            (go_simp <;> with_reducible rfl)
          try simp only [Act.put, List.getElem_toArray, List.getElem_cons_succ, List.getElem_cons_zero, List.setIfInBounds_toArray, List.set_cons_zero, List.set_cons_succ]
          refine wpAnyH_ready (rs := [5, 11]) (by kernel_rfl) (by simp) ?_
          refine AllReadyH.cons (o := _) rfl (fun K hK => ?_) (AllReadyH.cons (o := _) rfl (fun K hK => ?_) (AllReadyH.nil))
          · go_simp
            go_at_call 12
            (with_reducible (refine (rtake_c (hb1.below hHeld) V VV HV.out GG HG.out BB HB.out L1 Q1 HL1.out HQ1.out n1 m1 HN1.out HM1.out hn1 hm1).mono ?_))
            rintro e w1 ⟨p1, c1, q1, d1, rfl, x1, b1⟩
            refine hK.out _ _ (bel_call hHeld (Nat.le_refl _) b1) (fun hHeld => ?_)
            clear hK K
            try simp only [Act.put, List.getElem_toArray, List.getElem_cons_succ, List.getElem_cons_zero, List.setIfInBounds_toArray, List.set_cons_zero, List.set_cons_succ]
            refine wpAnyH_take (i := 6) (oi := _) (v := ?_) rfl (by kernel_rfl) (by kernel_rfl) (by kernel_rfl) (fun _ _ _ h => h) (Or.inl ⟨by rfl, ?_⟩) hHeld ?_
            rotate_left
            · intro w' hSw
              (go_simp <;> with_reducible rfl)
            try simp only [Act.put, List.getElem_toArray, List.getElem_cons_succ, List.getElem_cons_zero, List.setIfInBounds_toArray, List.set_cons_zero, List.set_cons_succ]
            refine wpAnyH_take (i := 7) (oi := _) (v := ?_) rfl (by kernel_rfl) (by kernel_rfl) (by kernel_rfl) (fun _ _ _ h => h) (Or.inl ⟨by rfl, ?_⟩) hHeld ?_
            rotate_left
            · intro w' hSw
              (go_simp <;> with_reducible rfl)
            try simp only [Act.put, List.getElem_toArray, List.getElem_cons_succ, List.getElem_cons_zero, List.setIfInBounds_toArray, List.set_cons_zero, List.set_cons_succ]
            refine wpAnyH_take (i := 8) (oi := _) (v := ?_) rfl (by kernel_rfl) (by kernel_rfl) (by kernel_rfl) (fun _ _ _ h => h) (Or.inl ⟨by rfl, ?_⟩) hHeld ?_
            rotate_left
            · intro w' hSw
              (go_simp <;> with_reducible rfl)
            try simp only [Act.put, List.getElem_toArray, List.getElem_cons_succ, List.getElem_cons_zero, List.setIfInBounds_toArray, List.set_cons_zero, List.set_cons_succ]
            refine wpAnyH_take (i := 9) (oi := _) (v := ?_) rfl (by kernel_rfl) (by kernel_rfl) (by kernel_rfl) (fun _ _ _ h => h) (Or.inl ⟨by rfl, ?_⟩) hHeld ?_
            rotate_left
            · intro w' hSw
              (go_simp <;> with_reducible rfl)
            try simp only [Act.put, List.getElem_toArray, List.getElem_cons_succ, List.getElem_cons_zero, List.setIfInBounds_toArray, List.set_cons_zero, List.set_cons_succ]
            refine wpAnyH_take (i := 10) (oi := _) (v := ?_) rfl (by kernel_rfl) (by kernel_rfl) (by kernel_rfl) (fun _ _ _ h => h) (Or.inl ⟨by rfl, ?_⟩) hHeld ?_
            rotate_left
            · intro w' hSw
              (go_simp <;> with_reducible rfl)
            try simp only [Act.put, List.getElem_toArray, List.getElem_cons_succ, List.getElem_cons_zero, List.setIfInBounds_toArray, List.set_cons_zero, List.set_cons_succ]
            refine wpAnyH_ready (rs := [11]) (by kernel_rfl) (by simp) ?_
            refine AllReadyH.cons (o := _) rfl (fun K hK => ?_) (AllReadyH.nil)
            go_simp
            have b7 : Below w1.heap.size w1 (w1.alloc (.cells #[.slice none 0 0, .slice none 0 0] 25)) := bel_self _ _
            have hz : Lv (w1.alloc (.cells #[.slice none 0 0, .slice none 0 0] 25)) w1.heap.size #[.slice none 0 0, .slice none 0 0] 25 := Lv.new w1 _ _
            obtain ⟨g7, hg7⟩ : ∃ g, g = w1.heap.size := ⟨_, rfl⟩
            have hg7W : wx0.heap.size ≤ g7 := by have := hHeld.size; rw [hg7]; exact this
            have x1 := x1.below b7
            refine hK.out _ _ (hHeld.alloc hHeld.size _) (fun hHeld => ?_)
            clear hK K
            rw [← hg7] at hz
            simp only [← hg7]
            generalize (w1.alloc (.cells #[.slice none 0 0, .slice none 0 0] 25)) = w7 at *
            clear hg7 b7
            try simp only [Act.put, List.getElem_toArray, List.getElem_cons_succ, List.getElem_cons_zero, List.setIfInBounds_toArray, List.set_cons_zero, List.set_cons_succ]
            refine wpAnyH_ready (rs := [12]) (by kernel_rfl) (by simp) ?_
            refine AllReadyH.cons (o := _) rfl (fun K hK => ?_) (AllReadyH.nil)
            have z0 := hz.c 0 rfl
            have z1 := hz.c 1 rfl
            have y0 := hz.fz 0
            have y1 := hz.fz 1
            go_simp
            have x1 := x1.stored hz (.slice p1 n1 c1) (.slice q1 m1 d1)
            have hv1 : BV ((w7.setCell ⟨g7, 0, none⟩ (.slice p1 n1 c1)).setCell ⟨g7, 1, none⟩ (.slice q1 m1 d1)) g7 p1 c1 n1 q1 d1 m1 := (hz.set 0 (.slice p1 n1 c1)).set 1 (.slice q1 m1 d1)
            have hS9 : Below wx0.heap.size wx0 ((w7.setCell ⟨g7, 0, none⟩ (.slice p1 n1 c1)).setCell ⟨g7, 1, none⟩ (.slice q1 m1 d1)) := by refine Below.setCell (Below.setCell hHeld ?_ _) ?_ _ <;> exact hg7W
            refine hK.out _ _ hS9 (fun hHeld => ?_)
            clear hK K
            try simp only [Act.put, List.getElem_toArray, List.getElem_cons_succ, List.getElem_cons_zero, List.setIfInBounds_toArray, List.set_cons_zero, List.set_cons_succ]
            refine wpAnyH_take (i := 13) (oi := _) (v := ?_) rfl (by kernel_rfl) (by kernel_rfl) (by kernel_rfl) (fun _ _ _ h => h) (Or.inl ⟨by rfl, ?_⟩) hHeld ?_
            rotate_left
            · intro w' hSw
              (go_simp <;> with_reducible rfl)
            try simp only [Act.put, List.getElem_toArray, List.getElem_cons_succ, List.getElem_cons_zero, List.setIfInBounds_toArray, List.set_cons_zero, List.set_cons_succ]
            refine wpAnyH_take (i := 14) (oi := _) (v := ?_) rfl (by kernel_rfl) (by kernel_rfl) (by kernel_rfl) (fun _ _ _ h => h) (Or.inl ⟨by rfl, ?_⟩) hHeld ?_
            rotate_left
            · intro w' hSw
              (go_simp <;> with_reducible rfl)
            try simp only [Act.put, List.getElem_toArray, List.getElem_cons_succ, List.getElem_cons_zero, List.setIfInBounds_toArray, List.set_cons_zero, List.set_cons_succ]
            refine wpAnyH_take (i := 15) (oi := _) (v := ?_) rfl (by kernel_rfl) (by kernel_rfl) (by kernel_rfl) (fun _ _ _ h => h) (Or.inl ⟨by rfl, ?_⟩) hHeld ?_
            rotate_left
            · intro w' hSw
              (go_simp <;> with_reducible rfl)
            try simp only [Act.put, List.getElem_toArray, List.getElem_cons_succ, List.getElem_cons_zero, List.setIfInBounds_toArray, List.set_cons_zero, List.set_cons_succ]
            refine wpAnyH_done (by kernel_rfl) ?_ _
            go_wp2_with fail
            go_meet
            case rel => exact ⟨g7, p1, c1, q1, d1, rfl, rfl, rfl, rfl, hv1, x1, hHeld⟩
          · go_simp
            have b7 : Below wx0.heap.size wx0 (wx0.alloc (.cells #[.slice none 0 0, .slice none 0 0] 25)) := bel_self _ _
            have hz : Lv ((wx0.alloc (.cells #[.slice none 0 0, .slice none 0 0] 25)).drew) wx0.heap.size #[.slice none 0 0, .slice none 0 0] 25 := Lv.new wx0 _ _
            have hg7W : wx0.heap.size ≤ wx0.heap.size := Nat.le_refl _
            refine hK.out _ _ (hHeld.alloc hHeld.size _) (fun hHeld => ?_)
            clear hK K
            generalize ((wx0.alloc (.cells #[.slice none 0 0, .slice none 0 0] 25)).drew) = w7 at *
            clear b7
            try simp only [Act.put, List.getElem_toArray, List.getElem_cons_succ, List.getElem_cons_zero, List.setIfInBounds_toArray, List.set_cons_zero, List.set_cons_succ]
            refine wpAnyH_ready (rs := [5]) (by kernel_rfl) (by simp) ?_
            refine AllReadyH.cons (o := _) rfl (fun K hK => ?_) (AllReadyH.nil)
            go_simp
            go_at_call 12
            (with_reducible (refine (rtake_c (hb1.below hHeld) V VV HV.out GG HG.out BB HB.out L1 Q1 HL1.out HQ1.out n1 m1 HN1.out HM1.out hn1 hm1).mono ?_))
            rintro e w1 ⟨p1, c1, q1, d1, rfl, x1, b1⟩
            have hz := Lv.below hz b1
            refine hK.out _ _ (bel_call hHeld (Nat.le_refl _) b1) (fun hHeld => ?_)
            clear hK K
            try simp only [Act.put, List.getElem_toArray, List.getElem_cons_succ, List.getElem_cons_zero, List.setIfInBounds_toArray, List.set_cons_zero, List.set_cons_succ]
            refine wpAnyH_take (i := 6) (oi := _) (v := ?_) rfl (by kernel_rfl) (by kernel_rfl) (by kernel_rfl) (fun _ _ _ h => h) (Or.inl ⟨by rfl, ?_⟩) hHeld ?_
            rotate_left
            · intro w' hSw
              (go_simp <;> with_reducible rfl)
            try simp only [Act.put, List.getElem_toArray, List.getElem_cons_succ, List.getElem_cons_zero, List.setIfInBounds_toArray, List.set_cons_zero, List.set_cons_succ]
            refine wpAnyH_take (i := 7) (oi := _) (v := ?_) rfl (by kernel_rfl) (by kernel_rfl) (by kernel_rfl) (fun _ _ _ h => h) (Or.inl ⟨by rfl, ?_⟩) hHeld ?_
            rotate_left
            · intro w' hSw
              (go_simp <;> with_reducible rfl)
            try simp only [Act.put, List.getElem_toArray, List.getElem_cons_succ, List.getElem_cons_zero, List.setIfInBounds_toArray, List.set_cons_zero, List.set_cons_succ]
            refine wpAnyH_take (i := 8) (oi := _) (v := ?_) rfl (by kernel_rfl) (by kernel_rfl) (by kernel_rfl) (fun _ _ _ h => h) (Or.inl ⟨by rfl, ?_⟩) hHeld ?_
            rotate_left
            · intro w' hSw
              (go_simp <;> with_reducible rfl)
            try simp only [Act.put, List.getElem_toArray, List.getElem_cons_succ, List.getElem_cons_zero, List.setIfInBounds_toArray, List.set_cons_zero, List.set_cons_succ]
            refine wpAnyH_take (i := 9) (oi := _) (v := ?_) rfl (by kernel_rfl) (by kernel_rfl) (by kernel_rfl) (fun _ _ _ h => h) (Or.inl ⟨by rfl, ?_⟩) hHeld ?_
            rotate_left
            · intro w' hSw
              (go_simp <;> with_reducible rfl)
            try simp only [Act.put, List.getElem_toArray, List.getElem_cons_succ, List.getElem_cons_zero, List.setIfInBounds_toArray, List.set_cons_zero, List.set_cons_succ]
            refine wpAnyH_take (i := 10) (oi := _) (v := ?_) rfl (by kernel_rfl) (by kernel_rfl) (by kernel_rfl) (fun _ _ _ h => h) (Or.inl ⟨by rfl, ?_⟩) hHeld ?_
            rotate_left
            · intro w' hSw
              (go_simp <;> with_reducible rfl)
            try simp only [Act.put, List.getElem_toArray, List.getElem_cons_succ, List.getElem_cons_zero, List.setIfInBounds_toArray, List.set_cons_zero, List.set_cons_succ]
            refine wpAnyH_ready (rs := [12]) (by kernel_rfl) (by simp) ?_
            refine AllReadyH.cons (o := _) rfl (fun K hK => ?_) (AllReadyH.nil)
            have z0 := hz.c 0 rfl
            have z1 := hz.c 1 rfl
            have y0 := hz.fz 0
            have y1 := hz.fz 1
            go_simp
            have x1 := x1.stored hz (.slice p1 n1 c1) (.slice q1 m1 d1)
            have hv1 : BV ((w1.setCell ⟨wx0.heap.size, 0, none⟩ (.slice p1 n1 c1)).setCell ⟨wx0.heap.size, 1, none⟩ (.slice q1 m1 d1)) wx0.heap.size p1 c1 n1 q1 d1 m1 := (hz.set 0 (.slice p1 n1 c1)).set 1 (.slice q1 m1 d1)
            have hS9 : Below wx0.heap.size wx0 ((w1.setCell ⟨wx0.heap.size, 0, none⟩ (.slice p1 n1 c1)).setCell ⟨wx0.heap.size, 1, none⟩ (.slice q1 m1 d1)) := by refine Below.setCell (Below.setCell hHeld ?_ _) ?_ _ <;> exact hg7W
            refine hK.out _ _ hS9 (fun hHeld => ?_)
            clear hK K
            try simp only [Act.put, List.getElem_toArray, List.getElem_cons_succ, List.getElem_cons_zero, List.setIfInBounds_toArray, List.set_cons_zero, List.set_cons_succ]
            refine wpAnyH_take (i := 13) (oi := _) (v := ?_) rfl (by kernel_rfl) (by kernel_rfl) (by kernel_rfl) (fun _ _ _ h => h) (Or.inl ⟨by rfl, ?_⟩) hHeld ?_
            rotate_left
            · intro w' hSw
              (go_simp <;> with_reducible rfl)
            try simp only [Act.put, List.getElem_toArray, List.getElem_cons_succ, List.getElem_cons_zero, List.setIfInBounds_toArray, List.set_cons_zero, List.set_cons_succ]
            refine wpAnyH_take (i := 14) (oi := _) (v := ?_) rfl (by kernel_rfl) (by kernel_rfl) (by kernel_rfl) (fun _ _ _ h => h) (Or.inl ⟨by rfl, ?_⟩) hHeld ?_
            rotate_left
            · intro w' hSw
              (go_simp <;> with_reducible rfl)
            try simp only [Act.put, List.getElem_toArray, List.getElem_cons_succ, List.getElem_cons_zero, List.setIfInBounds_toArray, List.set_cons_zero, List.set_cons_succ]
            refine wpAnyH_take (i := 15) (oi := _) (v := ?_) rfl (by kernel_rfl) (by kernel_rfl) (by kernel_rfl) (fun _ _ _ h => h) (Or.inl ⟨by rfl, ?_⟩) hHeld ?_
            rotate_left
            · intro w' hSw
              (go_simp <;> with_reducible rfl)
            try simp only [Act.put, List.getElem_toArray, List.getElem_cons_succ, List.getElem_cons_zero, List.setIfInBounds_toArray, List.set_cons_zero, List.set_cons_succ]
            refine wpAnyH_done (by kernel_rfl) ?_ _
            go_wp2_with fail
            go_meet
            case rel => exact ⟨wx0.heap.size, p1, c1, q1, d1, rfl, rfl, rfl, rfl, hv1, x1, hHeld⟩
        case rest =>
          obtain ⟨g1, p1, c1, q1, d1, rfl, rfl, rfl, rfl, hv1, x1, b1⟩ := hcut
          obtain ⟨wx1, hw1⟩ : ∃ x : World, x = wc := ⟨_, rfl⟩
          subst hw1
          have X0 := x0.below b1
          have V0 := hv0.below b1
          have j0 := V0.c0
          have j1 := V0.c1
          have j2 := hv1.c0
          have j3 := hv1.c1
          go_wp2_with (go_at_call 10; (with_reducible (refine (same_c X0 x1).mono ?_)); (rintro e w9 ⟨rfl, b9⟩))
          go_roundw
          case rel => exact ⟨k + 1, by omega, by go_num, bel_call (bel_call (bel_call hbw (Nat.le_refl _) b0) (Nat.le_refl _) b1) (Nat.le_refl _) b9⟩
          case measure => simp [intOf]; omega
    · obtain rfl : k = 3 := by omega
      have j0 := hv.c0
      have j1 := hv.c1
      go_wp2_with (first
        | (go_at_call 13; (with_reducible (refine (reset_c hb).mono ?_)); (rintro e w6 ⟨q6, d6, rfl, o6, b6⟩; have s6 := bel_self w6 (.cells #[.slice none 0 0, .slice none 0 0] 25); have V6 := (hv.below b6); have lt6 : w.heap.size < w6.heap.size := Lv.lt V6; have i0 := V6.c0; have i1 := V6.c1; have X6 := (hb.below b6).below s6; have r6 := (own_rd o6).below s6; have C6 := bel_call (bel_call hbw (Nat.le_refl _) b6) (Nat.le_refl _) s6))
        | (go_at_call 10; (with_reducible (refine (same_c (Bx.nil _) (Bx.nil _)).mono ?_)); (rintro e w7 ⟨rfl, b7⟩; have V7 := (V6.below s6).below b7; have l0 := V7.c0; have l1 := V7.c1; have X7 := X6.below b7; have r7 := r6.below b7))
        | (go_at_call 14; (with_reducible (refine (sameints_yes q6 d6 q d Q _ r7 X7.rq m X7.lm X7.m9).mono ?_)); (rintro e w8 ⟨rfl, b8⟩)))
      go_ret
      exact ⟨rfl, bel_call B5 (Nat.le_refl _) (bel_call (bel_call C6 (Nat.le_refl _) b7) (Nat.le_refl _) b8)⟩
end Go.Proofs.Ytfghondhonflaaa
