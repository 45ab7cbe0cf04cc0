/-
  The walk of ObjSeals.
-/
import Derived.Test.YtcncpefdjgnhdaaSealsMath
import Derived.Test.YtcncpefdjgnhdaaBegun
import Derived.Test.YtcncpefdjgnhdaaAudit
import Derived.Test.YtcncpefdjgnhdaaPuts
import Derived.Test.YtcncpefdjgnhdaaTables
import Derived.Test.YtcncpefdjgnhdaaSames
import Derived.Test.YtcncpefdjgnhdaaLows
import Derived.Test.YtcncpefdjgnhdaaKeeps
import Derived.Test.YtcncpefdjgnhdaaHand
import Derived.Deep.Cut
namespace Go.Proofs.Ytcncpefdjgnhdaa
open Go.ChangeShapes Go.WideShapes Go.ChangeAt Go.RowKit
attribute [local go_sem ↓] Go.wp_at_zero Go.wp_at_succ

set_option maxRecDepth 20000 in
set_option maxHeartbeats 1000000 in
theorem seals_walk (K : Nat) (hK : K < 256) (c h : Int) (lp wp fp : Option Addr) (ln lc wn wc fn fc b : Nat) (L W : List Int) (F : List Wt) (w : World) (hL : Rd eI w lp lc L) (hW : Rd eI w wp wc W) (hF : Rd eW w fp fc F) (hln : L.length = ln) (hwn : W.length = wn) (hfn : F.length = fn) (hb9 : b < 4294967296) (hU : UL F) :
    Calls Try.prog 7 #[.int .u8 (K : Int), .agg #[.int .i64 c, .int .i64 h], .agg #[.slice lp ln lc, .slice wp wn wc], .agg #[.int .u32 (b : Int), .slice fp fn fc]] w fun e w' => e = .returned (.bool true) ∧ Below w.heap.size w w' := by
  have HLN : Hid (L.length = ln ∧ W.length = wn ∧ F.length = fn) := ⟨hln, hwn, hfn⟩
  clear hln hwn hfn
  by_cases h1 : ln ≤ 6
  · by_cases h2 : wn ≤ 6
    · by_cases h3 : fn ≤ 6
      · have d1 : decide ((ln : Int) > 6) = false := by simp; omega
        have d2 : decide ((wn : Int) > 6) = false := by simp; omega
        have d3 : decide ((fn : Int) > 6) = false := by simp; omega
        obtain ⟨W0, hW0⟩ : ∃ W0, W0 = ((w.alloc (.cells #[.int .i64 c, .int .i64 h] 40)).alloc (.cells #[.slice lp ln lc, .slice wp wn wc] 43)).alloc (.cells #[.int .u32 (b : Int), .slice fp fn fc] 47) := ⟨_, rfl⟩
        have bW : Below w.heap.size w W0 := by rw [hW0]; exact (((Below.refl _ _).alloc (Nat.le_refl _) _).alloc (by simp) _).alloc (by simp; omega) _
        have hS : Lv W0 w.heap.size #[.int .i64 c, .int .i64 h] 40 := by rw [hW0]; exact ((Lv.new w _ _).below (bel_self _ _)).below (bel_self _ _)
        have hB : Lv W0 (w.heap.size + 1) #[.slice lp ln lc, .slice wp wn wc] 43 := by rw [hW0]; exact Lv.below (heap_at (by simp)) (bel_self _ _)
        have hFl : Lv W0 (w.heap.size + 1 + 1) #[.int .u32 (b : Int), .slice fp fn fc] 47 := by rw [hW0]; exact heap_at (by simp)
        obtain ⟨k, hk⟩ : ∃ k, 1 + (K : Int) % 3 = k := ⟨_, rfl⟩
        have hk3 : k = 1 ∨ k = 2 ∨ k = 3 := by omega
        obtain ⟨T1, hT1⟩ : ∃ T1, mkR newT k = T1 := ⟨_, rfl⟩
        obtain ⟨T2, hT2⟩ : ∃ T2, ptR T1 0 c h L W b F = T2 := ⟨_, rfl⟩
        have HO := one_t k hk3
        have HN := put_none k hk3 c h L W b F
        have HP := put_at k hk3 c h L W b F
        rw [hT1] at HO HN HP
        rw [hT2] at HN HP
        have HT : Hid (mkR newT k = T1 ∧ ptR T1 0 c h L W b F = T2) := ⟨hT1, hT2⟩
        have wf2 : Wf 1 T2 := by rw [← hT2]; exact ptR_wf (by rw [← hT1]; exact mkR_wf new_wf k) 0 c h L W b F
        have HA : Hid ((audP T2.T 12 = [] ∧ audW T2.T 12 = []) ∧ adR T2 = T2) := ⟨aud_none 12 HN, adR_none wf2 HN⟩
        have HOO : Hid (mkOk newT k = true ∧ mkA newT k = 0 ∧ mkG newT k = 1) := ⟨HO.1, HO.2.1, HO.2.2.1⟩
        obtain ⟨s9, HP⟩ := HP
        have HPP : Hid (T2.T.getD 0 th0 = ⟨k, 0, 1, c, h, L, W, b, F, s9⟩) := HP
        have okY : Ok w (⟨9, 7, 0, c, h, lp, ln, lc, wp, wn, wc, b, fp, fn, fc, 5⟩ : Tc) ⟨9, 7, 0, c, h, L, W, b, F, 5⟩ := ⟨rfl, rfl, rfl, rfl, rfl, HLN.out.1, HLN.out.2.1, HLN.out.2.2, rfl, rfl, hL, hW, hF, by show ln ≤ 100; omega, by show wn ≤ 100; omega, by show fn ≤ 100; omega, hb9, by show (5 : Nat) < _; omega, hU⟩
        clear hT1 hT2 HO HN HP
        go_enter Try.func7, Try.ntmps7
        go_upto_region 11 with (first
          | (go_at_call 8; rw [← hW0]; refine (begun_any _).mono ?_; rintro e w1 ⟨rfl, b1⟩; have S1 := hS.below b1; have B1 := hB.below b1; have F1 := hFl.below b1; have s0 := S1.c 0 rfl; have s1 := S1.c 1 rfl; have x0 := B1.c 0 rfl; have x1 := B1.c 1 rfl; have f0 := F1.c 0 rfl; have f1 := F1.c 1 rfl)
          | (go_at_call 9; refine (new_any _).mono ?_; rintro e w2 ⟨y0, rfl, t0, b2⟩; have b12 := b2)
          | (go_at_call 22; refine (make_any y0 newT 0 _ t0 new_wf (by decide) k true HOO.out.1 0 1 HOO.out.2.1 HOO.out.2.2).mono ?_; rintro e w3 ⟨y1, rfl, t1', b3⟩; have t1 : Tr w3 y1 T1 := (by rw [← HT.out.1]; exact t1'); clear t1' s0 s1 x0 x1 f0 f1; have b13 := bel_call b12 (Nat.le_refl _) b3; have sA : Below w3.heap.size w3 ((w3.alloc (.cells #[.slice y1.gp 12 y1.gc, .slice y1.ip 12 y1.ic, .slice y1.tp 12 y1.tc] 30)).alloc (.cells #[.int .i64 0, .int .i64 1] 38)) := (bel_self _ _).alloc (by simp) _; have V1 := (Vw.new w3 y1 30).below (bel_self _ (.cells #[.int .i64 0, .int .i64 1] 38)); have H1 : Lv ((w3.alloc (.cells #[.slice y1.gp 12 y1.gc, .slice y1.ip 12 y1.ic, .slice y1.tp 12 y1.tc] 30)).alloc (.cells #[.int .i64 0, .int .i64 1] 38)) (w3.heap.size + 1) #[.int .i64 0, .int .i64 1] 38 := heap_at (by simp); have b1A := bel_call b13 (Nat.le_refl _) sA; have S2 := S1.below b1A; have B2 := B1.below b1A; have F2 := F1.below b1A; have s0 := S2.c 0 rfl; have s1 := S2.c 1 rfl; have x0 := B2.c 0 rfl; have x1 := B2.c 1 rfl; have f0 := F2.c 0 rfl; have f1 := F2.c 1 rfl; have W1A := bel_call bW (Nat.le_refl _) (bel_call b1 (Nat.le_refl _) b1A))
          | (go_at_call 14; refine (put_any y1 T1 _ (t1.below sA) 0 (⟨9, 7, 0, c, h, lp, ln, lc, wp, wn, wc, b, fp, fn, fc, 5⟩ : Tc) ⟨9, 7, 0, c, h, L, W, b, F, 5⟩ (okY.below W1A)).mono ?_; rintro e w4 ⟨y2, rfl, t2', b4⟩; have t2 : Tr w4 y2 T2 := (by rw [← HT.out.2]; exact t2'); clear t2'; have V4 := V1.below b4)
          | (refine wpList_stV (E := eTb) rfl 30 (.tmp 9) (.tmp 54) rfl size30 w3.heap.size _ V4 rfl y2 rfl rfl ?_; intro w5 V5 k5; have t5 := t2.kpS V4 k5; have V5 : Vw w5 w3.heap.size y2 30 := V5; obtain ⟨c0, c1, c2⟩ := Vw.at V5)
          | (go_at_call 19; refine (audit_any y2 T2 _ t5 0 (by rw [HA.out.1.1]; rfl)).mono ?_; rintro e w6 ⟨y3, pa, ca, pb, cb, rfl, t6', ra, rb, b6⟩; have t6 : Tr w6 y3 T2 := (by have h := t6'; rw [HA.out.2] at h; exact h); clear t6' c0 c1 c2 s0 s1 x0 x1 f0 f1; have s6 := bel_self w6 (.cells #[.slice y3.gp 12 y3.gc, .slice y3.ip 12 y3.ic, .slice y3.tp 12 y3.tc] 30); have V6 := Vw.new w6 y3 30; obtain ⟨c0, c1, c2⟩ := V6.at; have b56 := bel_call b6 (Nat.le_refl _) s6; have V5b := V5.below b56)
          | (go_at_call 27; refine (table_any y3 T2 _ (t6.below s6)).mono ?_; rintro e w7 ⟨z1, rfl, u1, b7⟩; have s7 := bel_self w7 (.cells #[.slice z1.gp 12 z1.gc, .slice z1.ip 12 z1.ic, .slice z1.tp 12 z1.tc] 35); have Z1 := Vw.new w7 z1 35; have b77 := bel_call b7 (Nat.le_refl _) s7; have V5c := V5b.below b77; have b58 := bel_call b56 (Nat.le_refl _) b77; clear c0 c1 c2))
        have t9 := t5.below b58
        have B05 := bel_kp (bel_call b1A (Nat.le_refl _) b4) k5 (by have := b13.size; omega) (by have := (bel_call b1A (Nat.le_refl _) b4).size; omega)
        have B09 := bel_call B05 (Nat.le_refl _) b58
        have S9 := S1.below B09
        have Bx9 := B1.below B09
        have F9 := F1.below B09
        have H9 := (Lv.kp (H1.below b4) k5 (by omega)).below b58
        have V9 := V5c
        have u9 := u1.below s7
        have Bw := bel_call bW (Nat.le_refl _) (bel_call b1 (Nat.le_refl _) B09)
        have okL := hL.below Bw
        have okW := hW.below Bw
        have okF := hF.below Bw
        obtain ⟨WX, hWX⟩ : ∃ WX, WX = w7.alloc (.cells #[.slice z1.gp 12 z1.gc, .slice z1.ip 12 z1.ic, .slice z1.tp 12 z1.tc] 35) := ⟨_, rfl⟩
        rw [← hWX] at t9 S9 Bx9 F9 H9 V9 u9 Bw okL okW okF Z1 ⊢
        clear hWX okY hL hW hF hS hB hFl bW b1 b2 b12 b13 b1A W1A t0 t1 t2 t5 t6 u1 V1 V4 V5 V5b V5c V6 S1 B1 F1 S2 B2 F2 H1 b3 b4 b6 b7 b77 b56 b58 s6 s7 sA k5 B05 B09 ra rb HA HOO HT wf2
        obtain ⟨b0, o, X, e3, hb, hX, hXo⟩ := u9.thing 0 (by decide)
        rw [HPP.out] at hXo
        obtain ⟨xk, xa, xg, xc, xh, xln, xwn, xfn, xb, xs, xL, xW, xF, _, _, _, _, _, _⟩ := hXo
        obtain ⟨zgp, zgc, zip, zic, ztp, ztc⟩ := z1
        obtain ⟨Xk, Xa, Xg, Xc, Xh, Xlp, Xln, Xlc, Xwp, Xwn, Xwc, Xb, Xfp, Xfn, Xfc, Xs⟩ := X
        dsimp only at e3 hX xk xa xg xc xh xln xwn xfn xb xs xL xW xF Z1 ⊢
        obtain rfl : Xln = ln := by rw [← HLN.out.1]; exact xln.symm
        obtain rfl : Xwn = wn := by rw [← HLN.out.2.1]; exact xwn.symm
        obtain rfl : Xfn = fn := by rw [← HLN.out.2.2]; exact xfn.symm
        subst e3 xa xg xc xh xb
        subst xk
        have HXL : Hid (L.length = Xln ∧ W.length = Xwn ∧ F.length = Xfn) := ⟨xln, xwn, xfn⟩
        clear HPP hW0 xln xwn xfn hk3 xs
        simp only [List.append]
        have q1 : (Xk == Xk) = true := beq_self_eq_true Xk
        have q2 : (Xc == Xc) = true := beq_self_eq_true Xc
        have q3 : (Xh == Xh) = true := beq_self_eq_true Xh
        have q4 : decide (Xk = Xk) = true := decide_eq_true rfl
        have q5 : decide (Xc = Xc) = true := decide_eq_true rfl
        have q6 : decide (Xh = Xh) = true := decide_eq_true rfl
        have r1 : (K : Int).tmod 3 = (K : Int) % 3 := Int.tmod_eq_emod_of_nonneg (by omega)
        have r2 : IntKind.i64.wrap ((K : Int) % 3) = (K : Int) % 3 := by rw [IntKind.wrap_i64]; omega
        have r3 : IntKind.i64.wrap Xk = Xk := by rw [IntKind.wrap_i64]; omega
        refine wp_region_held_drew (S := fun w' => Below WX.heap.size WX w') (by kernel_rfl) (Below.refl _ _).drew (fun hHeld => ?_)
        refine wpAnyH_take (i := 0) (oi := _) (v := ?_) rfl (by kernel_rfl) (by kernel_rfl) (by kernel_rfl) (fun _ _ _ h => h) (Or.inl ⟨by rfl, ?_⟩) hHeld ?_
        rotate_left
        · intro w' hSw
          (go_simp <;> with_reducible rfl)
        try simp only [Act.put, List.getElem_toArray, List.getElem_cons_zero, List.setIfInBounds_toArray, List.set_cons_zero, List.set_cons_succ]
        refine wpAnyH_take (i := 1) (oi := _) (v := ?_) rfl (by kernel_rfl) (by kernel_rfl) (by kernel_rfl) (fun _ _ _ h => h) (Or.inl ⟨by rfl, ?_⟩) hHeld ?_
        rotate_left
        · intro w' hSw
          (go_simp <;> with_reducible rfl)
        try simp only [Act.put, List.getElem_toArray, List.getElem_cons_succ, List.getElem_cons_zero, List.setIfInBounds_toArray, List.set_cons_zero, List.set_cons_succ]
        refine wpAnyH_take (i := 2) (oi := _) (v := ?_) rfl (by kernel_rfl) (by kernel_rfl) (by kernel_rfl) (fun _ _ _ h => h) (Or.inl ⟨by rfl, ?_⟩) hHeld ?_
        rotate_left
        · intro w' hSw
          (go_simp <;> with_reducible rfl)
        try simp only [Act.put, List.getElem_toArray, List.getElem_cons_succ, List.getElem_cons_zero, List.setIfInBounds_toArray, List.set_cons_zero, List.set_cons_succ]
        refine wpAnyH_take (i := 3) (oi := _) (v := ?_) rfl (by kernel_rfl) (by kernel_rfl) (by kernel_rfl) (fun _ _ _ h => h) (Or.inl ⟨by rfl, ?_⟩) hHeld ?_
        rotate_left
        · intro w' hSw
          (go_simp <;> with_reducible rfl)
        try simp only [Act.put, List.getElem_toArray, List.getElem_cons_succ, List.getElem_cons_zero, List.setIfInBounds_toArray, List.set_cons_zero, List.set_cons_succ]
        refine wpAnyH_take (i := 4) (oi := _) (v := ?_) rfl (by kernel_rfl) (by kernel_rfl) (by kernel_rfl) (fun _ _ _ h => h) (Or.inl ⟨by rfl, ?_⟩) hHeld ?_
        rotate_left
        · intro w' hSw
          (go_simp <;> with_reducible rfl)
        try simp only [Act.put, List.getElem_toArray, List.getElem_cons_succ, List.getElem_cons_zero, List.setIfInBounds_toArray, List.set_cons_zero, List.set_cons_succ]
        refine wpAnyH_take (i := 5) (oi := _) (v := ?_) rfl (by kernel_rfl) (by kernel_rfl) (by kernel_rfl) (fun _ _ _ h => h) (Or.inl ⟨by rfl, ?_⟩) hHeld ?_
        rotate_left
        · intro w' hSw
          (go_simp <;> with_reducible rfl)
        try simp only [Act.put, List.getElem_toArray, List.getElem_cons_succ, List.getElem_cons_zero, List.setIfInBounds_toArray, List.set_cons_zero, List.set_cons_succ]
        refine wpAnyH_take (i := 6) (oi := _) (v := ?_) rfl (by kernel_rfl) (by kernel_rfl) (by kernel_rfl) (fun _ _ _ h => h) (Or.inl ⟨by rfl, ?_⟩) hHeld ?_
        rotate_left
        · intro w' hSw
          (go_simp <;> with_reducible rfl)
        try simp only [Act.put, List.getElem_toArray, List.getElem_cons_succ, List.getElem_cons_zero, List.setIfInBounds_toArray, List.set_cons_zero, List.set_cons_succ]
        refine wpAnyH_take (i := 7) (oi := _) (v := ?_) rfl (by kernel_rfl) (by kernel_rfl) (by kernel_rfl) (fun _ _ _ h => h) (Or.inl ⟨by rfl, ?_⟩) hHeld ?_
        rotate_left
        · intro w' hSw
          (go_simp <;> with_reducible rfl)
        try simp only [Act.put, List.getElem_toArray, List.getElem_cons_succ, List.getElem_cons_zero, List.setIfInBounds_toArray, List.set_cons_zero, List.set_cons_succ]
        refine wpAnyH_take (i := 8) (oi := _) (v := ?_) rfl (by kernel_rfl) (by kernel_rfl) (by kernel_rfl) (fun _ _ _ h => h) (Or.inl ⟨by rfl, ?_⟩) hHeld ?_
        rotate_left
        · intro w' hSw
          (go_simp <;> with_reducible rfl)
        try simp only [Act.put, List.getElem_toArray, List.getElem_cons_succ, List.getElem_cons_zero, List.setIfInBounds_toArray, List.set_cons_zero, List.set_cons_succ]
        refine wpAnyH_take (i := 9) (oi := _) (v := ?_) rfl (by kernel_rfl) (by kernel_rfl) (by kernel_rfl) (fun _ _ _ h => h) (Or.inl ⟨by rfl, ?_⟩) hHeld ?_
        rotate_left
        · intro w' hSw
          obtain ⟨e0, e1, e2⟩ := (Z1.below hSw).at
          (go_simp <;> with_reducible rfl)
        try simp only [Act.put, List.getElem_toArray, List.getElem_cons_succ, List.getElem_cons_zero, List.setIfInBounds_toArray, List.set_cons_zero, List.set_cons_succ]
        refine wpAnyH_take (i := 10) (oi := _) (v := ?_) rfl (by kernel_rfl) (by kernel_rfl) (by kernel_rfl) (fun _ _ _ h => h) (Or.inl ⟨by rfl, ?_⟩) hHeld ?_
        rotate_left
        · intro w' hSw
          obtain ⟨e0, e1, e2⟩ := (V9.below hSw).at
          (go_simp <;> with_reducible rfl)
        try simp only [Act.put, List.getElem_toArray, List.getElem_cons_succ, List.getElem_cons_zero, List.setIfInBounds_toArray, List.set_cons_zero, List.set_cons_succ]
        refine wpAnyH_ready (rs := [11]) (by kernel_rfl) (by simp) ?_
        refine AllReadyH.cons (o := _) rfl (fun K hK => ?_) AllReadyH.nil
        go_simp
        go_at_call 27; refine (table_any y2 T2 _ (t9.below (Below.refl WX.heap.size WX).drew)).mono ?_
        rintro e w8 ⟨z2, rfl, u2, b8⟩
        have b8 := bel_call (Below.refl WX.heap.size WX).drew (Nat.le_refl _) b8
        have V9 := V9.below b8
        have Z1 := Z1.below b8
        have H9 := H9.below b8
        have S9 := S9.below b8
        have Bx9 := Bx9.below b8
        have F9 := F9.below b8
        have hX := hX.below b8 hb
        have hb := Nat.lt_of_lt_of_le hb b8.size
        have xL := xL.below b8
        have xW := xW.below b8
        have xF := xF.below b8
        have okL := okL.below b8
        have okW := okW.below b8
        have okF := okF.below b8
        have u9 := u9.below b8
        have Bw := bel_call Bw (Nat.le_refl _) b8
        refine hK.out _ _ b8 (fun _ => ?_)
        refine wpAnyH_weaken (S' := fun w' => Below w8.heap.size w8 w') (fun w' h => bel_call b8 (Nat.le_refl _) h) _ _ _ _ ?_
        clear hHeld hK K
        have hHeld : Below w8.heap.size w8 w8 := Below.refl _ _
        try simp only [Act.put, List.getElem_toArray, List.getElem_cons_succ, List.getElem_cons_zero, List.setIfInBounds_toArray, List.set_cons_zero, List.set_cons_succ]
        refine wpAnyH_ready (rs := [12]) (by kernel_rfl) (by simp) ?_
        refine AllReadyH.cons (o := _) rfl (fun K hK => ?_) AllReadyH.nil
        go_simp
        go_at_call 26; refine (sametable_yes ⟨zgp, zgc, zip, zic, some ⟨b0, o, none⟩, ztc⟩ z2 T2 _ u9 u2).mono ?_
        rintro e w9 ⟨rfl, b9⟩
        have V9 := V9.below b9
        have Z1 := Z1.below b9
        have H9 := H9.below b9
        have S9 := S9.below b9
        have Bx9 := Bx9.below b9
        have F9 := F9.below b9
        have hX := hX.below b9 hb
        have hb := Nat.lt_of_lt_of_le hb b9.size
        have xL := xL.below b9
        have xW := xW.below b9
        have xF := xF.below b9
        have okL := okL.below b9
        have okW := okW.below b9
        have okF := okF.below b9
        have u9 := u9.below b9
        have Bw := bel_call Bw (Nat.le_refl _) b9
        refine hK.out _ _ b9 (fun _ => ?_)
        refine wpAnyH_weaken (S' := fun w' => Below w9.heap.size w9 w') (fun w' h => bel_call b9 (Nat.le_refl _) h) _ _ _ _ ?_
        clear hHeld hK K
        have hHeld : Below w9.heap.size w9 w9 := Below.refl _ _
        try simp only [Act.put, List.getElem_toArray, List.getElem_cons_succ, List.getElem_cons_zero, List.setIfInBounds_toArray, List.set_cons_zero, List.set_cons_succ]
        refine wpAnyH_take (i := 13) (oi := _) (v := ?_) rfl (by kernel_rfl) (by kernel_rfl) (by kernel_rfl) (fun _ _ _ h => h) (Or.inl ⟨by rfl, ?_⟩) hHeld ?_
        rotate_left
        · intro w' hSw
          (go_simp <;> with_reducible rfl)
        try simp only [Act.put, List.getElem_toArray, List.getElem_cons_succ, List.getElem_cons_zero, List.setIfInBounds_toArray, List.set_cons_zero, List.set_cons_succ]
        refine wpAnyH_take (i := 14) (oi := _) (v := ?_) rfl (by kernel_rfl) (by kernel_rfl) (by kernel_rfl) (fun _ _ _ h => h) (Or.inl ⟨by rfl, ?_⟩) hHeld ?_
        rotate_left
        · intro w' hSw
          (go_simp <;> with_reducible rfl)
        try simp only [Act.put, List.getElem_toArray, List.getElem_cons_succ, List.getElem_cons_zero, List.setIfInBounds_toArray, List.set_cons_zero, List.set_cons_succ]
        refine wpAnyH_take (i := 15) (oi := _) (v := ?_) rfl (by kernel_rfl) (by kernel_rfl) (by kernel_rfl) (fun _ _ _ h => h) (Or.inl ⟨by rfl, ?_⟩) hHeld ?_
        rotate_left
        · intro w' hSw
          (go_simp <;> with_reducible rfl)
        try simp only [Act.put, List.getElem_toArray, List.getElem_cons_succ, List.getElem_cons_zero, List.setIfInBounds_toArray, List.set_cons_zero, List.set_cons_succ]
        refine wpAnyH_take (i := 16) (oi := _) (v := ?_) rfl (by kernel_rfl) (by kernel_rfl) (by kernel_rfl) (fun _ _ _ h => h) (Or.inl ⟨by rfl, ?_⟩) hHeld ?_
        rotate_left
        · intro w' hSw
          obtain ⟨e0, e1, e2⟩ := (Z1.below hSw).at
          (go_simp <;> with_reducible rfl)
        try simp only [Act.put, List.getElem_toArray, List.getElem_cons_succ, List.getElem_cons_zero, List.setIfInBounds_toArray, List.set_cons_zero, List.set_cons_succ]
        refine wpAnyH_take (i := 17) (oi := _) (v := ?_) rfl (by kernel_rfl) (by kernel_rfl) (by kernel_rfl) (fun _ _ _ h => h) (Or.inl ⟨by rfl, ?_⟩) hHeld ?_
        rotate_left
        · intro w' hSw
          (go_simp <;> with_reducible rfl)
        try simp only [Act.put, List.getElem_toArray, List.getElem_cons_succ, List.getElem_cons_zero, List.setIfInBounds_toArray, List.set_cons_zero, List.set_cons_succ]
        refine wpAnyH_take (i := 18) (oi := _) (v := ?_) rfl (by kernel_rfl) (by kernel_rfl) (by kernel_rfl) (fun _ _ _ h => h) (Or.inl ⟨by rfl, ?_⟩) hHeld ?_
        rotate_left
        · intro w' hSw
          (go_simp <;> with_reducible rfl)
        try simp only [Act.put, List.getElem_toArray, List.getElem_cons_succ, List.getElem_cons_zero, List.setIfInBounds_toArray, List.set_cons_zero, List.set_cons_succ]
        refine wpAnyH_take (i := 19) (oi := _) (v := ?_) rfl (by kernel_rfl) (by kernel_rfl) (by kernel_rfl) (fun _ _ _ h => h) (Or.inl ⟨by rfl, ?_⟩) hHeld ?_
        rotate_left
        · intro w' hSw
          (go_simp <;> with_reducible rfl)
        try simp only [Act.put, List.getElem_toArray, List.getElem_cons_succ, List.getElem_cons_zero, List.setIfInBounds_toArray, List.set_cons_zero, List.set_cons_succ]
        refine wpAnyH_take (i := 20) (oi := _) (v := ?_) rfl (by kernel_rfl) (by kernel_rfl) (by kernel_rfl) (fun _ _ _ h => h) (Or.inl ⟨by rfl, ?_⟩) hHeld ?_
        rotate_left
        · intro w' hSw
          (go_simp <;> with_reducible rfl)
        try simp only [Act.put, List.getElem_toArray, List.getElem_cons_succ, List.getElem_cons_zero, List.setIfInBounds_toArray, List.set_cons_zero, List.set_cons_succ]
        refine wpAnyH_take (i := 21) (oi := _) (v := ?_) rfl (by kernel_rfl) (by kernel_rfl) (by kernel_rfl) (fun _ _ _ h => h) (Or.inl ⟨by rfl, ?_⟩) hHeld ?_
        rotate_left
        · intro w' hSw
          (go_simp <;> with_reducible rfl)
        try simp only [Act.put, List.getElem_toArray, List.getElem_cons_succ, List.getElem_cons_zero, List.setIfInBounds_toArray, List.set_cons_zero, List.set_cons_succ]
        refine wpAnyH_take (i := 22) (oi := _) (v := ?_) rfl (by kernel_rfl) (by kernel_rfl) (by kernel_rfl) (fun _ _ _ h => h) (Or.inl ⟨by rfl, ?_⟩) hHeld ?_
        rotate_left
        · intro w' hSw
          obtain ⟨e0, e1, e2⟩ := (Z1.below hSw).at
          (go_simp <;> with_reducible rfl)
        try simp only [Act.put, List.getElem_toArray, List.getElem_cons_succ, List.getElem_cons_zero, List.setIfInBounds_toArray, List.set_cons_zero, List.set_cons_succ]
        refine wpAnyH_take (i := 23) (oi := _) (v := ?_) rfl (by kernel_rfl) (by kernel_rfl) (by kernel_rfl) (fun _ _ _ h => h) (Or.inl ⟨by rfl, ?_⟩) hHeld ?_
        rotate_left
        · intro w' hSw
          (go_simp <;> with_reducible rfl)
        try simp only [Act.put, List.getElem_toArray, List.getElem_cons_succ, List.getElem_cons_zero, List.setIfInBounds_toArray, List.set_cons_zero, List.set_cons_succ]
        refine wpAnyH_take (i := 24) (oi := _) (v := ?_) rfl (by kernel_rfl) (by kernel_rfl) (by kernel_rfl) (fun _ _ _ h => h) (Or.inl ⟨by rfl, ?_⟩) hHeld ?_
        rotate_left
        · intro w' hSw
          (go_simp <;> with_reducible rfl)
        try simp only [Act.put, List.getElem_toArray, List.getElem_cons_succ, List.getElem_cons_zero, List.setIfInBounds_toArray, List.set_cons_zero, List.set_cons_succ]
        refine wpAnyH_take (i := 25) (oi := _) (v := ?_) rfl (by kernel_rfl) (by kernel_rfl) (by kernel_rfl) (fun _ _ _ h => h) (Or.inl ⟨by rfl, ?_⟩) hHeld ?_
        rotate_left
        · intro w' hSw
          obtain ⟨f0, f1, f2, f3, f4, f5, f6, f7, f8, f9⟩ := hX.below hSw hb
          simp only [Nat.zero_mul, Nat.add_zero] at f0 f1 f2 f3 f4 f5 f6 f7 f8 f9
          (go_simp <;> with_reducible rfl)
        try simp only [Act.put, List.getElem_toArray, List.getElem_cons_succ, List.getElem_cons_zero, List.setIfInBounds_toArray, List.set_cons_zero, List.set_cons_succ]
        refine wpAnyH_take (i := 26) (oi := _) (v := ?_) rfl (by kernel_rfl) (by kernel_rfl) (by kernel_rfl) (fun _ _ _ h => h) (Or.inl ⟨by rfl, ?_⟩) hHeld ?_
        rotate_left
        · intro w' hSw
          (go_simp <;> with_reducible rfl)
        try simp only [Act.put, List.getElem_toArray, List.getElem_cons_succ, List.getElem_cons_zero, List.setIfInBounds_toArray, List.set_cons_zero, List.set_cons_succ]
        refine wpAnyH_take (i := 27) (oi := _) (v := ?_) rfl (by kernel_rfl) (by kernel_rfl) (by kernel_rfl) (fun _ _ _ h => h) (Or.inl ⟨by rfl, ?_⟩) hHeld ?_
        rotate_left
        · intro w' hSw
          (go_simp <;> with_reducible rfl)
        try simp only [Act.put, List.getElem_toArray, List.getElem_cons_succ, List.getElem_cons_zero, List.setIfInBounds_toArray, List.set_cons_zero, List.set_cons_succ]
        refine wpAnyH_take (i := 28) (oi := _) (v := ?_) rfl (by kernel_rfl) (by kernel_rfl) (by kernel_rfl) (fun _ _ _ h => h) (Or.inl ⟨by rfl, ?_⟩) hHeld ?_
        rotate_left
        · intro w' hSw
          (go_simp <;> with_reducible rfl)
        try simp only [Act.put, List.getElem_toArray, List.getElem_cons_succ, List.getElem_cons_zero, List.setIfInBounds_toArray, List.set_cons_zero, List.set_cons_succ]
        refine wpAnyH_take (i := 29) (oi := _) (v := ?_) rfl (by kernel_rfl) (by kernel_rfl) (by kernel_rfl) (fun _ _ _ h => h) (Or.inl ⟨by rfl, ?_⟩) hHeld ?_
        rotate_left
        · intro w' hSw
          (go_simp <;> with_reducible rfl)
        try simp only [Act.put, List.getElem_toArray, List.getElem_cons_succ, List.getElem_cons_zero, List.setIfInBounds_toArray, List.set_cons_zero, List.set_cons_succ]
        refine wpAnyH_take (i := 30) (oi := _) (v := ?_) rfl (by kernel_rfl) (by kernel_rfl) (by kernel_rfl) (fun _ _ _ h => h) (Or.inl ⟨by rfl, ?_⟩) hHeld ?_
        rotate_left
        · intro w' hSw
          (go_simp <;> with_reducible rfl)
        try simp only [Act.put, List.getElem_toArray, List.getElem_cons_succ, List.getElem_cons_zero, List.setIfInBounds_toArray, List.set_cons_zero, List.set_cons_succ]
        refine wpAnyH_take (i := 31) (oi := _) (v := ?_) rfl (by kernel_rfl) (by kernel_rfl) (by kernel_rfl) (fun _ _ _ h => h) (Or.inl ⟨by rfl, ?_⟩) hHeld ?_
        rotate_left
        · intro w' hSw
          (go_simp <;> with_reducible rfl)
        try simp only [Act.put, List.getElem_toArray, List.getElem_cons_succ, List.getElem_cons_zero, List.setIfInBounds_toArray, List.set_cons_zero, List.set_cons_succ]
        refine wpAnyH_take (i := 32) (oi := _) (v := ?_) rfl (by kernel_rfl) (by kernel_rfl) (by kernel_rfl) (fun _ _ _ h => h) (Or.inl ⟨by rfl, ?_⟩) hHeld ?_
        rotate_left
        · intro w' hSw
          (go_simp <;> with_reducible rfl)
        try simp only [Act.put, List.getElem_toArray, List.getElem_cons_succ, List.getElem_cons_zero, List.setIfInBounds_toArray, List.set_cons_zero, List.set_cons_succ]
        refine wpAnyH_take (i := 33) (oi := _) (v := ?_) rfl (by kernel_rfl) (by kernel_rfl) (by kernel_rfl) (fun _ _ _ h => h) (Or.inl ⟨by rfl, ?_⟩) hHeld ?_
        rotate_left
        · intro w' hSw
          (go_simp <;> with_reducible rfl)
        try simp only [Act.put, List.getElem_toArray, List.getElem_cons_succ, List.getElem_cons_zero, List.setIfInBounds_toArray, List.set_cons_zero, List.set_cons_succ]
        refine wpAnyH_take (i := 34) (oi := _) (v := ?_) rfl (by kernel_rfl) (by kernel_rfl) (by kernel_rfl) (fun _ _ _ h => h) (Or.inl ⟨by rfl, ?_⟩) hHeld ?_
        rotate_left
        · intro w' hSw
          obtain ⟨e0, e1, e2⟩ := (Z1.below hSw).at
          (go_simp <;> with_reducible rfl)
        try simp only [Act.put, List.getElem_toArray, List.getElem_cons_succ, List.getElem_cons_zero, List.setIfInBounds_toArray, List.set_cons_zero, List.set_cons_succ]
        refine wpAnyH_take (i := 35) (oi := _) (v := ?_) rfl (by kernel_rfl) (by kernel_rfl) (by kernel_rfl) (fun _ _ _ h => h) (Or.inl ⟨by rfl, ?_⟩) hHeld ?_
        rotate_left
        · intro w' hSw
          (go_simp <;> with_reducible rfl)
        try simp only [Act.put, List.getElem_toArray, List.getElem_cons_succ, List.getElem_cons_zero, List.setIfInBounds_toArray, List.set_cons_zero, List.set_cons_succ]
        refine wpAnyH_take (i := 36) (oi := _) (v := ?_) rfl (by kernel_rfl) (by kernel_rfl) (by kernel_rfl) (fun _ _ _ h => h) (Or.inl ⟨by rfl, ?_⟩) hHeld ?_
        rotate_left
        · intro w' hSw
          (go_simp <;> with_reducible rfl)
        try simp only [Act.put, List.getElem_toArray, List.getElem_cons_succ, List.getElem_cons_zero, List.setIfInBounds_toArray, List.set_cons_zero, List.set_cons_succ]
        refine wpAnyH_take (i := 37) (oi := _) (v := ?_) rfl (by kernel_rfl) (by kernel_rfl) (by kernel_rfl) (fun _ _ _ h => h) (Or.inl ⟨by rfl, ?_⟩) hHeld ?_
        rotate_left
        · intro w' hSw
          obtain ⟨f0, f1, f2, f3, f4, f5, f6, f7, f8, f9⟩ := hX.below hSw hb
          simp only [Nat.zero_mul, Nat.add_zero] at f0 f1 f2 f3 f4 f5 f6 f7 f8 f9
          (go_simp <;> with_reducible rfl)
        try simp only [Act.put, List.getElem_toArray, List.getElem_cons_succ, List.getElem_cons_zero, List.setIfInBounds_toArray, List.set_cons_zero, List.set_cons_succ]
        refine wpAnyH_take (i := 38) (oi := _) (v := ?_) rfl (by kernel_rfl) (by kernel_rfl) (by kernel_rfl) (fun _ _ _ h => h) (Or.inl ⟨by rfl, ?_⟩) hHeld ?_
        rotate_left
        · intro w' hSw
          have e0 := (H9.below hSw).c 0 rfl
          have e1 := (H9.below hSw).c 1 rfl
          (go_simp <;> with_reducible rfl)
        try simp only [Act.put, List.getElem_toArray, List.getElem_cons_succ, List.getElem_cons_zero, List.setIfInBounds_toArray, List.set_cons_zero, List.set_cons_succ]
        refine wpAnyH_take (i := 39) (oi := _) (v := ?_) rfl (by kernel_rfl) (by kernel_rfl) (by kernel_rfl) (fun _ _ _ h => h) (Or.inl ⟨by rfl, ?_⟩) hHeld ?_
        rotate_left
        · intro w' hSw
          (go_simp <;> with_reducible rfl)
        try simp only [Act.put, List.getElem_toArray, List.getElem_cons_succ, List.getElem_cons_zero, List.setIfInBounds_toArray, List.set_cons_zero, List.set_cons_succ]
        refine wpAnyH_take (i := 40) (oi := _) (v := ?_) rfl (by kernel_rfl) (by kernel_rfl) (by kernel_rfl) (fun _ _ _ h => h) (Or.inl ⟨by rfl, ?_⟩) hHeld ?_
        rotate_left
        · intro w' hSw
          (go_simp <;> with_reducible rfl)
        try simp only [Act.put, List.getElem_toArray, List.getElem_cons_succ, List.getElem_cons_zero, List.setIfInBounds_toArray, List.set_cons_zero, List.set_cons_succ]
        refine wpAnyH_take (i := 41) (oi := _) (v := ?_) rfl (by kernel_rfl) (by kernel_rfl) (by kernel_rfl) (fun _ _ _ h => h) (Or.inl ⟨by rfl, ?_⟩) hHeld ?_
        rotate_left
        · intro w' hSw
          (go_simp <;> with_reducible rfl)
        try simp only [Act.put, List.getElem_toArray, List.getElem_cons_succ, List.getElem_cons_zero, List.setIfInBounds_toArray, List.set_cons_zero, List.set_cons_succ]
        refine wpAnyH_take (i := 42) (oi := _) (v := ?_) rfl (by kernel_rfl) (by kernel_rfl) (by kernel_rfl) (fun _ _ _ h => h) (Or.inl ⟨by rfl, ?_⟩) hHeld ?_
        rotate_left
        · intro w' hSw
          (go_simp <;> with_reducible rfl)
        try simp only [Act.put, List.getElem_toArray, List.getElem_cons_succ, List.getElem_cons_zero, List.setIfInBounds_toArray, List.set_cons_zero, List.set_cons_succ]
        refine wpAnyH_take (i := 43) (oi := _) (v := ?_) rfl (by kernel_rfl) (by kernel_rfl) (by kernel_rfl) (fun _ _ _ h => h) (Or.inl ⟨by rfl, ?_⟩) hHeld ?_
        rotate_left
        · intro w' hSw
          obtain ⟨e0, e1, e2⟩ := (Z1.below hSw).at
          (go_simp <;> with_reducible rfl)
        try simp only [Act.put, List.getElem_toArray, List.getElem_cons_succ, List.getElem_cons_zero, List.setIfInBounds_toArray, List.set_cons_zero, List.set_cons_succ]
        refine wpAnyH_take (i := 44) (oi := _) (v := ?_) rfl (by kernel_rfl) (by kernel_rfl) (by kernel_rfl) (fun _ _ _ h => h) (Or.inl ⟨by rfl, ?_⟩) hHeld ?_
        rotate_left
        · intro w' hSw
          (go_simp <;> with_reducible rfl)
        try simp only [Act.put, List.getElem_toArray, List.getElem_cons_succ, List.getElem_cons_zero, List.setIfInBounds_toArray, List.set_cons_zero, List.set_cons_succ]
        refine wpAnyH_take (i := 45) (oi := _) (v := ?_) rfl (by kernel_rfl) (by kernel_rfl) (by kernel_rfl) (fun _ _ _ h => h) (Or.inl ⟨by rfl, ?_⟩) hHeld ?_
        rotate_left
        · intro w' hSw
          (go_simp <;> with_reducible rfl)
        try simp only [Act.put, List.getElem_toArray, List.getElem_cons_succ, List.getElem_cons_zero, List.setIfInBounds_toArray, List.set_cons_zero, List.set_cons_succ]
        refine wpAnyH_take (i := 46) (oi := _) (v := ?_) rfl (by kernel_rfl) (by kernel_rfl) (by kernel_rfl) (fun _ _ _ h => h) (Or.inl ⟨by rfl, ?_⟩) hHeld ?_
        rotate_left
        · intro w' hSw
          obtain ⟨f0, f1, f2, f3, f4, f5, f6, f7, f8, f9⟩ := hX.below hSw hb
          simp only [Nat.zero_mul, Nat.add_zero] at f0 f1 f2 f3 f4 f5 f6 f7 f8 f9
          (go_simp <;> with_reducible rfl)
        try simp only [Act.put, List.getElem_toArray, List.getElem_cons_succ, List.getElem_cons_zero, List.setIfInBounds_toArray, List.set_cons_zero, List.set_cons_succ]
        refine wpAnyH_take (i := 47) (oi := _) (v := ?_) rfl (by kernel_rfl) (by kernel_rfl) (by kernel_rfl) (fun _ _ _ h => h) (Or.inl ⟨by rfl, ?_⟩) hHeld ?_
        rotate_left
        · intro w' hSw
          have e0 := (S9.below hSw).c 0 rfl
          have e1 := (S9.below hSw).c 1 rfl
          (go_simp <;> with_reducible rfl)
        try simp only [Act.put, List.getElem_toArray, List.getElem_cons_succ, List.getElem_cons_zero, List.setIfInBounds_toArray, List.set_cons_zero, List.set_cons_succ]
        refine wpAnyH_take (i := 48) (oi := _) (v := ?_) rfl (by kernel_rfl) (by kernel_rfl) (by kernel_rfl) (fun _ _ _ h => h) (Or.inl ⟨by rfl, ?_⟩) hHeld ?_
        rotate_left
        · intro w' hSw
          (go_simp <;> with_reducible rfl)
        try simp only [Act.put, List.getElem_toArray, List.getElem_cons_succ, List.getElem_cons_zero, List.setIfInBounds_toArray, List.set_cons_zero, List.set_cons_succ]
        refine wpAnyH_take (i := 49) (oi := _) (v := ?_) rfl (by kernel_rfl) (by kernel_rfl) (by kernel_rfl) (fun _ _ _ h => h) (Or.inl ⟨by rfl, ?_⟩) hHeld ?_
        rotate_left
        · intro w' hSw
          (go_simp <;> with_reducible rfl)
        try simp only [Act.put, List.getElem_toArray, List.getElem_cons_succ, List.getElem_cons_zero, List.setIfInBounds_toArray, List.set_cons_zero, List.set_cons_succ]
        refine wpAnyH_take (i := 50) (oi := _) (v := ?_) rfl (by kernel_rfl) (by kernel_rfl) (by kernel_rfl) (fun _ _ _ h => h) (Or.inl ⟨by rfl, ?_⟩) hHeld ?_
        rotate_left
        · intro w' hSw
          (go_simp <;> with_reducible rfl)
        try simp only [Act.put, List.getElem_toArray, List.getElem_cons_succ, List.getElem_cons_zero, List.setIfInBounds_toArray, List.set_cons_zero, List.set_cons_succ]
        refine wpAnyH_take (i := 51) (oi := _) (v := ?_) rfl (by kernel_rfl) (by kernel_rfl) (by kernel_rfl) (fun _ _ _ h => h) (Or.inl ⟨by rfl, ?_⟩) hHeld ?_
        rotate_left
        · intro w' hSw
          (go_simp <;> with_reducible rfl)
        try simp only [Act.put, List.getElem_toArray, List.getElem_cons_succ, List.getElem_cons_zero, List.setIfInBounds_toArray, List.set_cons_zero, List.set_cons_succ]
        refine wpAnyH_take (i := 52) (oi := _) (v := ?_) rfl (by kernel_rfl) (by kernel_rfl) (by kernel_rfl) (fun _ _ _ h => h) (Or.inl ⟨by rfl, ?_⟩) hHeld ?_
        rotate_left
        · intro w' hSw
          obtain ⟨e0, e1, e2⟩ := (Z1.below hSw).at
          (go_simp <;> with_reducible rfl)
        try simp only [Act.put, List.getElem_toArray, List.getElem_cons_succ, List.getElem_cons_zero, List.setIfInBounds_toArray, List.set_cons_zero, List.set_cons_succ]
        refine wpAnyH_take (i := 53) (oi := _) (v := ?_) rfl (by kernel_rfl) (by kernel_rfl) (by kernel_rfl) (fun _ _ _ h => h) (Or.inl ⟨by rfl, ?_⟩) hHeld ?_
        rotate_left
        · intro w' hSw
          (go_simp <;> with_reducible rfl)
        try simp only [Act.put, List.getElem_toArray, List.getElem_cons_succ, List.getElem_cons_zero, List.setIfInBounds_toArray, List.set_cons_zero, List.set_cons_succ]
        refine wpAnyH_take (i := 54) (oi := _) (v := ?_) rfl (by kernel_rfl) (by kernel_rfl) (by kernel_rfl) (fun _ _ _ h => h) (Or.inl ⟨by rfl, ?_⟩) hHeld ?_
        rotate_left
        · intro w' hSw
          (go_simp <;> with_reducible rfl)
        try simp only [Act.put, List.getElem_toArray, List.getElem_cons_succ, List.getElem_cons_zero, List.setIfInBounds_toArray, List.set_cons_zero, List.set_cons_succ]
        refine wpAnyH_take (i := 55) (oi := _) (v := ?_) rfl (by kernel_rfl) (by kernel_rfl) (by kernel_rfl) (fun _ _ _ h => h) (Or.inl ⟨by rfl, ?_⟩) hHeld ?_
        rotate_left
        · intro w' hSw
          obtain ⟨f0, f1, f2, f3, f4, f5, f6, f7, f8, f9⟩ := hX.below hSw hb
          simp only [Nat.zero_mul, Nat.add_zero] at f0 f1 f2 f3 f4 f5 f6 f7 f8 f9
          (go_simp <;> with_reducible rfl)
        try simp only [Act.put, List.getElem_toArray, List.getElem_cons_succ, List.getElem_cons_zero, List.setIfInBounds_toArray, List.set_cons_zero, List.set_cons_succ]
        refine wpAnyH_take (i := 56) (oi := _) (v := ?_) rfl (by kernel_rfl) (by kernel_rfl) (by kernel_rfl) (fun _ _ _ h => h) (Or.inl ⟨by rfl, ?_⟩) hHeld ?_
        rotate_left
        · intro w' hSw
          have e0 := (Bx9.below hSw).c 0 rfl
          have e1 := (Bx9.below hSw).c 1 rfl
          (go_simp <;> with_reducible rfl)
        try simp only [Act.put, List.getElem_toArray, List.getElem_cons_succ, List.getElem_cons_zero, List.setIfInBounds_toArray, List.set_cons_zero, List.set_cons_succ]
        refine wpAnyH_ready (rs := [57]) (by kernel_rfl) (by simp) ?_
        refine AllReadyH.cons (o := _) rfl (fun K hK => ?_) AllReadyH.nil
        go_simp
        go_at_call 31; refine (samebox_yes Xlp Xlc Xwp Xwc lp lc wp wc L W _ xL xW okL okW Xln Xwn HXL.out.1 HXL.out.2.1 (by omega) (by omega)).mono ?_
        rintro e wa ⟨rfl, ba⟩
        have V9 := V9.below ba
        have Z1 := Z1.below ba
        have H9 := H9.below ba
        have S9 := S9.below ba
        have Bx9 := Bx9.below ba
        have F9 := F9.below ba
        have hX := hX.below ba hb
        have hb := Nat.lt_of_lt_of_le hb ba.size
        have xL := xL.below ba
        have xW := xW.below ba
        have xF := xF.below ba
        have okL := okL.below ba
        have okW := okW.below ba
        have okF := okF.below ba
        have u9 := u9.below ba
        have Bw := bel_call Bw (Nat.le_refl _) ba
        refine hK.out _ _ ba (fun _ => ?_)
        refine wpAnyH_weaken (S' := fun w' => Below wa.heap.size wa w') (fun w' h => bel_call ba (Nat.le_refl _) h) _ _ _ _ ?_
        clear hHeld hK K
        have hHeld : Below wa.heap.size wa wa := Below.refl _ _
        try simp only [Act.put, List.getElem_toArray, List.getElem_cons_succ, List.getElem_cons_zero, List.setIfInBounds_toArray, List.set_cons_zero, List.set_cons_succ]
        refine wpAnyH_take (i := 58) (oi := _) (v := ?_) rfl (by kernel_rfl) (by kernel_rfl) (by kernel_rfl) (fun _ _ _ h => h) (Or.inl ⟨by rfl, ?_⟩) hHeld ?_
        rotate_left
        · intro w' hSw
          (go_simp <;> with_reducible rfl)
        try simp only [Act.put, List.getElem_toArray, List.getElem_cons_succ, List.getElem_cons_zero, List.setIfInBounds_toArray, List.set_cons_zero, List.set_cons_succ]
        refine wpAnyH_take (i := 59) (oi := _) (v := ?_) rfl (by kernel_rfl) (by kernel_rfl) (by kernel_rfl) (fun _ _ _ h => h) (Or.inl ⟨by rfl, ?_⟩) hHeld ?_
        rotate_left
        · intro w' hSw
          (go_simp <;> with_reducible rfl)
        try simp only [Act.put, List.getElem_toArray, List.getElem_cons_succ, List.getElem_cons_zero, List.setIfInBounds_toArray, List.set_cons_zero, List.set_cons_succ]
        refine wpAnyH_take (i := 60) (oi := _) (v := ?_) rfl (by kernel_rfl) (by kernel_rfl) (by kernel_rfl) (fun _ _ _ h => h) (Or.inl ⟨by rfl, ?_⟩) hHeld ?_
        rotate_left
        · intro w' hSw
          (go_simp <;> with_reducible rfl)
        try simp only [Act.put, List.getElem_toArray, List.getElem_cons_succ, List.getElem_cons_zero, List.setIfInBounds_toArray, List.set_cons_zero, List.set_cons_succ]
        refine wpAnyH_take (i := 61) (oi := _) (v := ?_) rfl (by kernel_rfl) (by kernel_rfl) (by kernel_rfl) (fun _ _ _ h => h) (Or.inl ⟨by rfl, ?_⟩) hHeld ?_
        rotate_left
        · intro w' hSw
          obtain ⟨e0, e1, e2⟩ := (Z1.below hSw).at
          (go_simp <;> with_reducible rfl)
        try simp only [Act.put, List.getElem_toArray, List.getElem_cons_succ, List.getElem_cons_zero, List.setIfInBounds_toArray, List.set_cons_zero, List.set_cons_succ]
        refine wpAnyH_take (i := 62) (oi := _) (v := ?_) rfl (by kernel_rfl) (by kernel_rfl) (by kernel_rfl) (fun _ _ _ h => h) (Or.inl ⟨by rfl, ?_⟩) hHeld ?_
        rotate_left
        · intro w' hSw
          (go_simp <;> with_reducible rfl)
        try simp only [Act.put, List.getElem_toArray, List.getElem_cons_succ, List.getElem_cons_zero, List.setIfInBounds_toArray, List.set_cons_zero, List.set_cons_succ]
        refine wpAnyH_take (i := 63) (oi := _) (v := ?_) rfl (by kernel_rfl) (by kernel_rfl) (by kernel_rfl) (fun _ _ _ h => h) (Or.inl ⟨by rfl, ?_⟩) hHeld ?_
        rotate_left
        · intro w' hSw
          (go_simp <;> with_reducible rfl)
        try simp only [Act.put, List.getElem_toArray, List.getElem_cons_succ, List.getElem_cons_zero, List.setIfInBounds_toArray, List.set_cons_zero, List.set_cons_succ]
        refine wpAnyH_take (i := 64) (oi := _) (v := ?_) rfl (by kernel_rfl) (by kernel_rfl) (by kernel_rfl) (fun _ _ _ h => h) (Or.inl ⟨by rfl, ?_⟩) hHeld ?_
        rotate_left
        · intro w' hSw
          obtain ⟨f0, f1, f2, f3, f4, f5, f6, f7, f8, f9⟩ := hX.below hSw hb
          simp only [Nat.zero_mul, Nat.add_zero] at f0 f1 f2 f3 f4 f5 f6 f7 f8 f9
          (go_simp <;> with_reducible rfl)
        try simp only [Act.put, List.getElem_toArray, List.getElem_cons_succ, List.getElem_cons_zero, List.setIfInBounds_toArray, List.set_cons_zero, List.set_cons_succ]
        refine wpAnyH_take (i := 65) (oi := _) (v := ?_) rfl (by kernel_rfl) (by kernel_rfl) (by kernel_rfl) (fun _ _ _ h => h) (Or.inl ⟨by rfl, ?_⟩) hHeld ?_
        rotate_left
        · intro w' hSw
          have e0 := (F9.below hSw).c 0 rfl
          have e1 := (F9.below hSw).c 1 rfl
          (go_simp <;> with_reducible rfl)
        try simp only [Act.put, List.getElem_toArray, List.getElem_cons_succ, List.getElem_cons_zero, List.setIfInBounds_toArray, List.set_cons_zero, List.set_cons_succ]
        refine wpAnyH_ready (rs := [66]) (by kernel_rfl) (by simp) ?_
        refine AllReadyH.cons (o := _) rfl (fun K hK => ?_) AllReadyH.nil
        go_simp
        go_at_call 32; refine (sameflag_yes Xb Xfp Xfc fp fc F _ xF okF Xfn HXL.out.2.2 (by omega)).mono ?_
        rintro e wb ⟨rfl, bb⟩
        have Bw := bel_call Bw (Nat.le_refl _) bb
        refine hK.out _ _ bb (fun _ => ?_)
        refine wpAnyH_weaken (S' := fun w' => Below wb.heap.size wb w') (fun w' h => bel_call bb (Nat.le_refl _) h) _ _ _ _ ?_
        clear hHeld hK K
        have hHeld : Below wb.heap.size wb wb := Below.refl _ _
        try simp only [Act.put, List.getElem_toArray, List.getElem_cons_succ, List.getElem_cons_zero, List.setIfInBounds_toArray, List.set_cons_zero, List.set_cons_succ]
        refine wpAnyH_take (i := 67) (oi := _) (v := ?_) rfl (by kernel_rfl) (by kernel_rfl) (by kernel_rfl) (fun _ _ _ h => h) (Or.inl ⟨by rfl, ?_⟩) hHeld ?_
        rotate_left
        · intro w' hSw
          (go_simp <;> with_reducible rfl)
        try simp only [Act.put, List.getElem_toArray, List.getElem_cons_succ, List.getElem_cons_zero, List.setIfInBounds_toArray, List.set_cons_zero, List.set_cons_succ]
        refine wpAnyH_take (i := 68) (oi := _) (v := ?_) rfl (by kernel_rfl) (by kernel_rfl) (by kernel_rfl) (fun _ _ _ h => h) (Or.inl ⟨by rfl, ?_⟩) hHeld ?_
        rotate_left
        · intro w' hSw
          (go_simp <;> with_reducible rfl)
        try simp only [Act.put, List.getElem_toArray, List.getElem_cons_succ, List.getElem_cons_zero, List.setIfInBounds_toArray, List.set_cons_zero, List.set_cons_succ]
        refine wpAnyH_done (by kernel_rfl) ?_ _
        go_wp2
        go_ret
        exact ⟨rfl, Bw⟩
      · skip
        have d1 : decide ((ln : Int) > 6) = false := by simp; omega
        have d2 : decide ((wn : Int) > 6) = false := by simp; omega
        have d3 : decide ((fn : Int) > 6) = true := by simp; omega
        obtain ⟨W0, hW0⟩ : ∃ W0, W0 = ((w.alloc (.cells #[.int .i64 c, .int .i64 h] 40)).alloc (.cells #[.slice lp ln lc, .slice wp wn wc] 43)).alloc (.cells #[.int .u32 (b : Int), .slice fp fn fc] 47) := ⟨_, rfl⟩
        have bW : Below w.heap.size w W0 := by rw [hW0]; exact (((Below.refl _ _).alloc (Nat.le_refl _) _).alloc (by simp) _).alloc (by simp; omega) _
        have hB : Lv W0 (w.heap.size + 1) #[.slice lp ln lc, .slice wp wn wc] 43 := by rw [hW0]; exact Lv.below (heap_at (by simp)) (bel_self _ _)
        have hFl : Lv W0 (w.heap.size + 1 + 1) #[.int .u32 (b : Int), .slice fp fn fc] 47 := by rw [hW0]; exact heap_at (by simp)
        clear hL hW hF HLN
        go_enter Try.func7, Try.ntmps7
        go_wp2_with (go_at_call 8; rw [← hW0]; refine (begun_any _).mono ?_; rintro e w1 ⟨rfl, b1⟩; have B1 := hB.below b1; have F1 := hFl.below b1; have x0 := B1.c 0 rfl; have x1 := B1.c 1 rfl; have f0 := F1.c 0 rfl; have f1 := F1.c 1 rfl)
        go_ret
        exact ⟨rfl, bel_call bW (Nat.le_refl _) b1⟩
    · skip
      have d1 : decide ((ln : Int) > 6) = false := by simp; omega
      have d2 : decide ((wn : Int) > 6) = true := by simp; omega
      obtain ⟨W0, hW0⟩ : ∃ W0, W0 = ((w.alloc (.cells #[.int .i64 c, .int .i64 h] 40)).alloc (.cells #[.slice lp ln lc, .slice wp wn wc] 43)).alloc (.cells #[.int .u32 (b : Int), .slice fp fn fc] 47) := ⟨_, rfl⟩
      have bW : Below w.heap.size w W0 := by rw [hW0]; exact (((Below.refl _ _).alloc (Nat.le_refl _) _).alloc (by simp) _).alloc (by simp; omega) _
      have hB : Lv W0 (w.heap.size + 1) #[.slice lp ln lc, .slice wp wn wc] 43 := by rw [hW0]; exact Lv.below (heap_at (by simp)) (bel_self _ _)
      have hFl : Lv W0 (w.heap.size + 1 + 1) #[.int .u32 (b : Int), .slice fp fn fc] 47 := by rw [hW0]; exact heap_at (by simp)
      clear hL hW hF HLN
      go_enter Try.func7, Try.ntmps7
      go_wp2_with (go_at_call 8; rw [← hW0]; refine (begun_any _).mono ?_; rintro e w1 ⟨rfl, b1⟩; have B1 := hB.below b1; have F1 := hFl.below b1; have x0 := B1.c 0 rfl; have x1 := B1.c 1 rfl; have f0 := F1.c 0 rfl; have f1 := F1.c 1 rfl)
      go_ret
      exact ⟨rfl, bel_call bW (Nat.le_refl _) b1⟩
  · skip
    have d1 : decide ((ln : Int) > 6) = true := by simp; omega
    obtain ⟨W0, hW0⟩ : ∃ W0, W0 = ((w.alloc (.cells #[.int .i64 c, .int .i64 h] 40)).alloc (.cells #[.slice lp ln lc, .slice wp wn wc] 43)).alloc (.cells #[.int .u32 (b : Int), .slice fp fn fc] 47) := ⟨_, rfl⟩
    have bW : Below w.heap.size w W0 := by rw [hW0]; exact (((Below.refl _ _).alloc (Nat.le_refl _) _).alloc (by simp) _).alloc (by simp; omega) _
    have hB : Lv W0 (w.heap.size + 1) #[.slice lp ln lc, .slice wp wn wc] 43 := by rw [hW0]; exact Lv.below (heap_at (by simp)) (bel_self _ _)
    have hFl : Lv W0 (w.heap.size + 1 + 1) #[.int .u32 (b : Int), .slice fp fn fc] 47 := by rw [hW0]; exact heap_at (by simp)
    clear hL hW hF HLN
    go_enter Try.func7, Try.ntmps7
    go_wp2_with (go_at_call 8; rw [← hW0]; refine (begun_any _).mono ?_; rintro e w1 ⟨rfl, b1⟩; have B1 := hB.below b1; have F1 := hFl.below b1; have x0 := B1.c 0 rfl; have x1 := B1.c 1 rfl; have f0 := F1.c 0 rfl; have f1 := F1.c 1 rfl)
    go_ret
    exact ⟨rfl, bel_call bW (Nat.le_refl _) b1⟩
theorem seals_walki (K : Int) (hK0 : 0 ≤ K) (hK : K ≤ 255) (c h : Int) (lp wp fp : Option Addr) (ln lc wn wc fn fc b : Nat) (L W : List Int) (F : List Wt) (w : World) (hL : Rd eI w lp lc L) (hW : Rd eI w wp wc W) (hF : Rd eW w fp fc F) (hln : L.length = ln) (hwn : W.length = wn) (hfn : F.length = fn) (hb9 : b < 4294967296) (hU : UL F) :
    Calls Try.prog 7 #[.int .u8 K, .agg #[.int .i64 c, .int .i64 h], .agg #[.slice lp ln lc, .slice wp wn wc], .agg #[.int .u32 (b : Int), .slice fp fn fc]] w fun e w' => e = .returned (.bool true) ∧ Below w.heap.size w w' := by
  obtain ⟨k, rfl⟩ := Int.eq_ofNat_of_zero_le hK0
  exact seals_walk k (by omega) c h lp wp fp ln lc wn wc fn fc b L W F w hL hW hF hln hwn hfn hb9 hU
end Go.Proofs.Ytcncpefdjgnhdaa
