/-
  What Drop of package obj hands back.
-/
import Derived.Test.YtcncpefdjgnhdaaStorq
import Derived.Test.YtcncpefdjgnhdaaTurns
import Derived.Test.YtcncpefdjgnhdaaStorep
namespace Go.Proofs.Ytcncpefdjgnhdaa
open Go.ChangeShapes Go.WideShapes Go.ChangeAt Go.RowKit
attribute [local go_sem ↓] Go.wp_at_zero Go.wp_at_succ

theorem At10.kd {w : World} {b o : Nat} {X : Tc} (h : At10 w b o X) : w.cell? ⟨b, o, none⟩ = some (.int .i64 X.k) := h.c0
set_option maxRecDepth 20000 in
set_option maxHeartbeats 2000000 in
theorem drop_any (x : Tw) (T : Tb) (N : Nat) (w : World) (ht : Tr w x T) (hw : Wf N T) (hN : N ≤ 1000) (a g : Int) (ha : (Lit.int .i64 a).wf = true) (hgw : (Lit.int .i64 g).wf = true) (B : Bool) (hB : drOk T a g = B) (n : Nat) (hn : (drW T a g).length = n) :
    Calls Try.prog 11 #[.agg #[.slice x.gp 12 x.gc, .slice x.ip 12 x.ic, .slice x.tp 12 x.tc], .agg #[.int .i64 a, .int .i64 g]] w fun e w' => ∃ (z : Tw) (p : Option Addr) (c : Nat), e = .returned (.tuple #[.agg #[.slice z.gp 12 z.gc, .slice z.ip 12 z.ic, .slice z.tp 12 z.tc], .slice p n c, .bool B]) ∧ Tr w' z (drR T a g) ∧ Rd eI w' p c (drW T a g) ∧ Below w.heap.size w w' := by
  obtain ⟨gp, gc, ip, ic, tp, tc⟩ := x
  dsimp only
  cases hh : Slo.hasM T.G T.I a g with
  | false =>
    have hB2 : B = false := by rw [← hB]; unfold drOk; rw [hh]; rfl
    subst hB2
    have HT : Hid (drR T a g = T) := by show _ = _; unfold drR; rw [hB]; rfl
    have HD : Hid (drW T a g = []) := by show _ = _; unfold drW; rw [hB]; rfl
    have hn0 : n = 0 := by rw [← hn, HD.out]; rfl
    subst hn0
    clear hn hB
    obtain ⟨W, hW⟩ : ∃ W, W = ((w.alloc (.cells #[.slice gp 12 gc, .slice ip 12 ic, .slice tp 12 tc] 30)).alloc (.cells #[.int .i64 a, .int .i64 g] 38)).alloc (.cells #[.slice none 0 0, .slice none 0 0, .slice none 0 0] 30) := ⟨_, rfl⟩
    have bW : Below w.heap.size w W := by rw [hW]; exact (((Below.refl _ _).alloc (Nat.le_refl _) _).alloc (by simp) _).alloc (by simp; omega) _
    have hsz : W.heap.size = w.heap.size + 3 := by rw [hW]; simp
    have hV : Vw W w.heap.size (⟨gp, gc, ip, ic, tp, tc⟩ : Tw) 30 := by rw [hW]; exact ((Vw.new _ (⟨gp, gc, ip, ic, tp, tc⟩ : Tw) _).below (bel_self _ _)).below (bel_self _ _)
    have hH : Lv W (w.heap.size + 1) #[.int .i64 a, .int .i64 g] 38 := by rw [hW]; exact Lv.below (heap_at (by simp)) (bel_self _ _)
    have hR : Lv W (w.heap.size + 1 + 1) #[.slice none 0 0, .slice none 0 0, .slice none 0 0] 30 := by rw [hW]; exact heap_at (by simp)
    have hT := ht.below bW
    go_enter Try.func11, Try.ntmps11
    go_wp2_with (first
      | (go_at_call 35; rw [← hW]; refine (clone_any (⟨gp, gc, ip, ic, tp, tc⟩ : Tw) T _ hT).mono ?_; rintro e w1 ⟨z, rfl, ⟨gl, xs, ow⟩, b1⟩; have s1 := bel_self w1 (.cells #[.slice z.gp 12 z.gc, .slice z.ip 12 z.ic, .slice z.tp 12 z.tc] 30); have a1 : Below W.heap.size W (w1.alloc (.cells #[.slice z.gp 12 z.gc, .slice z.ip 12 z.ic, .slice z.tp 12 z.tc] 30)) := b1.alloc b1.size _; have N1 : Vw (w1.alloc (.cells #[.slice z.gp 12 z.gc, .slice z.ip 12 z.ic, .slice z.tp 12 z.tc] 30)) w1.heap.size z 30 := Vw.new _ _ _; obtain ⟨c0, c1, c2⟩ := (hV.below a1).at; have h0 := (hH.below a1).c 0 rfl; have h1 := (hH.below a1).c 1 rfl)
      | (go_at_call 24; refine (find_any (⟨gp, gc, ip, ic, tp, tc⟩ : Tw) T N _ (hT.below a1) hw hN a g ha hgw 0 (by unfold fnA; rw [hh]; rfl) false hh).mono ?_; rintro e w2 ⟨rfl, b2⟩; have a2 := bel_call a1 (Nat.le_refl _) b2; have N2 := N1.below b2; have R2 := hR.below a2; clear c0 c1 c2 h0 h1; obtain ⟨c0, c1, c2⟩ := (hV.below a2).at; have h0 := (hH.below a2).c 0 rfl; have h1 := (hH.below a2).c 1 rfl; obtain ⟨e0, e1, e2⟩ := N2.at)
      | (refine wpList_stV (E := eTb) rfl 30 (.tmp 4) (.tmp 29) rfl size30 (w.heap.size + 1 + 1) _ R2 rfl z rfl rfl ?_; intro w9 L9 k9))
    have e9 := load30 L9
    have B9 : Below w.heap.size w w9 := bel_kp (bel_call bW (Nat.le_refl _) a2) k9 (by omega) (bel_call bW (Nat.le_refl _) a2).size
    refine bodyPost_ret (v := .tuple #[.agg #[.slice z.gp 12 z.gc, .slice z.ip 12 z.ic, .slice z.tp 12 z.tc], .slice none 0 0, .bool false]) (by simp [results, Try.results11, asAddr, e9]) rfl ⟨z, none, 0, rfl, ?_, ?_, B9⟩
    · rw [HT.out]
      exact ((ow.below (bel_call s1 (Nat.le_refl _) b2)).kp k9 (by omega)).tr
    · rw [HD.out]; exact Rd.nil _
  | true =>
    obtain ⟨ha0, ha12, hk0, hkI0, hkG⟩ := has_lt hw hh
    obtain ⟨k, rfl⟩ := Int.eq_ofNat_of_zero_le ha0
    have hk : k < 12 := by omega
    have hkI : (k : Int) < 12 := by omega
    have hkZ : (0 : Int) ≤ (k : Int) := by omega
    obtain ⟨b, o, X, e9, hb, hXw, hXo⟩ := ht.thing k hk
    dsimp only at e9
    subst e9
    have hXk : X.k ≠ 0 := fun h => hk0 (hXo.k.symm.trans h)
    clear ha0 ha12 hk0 hkI0 hkG
    by_cases h1k : X.k = 1
    · have x1 : (X.k == 1) = true := by simpa using h1k
      have x2 : decide (X.k = 1) = true := by simpa using h1k
      have hB2 : B = false := by
        rw [← hB]; unfold drOk; rw [hh]
        have h9 : ¬ (T.T.getD ((k : Int)).toNat th0).k ≠ 1 := fun h => h (hXo.k.symm.trans h1k)
        rw [decide_eq_false h9]
        rfl
      subst hB2
      have HT : Hid (drR T (k : Int) g = T) := by show _ = _; unfold drR; rw [hB]; rfl
      have HD : Hid (drW T (k : Int) g = []) := by show _ = _; unfold drW; rw [hB]; rfl
      have hn0 : n = 0 := by rw [← hn, HD.out]; rfl
      subst hn0
      clear hn hB h1k hXk
      obtain ⟨W, hW⟩ : ∃ W, W = ((w.alloc (.cells #[.slice gp 12 gc, .slice ip 12 ic, .slice (some ⟨b, o, none⟩) 12 tc] 30)).alloc (.cells #[.int .i64 (k : Int), .int .i64 g] 38)).alloc (.cells #[.slice none 0 0, .slice none 0 0, .slice none 0 0] 30) := ⟨_, rfl⟩
      have bW : Below w.heap.size w W := by rw [hW]; exact (((Below.refl _ _).alloc (Nat.le_refl _) _).alloc (by simp) _).alloc (by simp; omega) _
      have hsz : W.heap.size = w.heap.size + 3 := by rw [hW]; simp
      have hV : Vw W w.heap.size (⟨gp, gc, ip, ic, some ⟨b, o, none⟩, tc⟩ : Tw) 30 := by rw [hW]; exact ((Vw.new _ (⟨gp, gc, ip, ic, some ⟨b, o, none⟩, tc⟩ : Tw) _).below (bel_self _ _)).below (bel_self _ _)
      have hH : Lv W (w.heap.size + 1) #[.int .i64 (k : Int), .int .i64 g] 38 := by rw [hW]; exact Lv.below (heap_at (by simp)) (bel_self _ _)
      have hR : Lv W (w.heap.size + 1 + 1) #[.slice none 0 0, .slice none 0 0, .slice none 0 0] 30 := by rw [hW]; exact heap_at (by simp)
      have hT := ht.below bW
      go_enter Try.func11, Try.ntmps11
      go_wp2_with (first
        | (go_at_call 35; rw [← hW]; refine (clone_any (⟨gp, gc, ip, ic, some ⟨b, o, none⟩, tc⟩ : Tw) T _ hT).mono ?_; rintro e w1 ⟨z, rfl, ⟨gl, xs, ow⟩, b1⟩; have s1 := bel_self w1 (.cells #[.slice z.gp 12 z.gc, .slice z.ip 12 z.ic, .slice z.tp 12 z.tc] 30); have a1 : Below W.heap.size W (w1.alloc (.cells #[.slice z.gp 12 z.gc, .slice z.ip 12 z.ic, .slice z.tp 12 z.tc] 30)) := b1.alloc b1.size _; have N1 : Vw (w1.alloc (.cells #[.slice z.gp 12 z.gc, .slice z.ip 12 z.ic, .slice z.tp 12 z.tc] 30)) w1.heap.size z 30 := Vw.new _ _ _; obtain ⟨c0, c1, c2⟩ := (hV.below a1).at; have h0 := (hH.below a1).c 0 rfl; have h1 := (hH.below a1).c 1 rfl)
        | (go_at_call 24; refine (find_any (⟨gp, gc, ip, ic, some ⟨b, o, none⟩, tc⟩ : Tw) T N _ (hT.below a1) hw hN (k : Int) g ha hgw (k : Int) (by unfold fnA; rw [hh]; rfl) true hh).mono ?_; rintro e w2 ⟨rfl, b2⟩; have a2 := bel_call a1 (Nat.le_refl _) b2; have N2 := N1.below b2; have R2 := hR.below a2; clear c0 c1 c2 h0 h1; obtain ⟨c0, c1, c2⟩ := (hV.below a2).at; have h0 := (hH.below a2).c 0 rfl; have h1 := (hH.below a2).c 1 rfl; obtain ⟨e0, e1, e2⟩ := N2.at; obtain ⟨f0, f1, f2, f3, f4, f5, f6, f7, f8, f9⟩ := hXw.below (bel_call bW (Nat.le_refl _) a2) hb)
        | (refine wpList_stV (E := eTb) rfl 30 (.tmp 4) (.tmp 29) rfl size30 (w.heap.size + 1 + 1) _ R2 rfl z rfl rfl ?_; intro w9 L9 k9))
      have e9 := load30 L9
      have B9 : Below w.heap.size w w9 := bel_kp (bel_call bW (Nat.le_refl _) a2) k9 (by omega) (bel_call bW (Nat.le_refl _) a2).size
      refine bodyPost_ret (v := .tuple #[.agg #[.slice z.gp 12 z.gc, .slice z.ip 12 z.ic, .slice z.tp 12 z.tc], .slice none 0 0, .bool false]) (by simp [results, Try.results11, asAddr, e9]) rfl ⟨z, none, 0, rfl, ?_, ?_, B9⟩
      · rw [HT.out]
        exact ((ow.below (bel_call s1 (Nat.le_refl _) b2)).kp k9 (by omega)).tr
      · rw [HD.out]; exact Rd.nil _
    · have x1 : (X.k == 1) = false := by simpa using h1k
      have x2 : decide (X.k = 1) = false := by simpa using h1k
      have hB2 : B = true := by
        rw [← hB]; unfold drOk; rw [hh]
        have : (T.T.getD ((k : Int)).toNat th0).k ≠ 1 := fun h => h1k (hXo.k.trans h)
        simpa using this
      subst hB2
      have HT : Hid (drR T (k : Int) g = ⟨T.G, Slo.fb T.G T.I (k : Int) g, T.T.set k th0⟩) := by show _ = _; unfold drR; rw [hB]; rfl
      have HD : Hid (drW T (k : Int) g = waitT (T.T.getD k th0)) := by show _ = _; unfold drW; rw [hB]; rfl
      have hnw : X.wn + X.fn = n := by
        rw [← hn, HD.out]; unfold waitT
        rw [List.length_append, List.length_map, hXo.wn, hXo.fn]
      have HFL : Hid ((Slo.fb T.G T.I (k : Int) g).length = 12) := by show _ = _; rw [Slo.fb_len]; exact ht.il
      clear hn hB h1k hXk
      obtain ⟨W, hW⟩ : ∃ W, W = ((w.alloc (.cells #[.slice gp 12 gc, .slice ip 12 ic, .slice (some ⟨b, o, none⟩) 12 tc] 30)).alloc (.cells #[.int .i64 (k : Int), .int .i64 g] 38)).alloc (.cells #[.slice none 0 0, .slice none 0 0, .slice none 0 0] 30) := ⟨_, rfl⟩
      have bW : Below w.heap.size w W := by rw [hW]; exact (((Below.refl _ _).alloc (Nat.le_refl _) _).alloc (by simp) _).alloc (by simp; omega) _
      have hsz : W.heap.size = w.heap.size + 3 := by rw [hW]; simp
      have hV : Vw W w.heap.size (⟨gp, gc, ip, ic, some ⟨b, o, none⟩, tc⟩ : Tw) 30 := by rw [hW]; exact ((Vw.new _ (⟨gp, gc, ip, ic, some ⟨b, o, none⟩, tc⟩ : Tw) _).below (bel_self _ _)).below (bel_self _ _)
      have hH : Lv W (w.heap.size + 1) #[.int .i64 (k : Int), .int .i64 g] 38 := by rw [hW]; exact Lv.below (heap_at (by simp)) (bel_self _ _)
      have hR : Lv W (w.heap.size + 1 + 1) #[.slice none 0 0, .slice none 0 0, .slice none 0 0] 30 := by rw [hW]; exact heap_at (by simp)
      have hT := ht.below bW
      go_enter Try.func11, Try.ntmps11
      go_wp2_with (first
        | (go_at_call 35; rw [← hW]; refine (clone_any (⟨gp, gc, ip, ic, some ⟨b, o, none⟩, tc⟩ : Tw) T _ hT).mono ?_; rintro e w1 ⟨z, rfl, ⟨gl, xs, ow⟩, b1⟩; have s1 := bel_self w1 (.cells #[.slice z.gp 12 z.gc, .slice z.ip 12 z.ic, .slice z.tp 12 z.tc] 30); have a1 : Below W.heap.size W (w1.alloc (.cells #[.slice z.gp 12 z.gc, .slice z.ip 12 z.ic, .slice z.tp 12 z.tc] 30)) := b1.alloc b1.size _; have N1 : Vw (w1.alloc (.cells #[.slice z.gp 12 z.gc, .slice z.ip 12 z.ic, .slice z.tp 12 z.tc] 30)) w1.heap.size z 30 := Vw.new _ _ _; obtain ⟨c0, c1, c2⟩ := (hV.below a1).at; have h0 := (hH.below a1).c 0 rfl; have h1 := (hH.below a1).c 1 rfl)
        | (go_at_call 24; refine (find_any (⟨gp, gc, ip, ic, some ⟨b, o, none⟩, tc⟩ : Tw) T N _ (hT.below a1) hw hN (k : Int) g ha hgw (k : Int) (by unfold fnA; rw [hh]; rfl) true hh).mono ?_; rintro e w2 ⟨rfl, b2⟩; have a2 := bel_call a1 (Nat.le_refl _) b2; have N2 := N1.below b2; have R2 := hR.below a2; clear c0 c1 c2 h0 h1; obtain ⟨c0, c1, c2⟩ := (hV.below a2).at; have h0 := (hH.below a2).c 0 rfl; have h1 := (hH.below a2).c 1 rfl; obtain ⟨e0, e1, e2⟩ := N2.at; obtain ⟨f0, f1, f2, f3, f4, f5, f6, f7, f8, f9⟩ := hXw.below (bel_call bW (Nat.le_refl _) a2) hb)
        | (go_at_call 36; refine (free_t (⟨gp, gc, ip, ic, some ⟨b, o, none⟩, tc⟩ : Tw) T N _ (hT.below a2) hw hN (k : Int) g ha hgw true hh).mono ?_; rintro e w3 ⟨sp, sc, sq, sd, rfl, r1, r2, nn1, nn2, b3⟩; have N3 := N2.below b3; have a3 := bel_call a2 (Nat.le_refl _) b3; obtain ⟨e0, e1, e2⟩ := N3.at)
        | (refine wpList_stP rfl 27 (.tmp 37) (.tmp 35) rfl w1.heap.size 0 _ 30 N3 [.slice sp 12 sc, .slice sq 12 sd] size27p (by simp) (by intro v hv; simp at hv; rcases hv with rfl | rfl <;> rfl) rfl rfl ?_; intro w4 Q4 k4; have N4 : Vw w4 w1.heap.size (⟨sp, sc, sq, sd, z.tp, z.tc⟩ : Tw) 30 := Q4; have l1 := b1.size; have l2 := b2.size; have l3 := b3.size; have ls1 := s1.size; have lA : w1.heap.size < (w1.alloc (.cells #[.slice z.gp 12 z.gc, .slice z.ip 12 z.ic, .slice z.tp 12 z.tc] 30)).heap.size := (by simp); have a4 : Below W.heap.size W w4 := bel_kp a3 k4 l1 a3.size; have n4 : Below w1.heap.size w1 w4 := bel_kp (bel_call (bel_call s1 (Nat.le_refl _) b2) (Nat.le_refl _) b3) k4 (Nat.le_refl _) (by omega); have lg := own_lt ow.R; have ow4 := (ow.below n4).slots (rd_kpF r1 k4 (nn1.far (by omega))) (rd_kpF r2 k4 (nn2.far (by omega))) (fun b o e => by have := nn1 b o e; omega) (fun b o e => by have := nn2 b o e; omega) (nn1.far (by omega)) (nn2.far (by omega)) ht.gl HFL.out; clear e0 e1 e2; obtain ⟨e0, e1, e2⟩ := N4.at; dsimp only at e0 e1 e2; have ytp : z.tp = some ⟨gl, 0, none⟩ := ow4.tp; rw [ytp] at e2; clear ytp)
        | (refine wpList_stR (E := eT) rfl 58 (.tmp 42) (.tmp 41) rfl size58 W.heap.size gl _ _ ow4.R k (by rw [ow4.len]; exact hk) _ rfl tc0 rfl rfl ?_; intro w5 o5 k5))
      have hge := own_ge ow.R
      have hgv : w1.heap.size ≠ gl := by omega
      have N5 := Lv.kp N4 k5 hgv
      have R5 : Lv w5 (w.heap.size + 1 + 1) #[.slice none 0 0, .slice none 0 0, .slice none 0 0] 30 := (hR.below a4).kp k5 (by omega)
      have V5 : Vw w5 w.heap.size (⟨gp, gc, ip, ic, some ⟨b, o, none⟩, tc⟩ : Tw) 30 := Lv.kp (hV.below a4) k5 (by omega)
      have ow5 := ow4.put k k5 o5 (Ok.zero _) (Nt.nil _ _ 0 0 0 0 0)
      have bw4 := bel_call bW (Nat.le_refl _) a4
      have B5 : Below w.heap.size w w5 := bel_kp bw4 k5 (by omega) bw4.size
      have lgv5 : w1.heap.size < w5.heap.size := Lv.lt N5
      clear e0 e1 e2 c0 c1 c2 h0 h1 N4 Q4 ow4 N1 N2 N3 R2 r1 r2 f0 f1 f2 f3 f4 f5 f6 f7 f8 f9
      refine wp_region_held_drew (S := fun w' => w'.heap[w1.heap.size]? = w5.heap[w1.heap.size]? ∧ w'.heap[w.heap.size]? = w5.heap[w.heap.size]? ∧ Below w.heap.size w w') (by kernel_rfl) ⟨rfl, rfl, B5.drew⟩ (fun hHeld => ?_)
      refine wpAnyH_take (i := 0) (oi := _) (v := ?_) rfl (by kernel_rfl) (by kernel_rfl) (by kernel_rfl) (fun _ _ _ h => h) (Or.inl ⟨by rfl, ?_⟩) hHeld ?_
      rotate_left
      · intro w' hSw
        obtain ⟨e0, e1, e2⟩ := Vw.at (show Vw w' w1.heap.size (⟨sp, sc, sq, sd, z.tp, z.tc⟩ : Tw) 30 from hSw.1.trans N5)
        obtain ⟨c0, c1, c2⟩ := Vw.at (show Vw w' w.heap.size (⟨gp, gc, ip, ic, some ⟨b, o, none⟩, tc⟩ : Tw) 30 from hSw.2.1.trans V5)
        obtain ⟨f0, f1, f2, f3, f4, f5, f6, f7, f8, f9⟩ := hXw.below hSw.2.2 hb
        (go_simp <;> with_reducible rfl)
      try simp only [Act.put, List.getElem_toArray, List.getElem_cons_zero, List.setIfInBounds_toArray, List.set_cons_zero, List.set_cons_succ]
      refine wpAnyH_take (i := 1) (oi := _) (v := ?_) rfl (by kernel_rfl) (by kernel_rfl) (by kernel_rfl) (fun _ _ _ h => h) (Or.inl ⟨by rfl, ?_⟩) hHeld ?_
      rotate_left
      · intro w' hSw
        (go_simp <;> with_reducible rfl)
      try simp only [Act.put, List.getElem_toArray, List.getElem_cons_succ, List.getElem_cons_zero, List.setIfInBounds_toArray, List.set_cons_zero, List.set_cons_succ]
      refine wpAnyH_take (i := 2) (oi := _) (v := ?_) rfl (by kernel_rfl) (by kernel_rfl) (by kernel_rfl) (fun _ _ _ h => h) (Or.inl ⟨by rfl, ?_⟩) hHeld ?_
      rotate_left
      · intro w' hSw
        obtain ⟨e0, e1, e2⟩ := Vw.at (show Vw w' w1.heap.size (⟨sp, sc, sq, sd, z.tp, z.tc⟩ : Tw) 30 from hSw.1.trans N5)
        obtain ⟨c0, c1, c2⟩ := Vw.at (show Vw w' w.heap.size (⟨gp, gc, ip, ic, some ⟨b, o, none⟩, tc⟩ : Tw) 30 from hSw.2.1.trans V5)
        obtain ⟨f0, f1, f2, f3, f4, f5, f6, f7, f8, f9⟩ := hXw.below hSw.2.2 hb
        (go_simp <;> with_reducible rfl)
      try simp only [Act.put, List.getElem_toArray, List.getElem_cons_succ, List.getElem_cons_zero, List.setIfInBounds_toArray, List.set_cons_zero, List.set_cons_succ]
      refine wpAnyH_take (i := 3) (oi := _) (v := ?_) rfl (by kernel_rfl) (by kernel_rfl) (by kernel_rfl) (fun _ _ _ h => h) (Or.inl ⟨by rfl, ?_⟩) hHeld ?_
      rotate_left
      · intro w' hSw
        (go_simp <;> with_reducible rfl)
      try simp only [Act.put, List.getElem_toArray, List.getElem_cons_succ, List.getElem_cons_zero, List.setIfInBounds_toArray, List.set_cons_zero, List.set_cons_succ]
      refine wpAnyH_take (i := 4) (oi := _) (v := ?_) rfl (by kernel_rfl) (by kernel_rfl) (by kernel_rfl) (fun _ _ _ h => h) (Or.inl ⟨by rfl, ?_⟩) hHeld ?_
      rotate_left
      · intro w' hSw
        (go_simp <;> with_reducible rfl)
      try simp only [Act.put, List.getElem_toArray, List.getElem_cons_succ, List.getElem_cons_zero, List.setIfInBounds_toArray, List.set_cons_zero, List.set_cons_succ]
      refine wpAnyH_take (i := 5) (oi := _) (v := ?_) rfl (by kernel_rfl) (by kernel_rfl) (by kernel_rfl) (fun _ _ _ h => h) (Or.inl ⟨by rfl, ?_⟩) hHeld ?_
      rotate_left
      · intro w' hSw
        obtain ⟨e0, e1, e2⟩ := Vw.at (show Vw w' w1.heap.size (⟨sp, sc, sq, sd, z.tp, z.tc⟩ : Tw) 30 from hSw.1.trans N5)
        obtain ⟨c0, c1, c2⟩ := Vw.at (show Vw w' w.heap.size (⟨gp, gc, ip, ic, some ⟨b, o, none⟩, tc⟩ : Tw) 30 from hSw.2.1.trans V5)
        obtain ⟨f0, f1, f2, f3, f4, f5, f6, f7, f8, f9⟩ := hXw.below hSw.2.2 hb
        (go_simp <;> with_reducible rfl)
      try simp only [Act.put, List.getElem_toArray, List.getElem_cons_succ, List.getElem_cons_zero, List.setIfInBounds_toArray, List.set_cons_zero, List.set_cons_succ]
      refine wpAnyH_ready (rs := [6]) (by kernel_rfl) (by simp) ?_
      refine AllReadyH.cons (o := _) rfl (fun K hK => ?_) (AllReadyH.nil)
      go_simp
      go_at_call 37; refine (waiting_any X _ _ (hXo.below hHeld.2.2) n hnw).mono ?_
      rintro e w6 ⟨p6, c6, rfl, o6, b6'⟩
      have b6 : Below w5.heap.size w5 w6 := (Below.refl _ _).drew.trans b6'
      have hS6 : w6.heap[w1.heap.size]? = w5.heap[w1.heap.size]? ∧ w6.heap[w.heap.size]? = w5.heap[w.heap.size]? ∧ Below w.heap.size w w6 := ⟨b6.block _ lgv5, b6.block _ V5.lt, bel_call B5 (Nat.le_refl _) b6⟩
      refine hK.out _ _ hS6 (fun hHeld => ?_)
      clear hK K
      try simp only [Act.put, List.getElem_toArray, List.getElem_cons_succ, List.getElem_cons_zero, List.setIfInBounds_toArray, List.set_cons_zero, List.set_cons_succ]
      refine wpAnyH_ready (rs := [7]) (by kernel_rfl) (by simp) ?_
      refine AllReadyH.cons (o := _) rfl (fun K hK => ?_) (AllReadyH.nil)
      have R6 := R5.below b6
      refine step_stV (E := eTb) rfl 30 _ _ rfl size30 (w.heap.size + 1 + 1) _ R6 rfl (⟨sp, sc, sq, sd, z.tp, z.tc⟩ : Tw) rfl rfl ?_
      intro w7 L7 k7
      have B7 : Below w.heap.size w w7 := bel_kp hS6.2.2 k7 (by omega) hS6.2.2.size
      have lg6 := b6.size
      have hS7 : w7.heap[w1.heap.size]? = w5.heap[w1.heap.size]? ∧ w7.heap[w.heap.size]? = w5.heap[w.heap.size]? ∧ Below w.heap.size w w7 := ⟨(k7.block _ (by omega) (by intro h; have h := Option.some.inj h; omega)).trans hS6.1, (k7.block _ (by have := V5.lt; omega) (by intro h; have h := Option.some.inj h; omega)).trans hS6.2.1, B7⟩
      refine hK.out _ _ hS7 (fun hHeld => ?_)
      clear hK K
      try simp only [Act.put, List.getElem_toArray, List.getElem_cons_succ, List.getElem_cons_zero]
      refine wpAnyH_take (i := 8) (oi := _) (v := ?_) rfl (by kernel_rfl) (by kernel_rfl) (by kernel_rfl) (fun _ _ _ h => h) (Or.inl ⟨by rfl, ?_⟩) hHeld ?_
      rotate_left
      · intro w' hSw
        (go_simp <;> with_reducible rfl)
      try simp only [Act.put, List.getElem_toArray, List.getElem_cons_succ, List.getElem_cons_zero, List.setIfInBounds_toArray, List.set_cons_zero, List.set_cons_succ]
      refine wpAnyH_take (i := 9) (oi := _) (v := ?_) rfl (by kernel_rfl) (by kernel_rfl) (by kernel_rfl) (fun _ _ _ h => h) (Or.inl ⟨by rfl, ?_⟩) hHeld ?_
      rotate_left
      · intro w' hSw
        (go_simp <;> with_reducible rfl)
      try simp only [Act.put, List.getElem_toArray, List.getElem_cons_succ, List.getElem_cons_zero, List.setIfInBounds_toArray, List.set_cons_zero, List.set_cons_succ]
      refine wpAnyH_done (by kernel_rfl) ?_ _
      have e9 := load30 L7
      have l5 := B5.size
      have o7 := own_kp o6 k7 (by have hdz : w5.drew.heap.size = w5.heap.size := rfl; omega)
      go_wp2
      refine bodyPost_ret (v := .tuple #[.agg #[.slice sp 12 sc, .slice sq 12 sd, .slice z.tp 12 z.tc], .slice p6 n c6, .bool true]) (by simp [results, Try.results11, asAddr, e9]) rfl ⟨⟨sp, sc, sq, sd, z.tp, z.tc⟩, p6, c6, rfl, ?_, ?_, B7⟩
      · rw [HT.out]
        exact ((ow5.below b6).kp k7 (by omega)).tr
      · rw [HD.out]; exact own_rd o7
end Go.Proofs.Ytcncpefdjgnhdaa
