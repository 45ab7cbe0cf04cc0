/-
  What Drop of the document hands back.
-/
import Derived.Test.YtcncpefdjgnhdaaStorq
import Derived.Test.YtcncpefdjgnhdaaTurnr
import Derived.Test.YtcncpefdjgnhdaaWaitr
import Derived.Test.YtcncpefdjgnhdaaStorep
namespace Go.Proofs.Ytcncpefdjgnhdaa
open Go.ChangeShapes Go.WideShapes Go.ChangeAt Go.RowKit
attribute [local go_sem ↓] Go.wp_at_zero Go.wp_at_succ

set_option maxRecDepth 20000 in
set_option maxHeartbeats 2000000 in
theorem rdrop_any (x : Tw) (T : Tb) (N : Nat) (w : World) (ht : Tr w x T) (hw : Wf N T) (hN : N ≤ 1000) (a g : Int) (B : Bool) (hB : drOk T a g = B) (n : Nat) (hn : (drW T a g).length = n) :
    Calls Try.prog 12 #[.agg #[.slice x.gp 12 x.gc, .slice x.ip 12 x.ic, .slice x.tp 12 x.tc], .agg #[.int .i64 a, .int .i64 g]] w fun e w' => ∃ (z : Tw) (p : Option Addr) (c : Nat), e = .returned (.tuple #[.agg #[.slice z.gp 12 z.gc, .slice z.ip 12 z.ic, .slice z.tp 12 z.tc], .slice p n c, .bool B]) ∧ Tr w' z (drR T a g) ∧ Rd eI w' p c (drW T a g) ∧ Below w.heap.size w w' := by
  obtain ⟨gp, gc, ip, ic, tp, tc⟩ := x
  dsimp only
  cases hh : Slo.hasM T.G T.I a g with
  | false =>
    have hB2 : B = false := by rw [← hB]; unfold drOk; rw [hh]; rfl
    subst hB2
    have HT : Hid (drR T a g = T) := by show _ = _; unfold drR; rw [hB]; rfl
    have HD : Hid (drW T a g = []) := by show _ = _; unfold drW; rw [hB]; rfl
    have hn0 : n = 0 := by rw [← hn, HD.out]; rfl
    subst hn0
    clear hn hB
    obtain ⟨W, hW⟩ : ∃ W, W = ((w.alloc (.cells #[.slice gp 12 gc, .slice ip 12 ic, .slice tp 12 tc] 35)).alloc (.cells #[.int .i64 a, .int .i64 g] 38)).alloc (.cells #[.slice none 0 0, .slice none 0 0, .slice none 0 0] 35) := ⟨_, rfl⟩
    have bW : Below w.heap.size w W := by rw [hW]; exact (((Below.refl _ _).alloc (Nat.le_refl _) _).alloc (by simp) _).alloc (by simp; omega) _
    have hsz : W.heap.size = w.heap.size + 3 := by rw [hW]; simp
    have hV : Vw W w.heap.size (⟨gp, gc, ip, ic, tp, tc⟩ : Tw) 35 := by rw [hW]; exact ((Vw.new _ (⟨gp, gc, ip, ic, tp, tc⟩ : Tw) _).below (bel_self _ _)).below (bel_self _ _)
    have hH : Lv W (w.heap.size + 1) #[.int .i64 a, .int .i64 g] 38 := by rw [hW]; exact Lv.below (heap_at (by simp)) (bel_self _ _)
    have hR : Lv W (w.heap.size + 1 + 1) #[.slice none 0 0, .slice none 0 0, .slice none 0 0] 35 := by rw [hW]; exact heap_at (by simp)
    have hT := ht.below bW
    go_enter Try.func12, Try.ntmps12
    go_wp2_with (first
      | (go_at_call 25; rw [← hW]; refine (rfind_any (⟨gp, gc, ip, ic, tp, tc⟩ : Tw) T N _ hT hw hN a g 0 (by unfold fnA; rw [hh]; rfl) false hh).mono ?_; rintro e w2 ⟨rfl, b2⟩; have R2 := hR.below b2; obtain ⟨c0, c1, c2⟩ := (hV.below b2).at; have h0 := (hH.below b2).c 0 rfl; have h1 := (hH.below b2).c 1 rfl)
      | (refine wpList_stV (E := eTb) rfl 35 (.tmp 4) (.tmp 28) rfl size35 (w.heap.size + 1 + 1) _ R2 rfl (⟨gp, gc, ip, ic, tp, tc⟩ : Tw) rfl rfl ?_; intro w9 L9 k9))
    have e9 := load35 L9
    have B9 : Below w.heap.size w w9 := bel_kp (bel_call bW (Nat.le_refl _) b2) k9 (by omega) (bel_call bW (Nat.le_refl _) b2).size
    refine bodyPost_ret (v := .tuple #[.agg #[.slice gp 12 gc, .slice ip 12 ic, .slice tp 12 tc], .slice none 0 0, .bool false]) (by simp [results, Try.results12, asAddr, e9]) rfl ⟨(⟨gp, gc, ip, ic, tp, tc⟩ : Tw), none, 0, rfl, ?_, ?_, B9⟩
    · rw [HT.out]
      exact ht.below B9
    · rw [HD.out]; exact Rd.nil _
  | true =>
    obtain ⟨ha0, ha12, hk0, hkI0, hkG⟩ := has_lt hw hh
    obtain ⟨k, rfl⟩ := Int.eq_ofNat_of_zero_le ha0
    have hk : k < 12 := by omega
    have hkI : (k : Int) < 12 := by omega
    have hkZ : (0 : Int) ≤ (k : Int) := by omega
    obtain ⟨b, o, X, e9, hb, hXw, hXo⟩ := ht.thing k hk
    dsimp only at e9
    subst e9
    clear ha0 ha12 hk0 hkI0 hkG
    by_cases h1k : X.k = 1
    · have x1 : (X.k == 1) = true := by simpa using h1k
      have x2 : decide (X.k = 1) = true := by simpa using h1k
      have hB2 : B = false := by
        rw [← hB]; unfold drOk; rw [hh]
        have h9 : ¬ (T.T.getD ((k : Int)).toNat th0).k ≠ 1 := fun h => h (hXo.k.symm.trans h1k)
        rw [decide_eq_false h9]
        rfl
      subst hB2
      have HT : Hid (drR T (k : Int) g = T) := by show _ = _; unfold drR; rw [hB]; rfl
      have HD : Hid (drW T (k : Int) g = []) := by show _ = _; unfold drW; rw [hB]; rfl
      have hn0 : n = 0 := by rw [← hn, HD.out]; rfl
      subst hn0
      clear hn hB h1k
      obtain ⟨W, hW⟩ : ∃ W, W = ((w.alloc (.cells #[.slice gp 12 gc, .slice ip 12 ic, .slice (some ⟨b, o, none⟩) 12 tc] 35)).alloc (.cells #[.int .i64 (k : Int), .int .i64 g] 38)).alloc (.cells #[.slice none 0 0, .slice none 0 0, .slice none 0 0] 35) := ⟨_, rfl⟩
      have bW : Below w.heap.size w W := by rw [hW]; exact (((Below.refl _ _).alloc (Nat.le_refl _) _).alloc (by simp) _).alloc (by simp; omega) _
      have hsz : W.heap.size = w.heap.size + 3 := by rw [hW]; simp
      have hV : Vw W w.heap.size (⟨gp, gc, ip, ic, some ⟨b, o, none⟩, tc⟩ : Tw) 35 := by rw [hW]; exact ((Vw.new _ (⟨gp, gc, ip, ic, some ⟨b, o, none⟩, tc⟩ : Tw) _).below (bel_self _ _)).below (bel_self _ _)
      have hH : Lv W (w.heap.size + 1) #[.int .i64 (k : Int), .int .i64 g] 38 := by rw [hW]; exact Lv.below (heap_at (by simp)) (bel_self _ _)
      have hR : Lv W (w.heap.size + 1 + 1) #[.slice none 0 0, .slice none 0 0, .slice none 0 0] 35 := by rw [hW]; exact heap_at (by simp)
      have hT := ht.below bW
      go_enter Try.func12, Try.ntmps12
      go_wp2_with (first
        | (go_at_call 25; rw [← hW]; refine (rfind_any (⟨gp, gc, ip, ic, some ⟨b, o, none⟩, tc⟩ : Tw) T N _ hT hw hN (k : Int) g (k : Int) (by unfold fnA; rw [hh]; rfl) true hh).mono ?_; rintro e w2 ⟨rfl, b2⟩; have R2 := hR.below b2; obtain ⟨c0, c1, c2⟩ := (hV.below b2).at; have h0 := (hH.below b2).c 0 rfl; have h1 := (hH.below b2).c 1 rfl; obtain ⟨f0, f1, f2, f3, f4, f5, f6, f7, f8, f9⟩ := hXw.below (bel_call bW (Nat.le_refl _) b2) hb)
        | (refine wpList_stV (E := eTb) rfl 35 (.tmp 4) (.tmp 28) rfl size35 (w.heap.size + 1 + 1) _ R2 rfl (⟨gp, gc, ip, ic, some ⟨b, o, none⟩, tc⟩ : Tw) rfl rfl ?_; intro w9 L9 k9))
      have e9 := load35 L9
      have B9 : Below w.heap.size w w9 := bel_kp (bel_call bW (Nat.le_refl _) b2) k9 (by omega) (bel_call bW (Nat.le_refl _) b2).size
      refine bodyPost_ret (v := .tuple #[.agg #[.slice gp 12 gc, .slice ip 12 ic, .slice (some ⟨b, o, none⟩) 12 tc], .slice none 0 0, .bool false]) (by simp [results, Try.results12, asAddr, e9]) rfl ⟨(⟨gp, gc, ip, ic, some ⟨b, o, none⟩, tc⟩ : Tw), none, 0, rfl, ?_, ?_, B9⟩
      · rw [HT.out]
        exact ht.below B9
      · rw [HD.out]; exact Rd.nil _
    · have x1 : (X.k == 1) = false := by simpa using h1k
      have x2 : decide (X.k = 1) = false := by simpa using h1k
      have hB2 : B = true := by
        rw [← hB]; unfold drOk; rw [hh]
        have : (T.T.getD ((k : Int)).toNat th0).k ≠ 1 := fun h => h1k (hXo.k.trans h)
        simpa using this
      subst hB2
      have HT : Hid (drR T (k : Int) g = ⟨T.G, Slo.fb T.G T.I (k : Int) g, T.T.set k th0⟩) := by show _ = _; unfold drR; rw [hB]; rfl
      have HD : Hid (drW T (k : Int) g = waitT (T.T.getD k th0)) := by show _ = _; unfold drW; rw [hB]; rfl
      have hnw : X.wn + X.fn = n := by
        rw [← hn, HD.out]; unfold waitT
        rw [List.length_append, List.length_map, hXo.wn, hXo.fn]
      have HFL : Hid ((Slo.fb T.G T.I (k : Int) g).length = 12) := by show _ = _; rw [Slo.fb_len]; exact ht.il
      obtain ⟨xs, hxs, hts⟩ := ht.R
      have HXL : Hid (xs.length = 12) := by show _ = _; rw [hts.1, ht.tl]
      clear hn hB h1k
      obtain ⟨W, hW⟩ : ∃ W, W = ((w.alloc (.cells #[.slice gp 12 gc, .slice ip 12 ic, .slice (some ⟨b, o, none⟩) 12 tc] 35)).alloc (.cells #[.int .i64 (k : Int), .int .i64 g] 38)).alloc (.cells #[.slice none 0 0, .slice none 0 0, .slice none 0 0] 35) := ⟨_, rfl⟩
      have bW : Below w.heap.size w W := by rw [hW]; exact (((Below.refl _ _).alloc (Nat.le_refl _) _).alloc (by simp) _).alloc (by simp; omega) _
      have hsz : W.heap.size = w.heap.size + 3 := by rw [hW]; simp
      have hV : Vw W w.heap.size (⟨gp, gc, ip, ic, some ⟨b, o, none⟩, tc⟩ : Tw) 35 := by rw [hW]; exact ((Vw.new _ (⟨gp, gc, ip, ic, some ⟨b, o, none⟩, tc⟩ : Tw) _).below (bel_self _ _)).below (bel_self _ _)
      have hH : Lv W (w.heap.size + 1) #[.int .i64 (k : Int), .int .i64 g] 38 := by rw [hW]; exact Lv.below (heap_at (by simp)) (bel_self _ _)
      have hR : Lv W (w.heap.size + 1 + 1) #[.slice none 0 0, .slice none 0 0, .slice none 0 0] 35 := by rw [hW]; exact heap_at (by simp)
      have hT := ht.below bW
      go_enter Try.func12, Try.ntmps12
      go_wp2_with (first
        | (go_at_call 25; rw [← hW]; refine (rfind_any (⟨gp, gc, ip, ic, some ⟨b, o, none⟩, tc⟩ : Tw) T N _ hT hw hN (k : Int) g (k : Int) (by unfold fnA; rw [hh]; rfl) true hh).mono ?_; rintro e w2 ⟨rfl, b2⟩; have R2 := hR.below b2; obtain ⟨c0, c1, c2⟩ := (hV.below b2).at; have h0 := (hH.below b2).c 0 rfl; have h1 := (hH.below b2).c 1 rfl; obtain ⟨f0, f1, f2, f3, f4, f5, f6, f7, f8, f9⟩ := hXw.below (bel_call bW (Nat.le_refl _) b2) hb)
        | (go_at_call 38; refine (rwaiting_any X _ _ (hXo.below (bel_call bW (Nat.le_refl _) b2)) n hnw).mono ?_; rintro e w3 ⟨p3, c3, rfl, o3, b3⟩; have a3 := bel_call b2 (Nat.le_refl _) b3; clear c0 c1 c2 h0 h1 f0 f1 f2 f3 f4 f5 f6 f7 f8 f9; obtain ⟨c0, c1, c2⟩ := (hV.below a3).at; have h0 := (hH.below a3).c 0 rfl; have h1 := (hH.below a3).c 1 rfl)
        | (go_at_call 39; refine (with_own (⟨gp, gc, ip, ic, some ⟨b, o, none⟩, tc⟩ : Tw) xs _ (hxs.below (bel_call bW (Nat.le_refl _) a3)) HXL.out k hk tc0).mono ?_; rintro e w4 ⟨p4, c4, rfl, o4, b4⟩; have a4 := bel_call a3 (Nat.le_refl _) b4; have s4 := bel_self w4 (.cells #[.slice gp 12 gc, .slice ip 12 ic, .slice p4 12 c4] 35); have a5 : Below W.heap.size W (w4.alloc (.cells #[.slice gp 12 gc, .slice ip 12 ic, .slice p4 12 c4] 35)) := a4.alloc a4.size _; have N5 : Vw (w4.alloc (.cells #[.slice gp 12 gc, .slice ip 12 ic, .slice p4 12 c4] 35)) w4.heap.size (⟨gp, gc, ip, ic, p4, c4⟩ : Tw) 35 := Vw.new _ (⟨gp, gc, ip, ic, p4, c4⟩ : Tw) _; clear c0 c1 c2 h0 h1; obtain ⟨c0, c1, c2⟩ := (hV.below a5).at; have h0 := (hH.below a5).c 0 rfl; have h1 := (hH.below a5).c 1 rfl)
        | (go_at_call 40; refine (rfree_t (⟨gp, gc, ip, ic, some ⟨b, o, none⟩, tc⟩ : Tw) T N _ (ht.below (bel_call bW (Nat.le_refl _) a5)) hw hN (k : Int) g true hh).mono ?_; rintro e w6 ⟨sp, sc, sq, sd, rfl, r1, r2, nn1, nn2, b6⟩; have N6 := N5.below b6; have a6 := bel_call a5 (Nat.le_refl _) b6)
        | (refine wpList_stP rfl 32 (.tmp 46) (.tmp 44) rfl w4.heap.size 0 _ 35 N6 [.slice sp 12 sc, .slice sq 12 sd] size32p (by simp) (by intro v hv; simp at hv; rcases hv with rfl | rfl <;> rfl) rfl rfl ?_; intro w7 Q7 k7; have N7 : Vw w7 w4.heap.size (⟨sp, sc, sq, sd, p4, c4⟩ : Tw) 35 := Q7; have l6 := b6.size; have l4 := a4.size; have a7 : Below W.heap.size W w7 := bel_kp a6 k7 l4 a6.size; have R7 := hR.below a7; obtain ⟨e0, e1, e2⟩ := N7.at)
        | (refine wpList_stV (E := eTb) rfl 35 (.tmp 4) (.tmp 47) rfl size35 (w.heap.size + 1 + 1) _ R7 rfl (⟨sp, sc, sq, sd, p4, c4⟩ : Tw) rfl rfl ?_; intro w9 L9 k9))
      have e9 := load35 L9
      have bw7 := bel_call bW (Nat.le_refl _) a7
      have B9 : Below w.heap.size w w9 := bel_kp bw7 k9 (by omega) bw7.size
      have ls4 : w4.heap.size < (w4.alloc (.cells #[.slice gp 12 gc, .slice ip 12 ic, .slice p4 12 c4] 35)).heap.size := by simp
      have l2 := b2.size
      have l3 := b3.size
      have l4' := b4.size
      have o7 : Own eT w7 w3.heap.size 56 p4 c4 (xs.set k tc0) := own_block_eq (own_below (own_below o4 s4) b6) (fun b o e => k7.block b (by subst e; have := own_lt o4; omega) (by intro h; have h := Option.some.inj h; subst e; have := own_lt o4; omega))
      have o9 := own_kp o7 k9 (by omega)
      have q7 := own_block_eq (w' := w7) (own_below (own_below (own_below o3 b4) s4) b6) (fun b o e => k7.block b (by subst e; have := own_lt o3; omega) (by intro h; have h := Option.some.inj h; subst e; have := own_lt o3; omega))
      have q9 := own_kp q7 k9 (by omega)
      have r1' := rd_kpF (rd_kpF r1 k7 (nn1.far (by omega))) k9 (nn1.far (by omega))
      have r2' := rd_kpF (rd_kpF r2 k7 (nn2.far (by omega))) k9 (nn2.far (by omega))
      refine bodyPost_ret (v := .tuple #[.agg #[.slice sp 12 sc, .slice sq 12 sd, .slice p4 12 c4], .slice p3 n c3, .bool true]) (by simp [results, Try.results12, asAddr, e9]) rfl ⟨⟨sp, sc, sq, sd, p4, c4⟩, p3, c3, rfl, ?_, ?_, B9⟩
      · rw [HT.out]
        exact ⟨r1', r2', ⟨_, own_rd o9, (hts.below B9).set k (Ok.zero _)⟩, ht.gl, HFL.out, by simp [ht.tl]⟩
      · rw [HD.out]; exact own_rd q9
end Go.Proofs.Ytcncpefdjgnhdaa
