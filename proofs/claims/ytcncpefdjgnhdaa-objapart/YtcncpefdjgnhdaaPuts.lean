/-
  What Put of package obj hands back.
-/
import Derived.Test.YtcncpefdjgnhdaaTurns
import Derived.Test.YtcncpefdjgnhdaaStorep
namespace Go.Proofs.Ytcncpefdjgnhdaa
open Go.ChangeShapes Go.WideShapes Go.ChangeAt Go.RowKit
attribute [local go_sem ↓] Go.wp_at_zero Go.wp_at_succ

set_option maxRecDepth 20000 in
set_option maxHeartbeats 3000000 in
theorem put_any (x : Tw) (T : Tb) (w : World) (ht : Tr w x T) (p : Int) (y : Tc) (u : Th) (hy : Ok w y u) :
    Calls Try.prog 14 #[.agg #[.slice x.gp 12 x.gc, .slice x.ip 12 x.ic, .slice x.tp 12 x.tc], .int .i64 p, .agg #[.int .i64 y.k, .int .i64 y.a, .int .i64 y.g, .int .i64 y.c, .int .i64 y.h, .slice y.lp y.ln y.lc, .slice y.wp y.wn y.wc, .int .u32 (y.b : Int), .slice y.fp y.fn y.fc, .int .u32 (y.s : Int)]] w fun e w' => ∃ z : Tw, e = .returned (.agg #[.slice z.gp 12 z.gc, .slice z.ip 12 z.ic, .slice z.tp 12 z.tc]) ∧ Tr w' z (ptR T p u.c u.h u.L u.W u.b u.F) ∧ Below w.heap.size w w' := by
  obtain ⟨gp, gc, ip, ic, tp, tc⟩ := x
  dsimp only
  cases hB : isThere T.T p with
  | false =>
    have HT : Hid (ptR T p u.c u.h u.L u.W u.b u.F = T) := by show _ = _; unfold ptR; rw [hB]; rfl
    obtain ⟨W, hW⟩ : ∃ W, W = ((w.alloc (.cells #[.slice gp 12 gc, .slice ip 12 ic, .slice tp 12 tc] 30)).alloc (.cells #[.int .i64 y.k, .int .i64 y.a, .int .i64 y.g, .int .i64 y.c, .int .i64 y.h, .slice y.lp y.ln y.lc, .slice y.wp y.wn y.wc, .int .u32 (y.b : Int), .slice y.fp y.fn y.fc, .int .u32 (y.s : Int)] 58)).alloc (.cells #[.slice none 0 0, .slice none 0 0, .slice none 0 0] 30) := ⟨_, rfl⟩
    have bW : Below w.heap.size w W := by rw [hW]; exact (((Below.refl _ _).alloc (Nat.le_refl _) _).alloc (by simp) _).alloc (by simp; omega) _
    have hsz : W.heap.size = w.heap.size + 3 := by rw [hW]; simp
    have hV : Vw W w.heap.size ⟨gp, gc, ip, ic, tp, tc⟩ 30 := by rw [hW]; exact ((Vw.new _ (⟨gp, gc, ip, ic, tp, tc⟩ : Tw) _).below (bel_self _ _)).below (bel_self _ _)
    have hR : Lv W (w.heap.size + 1 + 1) #[.slice none 0 0, .slice none 0 0, .slice none 0 0] 30 := by rw [hW]; exact heap_at (by simp)
    have hT := ht.below bW
    go_enter Try.func14, Try.ntmps14
    go_wp2_with (first
      | (go_at_call 35; rw [← hW]; refine (clone_any ⟨gp, gc, ip, ic, tp, tc⟩ T _ hT).mono ?_; rintro e w1 ⟨z, rfl, ⟨g, xs, ow⟩, b1⟩; have s1 := bel_self w1 (.cells #[.slice z.gp 12 z.gc, .slice z.ip 12 z.ic, .slice z.tp 12 z.tc] 30); have bA : Below W.heap.size W (w1.alloc (.cells #[.slice z.gp 12 z.gc, .slice z.ip 12 z.ic, .slice z.tp 12 z.tc] 30)) := b1.alloc b1.size _; have V1 := (hV.below b1).below s1; have N1 : Vw (w1.alloc (.cells #[.slice z.gp 12 z.gc, .slice z.ip 12 z.ic, .slice z.tp 12 z.tc] 30)) w1.heap.size z 30 := Vw.new _ _ _; have ow1 := ow.below s1; obtain ⟨c0, c1, c2⟩ := V1.at)
      | (go_at_call 41; refine (there_any ⟨gp, gc, ip, ic, tp, tc⟩ T _ (hT.below bA) p false hB).mono ?_; rintro e w2 ⟨rfl, b2⟩; have bB := bel_call bA (Nat.le_refl _) b2; have N2 := N1.below b2; have R2 := hR.below bB; have ow2 := ow1.below b2; obtain ⟨e0, e1, e2⟩ := N2.at)
      | (refine wpList_stV (E := eTb) rfl 30 (.tmp 6) (.tmp 16) rfl size30 (w.heap.size + 1 + 1) _ R2 rfl z rfl rfl ?_; intro w9 L9 k9))
    have e9 := load30 L9
    have B9 : Below w.heap.size w w9 := bel_kp (bel_call bW (Nat.le_refl _) bB) k9 (by omega) (bel_call bW (Nat.le_refl _) bB).size
    refine bodyPost_ret (v := .agg #[.slice z.gp 12 z.gc, .slice z.ip 12 z.ic, .slice z.tp 12 z.tc]) (by simp [results, Try.results14, asAddr, Act.put, e9]) rfl ⟨z, rfl, ?_, B9⟩
    rw [HT.out]
    exact (ow2.kp k9 (by omega)).tr
  | true =>
    obtain ⟨k, rfl, hk, hk0⟩ := isThere_yes hB
    have hkI : (k : Int) < 12 := by omega
    have hkZ : (0 : Int) ≤ (k : Int) := by omega
    obtain ⟨b, o, X, e9, hb, hXw, hXo⟩ := ht.thing k hk
    dsimp only at e9
    subst e9
    have HT : Hid (ptR T (k : Int) u.c u.h u.L u.W u.b u.F = ⟨T.G, T.I, T.T.set k (putT (T.T.getD k th0) u.c u.h u.L u.W u.b u.F)⟩) := by show _ = _; unfold ptR; rw [hB]; rfl
    obtain ⟨t, htt⟩ : ∃ t, T.T.getD k th0 = t := ⟨_, rfl⟩
    rw [htt] at hXo HT
    clear htt hk0
    obtain ⟨S, hS⟩ : ∃ S, sealOf { t with c := u.c, h := u.h, L := u.L, W := u.W, b := u.b, F := u.F, s := 0 } = S := ⟨_, rfl⟩
    have hS9 : S < 4294967296 := by rw [← hS]; exact sealOf_lt _
    have HS : Hid (sealOf { t with c := u.c, h := u.h, L := u.L, W := u.W, b := u.b, F := u.F, s := 0 } = S) := hS
    clear hS
    obtain ⟨W, hW⟩ : ∃ W, W = ((w.alloc (.cells #[.slice gp 12 gc, .slice ip 12 ic, .slice (some ⟨b, o, none⟩) 12 tc] 30)).alloc (.cells #[.int .i64 y.k, .int .i64 y.a, .int .i64 y.g, .int .i64 y.c, .int .i64 y.h, .slice y.lp y.ln y.lc, .slice y.wp y.wn y.wc, .int .u32 (y.b : Int), .slice y.fp y.fn y.fc, .int .u32 (y.s : Int)] 58)).alloc (.cells #[.slice none 0 0, .slice none 0 0, .slice none 0 0] 30) := ⟨_, rfl⟩
    have bW : Below w.heap.size w W := by rw [hW]; exact (((Below.refl _ _).alloc (Nat.le_refl _) _).alloc (by simp) _).alloc (by simp; omega) _
    have hsz : W.heap.size = w.heap.size + 3 := by rw [hW]; simp
    have hV : Vw W w.heap.size ⟨gp, gc, ip, ic, some ⟨b, o, none⟩, tc⟩ 30 := by rw [hW]; exact ((Vw.new _ (⟨gp, gc, ip, ic, some ⟨b, o, none⟩, tc⟩ : Tw) _).below (bel_self _ _)).below (bel_self _ _)
    have hY : Vt W (w.heap.size + 1) y 58 := by rw [hW]; exact Lv.below (heap_at (by simp)) (bel_self _ _)
    have hR : Lv W (w.heap.size + 1 + 1) #[.slice none 0 0, .slice none 0 0, .slice none 0 0] 30 := by rw [hW]; exact heap_at (by simp)
    have hT := ht.below bW
    cases hB2 : turnedT t with
    | false =>
      have HP : Hid (putT t u.c u.h u.L u.W u.b u.F = { t with c := u.c, h := u.h, L := u.L, W := u.W, b := u.b, F := u.F, s := S }) := by
        show _ = _
        have h9 : sealOf { t with c := u.c, h := u.h, L := u.L, W := u.W, b := u.b, F := u.F } = S := HS.out
        rw [putT_no hB2, h9]
      have HB2 : Hid (turnedT t = false) := hB2
      have HB : Hid (isThere T.T (k : Int) = true) := hB
      clear hB hB2
      go_enter Try.func14, Try.ntmps14
      go_wp2_with (first
        | (go_at_call 35; rw [← hW]; refine (clone_any ⟨gp, gc, ip, ic, some ⟨b, o, none⟩, tc⟩ T _ hT).mono ?_; rintro e w1 ⟨z, rfl, ⟨g, xs, ow⟩, b1⟩; have s1 := bel_self w1 (.cells #[.slice z.gp 12 z.gc, .slice z.ip 12 z.ic, .slice z.tp 12 z.tc] 30); have aW : Below W.heap.size W (w1.alloc (.cells #[.slice z.gp 12 z.gc, .slice z.ip 12 z.ic, .slice z.tp 12 z.tc] 30)) := b1.alloc b1.size _; have V1 := (hV.below b1).below s1; have N1 : Vw (w1.alloc (.cells #[.slice z.gp 12 z.gc, .slice z.ip 12 z.ic, .slice z.tp 12 z.tc] 30)) w1.heap.size z 30 := Vw.new _ _ _; obtain ⟨c0, c1, c2⟩ := V1.at)
        | (go_at_call 41; refine (there_any ⟨gp, gc, ip, ic, some ⟨b, o, none⟩, tc⟩ T _ (hT.below aW) (k : Int) true HB.out).mono ?_; rintro e w2 ⟨rfl, b2⟩; have a2 := bel_call aW (Nat.le_refl _) b2; have s2 := bel_self w2 (.cells #[.int .i64 X.k, .int .i64 X.a, .int .i64 X.g, .int .i64 X.c, .int .i64 X.h, .slice X.lp X.ln X.lc, .slice X.wp X.wn X.wc, .int .u32 (X.b : Int), .slice X.fp X.fn X.fc, .int .u32 (X.s : Int)] 58); have a3 : Below W.heap.size W (w2.alloc (.cells #[.int .i64 X.k, .int .i64 X.a, .int .i64 X.g, .int .i64 X.c, .int .i64 X.h, .slice X.lp X.ln X.lc, .slice X.wp X.wn X.wc, .int .u32 (X.b : Int), .slice X.fp X.fn X.fc, .int .u32 (X.s : Int)] 58)) := a2.alloc a2.size _; have n3 : Below (w1.alloc (.cells #[.slice z.gp 12 z.gc, .slice z.ip 12 z.ic, .slice z.tp 12 z.tc] 30)).heap.size (w1.alloc (.cells #[.slice z.gp 12 z.gc, .slice z.ip 12 z.ic, .slice z.tp 12 z.tc] 30)) (w2.alloc (.cells #[.int .i64 X.k, .int .i64 X.a, .int .i64 X.g, .int .i64 X.c, .int .i64 X.h, .slice X.lp X.ln X.lc, .slice X.wp X.wn X.wc, .int .u32 (X.b : Int), .slice X.fp X.fn X.fc, .int .u32 (X.s : Int)] 58)) := bel_call b2 (Nat.le_refl _) s2; have V2 := hV.below a2; clear c0 c1 c2; obtain ⟨c0, c1, c2⟩ := V2.at; obtain ⟨f0, f1, f2, f3, f4, f5, f6, f7, f8, f9⟩ := hXw.below (bel_call bW (Nat.le_refl _) a2) hb; obtain ⟨d0, d1, d2, d3, d4, d5, d6, d7, d8, d9⟩ := (hY.below a3).at; have X3 : Vt (w2.alloc (.cells #[.int .i64 X.k, .int .i64 X.a, .int .i64 X.g, .int .i64 X.c, .int .i64 X.h, .slice X.lp X.ln X.lc, .slice X.wp X.wn X.wc, .int .u32 (X.b : Int), .slice X.fp X.fn X.fc, .int .u32 (X.s : Int)] 58)) w2.heap.size X 58 := Vt.new _ _ _; obtain ⟨x0, x1, x2, x3, x4, x5, x6, x7, x8, x9⟩ := X3.at)
        | (go_at_call 43; refine (copied_any (⟨X.k, X.a, X.g, y.c, y.h, y.lp, y.ln, y.lc, y.wp, y.wn, y.wc, y.b, y.fp, y.fn, y.fc, 0⟩ : Tc) { t with c := u.c, h := u.h, L := u.L, W := u.W, b := u.b, F := u.F, s := 0 } _ { hy.below (bel_call bW (Nat.le_refl _) a3) with k := hXo.k, a := hXo.a, g := hXo.g, s := rfl, s9 := (by show (0 : Nat) < _; omega) }).mono ?_; rintro e w3 ⟨p1, q1, p2, q2, p3, q3, rfl, r1, r2, r3, b3⟩)
        | (go_at_call 42; refine (sealed_any (⟨X.k, X.a, X.g, y.c, y.h, p1, y.ln, q1, p2, y.wn, q2, y.b, p3, y.fn, q3, 0⟩ : Tc) { t with c := u.c, h := u.h, L := u.L, W := u.W, b := u.b, F := u.F, s := 0 } _ { hy.below (bel_call bW (Nat.le_refl _) (bel_call a3 (Nat.le_refl _) b3)) with k := hXo.k, a := hXo.a, g := hXo.g, s := rfl, s9 := (by show (0 : Nat) < _; omega), L := own_rd r1, W := own_rd r2, F := own_rd r3 } S HS.out).mono ?_; rintro e w4 ⟨rfl, b4⟩; have s4 := bel_self w4 (.cells #[.int .i64 X.k, .int .i64 X.a, .int .i64 X.g, .int .i64 y.c, .int .i64 y.h, .slice p1 y.ln q1, .slice p2 y.wn q2, .int .u32 (y.b : Int), .slice p3 y.fn q3, .int .u32 (S : Int)] 58); have m4 : Below (w2.alloc (.cells #[.int .i64 X.k, .int .i64 X.a, .int .i64 X.g, .int .i64 X.c, .int .i64 X.h, .slice X.lp X.ln X.lc, .slice X.wp X.wn X.wc, .int .u32 (X.b : Int), .slice X.fp X.fn X.fc, .int .u32 (X.s : Int)] 58)).heap.size (w2.alloc (.cells #[.int .i64 X.k, .int .i64 X.a, .int .i64 X.g, .int .i64 X.c, .int .i64 X.h, .slice X.lp X.ln X.lc, .slice X.wp X.wn X.wc, .int .u32 (X.b : Int), .slice X.fp X.fn X.fc, .int .u32 (X.s : Int)] 58)) (w4.alloc (.cells #[.int .i64 X.k, .int .i64 X.a, .int .i64 X.g, .int .i64 y.c, .int .i64 y.h, .slice p1 y.ln q1, .slice p2 y.wn q2, .int .u32 (y.b : Int), .slice p3 y.fn q3, .int .u32 (S : Int)] 58)) := bel_call (bel_call b3 (Nat.le_refl _) b4) (Nat.le_refl _) s4; have a4 := bel_call a3 (Nat.le_refl _) m4; have n4 := bel_call n3 (Nat.le_refl _) m4; have I4 : Vt (w4.alloc (.cells #[.int .i64 X.k, .int .i64 X.a, .int .i64 X.g, .int .i64 y.c, .int .i64 y.h, .slice p1 y.ln q1, .slice p2 y.wn q2, .int .u32 (y.b : Int), .slice p3 y.fn q3, .int .u32 (S : Int)] 58)) w4.heap.size (⟨X.k, X.a, X.g, y.c, y.h, p1, y.ln, q1, p2, y.wn, q2, y.b, p3, y.fn, q3, S⟩ : Tc) 58 := Vt.new _ (⟨X.k, X.a, X.g, y.c, y.h, p1, y.ln, q1, p2, y.wn, q2, y.b, p3, y.fn, q3, S⟩ : Tc) _; clear c0 c1 c2 f0 f1 f2 f3 f4 f5 f6 f7 f8 f9 d0 d1 d2 d3 d4 d5 d6 d7 d8 d9 V1 V2; clear x0 x1 x2 x3 x4 x5 x6 x7 x8 x9; obtain ⟨x0, x1, x2, x3, x4, x5, x6, x7, x8, x9⟩ := (X3.below m4).at)
        | (go_at_call 44; refine (isturned_any X t _ (hXo.below (bel_call bW (Nat.le_refl _) a4)) false HB2.out).mono ?_; rintro e w5 ⟨rfl, b5⟩; clear x0 x1 x2 x3 x4 x5 x6 x7 x8 x9; have a5 := bel_call a4 (Nat.le_refl _) b5; have n5 := bel_call n4 (Nat.le_refl _) b5; have I5 := I4.below b5; have N5 := N1.below n5; have R5 := hR.below a5; have ow5 := ow.below (bel_call s1 (Nat.le_refl _) n5); obtain ⟨e0, e1, e2⟩ := N5.at; rw [ow5.tp] at e2; obtain ⟨i0, i1, i2, i3, i4, i5, i6, i7, i8, i9⟩ := I5.at)
        | (refine wpList_stR (E := eT) rfl 58 (.tmp 43) (.tmp 42) rfl size58 W.heap.size g _ _ ow5.R k (by rw [ow5.len]; exact hk) _ rfl (⟨X.k, X.a, X.g, y.c, y.h, p1, y.ln, q1, p2, y.wn, q2, y.b, p3, y.fn, q3, S⟩ : Tc) rfl rfl ?_; intro w8 o8 k8; have hgv : w1.heap.size ≠ g := (by have := own_lt ow.R; omega); have hgw : w.heap.size + 3 ≤ g := (by have := own_ge ow.R; omega); have N8 := Lv.kp N5 k8 hgv; have R8 := R5.kp k8 (by omega); clear e0 e1 e2; obtain ⟨e0, e1, e2⟩ := Vw.at N8)
        | (refine wpList_stV (E := eTb) rfl 30 (.tmp 6) (.tmp 44) rfl size30 (w.heap.size + 1 + 1) _ R8 rfl z rfl rfl ?_; intro w9 L9 k9))
      have m5 : Below w3.heap.size w3 w5 := bel_call (bel_call b4 (Nat.le_refl _) s4) (Nat.le_refl _) b5
      have l1 := b1.size
      have l2 := b2.size
      have l3 := b3.size
      have ls2 := s2.size
      have ls1 := s1.size
      have lg := own_lt ow.R
      have ntZ : Nt W.heap.size g (⟨X.k, X.a, X.g, y.c, y.h, p1, y.ln, q1, p2, y.wn, q2, y.b, p3, y.fn, q3, S⟩ : Tc) := ⟨Nw.own r1 (by omega), Nw.own r2 (by omega), Nw.own r3 (by omega), Far.low r1 (by omega), Far.low r2 (by omega), Far.low r3 (by omega)⟩
      have a8 : Below w.heap.size w w8 := bel_kp (bel_call bW (Nat.le_refl _) a5) k8 (by omega) (bel_call bW (Nat.le_refl _) a5).size
      have okZ : Ok w5 (⟨X.k, X.a, X.g, y.c, y.h, p1, y.ln, q1, p2, y.wn, q2, y.b, p3, y.fn, q3, S⟩ : Tc) { t with c := u.c, h := u.h, L := u.L, W := u.W, b := u.b, F := u.F, s := S } := { hy.below (bel_call bW (Nat.le_refl _) a5) with k := hXo.k, a := hXo.a, g := hXo.g, s := rfl, s9 := hS9, L := (own_rd r1).below m5, W := (own_rd r2).below m5, F := (own_rd r3).below m5 }
      have ow8 := ow5.put k k8 o8 okZ ntZ
      have e9 := load30 L9
      have B9 : Below w.heap.size w w9 := bel_kp a8 k9 (by omega) a8.size
      refine bodyPost_ret (v := .agg #[.slice z.gp 12 z.gc, .slice z.ip 12 z.ic, .slice z.tp 12 z.tc]) (by simp [results, Try.results14, asAddr, Act.put, e9]) rfl ⟨z, rfl, ?_, B9⟩
      rw [HT.out, HP.out]
      exact (ow8.kp k9 (by omega)).tr
    | true =>
      obtain ⟨S2, hS2⟩ : ∃ S2, comp S = S2 := ⟨_, rfl⟩
      have HS2 : Hid (comp S = S2) := hS2
      clear hS2
      have HP : Hid (putT t u.c u.h u.L u.W u.b u.F = { t with c := u.c, h := u.h, L := u.L, W := u.W, b := u.b, F := u.F, s := S2 }) := by
        show _ = _
        have h9 : sealOf { t with c := u.c, h := u.h, L := u.L, W := u.W, b := u.b, F := u.F } = S := HS.out
        rw [putT_yes hB2, h9, HS2.out]
      have HB2 : Hid (turnedT t = true) := hB2
      have HB : Hid (isThere T.T (k : Int) = true) := hB
      clear hB hB2
      go_enter Try.func14, Try.ntmps14
      go_wp2_with (first
        | (go_at_call 35; rw [← hW]; refine (clone_any ⟨gp, gc, ip, ic, some ⟨b, o, none⟩, tc⟩ T _ hT).mono ?_; rintro e w1 ⟨z, rfl, ⟨g, xs, ow⟩, b1⟩; have s1 := bel_self w1 (.cells #[.slice z.gp 12 z.gc, .slice z.ip 12 z.ic, .slice z.tp 12 z.tc] 30); have aW : Below W.heap.size W (w1.alloc (.cells #[.slice z.gp 12 z.gc, .slice z.ip 12 z.ic, .slice z.tp 12 z.tc] 30)) := b1.alloc b1.size _; have V1 := (hV.below b1).below s1; have N1 : Vw (w1.alloc (.cells #[.slice z.gp 12 z.gc, .slice z.ip 12 z.ic, .slice z.tp 12 z.tc] 30)) w1.heap.size z 30 := Vw.new _ _ _; obtain ⟨c0, c1, c2⟩ := V1.at)
        | (go_at_call 41; refine (there_any ⟨gp, gc, ip, ic, some ⟨b, o, none⟩, tc⟩ T _ (hT.below aW) (k : Int) true HB.out).mono ?_; rintro e w2 ⟨rfl, b2⟩; have a2 := bel_call aW (Nat.le_refl _) b2; have s2 := bel_self w2 (.cells #[.int .i64 X.k, .int .i64 X.a, .int .i64 X.g, .int .i64 X.c, .int .i64 X.h, .slice X.lp X.ln X.lc, .slice X.wp X.wn X.wc, .int .u32 (X.b : Int), .slice X.fp X.fn X.fc, .int .u32 (X.s : Int)] 58); have a3 : Below W.heap.size W (w2.alloc (.cells #[.int .i64 X.k, .int .i64 X.a, .int .i64 X.g, .int .i64 X.c, .int .i64 X.h, .slice X.lp X.ln X.lc, .slice X.wp X.wn X.wc, .int .u32 (X.b : Int), .slice X.fp X.fn X.fc, .int .u32 (X.s : Int)] 58)) := a2.alloc a2.size _; have n3 : Below (w1.alloc (.cells #[.slice z.gp 12 z.gc, .slice z.ip 12 z.ic, .slice z.tp 12 z.tc] 30)).heap.size (w1.alloc (.cells #[.slice z.gp 12 z.gc, .slice z.ip 12 z.ic, .slice z.tp 12 z.tc] 30)) (w2.alloc (.cells #[.int .i64 X.k, .int .i64 X.a, .int .i64 X.g, .int .i64 X.c, .int .i64 X.h, .slice X.lp X.ln X.lc, .slice X.wp X.wn X.wc, .int .u32 (X.b : Int), .slice X.fp X.fn X.fc, .int .u32 (X.s : Int)] 58)) := bel_call b2 (Nat.le_refl _) s2; have V2 := hV.below a2; clear c0 c1 c2; obtain ⟨c0, c1, c2⟩ := V2.at; obtain ⟨f0, f1, f2, f3, f4, f5, f6, f7, f8, f9⟩ := hXw.below (bel_call bW (Nat.le_refl _) a2) hb; obtain ⟨d0, d1, d2, d3, d4, d5, d6, d7, d8, d9⟩ := (hY.below a3).at; have X3 : Vt (w2.alloc (.cells #[.int .i64 X.k, .int .i64 X.a, .int .i64 X.g, .int .i64 X.c, .int .i64 X.h, .slice X.lp X.ln X.lc, .slice X.wp X.wn X.wc, .int .u32 (X.b : Int), .slice X.fp X.fn X.fc, .int .u32 (X.s : Int)] 58)) w2.heap.size X 58 := Vt.new _ _ _; obtain ⟨x0, x1, x2, x3, x4, x5, x6, x7, x8, x9⟩ := X3.at)
        | (go_at_call 43; refine (copied_any (⟨X.k, X.a, X.g, y.c, y.h, y.lp, y.ln, y.lc, y.wp, y.wn, y.wc, y.b, y.fp, y.fn, y.fc, 0⟩ : Tc) { t with c := u.c, h := u.h, L := u.L, W := u.W, b := u.b, F := u.F, s := 0 } _ { hy.below (bel_call bW (Nat.le_refl _) a3) with k := hXo.k, a := hXo.a, g := hXo.g, s := rfl, s9 := (by show (0 : Nat) < _; omega) }).mono ?_; rintro e w3 ⟨p1, q1, p2, q2, p3, q3, rfl, r1, r2, r3, b3⟩)
        | (go_at_call 42; refine (sealed_any (⟨X.k, X.a, X.g, y.c, y.h, p1, y.ln, q1, p2, y.wn, q2, y.b, p3, y.fn, q3, 0⟩ : Tc) { t with c := u.c, h := u.h, L := u.L, W := u.W, b := u.b, F := u.F, s := 0 } _ { hy.below (bel_call bW (Nat.le_refl _) (bel_call a3 (Nat.le_refl _) b3)) with k := hXo.k, a := hXo.a, g := hXo.g, s := rfl, s9 := (by show (0 : Nat) < _; omega), L := own_rd r1, W := own_rd r2, F := own_rd r3 } S HS.out).mono ?_; rintro e w4 ⟨rfl, b4⟩; have s4 := bel_self w4 (.cells #[.int .i64 X.k, .int .i64 X.a, .int .i64 X.g, .int .i64 y.c, .int .i64 y.h, .slice p1 y.ln q1, .slice p2 y.wn q2, .int .u32 (y.b : Int), .slice p3 y.fn q3, .int .u32 (S : Int)] 58); have m4 : Below (w2.alloc (.cells #[.int .i64 X.k, .int .i64 X.a, .int .i64 X.g, .int .i64 X.c, .int .i64 X.h, .slice X.lp X.ln X.lc, .slice X.wp X.wn X.wc, .int .u32 (X.b : Int), .slice X.fp X.fn X.fc, .int .u32 (X.s : Int)] 58)).heap.size (w2.alloc (.cells #[.int .i64 X.k, .int .i64 X.a, .int .i64 X.g, .int .i64 X.c, .int .i64 X.h, .slice X.lp X.ln X.lc, .slice X.wp X.wn X.wc, .int .u32 (X.b : Int), .slice X.fp X.fn X.fc, .int .u32 (X.s : Int)] 58)) (w4.alloc (.cells #[.int .i64 X.k, .int .i64 X.a, .int .i64 X.g, .int .i64 y.c, .int .i64 y.h, .slice p1 y.ln q1, .slice p2 y.wn q2, .int .u32 (y.b : Int), .slice p3 y.fn q3, .int .u32 (S : Int)] 58)) := bel_call (bel_call b3 (Nat.le_refl _) b4) (Nat.le_refl _) s4; have a4 := bel_call a3 (Nat.le_refl _) m4; have n4 := bel_call n3 (Nat.le_refl _) m4; have I4 : Vt (w4.alloc (.cells #[.int .i64 X.k, .int .i64 X.a, .int .i64 X.g, .int .i64 y.c, .int .i64 y.h, .slice p1 y.ln q1, .slice p2 y.wn q2, .int .u32 (y.b : Int), .slice p3 y.fn q3, .int .u32 (S : Int)] 58)) w4.heap.size (⟨X.k, X.a, X.g, y.c, y.h, p1, y.ln, q1, p2, y.wn, q2, y.b, p3, y.fn, q3, S⟩ : Tc) 58 := Vt.new _ (⟨X.k, X.a, X.g, y.c, y.h, p1, y.ln, q1, p2, y.wn, q2, y.b, p3, y.fn, q3, S⟩ : Tc) _; clear c0 c1 c2 f0 f1 f2 f3 f4 f5 f6 f7 f8 f9 d0 d1 d2 d3 d4 d5 d6 d7 d8 d9 V1 V2; clear x0 x1 x2 x3 x4 x5 x6 x7 x8 x9; obtain ⟨x0, x1, x2, x3, x4, x5, x6, x7, x8, x9⟩ := (X3.below m4).at)
        | (go_at_call 44; refine (isturned_any X t _ (hXo.below (bel_call bW (Nat.le_refl _) a4)) true HB2.out).mono ?_; rintro e w5 ⟨rfl, b5⟩; clear x0 x1 x2 x3 x4 x5 x6 x7 x8 x9; have a5 := bel_call a4 (Nat.le_refl _) b5; have n5 := bel_call n4 (Nat.le_refl _) b5; have I5 := I4.below b5; have N5 := N1.below n5; have R5 := hR.below a5; have ow5 := ow.below (bel_call s1 (Nat.le_refl _) n5); obtain ⟨e0, e1, e2⟩ := N5.at; rw [ow5.tp] at e2; obtain ⟨i0, i1, i2, i3, i4, i5, i6, i7, i8, i9⟩ := I5.at)
        | (go_at_call 45; refine (turn_any (⟨X.k, X.a, X.g, y.c, y.h, p1, y.ln, q1, p2, y.wn, q2, y.b, p3, y.fn, q3, S⟩ : Tc) _ hS9 S2 HS2.out).mono ?_; rintro e w6 ⟨rfl, b6⟩; have a6 := bel_call a5 (Nat.le_refl _) b6; have n6 := bel_call n5 (Nat.le_refl _) b6; have I6 := I5.below b6)
        | (refine wpList_stV (E := eT) rfl 58 (.tmp 9) (.tmp 38) rfl size58 w4.heap.size _ I6 rfl (⟨X.k, X.a, X.g, y.c, y.h, p1, y.ln, q1, p2, y.wn, q2, y.b, p3, y.fn, q3, S2⟩ : Tc) rfl rfl ?_; intro w7 L7 k7; have a7 := bel_kp a6 k7 (Nat.le_trans a3.size (bel_call b3 (Nat.le_refl _) b4).size) a6.size; have n7 := bel_kp n6 k7 (Nat.le_trans n3.size (bel_call b3 (Nat.le_refl _) b4).size) n6.size; have N7 := N1.below n7; have R7 := hR.below a7; have ow7 := ow.below (bel_call s1 (Nat.le_refl _) n7); clear e0 e1 e2 i0 i1 i2 i3 i4 i5 i6 i7 i8 i9; obtain ⟨e0, e1, e2⟩ := N7.at; rw [ow7.tp] at e2; obtain ⟨i0, i1, i2, i3, i4, i5, i6, i7, i8, i9⟩ := Vt.at (x := (⟨X.k, X.a, X.g, y.c, y.h, p1, y.ln, q1, p2, y.wn, q2, y.b, p3, y.fn, q3, S2⟩ : Tc)) L7)
        | (refine wpList_stR (E := eT) rfl 58 (.tmp 43) (.tmp 42) rfl size58 W.heap.size g _ _ ow7.R k (by rw [ow7.len]; exact hk) _ rfl (⟨X.k, X.a, X.g, y.c, y.h, p1, y.ln, q1, p2, y.wn, q2, y.b, p3, y.fn, q3, S2⟩ : Tc) rfl rfl ?_; intro w8 o8 k8; have hgv : w1.heap.size ≠ g := (by have := own_lt ow.R; omega); have hgw : w.heap.size + 3 ≤ g := (by have := own_ge ow.R; omega); have N8 := Lv.kp N7 k8 hgv; have R8 := R7.kp k8 (by omega); clear e0 e1 e2; obtain ⟨e0, e1, e2⟩ := Vw.at N8)
        | (refine wpList_stV (E := eTb) rfl 30 (.tmp 6) (.tmp 44) rfl size30 (w.heap.size + 1 + 1) _ R8 rfl z rfl rfl ?_; intro w9 L9 k9))
      have m5 : Below w3.heap.size w3 w5 := bel_call (bel_call b4 (Nat.le_refl _) s4) (Nat.le_refl _) b5
      have m7' : Below w3.heap.size w3 w7 := bel_kp (bel_call m5 (Nat.le_refl _) b6) k7 b4.size (bel_call m5 (Nat.le_refl _) b6).size
      have l1 := b1.size
      have l2 := b2.size
      have l3 := b3.size
      have ls2 := s2.size
      have ls1 := s1.size
      have lg := own_lt ow.R
      have ntZ : Nt W.heap.size g (⟨X.k, X.a, X.g, y.c, y.h, p1, y.ln, q1, p2, y.wn, q2, y.b, p3, y.fn, q3, S2⟩ : Tc) := ⟨Nw.own r1 (by omega), Nw.own r2 (by omega), Nw.own r3 (by omega), Far.low r1 (by omega), Far.low r2 (by omega), Far.low r3 (by omega)⟩
      have a8 : Below w.heap.size w w8 := bel_kp (bel_call bW (Nat.le_refl _) a7) k8 (by omega) (bel_call bW (Nat.le_refl _) a7).size
      have hl3 : w3.heap.size ≤ w4.heap.size := b4.size
      have okZ : Ok w7 (⟨X.k, X.a, X.g, y.c, y.h, p1, y.ln, q1, p2, y.wn, q2, y.b, p3, y.fn, q3, S2⟩ : Tc) { t with c := u.c, h := u.h, L := u.L, W := u.W, b := u.b, F := u.F, s := S2 } := { hy.below (bel_call bW (Nat.le_refl _) a7) with k := hXo.k, a := hXo.a, g := hXo.g, s := rfl, s9 := (by show S2 < _; rw [← HS2.out]; exact comp_lt _), L := (own_rd r1).below m7', W := (own_rd r2).below m7', F := (own_rd r3).below m7' }
      have ow8 := ow7.put k k8 o8 okZ ntZ
      have e9 := load30 L9
      have B9 : Below w.heap.size w w9 := bel_kp a8 k9 (by omega) a8.size
      refine bodyPost_ret (v := .agg #[.slice z.gp 12 z.gc, .slice z.ip 12 z.ic, .slice z.tp 12 z.tc]) (by simp [results, Try.results14, asAddr, e9]) rfl ⟨z, rfl, ?_, B9⟩
      rw [HT.out, HP.out]
      exact (ow8.kp k9 (by omega)).tr
end Go.Proofs.Ytcncpefdjgnhdaa
