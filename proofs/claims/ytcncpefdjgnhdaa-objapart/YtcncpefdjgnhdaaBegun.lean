/-
  What begun of the law package hands back.
-/
import Derived.Test.YtcncpefdjgnhdaaAudit
import Derived.Test.YtcncpefdjgnhdaaMakes
import Derived.Test.YtcncpefdjgnhdaaDrops
import Derived.Test.YtcncpefdjgnhdaaPlaces
import Derived.Test.YtcncpefdjgnhdaaTurns
import Derived.Test.YtcncpefdjgnhdaaFinds
import Derived.Deep.Cut
namespace Go.Proofs.Ytcncpefdjgnhdaa
open Go.ChangeShapes Go.WideShapes Go.ChangeAt Go.RowKit
attribute [local go_sem ↓] Go.wp_at_zero Go.wp_at_succ

theorem z1 : mkOk newT 2 = true := by decide +kernel
theorem z2 : mkA newT 2 = 0 := by decide +kernel
theorem z3 : mkG newT 2 = 1 := by decide +kernel
theorem z4 : Slo.hasM (mkR newT 2).G (mkR newT 2).I 0 1 = true := by decide +kernel
theorem z5 : fnA (mkR newT 2) 0 1 = 0 := by decide +kernel
theorem z6 : isThere (mkR newT 2).T 0 = true := by decide +kernel
theorem z7 : audP (tnR (mkR newT 2) 0).T 12 = [0] := by decide +kernel
theorem z8 : drOk (adR (tnR (mkR newT 2) 0)) 0 1 = true := by decide +kernel
theorem z9 : drOk (drR (adR (tnR (mkR newT 2) 0)) 0 1) 0 1 = false := by decide +kernel
theorem z10 : (plc 1 (mkR newT 2).T 12) = [] := by decide +kernel
theorem z11 : ((adR (tnR (mkR newT 2) 0)).T.getD 0 th0).k = 2 := by decide +kernel
theorem z12 : (drW (adR (tnR (mkR newT 2) 0)) 0 1) = [] := by decide +kernel
theorem z13 : (drW (drR (adR (tnR (mkR newT 2) 0)) 0 1) 0 1) = [] := by decide +kernel
/-- the tables of begun, as letters -/
theorem bt_ex : ∃ T1 T2 T3 T4 : Tb, Wf 1 T1 ∧ Wf 1 T2 ∧ Wf 1 T3 ∧ Wf 1 T4 ∧ mkR newT 2 = T1 ∧ tnR T1 0 = T2 ∧ adR T2 = T3 ∧ drR T3 0 1 = T4 ∧ Slo.hasM T1.G T1.I 0 1 = true ∧ fnA T1 0 1 = 0 ∧ isThere T1.T 0 = true ∧ audP T2.T 12 = [0] ∧ drOk T3 0 1 = true ∧ drOk T4 0 1 = false ∧ plc 1 T1.T 12 = [] ∧ (T3.T.getD 0 th0).k = 2 ∧ drW T3 0 1 = [] ∧ drW T4 0 1 = [] :=
  ⟨_, _, _, _, mkR_wf new_wf 2, tnR_wf (mkR_wf new_wf 2) 0, adR_wf (tnR_wf (mkR_wf new_wf 2) 0), drR_wf (adR_wf (tnR_wf (mkR_wf new_wf 2) 0)) 0 1, rfl, rfl, rfl, rfl, z4, z5, z6, z7, z8, z9, z10, z11, z12, z13⟩
set_option maxRecDepth 20000 in
set_option maxHeartbeats 3000000 in
theorem begun_any (w : World) : Calls Try.prog 8 #[] w fun e w' => e = .returned (.bool true) ∧ Below w.heap.size w w' := by
  obtain ⟨T1, T2, T3, T4, wf1, wf2, wf3, wf4, hT1, hT2, hT3, hT4, a4, a5, a6, a7, a8, a9, a10, a11, a12, a13⟩ := bt_ex
  have HT : Hid (mkR newT 2 = T1 ∧ tnR T1 0 = T2 ∧ adR T2 = T3 ∧ drR T3 0 1 = T4) := ⟨hT1, hT2, hT3, hT4⟩
  have HA : Hid (Slo.hasM T1.G T1.I 0 1 = true ∧ fnA T1 0 1 = 0 ∧ isThere T1.T 0 = true ∧ audP T2.T 12 = [0] ∧ drOk T3 0 1 = true ∧ drOk T4 0 1 = false ∧ plc 1 T1.T 12 = [] ∧ (T3.T.getD 0 th0).k = 2 ∧ drW T3 0 1 = [] ∧ drW T4 0 1 = []) := ⟨a4, a5, a6, a7, a8, a9, a10, a11, a12, a13⟩
  clear hT1 hT2 hT3 hT4 a4 a5 a6 a7 a8 a9 a10 a11 a12 a13
  have i0 : (Lit.int .i64 0).wf = true := rfl
  have i1 : (Lit.int .i64 1).wf = true := rfl
  go_enter Try.func8, Try.ntmps8
  go_upto_region 7 with (first
    | (go_at_call 9; refine (new_any _).mono ?_; rintro e w1 ⟨y0, rfl, t0, b1⟩)
    | (go_at_call 22; refine (make_any y0 newT 0 _ t0 new_wf (by decide) 2 true z1 0 1 z2 z3).mono ?_; rintro e w2 ⟨y1, rfl, t1', b2⟩; have t1 : Tr w2 y1 T1 := (by rw [← HT.out.1]; exact t1'); clear t1'; have B2 := b1.trans (b2.mono b1.size); have s2 : Below w2.heap.size w2 ((w2.alloc (.cells #[.slice y1.gp 12 y1.gc, .slice y1.ip 12 y1.ic, .slice y1.tp 12 y1.tc] 30)).alloc (.cells #[.int .i64 0, .int .i64 1] 38)) := (bel_self _ _).alloc (by simp) _; have V1 := (Vw.new w2 y1 30).below (bel_self _ (.cells #[.int .i64 0, .int .i64 1] 38)); have H1 : Lv ((w2.alloc (.cells #[.slice y1.gp 12 y1.gc, .slice y1.ip 12 y1.ic, .slice y1.tp 12 y1.tc] 30)).alloc (.cells #[.int .i64 0, .int .i64 1] 38)) (w2.heap.size + 1) #[.int .i64 0, .int .i64 1] 38 := heap_at (by simp))
    | (go_at_call 24; refine (find_any y1 T1 1 _ (t1.below s2) wf1 (by decide) 0 1 i0 i1 0 HA.out.2.1 true HA.out.1).mono ?_; rintro e w3 ⟨rfl, b3⟩; have s3 := bel_call s2 (Nat.le_refl _) b3; have V1b := V1.below b3; have H1b := H1.below b3; obtain ⟨c0, c1, c2⟩ := V1b.at)
    | (go_at_call 17; refine (turnt_any y1 T1 _ (t1.below s3) 0 true HA.out.2.2.1).mono ?_; rintro e w4 ⟨y2, rfl, t2', b4⟩; have t2 : Tr w4 y2 T2 := (by rw [← HT.out.2.1]; exact t2'); clear t2' c0 c1 c2; have s4 := bel_self w4 (.cells #[.slice y2.gp 12 y2.gc, .slice y2.ip 12 y2.ic, .slice y2.tp 12 y2.tc] 30); have V2 := Vw.new w4 y2 30; have V1c := (V1b.below b4).below s4; have H1c := (H1b.below b4).below s4; have bb4 := bel_call (bel_call s2 (Nat.le_refl _) b3) (Nat.le_refl _) (b4.trans (s4.mono b4.size)))
    | (go_at_call 19; refine (audit_any y2 T2 _ (t2.below s4) 1 (by rw [HA.out.2.2.2.1]; rfl)).mono ?_; rintro e w5 ⟨y3, pa, ca, pb, cb, rfl, t3', ra, rb, b5⟩; have t3 : Tr w5 y3 T3 := (by rw [← HT.out.2.2.1]; exact t3'); clear t3'; have s5 := bel_self w5 (.cells #[.slice y3.gp 12 y3.gc, .slice y3.ip 12 y3.ic, .slice y3.tp 12 y3.tc] 30); have V3 := Vw.new w5 y3 30; have b55 := b5.trans (s5.mono b5.size); have V1d := V1c.below b55; have H1d := H1c.below b55; have h0 := H1d.c 0 rfl; have h1 := H1d.c 1 rfl)
    | (go_at_call 11; refine (drop_any y4 T4 1 _ (t4.below s6) wf4 (by decide) 0 1 i0 i1 false HA.out.2.2.2.2.2.1 0 (by rw [HA.out.2.2.2.2.2.2.2.2.2]; rfl)).mono ?_; rintro e w7 ⟨y5, p5, c5, rfl, t5, r5, b7⟩; have s7 := bel_self w7 (.cells #[.slice y5.gp 12 y5.gc, .slice y5.ip 12 y5.ic, .slice y5.tp 12 y5.tc] 30); have b77 := b7.trans (s7.mono b7.size); have V1f := V1e.below b77; have H1f := H1e.below b77; have V3f := V3e.below b77)
    | (go_at_call 11; refine (drop_any y3 T3 1 _ (t3.below s5) wf3 (by decide) 0 1 i0 i1 true HA.out.2.2.2.2.1 0 (by rw [HA.out.2.2.2.2.2.2.2.2.1]; rfl)).mono ?_; rintro e w6 ⟨y4, p4, c4, rfl, t4', r4, b6⟩; have t4 : Tr w6 y4 T4 := (by rw [← HT.out.2.2.2]; exact t4'); clear t4' h0 h1; have s6 := bel_self w6 (.cells #[.slice y4.gp 12 y4.gc, .slice y4.ip 12 y4.ic, .slice y4.tp 12 y4.tc] 30); have V4 := Vw.new w6 y4 30; have b66 := b6.trans (s6.mono b6.size); have V1e := V1d.below b66; have H1e := H1d.below b66; have V3e := V3.below b66; have h0 := H1e.c 0 rfl; have h1 := H1e.c 1 rfl))
  have b67 := bel_call b66 (Nat.le_refl _) b77
  have b57 := bel_call s5 (Nat.le_refl _) b67
  have b27 := bel_call bb4 (Nat.le_refl _) (bel_call b55 (Nat.le_refl _) b67)
  have t17 := t1.below b27
  have B7 := bel_call B2 (Nat.le_refl _) b27
  obtain ⟨b, o, X, e3, hb, hX, hXo⟩ := (t3.below b57).thing 0 (by decide)
  have hXk : X.k = 2 := by rw [hXo.k]; exact HA.out.2.2.2.2.2.2.2.1
  have f0 := hX.c0
  rw [hXk, Nat.zero_mul, Nat.add_zero] at f0
  obtain ⟨c0, c1, c2⟩ := V3f.at
  rw [e3] at c2
  have ra7 := ra.below b57
  rw [HA.out.2.2.2.1] at ra7
  obtain ⟨b', o', e', hb', hc'⟩ := ra7.cells 0 (by decide)
  have g0 := hc' 0 (.int .i64 0) rfl
  rw [Nat.zero_mul, Nat.add_zero] at g0
  subst e'
  have h0 := H1f.c 0 rfl
  have h1 := H1f.c 1 rfl
  obtain ⟨k0, k1, k2⟩ := V1f.at
  clear hXk hX hXo e3 hc' ra ra7
  go_wp2_with (go_at_call 28; refine (semas_any y1 T1 _ t17 0 (by rw [HA.out.2.2.2.2.2.2.1]; rfl)).mono ?_; rintro e w8 ⟨p8, c8, rfl, o8, b8⟩)
  go_ret
  exact ⟨rfl, bel_call B7 (Nat.le_refl _) b8⟩
end Go.Proofs.Ytcncpefdjgnhdaa
