/-
  What Turn of the document hands back.
-/
import Derived.Test.YtcncpefdjgnhdaaWith
import Derived.Test.YtcncpefdjgnhdaaFinds
namespace Go.Proofs.Ytcncpefdjgnhdaa
open Go.ChangeShapes Go.WideShapes Go.ChangeAt Go.RowKit
attribute [local go_sem ↓] Go.wp_at_zero Go.wp_at_succ

set_option maxRecDepth 20000 in
set_option maxHeartbeats 2000000 in
theorem rturnt_any (x : Tw) (T : Tb) (w : World) (ht : Tr w x T) (p : Int) (B : Bool) (hB : isThere T.T p = B) :
    Calls Try.prog 18 #[.agg #[.slice x.gp 12 x.gc, .slice x.ip 12 x.ic, .slice x.tp 12 x.tc], .int .i64 p] w fun e w' => ∃ y : Tw, e = .returned (.tuple #[.agg #[.slice y.gp 12 y.gc, .slice y.ip 12 y.ic, .slice y.tp 12 y.tc], .bool B]) ∧ Tr w' y (tnR T p) ∧ Below w.heap.size w w' := by
  obtain ⟨gp, gc, ip, ic, tp, tc⟩ := x
  dsimp only
  by_cases h0 : p < 0
  · have hB2 : B = false := by rw [← hB]; unfold isThere; simp; omega
    subst hB2
    have HT : Hid (tnR T p = T) := by show _ = _; unfold tnR; rw [hB]; rfl
    have d1 : decide (p < 0) = true := by simpa using h0
    clear hB
    go_enter Try.func18, Try.ntmps18
    go_wp2
    refine bodyPost_ret (v := .tuple #[.agg #[.slice gp 12 gc, .slice ip 12 ic, .slice tp 12 tc], .bool false]) (by simp [results, Try.results18, go_sem]) rfl ⟨⟨gp, gc, ip, ic, tp, tc⟩, rfl, ?_, ?_⟩
    · rw [HT.out]; exact ht.below (((Below.refl _ _).alloc (Nat.le_refl _) _).alloc (by simp) _)
    · exact ((Below.refl _ _).alloc (Nat.le_refl _) _).alloc (by simp) _
  have d1 : decide (p < 0) = false := by simpa using h0
  by_cases h1 : 12 ≤ p
  · have hB2 : B = false := by rw [← hB]; unfold isThere; simp; omega
    subst hB2
    have HT : Hid (tnR T p = T) := by show _ = _; unfold tnR; rw [hB]; rfl
    have d2 : decide (12 ≤ p) = true := by simpa using h1
    clear hB
    go_enter Try.func18, Try.ntmps18
    go_wp2
    refine bodyPost_ret (v := .tuple #[.agg #[.slice gp 12 gc, .slice ip 12 ic, .slice tp 12 tc], .bool false]) (by simp [results, Try.results18, go_sem]) rfl ⟨⟨gp, gc, ip, ic, tp, tc⟩, rfl, ?_, ?_⟩
    · rw [HT.out]; exact ht.below (((Below.refl _ _).alloc (Nat.le_refl _) _).alloc (by simp) _)
    · exact ((Below.refl _ _).alloc (Nat.le_refl _) _).alloc (by simp) _
  have d2 : decide (12 ≤ p) = false := by simpa using h1
  obtain ⟨k, rfl⟩ := Int.eq_ofNat_of_zero_le (show 0 ≤ p by omega)
  have hk : k < 12 := by omega
  have hkI : (k : Int) < 12 := by omega
  obtain ⟨b, o, X, e9, hb, hc, ho⟩ := ht.thing k hk
  dsimp only at e9
  subst e9
  obtain ⟨f0, f1, f2, f3, f4, f5, f6, f7, f8, f9⟩ := hc
  have HB : Hid (isThere T.T (k : Int) = B) := hB
  clear hB
  cases B with
  | false =>
    have hX : X.k = 0 := by
      have h := HB.out
      unfold isThere at h
      simp only [decide_eq_false_iff_not] at h
      rw [ho.k]
      exact Classical.byContradiction fun hn => h ⟨by omega, hkI, hn⟩
    have x1 : (X.k == 0) = true := by simpa using hX
    have x2 : decide (X.k = 0) = true := by simpa using hX
    have HT : Hid (tnR T (k : Int) = T) := by show _ = _; unfold tnR; rw [HB.out]; rfl
    clear hX
    go_enter Try.func18, Try.ntmps18
    go_wp2
    refine bodyPost_ret (v := .tuple #[.agg #[.slice gp 12 gc, .slice ip 12 ic, .slice (some ⟨b, o, none⟩) 12 tc], .bool false]) (by simp [results, Try.results18, go_sem]) rfl ⟨⟨gp, gc, ip, ic, some ⟨b, o, none⟩, tc⟩, rfl, ?_, ?_⟩
    · rw [HT.out]; exact ht.below (((Below.refl _ _).alloc (Nat.le_refl _) _).alloc (by simp) _)
    · exact ((Below.refl _ _).alloc (Nat.le_refl _) _).alloc (by simp) _
  | true =>
    have hX : X.k ≠ 0 := by
      have h := HB.out
      unfold isThere at h
      simp only [decide_eq_true_eq] at h
      rw [ho.k]; exact h.2.2
    have x1 : (X.k == 0) = false := by simpa using hX
    have x2 : decide (X.k = 0) = false := by simpa using hX
    have hx := not32 ho.s9 (rfl : comp X.s = comp X.s)
    have HT : Hid (tnR T (k : Int) = ⟨T.G, T.I, T.T.set k (turnT (T.T.getD k th0))⟩) := by show _ = _; unfold tnR; rw [HB.out]; rfl
    have hoN : Ok w { X with s := comp X.s } (turnT (T.T.getD k th0)) := by
      have := ho.sum (comp X.s) (comp_lt _)
      rw [ho.s] at this ⊢
      exact this
    obtain ⟨xs, hxs, hts⟩ := ht.R
    have hxl : xs.length = 12 := by rw [hts.1, ht.tl]
    obtain ⟨S, hS⟩ : ∃ S, comp X.s = S := ⟨_, rfl⟩
    rw [hS] at hx hoN
    obtain ⟨W, hW⟩ : ∃ W, W = ((w.alloc (.cells #[.slice gp 12 gc, .slice ip 12 ic, .slice (some ⟨b, o, none⟩) 12 tc] 35)).alloc (.cells #[.slice none 0 0, .slice none 0 0, .slice none 0 0] 35)).alloc (.cells #[.int .i64 X.k, .int .i64 X.a, .int .i64 X.g, .int .i64 X.c, .int .i64 X.h, .slice X.lp X.ln X.lc, .slice X.wp X.wn X.wc, .int .u32 (X.b : Int), .slice X.fp X.fn X.fc, .int .u32 (S : Int)] 56) := ⟨_, rfl⟩
    have bW : Below w.heap.size w W := by rw [hW]; exact (((Below.refl _ _).alloc (Nat.le_refl _) _).alloc (by simp) _).alloc (by simp; omega) _
    have hsz : W.heap.size = w.heap.size + 3 := by rw [hW]; simp
    have hR : Lv W (w.heap.size + 1) #[.slice none 0 0, .slice none 0 0, .slice none 0 0] 35 := by rw [hW]; exact Lv.below (heap_at (by simp)) (bel_self _ _)
    have HXL : Hid (xs.length = 12) := hxl
    clear hX hS hxl
    go_enter Try.func18, Try.ntmps18
    go_wp2_with (first
      | (go_at_call 39; rw [← hW]; refine (with_own ⟨gp, gc, ip, ic, some ⟨b, o, none⟩, tc⟩ xs _ (hxs.below bW) HXL.out k hk { X with s := S }).mono ?_; rintro e w1 ⟨p1, c1, rfl, o1, b1⟩; have R1 := hR.below b1)
      | (refine wpList_stV (E := eTb) rfl 35 (.tmp 4) (.tmp 38) rfl size35 (w.heap.size + 1) _ R1 rfl (⟨gp, gc, ip, ic, p1, c1⟩ : Tw) rfl rfl ?_; intro w9 L9 k9))
    all_goals
      have e9 := load35 L9
      have B1 := bel_call bW (Nat.le_refl _) b1
      have B9 : Below w.heap.size w w9 := bel_kp B1 k9 (by omega) B1.size
      refine bodyPost_ret (v := .tuple #[.agg #[.slice gp 12 gc, .slice ip 12 ic, .slice p1 12 c1], .bool true]) (by first | (simp [results, Try.results18, asAddr, e9]; done) | (simp [results, Try.results18, asAddr, Act.put, e9]; done)) rfl ⟨⟨gp, gc, ip, ic, p1, c1⟩, rfl, ?_, B9⟩
      rw [HT.out]
      exact ht.withed B9 hts hoN (own_kp o1 k9 (by omega))
end Go.Proofs.Ytcncpefdjgnhdaa
