/-
  What Put of the document hands back.
-/
import Derived.Test.YtcncpefdjgnhdaaStorq
import Derived.Test.YtcncpefdjgnhdaaTurnr
import Derived.Test.YtcncpefdjgnhdaaSealr
import Derived.Test.YtcncpefdjgnhdaaStorep
namespace Go.Proofs.Ytcncpefdjgnhdaa
open Go.ChangeShapes Go.WideShapes Go.ChangeAt Go.RowKit
attribute [local go_sem ↓] Go.wp_at_zero Go.wp_at_succ

theorem xor_any (m : Int) (s S : Nat) (hm : m = IntKind.u32.max) (h : s < 4294967296) (hS : comp s = S) : bits BinOp.xor IntKind.u32 m (s : Int) = (S : Int) := by
  subst hm
  exact not32 h hS
set_option maxRecDepth 20000 in
set_option maxHeartbeats 3000000 in
theorem rput_any (x : Tw) (T : Tb) (w : World) (ht : Tr w x T) (p : Int) (y : Tc) (u : Th) (hy : Ok w y u) :
    Calls Try.prog 16 #[.agg #[.slice x.gp 12 x.gc, .slice x.ip 12 x.ic, .slice x.tp 12 x.tc], .int .i64 p, .agg #[.int .i64 y.k, .int .i64 y.a, .int .i64 y.g, .int .i64 y.c, .int .i64 y.h, .slice y.lp y.ln y.lc, .slice y.wp y.wn y.wc, .int .u32 (y.b : Int), .slice y.fp y.fn y.fc, .int .u32 (y.s : Int)]] w fun e w' => ∃ z : Tw, e = .returned (.agg #[.slice z.gp 12 z.gc, .slice z.ip 12 z.ic, .slice z.tp 12 z.tc]) ∧ Tr w' z (ptR T p u.c u.h u.L u.W u.b u.F) ∧ Below w.heap.size w w' := by
  obtain ⟨gp, gc, ip, ic, tp, tc⟩ := x
  dsimp only
  obtain ⟨B, hB⟩ : ∃ B, isThere T.T p = B := ⟨_, rfl⟩
  by_cases h0 : p < 0
  · have hB2 : B = false := by rw [← hB]; unfold isThere; simp; omega
    subst hB2
    have HT : Hid (ptR T p u.c u.h u.L u.W u.b u.F = T) := by show _ = _; unfold ptR; rw [hB]; rfl
    have d1 : decide (p < 0) = true := by simpa using h0
    clear hB
    go_enter Try.func16, Try.ntmps16
    go_wp2
    refine bodyPost_ret (v := .agg #[.slice gp 12 gc, .slice ip 12 ic, .slice tp 12 tc]) (by simp [results, Try.results16, go_sem]) rfl ⟨⟨gp, gc, ip, ic, tp, tc⟩, rfl, ?_, ?_⟩
    · rw [HT.out]; exact ht.below ((((Below.refl _ _).alloc (Nat.le_refl _) _).alloc (by simp) _).alloc (by simp; omega) _)
    · exact (((Below.refl _ _).alloc (Nat.le_refl _) _).alloc (by simp) _).alloc (by simp; omega) _
  have d1 : decide (p < 0) = false := by simpa using h0
  by_cases h1 : 12 ≤ p
  · have hB2 : B = false := by rw [← hB]; unfold isThere; simp; omega
    subst hB2
    have HT : Hid (ptR T p u.c u.h u.L u.W u.b u.F = T) := by show _ = _; unfold ptR; rw [hB]; rfl
    have d2 : decide (12 ≤ p) = true := by simpa using h1
    clear hB
    go_enter Try.func16, Try.ntmps16
    go_wp2
    refine bodyPost_ret (v := .agg #[.slice gp 12 gc, .slice ip 12 ic, .slice tp 12 tc]) (by simp [results, Try.results16, go_sem]) rfl ⟨⟨gp, gc, ip, ic, tp, tc⟩, rfl, ?_, ?_⟩
    · rw [HT.out]; exact ht.below ((((Below.refl _ _).alloc (Nat.le_refl _) _).alloc (by simp) _).alloc (by simp; omega) _)
    · exact (((Below.refl _ _).alloc (Nat.le_refl _) _).alloc (by simp) _).alloc (by simp; omega) _
  have d2 : decide (12 ≤ p) = false := by simpa using h1
  obtain ⟨k, rfl⟩ := Int.eq_ofNat_of_zero_le (show 0 ≤ p by omega)
  have hk : k < 12 := by omega
  have hkI : (k : Int) < 12 := by omega
  obtain ⟨b, o, X, e9, hb, hc, ho⟩ := ht.thing k hk
  dsimp only at e9
  subst e9
  have hb1 : b < w.heap.size + 1 := by omega
  have hb2 : b < w.heap.size + 1 + 1 := by omega
  have hb3 : b < w.heap.size + 1 + 1 + 1 := by omega
  obtain ⟨f0, f1, f2, f3, f4, f5, f6, f7, f8, f9⟩ := hc
  have HB : Hid (isThere T.T (k : Int) = B) := hB
  clear hB
  cases B with
  | false =>
    have hX : X.k = 0 := by
      have h := HB.out
      unfold isThere at h
      simp only [decide_eq_false_iff_not] at h
      rw [ho.k]
      exact Classical.byContradiction fun hn => h ⟨by omega, hkI, hn⟩
    have x1 : (X.k == 0) = true := by simpa using hX
    have x2 : decide (X.k = 0) = true := by simpa using hX
    have HT : Hid (ptR T (k : Int) u.c u.h u.L u.W u.b u.F = T) := by show _ = _; unfold ptR; rw [HB.out]; rfl
    clear hX
    go_enter Try.func16, Try.ntmps16
    go_wp2
    refine bodyPost_ret (v := .agg #[.slice gp 12 gc, .slice ip 12 ic, .slice (some ⟨b, o, none⟩) 12 tc]) (by simp [results, Try.results16, go_sem]) rfl ⟨⟨gp, gc, ip, ic, some ⟨b, o, none⟩, tc⟩, rfl, ?_, ?_⟩
    · rw [HT.out]; exact ht.below ((((Below.refl _ _).alloc (Nat.le_refl _) _).alloc (by simp) _).alloc (by simp; omega) _)
    · exact (((Below.refl _ _).alloc (Nat.le_refl _) _).alloc (by simp) _).alloc (by simp; omega) _
  | true =>
    have hX : X.k ≠ 0 := by
      have h := HB.out
      unfold isThere at h
      simp only [decide_eq_true_eq] at h
      rw [ho.k]; exact h.2.2
    have x1 : (X.k == 0) = false := by simpa using hX
    have x2 : decide (X.k = 0) = false := by simpa using hX
    have HT : Hid (ptR T (k : Int) u.c u.h u.L u.W u.b u.F = ⟨T.G, T.I, T.T.set k (putT (T.T.getD k th0) u.c u.h u.L u.W u.b u.F)⟩) := by show _ = _; unfold ptR; rw [HB.out]; rfl
    obtain ⟨t, htt⟩ : ∃ t, T.T.getD k th0 = t := ⟨_, rfl⟩
    rw [htt] at ho HT
    clear htt hX
    obtain ⟨S0, hS0⟩ : ∃ S0, sealOf t = S0 := ⟨_, rfl⟩
    have HS0 : Hid (sealOf t = S0) := hS0
    obtain ⟨S, hS⟩ : ∃ S, sealOf { t with c := u.c, h := u.h, L := u.L, W := u.W, b := u.b, F := u.F } = S := ⟨_, rfl⟩
    have hS9 : S < 4294967296 := by rw [← hS]; exact sealOf_lt _
    have HS : Hid (sealOf { t with c := u.c, h := u.h, L := u.L, W := u.W, b := u.b, F := u.F } = S) := hS
    clear hS
    obtain ⟨xs, hxs, hts⟩ := ht.R
    have HXL : Hid (xs.length = 12) := by show _ = _; rw [hts.1, ht.tl]
    obtain ⟨W, hW⟩ : ∃ W, W = (((w.alloc (.cells #[.slice gp 12 gc, .slice ip 12 ic, .slice (some ⟨b, o, none⟩) 12 tc] 35)).alloc (.cells #[.int .i64 y.k, .int .i64 y.a, .int .i64 y.g, .int .i64 y.c, .int .i64 y.h, .slice y.lp y.ln y.lc, .slice y.wp y.wn y.wc, .int .u32 (y.b : Int), .slice y.fp y.fn y.fc, .int .u32 (y.s : Int)] 56)).alloc (.cells #[.slice none 0 0, .slice none 0 0, .slice none 0 0] 35)).alloc (.cells #[.int .i64 X.k, .int .i64 X.a, .int .i64 X.g, .int .i64 X.c, .int .i64 X.h, .slice X.lp X.ln X.lc, .slice X.wp X.wn X.wc, .int .u32 (X.b : Int), .slice X.fp X.fn X.fc, .int .u32 (X.s : Int)] 56) := ⟨_, rfl⟩
    have bW : Below w.heap.size w W := by rw [hW]; exact ((((Below.refl _ _).alloc (Nat.le_refl _) _).alloc (by simp) _).alloc (by simp; omega) _).alloc (by simp; omega) _
    have hsz : W.heap.size = w.heap.size + 4 := by rw [hW]; simp
    have hV : Vw W w.heap.size ⟨gp, gc, ip, ic, some ⟨b, o, none⟩, tc⟩ 35 := by rw [hW]; exact (((Vw.new _ (⟨gp, gc, ip, ic, some ⟨b, o, none⟩, tc⟩ : Tw) _).below (bel_self _ _)).below (bel_self _ _)).below (bel_self _ _)
    have hY : Vt W (w.heap.size + 1) y 56 := by rw [hW]; exact Lv.below (Lv.below (heap_at (by simp)) (bel_self _ _)) (bel_self _ _)
    have hR : Lv W (w.heap.size + 1 + 1) #[.slice none 0 0, .slice none 0 0, .slice none 0 0] 35 := by rw [hW]; exact Lv.below (heap_at (by simp)) (bel_self _ _)
    have hP : Vt W (w.heap.size + 1 + 1 + 1) X 56 := by rw [hW]; exact heap_at (by simp)
    have hne : w.heap.size + 1 ≠ w.heap.size + 1 + 1 + 1 := by omega
    go_enter Try.func16, Try.ntmps16
    go_wp2
    rw [← hW]
    clear hW
    refine wp_region_held_drew (S := fun w' => Below W.heap.size W w') (by kernel_rfl) (Below.refl _ _).drew (fun hHeld => ?_)
    refine wpAnyH_take (i := 0) (oi := _) (v := ?_) rfl (by kernel_rfl) (by kernel_rfl) (by kernel_rfl) (fun _ _ _ h => h) (Or.inl ⟨by rfl, ?_⟩) hHeld ?_
    rotate_left
    · intro w' hSw
      (go_simp <;> with_reducible rfl)
    try simp only [Act.put, List.getElem_toArray, List.getElem_cons_zero, List.setIfInBounds_toArray, List.set_cons_zero, List.set_cons_succ]
    refine wpAnyH_take (i := 1) (oi := _) (v := ?_) rfl (by kernel_rfl) (by kernel_rfl) (by kernel_rfl) (fun _ _ _ h => h) (Or.inl ⟨by rfl, ?_⟩) hHeld ?_
    rotate_left
    · intro w' hSw
      obtain ⟨x0, x1', x2', x3, x4, x5, x6, x7, x8, x9⟩ := (hP.below hSw).at
      (go_simp <;> with_reducible rfl)
    try simp only [Act.put, List.getElem_toArray, List.getElem_cons_succ, List.getElem_cons_zero, List.setIfInBounds_toArray, List.set_cons_zero, List.set_cons_succ]
    refine wpAnyH_take (i := 2) (oi := _) (v := ?_) rfl (by kernel_rfl) (by kernel_rfl) (by kernel_rfl) (fun _ _ _ h => h) (Or.inl ⟨by rfl, ?_⟩) hHeld ?_
    rotate_left
    · intro w' hSw
      obtain ⟨x0, x1', x2', x3, x4, x5, x6, x7, x8, x9⟩ := (hP.below hSw).at
      (go_simp <;> with_reducible rfl)
    try simp only [Act.put, List.getElem_toArray, List.getElem_cons_succ, List.getElem_cons_zero, List.setIfInBounds_toArray, List.set_cons_zero, List.set_cons_succ]
    refine wpAnyH_ready (rs := [3]) (by kernel_rfl) (by simp) ?_
    refine AllReadyH.cons (o := _) rfl (fun K hK => ?_) AllReadyH.nil
    go_simp
    go_at_call 46; refine (seal_any X t _ (ho.below (bW.trans (hHeld.mono bW.size))) S0 HS0.out).mono ?_; rintro e w1 ⟨rfl, b1'⟩; have b1 : Below W.heap.size W w1 := hHeld.trans b1'
    refine hK.out _ _ b1 (fun _ => ?_)
    refine wpAnyH_weaken (S' := fun w' => Below w1.heap.size w1 w') (fun w' h => bel_call b1 (Nat.le_refl _) h) _ _ _ _ ?_
    clear hHeld hK K
    have hHeld : Below w1.heap.size w1 w1 := Below.refl _ _
    try simp only [Act.put, List.getElem_toArray, List.getElem_cons_succ, List.getElem_cons_zero, List.setIfInBounds_toArray, List.set_cons_zero, List.set_cons_succ]
    refine wpAnyH_take (i := 4) (oi := _) (v := ?_) rfl (by kernel_rfl) (by kernel_rfl) (by kernel_rfl) (fun _ _ _ h => h) (Or.inl ⟨by rfl, ?_⟩) hHeld ?_
    rotate_left
    · intro w' hSw
      (go_simp <;> with_reducible rfl)
    try simp only [Act.put, List.getElem_toArray, List.getElem_cons_succ, List.getElem_cons_zero, List.setIfInBounds_toArray, List.set_cons_zero, List.set_cons_succ]
    refine wpAnyH_take (i := 5) (oi := _) (v := ?_) rfl (by kernel_rfl) (by kernel_rfl) (by kernel_rfl) (fun _ _ _ h => h) (Or.inl ⟨by rfl, ?_⟩) hHeld ?_
    rotate_left
    · intro w' hSw
      (go_simp <;> with_reducible rfl)
    try simp only [Act.put, List.getElem_toArray, List.getElem_cons_succ, List.getElem_cons_zero, List.setIfInBounds_toArray, List.set_cons_zero, List.set_cons_succ]
    refine wpAnyH_done (by kernel_rfl) ?_ _
    clear hHeld b1'
    have hP1 := hP.below b1
    have hY1 := hY.below b1
    cases hB2 : turnedT t with
    | false =>
      have HB2 : Hid (turnedT t = false) := hB2
      have hb1 : ((X.s : Int) != (S0 : Int)) = false := by
        have h := HB2.out
        unfold turnedT at h
        rw [HS0.out, ← ho.s] at h
        simp at h ⊢
        omega
      clear hB2 hS0
      have HP : Hid (putT t u.c u.h u.L u.W u.b u.F = { t with c := u.c, h := u.h, L := u.L, W := u.W, b := u.b, F := u.F, s := S }) := by
        show _ = _
        rw [putT_no HB2.out, HS.out]
      go_wp2
      refine wp_region_held_drew (S := fun w' => w'.heap[w.heap.size + 1]? = w1.heap[w.heap.size + 1]?) (by kernel_rfl) rfl (fun hHeld => ?_)
      refine wpAnyH_take (i := 0) (oi := _) (v := ?_) rfl (by kernel_rfl) (by kernel_rfl) (by kernel_rfl) (fun _ _ _ h => h) (Or.inl ⟨by rfl, ?_⟩) hHeld ?_
      rotate_left
      · intro w' hSw
        (go_simp <;> with_reducible rfl)
      try simp only [Act.put, List.getElem_toArray, List.getElem_cons_zero, List.setIfInBounds_toArray, List.set_cons_zero, List.set_cons_succ]
      refine wpAnyH_take (i := 1) (oi := _) (v := ?_) rfl (by kernel_rfl) (by kernel_rfl) (by kernel_rfl) (fun _ _ _ h => h) (Or.inl ⟨by rfl, ?_⟩) hHeld ?_
      rotate_left
      · intro w' hSw
        obtain ⟨y0, y1, y2, y3, y4, y5, y6, y7, y8, y9⟩ := Vt.at (show Vt w' (w.heap.size + 1) y 56 from hSw.trans hY1)
        (go_simp <;> with_reducible rfl)
      try simp only [Act.put, List.getElem_toArray, List.getElem_cons_succ, List.getElem_cons_zero, List.setIfInBounds_toArray, List.set_cons_zero, List.set_cons_succ]
      refine wpAnyH_take (i := 2) (oi := _) (v := ?_) rfl (by kernel_rfl) (by kernel_rfl) (by kernel_rfl) (fun _ _ _ h => h) (Or.inl ⟨by rfl, ?_⟩) hHeld ?_
      rotate_left
      · intro w' hSw
        (go_simp <;> with_reducible rfl)
      try simp only [Act.put, List.getElem_toArray, List.getElem_cons_succ, List.getElem_cons_zero, List.setIfInBounds_toArray, List.set_cons_zero, List.set_cons_succ]
      refine wpAnyH_take (i := 3) (oi := _) (v := ?_) rfl (by kernel_rfl) (by kernel_rfl) (by kernel_rfl) (fun _ _ _ h => h) (Or.inl ⟨by rfl, ?_⟩) hHeld ?_
      rotate_left
      · intro w' hSw
        obtain ⟨y0, y1, y2, y3, y4, y5, y6, y7, y8, y9⟩ := Vt.at (show Vt w' (w.heap.size + 1) y 56 from hSw.trans hY1)
        (go_simp <;> with_reducible rfl)
      try simp only [Act.put, List.getElem_toArray, List.getElem_cons_succ, List.getElem_cons_zero, List.setIfInBounds_toArray, List.set_cons_zero, List.set_cons_succ]
      refine wpAnyH_take (i := 4) (oi := _) (v := ?_) rfl (by kernel_rfl) (by kernel_rfl) (by kernel_rfl) (fun _ _ _ h => h) (Or.inl ⟨by rfl, ?_⟩) hHeld ?_
      rotate_left
      · intro w' hSw
        (go_simp <;> with_reducible rfl)
      try simp only [Act.put, List.getElem_toArray, List.getElem_cons_succ, List.getElem_cons_zero, List.setIfInBounds_toArray, List.set_cons_zero, List.set_cons_succ]
      refine wpAnyH_take (i := 5) (oi := _) (v := ?_) rfl (by kernel_rfl) (by kernel_rfl) (by kernel_rfl) (fun _ _ _ h => h) (Or.inl ⟨by rfl, ?_⟩) hHeld ?_
      rotate_left
      · intro w' hSw
        obtain ⟨y0, y1, y2, y3, y4, y5, y6, y7, y8, y9⟩ := Vt.at (show Vt w' (w.heap.size + 1) y 56 from hSw.trans hY1)
        (go_simp <;> with_reducible rfl)
      try simp only [Act.put, List.getElem_toArray, List.getElem_cons_succ, List.getElem_cons_zero, List.setIfInBounds_toArray, List.set_cons_zero, List.set_cons_succ]
      refine wpAnyH_take (i := 6) (oi := _) (v := ?_) rfl (by kernel_rfl) (by kernel_rfl) (by kernel_rfl) (fun _ _ _ h => h) (Or.inl ⟨by rfl, ?_⟩) hHeld ?_
      rotate_left
      · intro w' hSw
        (go_simp <;> with_reducible rfl)
      try simp only [Act.put, List.getElem_toArray, List.getElem_cons_succ, List.getElem_cons_zero, List.setIfInBounds_toArray, List.set_cons_zero, List.set_cons_succ]
      refine wpAnyH_ready (rs := [7]) (by kernel_rfl) (by simp) ?_
      refine AllReadyH.cons (o := _) rfl (fun K hK => ?_) (AllReadyH.nil)
      refine step_stP rfl 40 _ _ rfl (w.heap.size + 1 + 1 + 1) 3 _ _ (Lv.draw hP1) [.int .i64 y.c, .int .i64 y.h] size40p (by simp) (by intro v hv; simp at hv; rcases hv with rfl | rfl <;> rfl) rfl rfl ?_
      intro v0 Q0 q0
      have P1 : Vt v0 (w.heap.size + 1 + 1 + 1) ({ X with c := y.c, h := y.h } : Tc) 56 := Q0
      have hS0 : v0.heap[w.heap.size + 1]? = w1.heap[w.heap.size + 1]? := (q0.block _ (Nat.lt_of_lt_of_le hY1.lt (Nat.le_refl _)) (by intro h; exact hne (Option.some.inj h))).trans hHeld
      clear Q0
      refine hK.out _ _ hS0 (fun hHeld => ?_)
      clear hK K
      try simp only [Act.put, List.getElem_toArray, List.getElem_cons_succ, List.getElem_cons_zero]
      refine wpAnyH_take (i := 8) (oi := _) (v := ?_) rfl (by kernel_rfl) (by kernel_rfl) (by kernel_rfl) (fun _ _ _ h => h) (Or.inl ⟨by rfl, ?_⟩) hHeld ?_
      rotate_left
      · intro w' hSw
        (go_simp <;> with_reducible rfl)
      try simp only [Act.put, List.getElem_toArray, List.getElem_cons_succ, List.getElem_cons_zero, List.setIfInBounds_toArray, List.set_cons_zero, List.set_cons_succ]
      refine wpAnyH_ready (rs := [9]) (by kernel_rfl) (by simp) ?_
      refine AllReadyH.cons (o := _) rfl (fun K hK => ?_) (AllReadyH.nil)
      refine step_stP rfl 43 _ _ rfl (w.heap.size + 1 + 1 + 1) 5 _ _ P1 [.slice y.lp y.ln y.lc, .slice y.wp y.wn y.wc] size43p (by simp) (by intro v hv; simp at hv; rcases hv with rfl | rfl <;> rfl) rfl rfl ?_
      intro v1 Q1 q1
      have P2 : Vt v1 (w.heap.size + 1 + 1 + 1) ({ X with c := y.c, h := y.h, lp := y.lp, ln := y.ln, lc := y.lc, wp := y.wp, wn := y.wn, wc := y.wc } : Tc) 56 := Q1
      have hS1 : v1.heap[w.heap.size + 1]? = w1.heap[w.heap.size + 1]? := (q1.block _ (Nat.lt_of_lt_of_le hY1.lt q0.size) (by intro h; exact hne (Option.some.inj h))).trans hHeld
      clear Q1
      refine hK.out _ _ hS1 (fun hHeld => ?_)
      clear hK K
      try simp only [Act.put, List.getElem_toArray, List.getElem_cons_succ, List.getElem_cons_zero]
      refine wpAnyH_take (i := 10) (oi := _) (v := ?_) rfl (by kernel_rfl) (by kernel_rfl) (by kernel_rfl) (fun _ _ _ h => h) (Or.inl ⟨by rfl, ?_⟩) hHeld ?_
      rotate_left
      · intro w' hSw
        (go_simp <;> with_reducible rfl)
      try simp only [Act.put, List.getElem_toArray, List.getElem_cons_succ, List.getElem_cons_zero, List.setIfInBounds_toArray, List.set_cons_zero, List.set_cons_succ]
      refine wpAnyH_ready (rs := [11]) (by kernel_rfl) (by simp) ?_
      refine AllReadyH.cons (o := _) rfl (fun K hK => ?_) (AllReadyH.nil)
      refine step_stP rfl 47 _ _ rfl (w.heap.size + 1 + 1 + 1) 7 _ _ P2 [.int .u32 (y.b : Int), .slice y.fp y.fn y.fc] size47p (by simp) (by intro v hv; simp at hv; rcases hv with rfl | rfl <;> rfl) rfl rfl ?_
      intro v2 Q2 q2
      have P3 : Vt v2 (w.heap.size + 1 + 1 + 1) ({ X with c := y.c, h := y.h, lp := y.lp, ln := y.ln, lc := y.lc, wp := y.wp, wn := y.wn, wc := y.wc, b := y.b, fp := y.fp, fn := y.fn, fc := y.fc } : Tc) 56 := Q2
      have hS2 : v2.heap[w.heap.size + 1]? = w1.heap[w.heap.size + 1]? := (q2.block _ (Nat.lt_of_lt_of_le hY1.lt (Nat.le_trans q0.size q1.size)) (by intro h; exact hne (Option.some.inj h))).trans hHeld
      clear Q2
      refine hK.out _ _ hS2 (fun hHeld => ?_)
      clear hK K
      try simp only [Act.put, List.getElem_toArray, List.getElem_cons_succ, List.getElem_cons_zero]
      refine wpAnyH_done (by kernel_rfl) ?_ _
      have lv0 : w1.heap.size ≤ v0.heap.size := q0.size
      have lv1 : v0.heap.size ≤ v1.heap.size := q1.size
      have lv2 : v1.heap.size ≤ v2.heap.size := q2.size
      have b1s := b1.size
      have Bw1 := bel_call bW (Nat.le_refl _) b1
      have Bw1s := Bw1.size
      have B3 : Below w.heap.size w v2 := bel_kp (bel_kp (bel_kp Bw1.drew q0 (by omega) Bw1s) q1 (by omega) (by omega)) q2 (by omega) (by omega)
      have R3 : Lv v2 (w.heap.size + 1 + 1) #[.slice none 0 0, .slice none 0 0, .slice none 0 0] 35 := (((Lv.draw (hR.below b1)).kp q0 (by omega)).kp q1 (by omega)).kp q2 (by omega)
      have V3 : Lv v2 w.heap.size #[.slice gp 12 gc, .slice ip 12 ic, .slice (some ⟨b, o, none⟩) 12 tc] 35 := ((Lv.kp (Lv.draw (hV.below b1)) q0 (by omega)).kp q1 (by omega)).kp q2 (by omega)
      have okX : Ok v2 ({ X with c := y.c, h := y.h, lp := y.lp, ln := y.ln, lc := y.lc, wp := y.wp, wn := y.wn, wc := y.wc, b := y.b, fp := y.fp, fn := y.fn, fc := y.fc } : Tc) { t with c := u.c, h := u.h, L := u.L, W := u.W, b := u.b, F := u.F } := { hy.below B3 with k := ho.k, a := ho.a, g := ho.g, s := ho.s, s9 := ho.s9 }
      have okw : Ok w ({ X with c := y.c, h := y.h, lp := y.lp, ln := y.ln, lc := y.lc, wp := y.wp, wn := y.wn, wc := y.wc, b := y.b, fp := y.fp, fn := y.fn, fc := y.fc } : Tc) { t with c := u.c, h := u.h, L := u.L, W := u.W, b := u.b, F := u.F } := { hy with k := ho.k, a := ho.a, g := ho.g, s := ho.s, s9 := ho.s9 }
      obtain ⟨x0, x1', x2', x3, x4, x5, x6, x7, x8, x9⟩ := P3.at
      clear P1 P2 hHeld hS0 hS1 hS2 hP1 hY1
      have okN : Ok w ({ X with c := y.c, h := y.h, lp := y.lp, ln := y.ln, lc := y.lc, wp := y.wp, wn := y.wn, wc := y.wc, b := y.b, fp := y.fp, fn := y.fn, fc := y.fc , s := S } : Tc) { t with c := u.c, h := u.h, L := u.L, W := u.W, b := u.b, F := u.F, s := S } := okw.sum S hS9
      go_wp2_with (first
        | (go_at_call 46; refine (seal_any ({ X with c := y.c, h := y.h, lp := y.lp, ln := y.ln, lc := y.lc, wp := y.wp, wn := y.wn, wc := y.wc, b := y.b, fp := y.fp, fn := y.fn, fc := y.fc } : Tc) _ _ okX S HS.out).mono ?_; rintro e w4 ⟨rfl, b4⟩; have P4 := P3.below b4; have R4 := R3.below b4; have V4 := V3.below b4; have B4 := bel_call B3 (Nat.le_refl _) b4; clear x0 x1' x2' x3 x4 x5 x6 x7 x8 x9; obtain ⟨x0, x1', x2', x3, x4, x5, x6, x7, x8, x9⟩ := P4.at; have z9 := P4.z 9; have c0 := V4.c 0 rfl; have c1 := V4.c 1 rfl; have c2 := V4.c 2 rfl; have BW2 : Below w.heap.size w (w4.setCell ⟨w.heap.size + 1 + 1 + 1, 9, none⟩ (.int .u32 (S : Int))) := Below.setCell B4 (p := ⟨w.heap.size + 1 + 1 + 1, 9, none⟩) (by show w.heap.size ≤ w.heap.size + 1 + 1 + 1; omega) (.int .u32 (S : Int)); have RW2 : Lv (w4.setCell ⟨w.heap.size + 1 + 1 + 1, 9, none⟩ (.int .u32 (S : Int))) (w.heap.size + 1 + 1) #[.slice none 0 0, .slice none 0 0, .slice none 0 0] 35 := R4.far (a := ⟨w.heap.size + 1 + 1 + 1, 9, none⟩) (by simp) (.int .u32 (S : Int)))
        | (go_at_call 39; have hcw := with_own ⟨gp, gc, ip, ic, some ⟨b, o, none⟩, tc⟩ xs _ (hxs.below BW2) HXL.out k hk ({ X with c := y.c, h := y.h, lp := y.lp, ln := y.ln, lc := y.lc, wp := y.wp, wn := y.wn, wc := y.wc, b := y.b, fp := y.fp, fn := y.fn, fc := y.fc , s := S } : Tc); dsimp only at hcw; refine hcw.mono ?_; clear hcw; rintro e w5 ⟨p1, c1', rfl, o5, b5⟩; have R5 := Lv.below RW2 b5; have B5 := bel_call BW2 (Nat.le_refl _) b5)
        | (refine wpList_stV (E := eTb) rfl 35 (.tmp 6) (.tmp 58) rfl size35 (w.heap.size + 1 + 1) _ R5 rfl (⟨gp, gc, ip, ic, p1, c1'⟩ : Tw) rfl rfl ?_; intro w9 L9 k9))
      all_goals
        have e9 := load35 L9
        have B9 : Below w.heap.size w w9 := bel_kp B5 k9 (by omega) B5.size
        refine bodyPost_ret (v := .agg #[.slice gp 12 gc, .slice ip 12 ic, .slice p1 12 c1']) (by simp [results, Try.results16, asAddr, Act.put, e9]) rfl ⟨⟨gp, gc, ip, ic, p1, c1'⟩, rfl, ?_, B9⟩
        rw [HT.out, HP.out]
        exact ht.withed B9 hts okN (own_kp o5 k9 (by have h4 := b4.size; simp [World.setCell]; omega))
    | true =>
      have HB2 : Hid (turnedT t = true) := hB2
      have hb1 : ((X.s : Int) != (S0 : Int)) = true := by
        have h := HB2.out
        unfold turnedT at h
        rw [HS0.out, ← ho.s] at h
        simp at h ⊢
        omega
      clear hB2 hS0
      obtain ⟨S2, hS2⟩ : ∃ S2, comp S = S2 := ⟨_, rfl⟩
      have HS2 : Hid (comp S = S2) := hS2
      have hx2 := not32 hS9 hS2
      clear hS2
      have HP : Hid (putT t u.c u.h u.L u.W u.b u.F = { t with c := u.c, h := u.h, L := u.L, W := u.W, b := u.b, F := u.F, s := S2 }) := by
        show _ = _
        rw [putT_yes HB2.out, HS.out, HS2.out]
      go_wp2
      refine wp_region_held_drew (S := fun w' => w'.heap[w.heap.size + 1]? = w1.heap[w.heap.size + 1]?) (by kernel_rfl) rfl (fun hHeld => ?_)
      refine wpAnyH_take (i := 0) (oi := _) (v := ?_) rfl (by kernel_rfl) (by kernel_rfl) (by kernel_rfl) (fun _ _ _ h => h) (Or.inl ⟨by rfl, ?_⟩) hHeld ?_
      rotate_left
      · intro w' hSw
        (go_simp <;> with_reducible rfl)
      try simp only [Act.put, List.getElem_toArray, List.getElem_cons_zero, List.setIfInBounds_toArray, List.set_cons_zero, List.set_cons_succ]
      refine wpAnyH_take (i := 1) (oi := _) (v := ?_) rfl (by kernel_rfl) (by kernel_rfl) (by kernel_rfl) (fun _ _ _ h => h) (Or.inl ⟨by rfl, ?_⟩) hHeld ?_
      rotate_left
      · intro w' hSw
        obtain ⟨y0, y1, y2, y3, y4, y5, y6, y7, y8, y9⟩ := Vt.at (show Vt w' (w.heap.size + 1) y 56 from hSw.trans hY1)
        (go_simp <;> with_reducible rfl)
      try simp only [Act.put, List.getElem_toArray, List.getElem_cons_succ, List.getElem_cons_zero, List.setIfInBounds_toArray, List.set_cons_zero, List.set_cons_succ]
      refine wpAnyH_take (i := 2) (oi := _) (v := ?_) rfl (by kernel_rfl) (by kernel_rfl) (by kernel_rfl) (fun _ _ _ h => h) (Or.inl ⟨by rfl, ?_⟩) hHeld ?_
      rotate_left
      · intro w' hSw
        (go_simp <;> with_reducible rfl)
      try simp only [Act.put, List.getElem_toArray, List.getElem_cons_succ, List.getElem_cons_zero, List.setIfInBounds_toArray, List.set_cons_zero, List.set_cons_succ]
      refine wpAnyH_take (i := 3) (oi := _) (v := ?_) rfl (by kernel_rfl) (by kernel_rfl) (by kernel_rfl) (fun _ _ _ h => h) (Or.inl ⟨by rfl, ?_⟩) hHeld ?_
      rotate_left
      · intro w' hSw
        obtain ⟨y0, y1, y2, y3, y4, y5, y6, y7, y8, y9⟩ := Vt.at (show Vt w' (w.heap.size + 1) y 56 from hSw.trans hY1)
        (go_simp <;> with_reducible rfl)
      try simp only [Act.put, List.getElem_toArray, List.getElem_cons_succ, List.getElem_cons_zero, List.setIfInBounds_toArray, List.set_cons_zero, List.set_cons_succ]
      refine wpAnyH_take (i := 4) (oi := _) (v := ?_) rfl (by kernel_rfl) (by kernel_rfl) (by kernel_rfl) (fun _ _ _ h => h) (Or.inl ⟨by rfl, ?_⟩) hHeld ?_
      rotate_left
      · intro w' hSw
        (go_simp <;> with_reducible rfl)
      try simp only [Act.put, List.getElem_toArray, List.getElem_cons_succ, List.getElem_cons_zero, List.setIfInBounds_toArray, List.set_cons_zero, List.set_cons_succ]
      refine wpAnyH_take (i := 5) (oi := _) (v := ?_) rfl (by kernel_rfl) (by kernel_rfl) (by kernel_rfl) (fun _ _ _ h => h) (Or.inl ⟨by rfl, ?_⟩) hHeld ?_
      rotate_left
      · intro w' hSw
        obtain ⟨y0, y1, y2, y3, y4, y5, y6, y7, y8, y9⟩ := Vt.at (show Vt w' (w.heap.size + 1) y 56 from hSw.trans hY1)
        (go_simp <;> with_reducible rfl)
      try simp only [Act.put, List.getElem_toArray, List.getElem_cons_succ, List.getElem_cons_zero, List.setIfInBounds_toArray, List.set_cons_zero, List.set_cons_succ]
      refine wpAnyH_take (i := 6) (oi := _) (v := ?_) rfl (by kernel_rfl) (by kernel_rfl) (by kernel_rfl) (fun _ _ _ h => h) (Or.inl ⟨by rfl, ?_⟩) hHeld ?_
      rotate_left
      · intro w' hSw
        (go_simp <;> with_reducible rfl)
      try simp only [Act.put, List.getElem_toArray, List.getElem_cons_succ, List.getElem_cons_zero, List.setIfInBounds_toArray, List.set_cons_zero, List.set_cons_succ]
      refine wpAnyH_ready (rs := [7]) (by kernel_rfl) (by simp) ?_
      refine AllReadyH.cons (o := _) rfl (fun K hK => ?_) (AllReadyH.nil)
      refine step_stP rfl 40 _ _ rfl (w.heap.size + 1 + 1 + 1) 3 _ _ (Lv.draw hP1) [.int .i64 y.c, .int .i64 y.h] size40p (by simp) (by intro v hv; simp at hv; rcases hv with rfl | rfl <;> rfl) rfl rfl ?_
      intro v0 Q0 q0
      have P1 : Vt v0 (w.heap.size + 1 + 1 + 1) ({ X with c := y.c, h := y.h } : Tc) 56 := Q0
      have hS0 : v0.heap[w.heap.size + 1]? = w1.heap[w.heap.size + 1]? := (q0.block _ (Nat.lt_of_lt_of_le hY1.lt (Nat.le_refl _)) (by intro h; exact hne (Option.some.inj h))).trans hHeld
      clear Q0
      refine hK.out _ _ hS0 (fun hHeld => ?_)
      clear hK K
      try simp only [Act.put, List.getElem_toArray, List.getElem_cons_succ, List.getElem_cons_zero]
      refine wpAnyH_take (i := 8) (oi := _) (v := ?_) rfl (by kernel_rfl) (by kernel_rfl) (by kernel_rfl) (fun _ _ _ h => h) (Or.inl ⟨by rfl, ?_⟩) hHeld ?_
      rotate_left
      · intro w' hSw
        (go_simp <;> with_reducible rfl)
      try simp only [Act.put, List.getElem_toArray, List.getElem_cons_succ, List.getElem_cons_zero, List.setIfInBounds_toArray, List.set_cons_zero, List.set_cons_succ]
      refine wpAnyH_ready (rs := [9]) (by kernel_rfl) (by simp) ?_
      refine AllReadyH.cons (o := _) rfl (fun K hK => ?_) (AllReadyH.nil)
      refine step_stP rfl 43 _ _ rfl (w.heap.size + 1 + 1 + 1) 5 _ _ P1 [.slice y.lp y.ln y.lc, .slice y.wp y.wn y.wc] size43p (by simp) (by intro v hv; simp at hv; rcases hv with rfl | rfl <;> rfl) rfl rfl ?_
      intro v1 Q1 q1
      have P2 : Vt v1 (w.heap.size + 1 + 1 + 1) ({ X with c := y.c, h := y.h, lp := y.lp, ln := y.ln, lc := y.lc, wp := y.wp, wn := y.wn, wc := y.wc } : Tc) 56 := Q1
      have hS1 : v1.heap[w.heap.size + 1]? = w1.heap[w.heap.size + 1]? := (q1.block _ (Nat.lt_of_lt_of_le hY1.lt q0.size) (by intro h; exact hne (Option.some.inj h))).trans hHeld
      clear Q1
      refine hK.out _ _ hS1 (fun hHeld => ?_)
      clear hK K
      try simp only [Act.put, List.getElem_toArray, List.getElem_cons_succ, List.getElem_cons_zero]
      refine wpAnyH_take (i := 10) (oi := _) (v := ?_) rfl (by kernel_rfl) (by kernel_rfl) (by kernel_rfl) (fun _ _ _ h => h) (Or.inl ⟨by rfl, ?_⟩) hHeld ?_
      rotate_left
      · intro w' hSw
        (go_simp <;> with_reducible rfl)
      try simp only [Act.put, List.getElem_toArray, List.getElem_cons_succ, List.getElem_cons_zero, List.setIfInBounds_toArray, List.set_cons_zero, List.set_cons_succ]
      refine wpAnyH_ready (rs := [11]) (by kernel_rfl) (by simp) ?_
      refine AllReadyH.cons (o := _) rfl (fun K hK => ?_) (AllReadyH.nil)
      refine step_stP rfl 47 _ _ rfl (w.heap.size + 1 + 1 + 1) 7 _ _ P2 [.int .u32 (y.b : Int), .slice y.fp y.fn y.fc] size47p (by simp) (by intro v hv; simp at hv; rcases hv with rfl | rfl <;> rfl) rfl rfl ?_
      intro v2 Q2 q2
      have P3 : Vt v2 (w.heap.size + 1 + 1 + 1) ({ X with c := y.c, h := y.h, lp := y.lp, ln := y.ln, lc := y.lc, wp := y.wp, wn := y.wn, wc := y.wc, b := y.b, fp := y.fp, fn := y.fn, fc := y.fc } : Tc) 56 := Q2
      have hS2 : v2.heap[w.heap.size + 1]? = w1.heap[w.heap.size + 1]? := (q2.block _ (Nat.lt_of_lt_of_le hY1.lt (Nat.le_trans q0.size q1.size)) (by intro h; exact hne (Option.some.inj h))).trans hHeld
      clear Q2
      refine hK.out _ _ hS2 (fun hHeld => ?_)
      clear hK K
      try simp only [Act.put, List.getElem_toArray, List.getElem_cons_succ, List.getElem_cons_zero]
      refine wpAnyH_done (by kernel_rfl) ?_ _
      have lv0 : w1.heap.size ≤ v0.heap.size := q0.size
      have lv1 : v0.heap.size ≤ v1.heap.size := q1.size
      have lv2 : v1.heap.size ≤ v2.heap.size := q2.size
      have b1s := b1.size
      have Bw1 := bel_call bW (Nat.le_refl _) b1
      have Bw1s := Bw1.size
      have B3 : Below w.heap.size w v2 := bel_kp (bel_kp (bel_kp Bw1.drew q0 (by omega) Bw1s) q1 (by omega) (by omega)) q2 (by omega) (by omega)
      have R3 : Lv v2 (w.heap.size + 1 + 1) #[.slice none 0 0, .slice none 0 0, .slice none 0 0] 35 := (((Lv.draw (hR.below b1)).kp q0 (by omega)).kp q1 (by omega)).kp q2 (by omega)
      have V3 : Lv v2 w.heap.size #[.slice gp 12 gc, .slice ip 12 ic, .slice (some ⟨b, o, none⟩) 12 tc] 35 := ((Lv.kp (Lv.draw (hV.below b1)) q0 (by omega)).kp q1 (by omega)).kp q2 (by omega)
      have okX : Ok v2 ({ X with c := y.c, h := y.h, lp := y.lp, ln := y.ln, lc := y.lc, wp := y.wp, wn := y.wn, wc := y.wc, b := y.b, fp := y.fp, fn := y.fn, fc := y.fc } : Tc) { t with c := u.c, h := u.h, L := u.L, W := u.W, b := u.b, F := u.F } := { hy.below B3 with k := ho.k, a := ho.a, g := ho.g, s := ho.s, s9 := ho.s9 }
      have okw : Ok w ({ X with c := y.c, h := y.h, lp := y.lp, ln := y.ln, lc := y.lc, wp := y.wp, wn := y.wn, wc := y.wc, b := y.b, fp := y.fp, fn := y.fn, fc := y.fc } : Tc) { t with c := u.c, h := u.h, L := u.L, W := u.W, b := u.b, F := u.F } := { hy with k := ho.k, a := ho.a, g := ho.g, s := ho.s, s9 := ho.s9 }
      obtain ⟨x0, x1', x2', x3, x4, x5, x6, x7, x8, x9⟩ := P3.at
      clear P1 P2 hHeld hS0 hS1 hS2 hP1 hY1
      have okN : Ok w ({ X with c := y.c, h := y.h, lp := y.lp, ln := y.ln, lc := y.lc, wp := y.wp, wn := y.wn, wc := y.wc, b := y.b, fp := y.fp, fn := y.fn, fc := y.fc , s := S2 } : Tc) { t with c := u.c, h := u.h, L := u.L, W := u.W, b := u.b, F := u.F, s := S2 } := okw.sum S2 (by rw [← HS2.out]; exact comp_lt _)
      go_wp2_with (first
        | (go_at_call 46; refine (seal_any ({ X with c := y.c, h := y.h, lp := y.lp, ln := y.ln, lc := y.lc, wp := y.wp, wn := y.wn, wc := y.wc, b := y.b, fp := y.fp, fn := y.fn, fc := y.fc } : Tc) _ _ okX S HS.out).mono ?_; rintro e w4 ⟨rfl, b4⟩; have P4 := P3.below b4; have R4 := R3.below b4; have V4 := V3.below b4; have B4 := bel_call B3 (Nat.le_refl _) b4; clear x0 x1' x2' x3 x4 x5 x6 x7 x8 x9; obtain ⟨x0, x1', x2', x3, x4, x5, x6, x7, x8, x9⟩ := P4.at; have z9 := P4.z 9; have c0 := V4.c 0 rfl; have c1 := V4.c 1 rfl; have c2 := V4.c 2 rfl; have BW2 : Below w.heap.size w ((w4.setCell ⟨w.heap.size + 1 + 1 + 1, 9, none⟩ (.int .u32 (S : Int))).setCell ⟨w.heap.size + 1 + 1 + 1, 9, none⟩ (.int .u32 (S2 : Int))) := Below.setCell (Below.setCell B4 (p := ⟨w.heap.size + 1 + 1 + 1, 9, none⟩) (by show w.heap.size ≤ w.heap.size + 1 + 1 + 1; omega) (.int .u32 (S : Int))) (p := ⟨w.heap.size + 1 + 1 + 1, 9, none⟩) (by show w.heap.size ≤ w.heap.size + 1 + 1 + 1; omega) (.int .u32 (S2 : Int)); have RW2 : Lv ((w4.setCell ⟨w.heap.size + 1 + 1 + 1, 9, none⟩ (.int .u32 (S : Int))).setCell ⟨w.heap.size + 1 + 1 + 1, 9, none⟩ (.int .u32 (S2 : Int))) (w.heap.size + 1 + 1) #[.slice none 0 0, .slice none 0 0, .slice none 0 0] 35 := (R4.far (a := ⟨w.heap.size + 1 + 1 + 1, 9, none⟩) (by simp) (.int .u32 (S : Int))).far (a := ⟨w.heap.size + 1 + 1 + 1, 9, none⟩) (by simp) (.int .u32 (S2 : Int)))
        | (go_at_call 39; have hcw := with_own ⟨gp, gc, ip, ic, some ⟨b, o, none⟩, tc⟩ xs _ (hxs.below BW2) HXL.out k hk ({ X with c := y.c, h := y.h, lp := y.lp, ln := y.ln, lc := y.lc, wp := y.wp, wn := y.wn, wc := y.wc, b := y.b, fp := y.fp, fn := y.fn, fc := y.fc , s := S2 } : Tc); dsimp only at hcw; rw [xor_any _ S S2 ?hm hS9 HS2.out]; (case hm => rfl); refine hcw.mono ?_; clear hcw; rintro e w5 ⟨p1, c1', rfl, o5, b5⟩; have R5 := Lv.below RW2 b5; have B5 := bel_call BW2 (Nat.le_refl _) b5)
        | (refine wpList_stV (E := eTb) rfl 35 (.tmp 6) (.tmp 58) rfl size35 (w.heap.size + 1 + 1) _ R5 rfl (⟨gp, gc, ip, ic, p1, c1'⟩ : Tw) rfl rfl ?_; intro w9 L9 k9))
      all_goals
        have e9 := load35 L9
        have B9 : Below w.heap.size w w9 := bel_kp B5 k9 (by omega) B5.size
        refine bodyPost_ret (v := .agg #[.slice gp 12 gc, .slice ip 12 ic, .slice p1 12 c1']) (by simp [results, Try.results16, asAddr, Act.put, e9]) rfl ⟨⟨gp, gc, ip, ic, p1, c1'⟩, rfl, ?_, B9⟩
        rw [HT.out, HP.out]
        exact ht.withed B9 hts okN (own_kp o5 k9 (by have h4 := b4.size; simp [World.setCell]; omega))
end Go.Proofs.Ytcncpefdjgnhdaa
