/-
  What Await hands back.
-/
import Derived.Test.YtodboigmmekkpaaRRaise
import Derived.Test.YtodboigmmekkpaaHand
import Derived.Deep.CutRange
namespace Go.Proofs.Ytodboigmmekkpaa
open Go.ChangeShapes Go.WideShapes Go.ChangeAt Go.RowKit
attribute [local go_sem ↓] Go.wp_at_zero Go.wp_at_succ

theorem share_no (b m : Nat) (cl : Int) (p : Option Addr) (c : Nat) (w : World) (hb32 : b < 4294967296) (hm32 : m < 4294967296) (h : Rd eW w p c [(cl, m)]) (hz : b &&& m = 0) :
    Calls Try.prog 17 #[.int .u32 (b : Int), .slice p 1 c] w fun e w' => ∃ (q : Option Addr) (d : Nat) (u : Option Addr) (v : Nat), e = .returned (.tuple #[.agg #[.int .u32 (b : Int), .slice q 1 d], .slice u 0 v]) ∧ Below w.heap.size w w' := by
  refine (share_any b p c [(cl, m)] w hb32 h (fun x hx => by simp at hx; subst hx; exact hm32) 1 rfl (by decide)).mono ?_
  rintro e w' ⟨q, d, u, v, rfl, o1, o2, t2, hb⟩
  refine ⟨q, d, u, v, ?_, hb⟩
  simp [lf, kp, tl, hz, dn_zero hz]
theorem share_yes (b m : Nat) (cl : Int) (p : Option Addr) (c : Nat) (w : World) (hb32 : b < 4294967296) (hm32 : m < 4294967296) (h : Rd eW w p c [(cl, m)]) (Z E : Nat) (hz : Z ≠ 0) (hZ : b &&& m = Z) (hE : dn b m = E) :
    Calls Try.prog 17 #[.int .u32 (b : Int), .slice p 1 c] w fun e w' => ∃ (q : Option Addr) (d : Nat) (ub v : Nat), e = .returned (.tuple #[.agg #[.int .u32 (E : Int), .slice q 0 d], .slice (some ⟨ub, 0, none⟩) 1 v]) ∧ w.heap.size ≤ ub ∧ ub < w'.heap.size ∧ w'.cell? ⟨ub, 0, none⟩ = some (.int .i64 cl) ∧ w'.cell? ⟨ub, 1, none⟩ = some (.int .u32 (Z : Int)) ∧ Below w.heap.size w w' := by
  refine (share_any b p c [(cl, m)] w hb32 h (fun x hx => by simp at hx; subst hx; exact hm32) 1 rfl (by decide)).mono ?_
  rintro e w' ⟨q, d, u, v, rfl, o1, o2, t2, hb⟩
  subst hZ hE
  have e1 : tl b [(cl, m)] = [(cl, b &&& m)] := by simp [tl, hz]
  rw [e1] at o2 ⊢
  have e2 : kp b [(cl, m)] = [] := by simp [kp, hz]
  rw [e2]
  obtain ⟨ub, cap, cur, h1, h2, h3, -⟩ := o2.2.resolve_left (by simp)
  simp only [Value.slice.injEq, true_and] at h1
  obtain ⟨rfl, rfl⟩ := h1
  have k0 := World.ownsRow.cells o2 (g := ub) rfl 0 _ rfl
  have k1 := World.ownsRow.cells o2 (g := ub) rfl 1 _ rfl
  rw [add_plain] at k0 k1
  exact ⟨q, d, ub, v, rfl, h2, (Array.getElem?_eq_some_iff.1 h3).1, k0, k1, hb⟩
set_option maxHeartbeats 8000000 in
theorem await_any (b m : Nat) (cl : Int) (p : Option Addr) (c : Nat) (l : List Wt) (w : World) (hb32 : b < 4294967296) (hm32 : m < 4294967296) (h : Rd eW w p c l) (hU : UL l) (n : Nat) (hn : l.length = n) (hn9 : n ≤ 1000) :
    Calls Try.prog 12 #[.agg #[.int .u32 (b : Int), .slice p n c], .int .i64 cl, .int .u32 (m : Int)] w fun e w' => ∃ (q : Option Addr) (d : Nat), e = .returned (.tuple #[.agg #[.int .u32 ((awB b cl m : Nat) : Int), .slice q (awW b l cl m).length d], .int .u32 ((awG b cl m : Nat) : Int), .bool (awO b l cl m)]) ∧ Own eW w' w.heap.size 43 q d (awW b l cl m) ∧ Below w.heap.size w w' := by
  have HN : Hid (l.length = n) := hn
  have HU : Hid (UL l) := hU
  clear hn hU
  obtain ⟨W, hW⟩ : ∃ W, W = (w.alloc (.cells #[.int .u32 (b : Int), .slice p n c] 25)).alloc (.cells #[.int .u32 0, .slice none 0 0] 25) := ⟨_, rfl⟩
  have bW : Below w.heap.size w W := by rw [hW]; exact ((Below.refl _ _).alloc (Nat.le_refl _) _).alloc (by simp) _
  have hp0 : Fv W w.heap.size b p n c := by rw [hW]; exact (Fv.new _ _ _ _ _).below (bel_self _ _)
  have hr0 : Fv W (w.heap.size + 1) 0 none 0 0 := by rw [hW]; exact heap_at (by simp)
  have hsz : W.heap.size = w.heap.size + 2 := by rw [hW]; simp
  have hgp : w.heap.size < W.heap.size := by omega
  have hgr : w.heap.size + 1 < W.heap.size := by omega
  have hWw0 := bW.size
  clear hsz
  go_enter Try.func12, Try.ntmps12
  go_upto_region 1 with fail
  rw [← hW]
  clear hW
  go_cut [9] from 13 to 18 (fun a wx => ∃ (g : Nat) (q1 : Option Addr) (d1 : Nat), a = .pointer (some ⟨g, 0, none⟩) ∧ W.heap.size ≤ g ∧ Fv wx g b q1 n d1 ∧ Own eW wx W.heap.size 43 q1 d1 l ∧ Below W.heap.size W wx)
  case first =>
    refine wp_region_held_drew (S := fun w' => Below W.heap.size W w') (by kernel_rfl) (Below.refl _ _).drew (fun hHeld => ?_)
    refine wpAnyH_take (i := 0) (oi := _) (v := ?_) rfl (by kernel_rfl) (by kernel_rfl) (by kernel_rfl) (fun _ _ _ h => h) (Or.inl ⟨by rfl, ?_⟩) hHeld ?_
    rotate_left
    · intro w' hSw
      (go_simp <;> with_reducible rfl)
    try simp only [Act.put, List.getElem_toArray, List.getElem_cons_zero, List.setIfInBounds_toArray, List.set_cons_zero, List.set_cons_succ]
    refine wpAnyH_take (i := 1) (oi := _) (v := ?_) rfl (by kernel_rfl) (by kernel_rfl) (by kernel_rfl) (fun _ _ _ h => h) (Or.inl ⟨by rfl, ?_⟩) hHeld ?_
    rotate_left
    · intro w' hSw
      have e0 := Fv.c0 (show Fv w' w.heap.size b p n c from (hSw.block w.heap.size hgp).trans hp0)
      (go_simp <;> with_reducible rfl)
    try simp only [Act.put, List.getElem_toArray, List.getElem_cons_succ, List.getElem_cons_zero, List.setIfInBounds_toArray, List.set_cons_zero, List.set_cons_succ]
    refine wpAnyH_take (i := 2) (oi := _) (v := ?_) rfl (by kernel_rfl) (by kernel_rfl) (by kernel_rfl) (fun _ _ _ h => h) (Or.inl ⟨by rfl, ?_⟩) hHeld ?_
    rotate_left
    · intro w' hSw
      (go_simp <;> with_reducible rfl)
    try simp only [Act.put, List.getElem_toArray, List.getElem_cons_succ, List.getElem_cons_zero, List.setIfInBounds_toArray, List.set_cons_zero, List.set_cons_succ]
    refine wpAnyH_take (i := 3) (oi := _) (v := ?_) rfl (by kernel_rfl) (by kernel_rfl) (by kernel_rfl) (fun _ _ _ h => h) (Or.inl ⟨by rfl, ?_⟩) hHeld ?_
    rotate_left
    · intro w' hSw
      have e0 := Fv.c1 (show Fv w' w.heap.size b p n c from (hSw.block w.heap.size hgp).trans hp0)
      (go_simp <;> with_reducible rfl)
    try simp only [Act.put, List.getElem_toArray, List.getElem_cons_succ, List.getElem_cons_zero, List.setIfInBounds_toArray, List.set_cons_zero, List.set_cons_succ]
    refine wpAnyH_ready (rs := [4, 6]) (by kernel_rfl) (by simp) ?_
    refine AllReadyH.cons (o := _) rfl (fun K hK => ?_) (AllReadyH.cons (o := _) rfl (fun K hK => ?_) (AllReadyH.nil))
    · go_simp
      go_at_call 18
      (with_reducible (refine (cloneW _ _ _ _ _ (h.below (bel_call bW (Nat.le_refl _) hHeld)) HN.out hn9).mono ?_))
      rintro e w1 ⟨q1, d1, rfl, o1, b1⟩
      have o1 := own_mono o1 hHeld.size
      refine hK.out _ _ (bel_call hHeld (Nat.le_refl _) b1) (fun hHeld => ?_)
      clear hK K
      try simp only [Act.put, List.getElem_toArray, List.getElem_cons_succ, List.getElem_cons_zero, List.setIfInBounds_toArray, List.set_cons_zero, List.set_cons_succ]
      refine wpAnyH_take (i := 5) (oi := _) (v := ?_) rfl (by kernel_rfl) (by kernel_rfl) (by kernel_rfl) (fun _ _ _ h => h) (Or.inl ⟨by rfl, ?_⟩) hHeld ?_
      rotate_left
      · intro w' hSw
        (go_simp <;> with_reducible rfl)
      try simp only [Act.put, List.getElem_toArray, List.getElem_cons_succ, List.getElem_cons_zero, List.setIfInBounds_toArray, List.set_cons_zero, List.set_cons_succ]
      refine wpAnyH_ready (rs := [6]) (by kernel_rfl) (by simp) ?_
      refine AllReadyH.cons (o := _) rfl (fun K hK => ?_) (AllReadyH.nil)
      go_simp
      have b7 : Below w1.heap.size w1 (w1.alloc (.cells #[.int .u32 0, .slice none 0 0] 25)) := bel_self _ _
      have hz : Lv (w1.alloc (.cells #[.int .u32 0, .slice none 0 0] 25)) w1.heap.size #[.int .u32 0, .slice none 0 0] 25 := Lv.new w1 _ _
      obtain ⟨g7, hg7⟩ : ∃ g, g = w1.heap.size := ⟨_, rfl⟩
      have hhzW : W.heap.size ≤ g7 := by have := hHeld.size; rw [hg7]; exact this
      have o1 := own_below o1 b7
      refine hK.out _ _ (hHeld.alloc hHeld.size _) (fun hHeld => ?_)
      clear hK K
      rw [← hg7] at hz
      simp only [← hg7]
      generalize (w1.alloc (.cells #[.int .u32 0, .slice none 0 0] 25)) = w7 at *
      clear hg7 b7
      try simp only [Act.put, List.getElem_toArray, List.getElem_cons_succ, List.getElem_cons_zero, List.setIfInBounds_toArray, List.set_cons_zero, List.set_cons_succ]
      refine wpAnyH_ready (rs := [7]) (by kernel_rfl) (by simp) ?_
      refine AllReadyH.cons (o := _) rfl (fun K hK => ?_) (AllReadyH.nil)
      have z0 := hz.c 0 rfl
      have z1 := hz.c 1 rfl
      have y0 := hz.fz 0
      have y1 := hz.fz 1
      go_simp
      have fq : Far q1 g7 := Far.type o1 hz (by decide)
      have hz9 : Fv ((w7.setCell ⟨g7, 0, none⟩ (.int .u32 (b : Int))).setCell ⟨g7, 1, none⟩ (.slice q1 n d1)) g7 b q1 n d1 := (hz.set 0 (.int .u32 (b : Int))).set 1 (.slice q1 n d1)
      have o1 := own_setFar (own_setFar o1 fq 0 (.int .u32 (b : Int))) fq 1 (.slice q1 n d1)
      have hS9 : Below W.heap.size W ((w7.setCell ⟨g7, 0, none⟩ (.int .u32 (b : Int))).setCell ⟨g7, 1, none⟩ (.slice q1 n d1)) := by refine Below.setCell (Below.setCell hHeld ?_ _) ?_ _ <;> exact hhzW
      refine hK.out _ _ hS9 (fun hHeld => ?_)
      clear hK K
      try simp only [Act.put, List.getElem_toArray, List.getElem_cons_succ, List.getElem_cons_zero, List.setIfInBounds_toArray, List.set_cons_zero, List.set_cons_succ]
      refine wpAnyH_done (by kernel_rfl) ?_ _
      go_wp2_with fail
      go_meet
      case rel => exact ⟨g7, q1, d1, rfl, hhzW, hz9, o1, hHeld⟩
    · go_simp
      have b7 : Below W.heap.size W (W.alloc (.cells #[.int .u32 0, .slice none 0 0] 25)) := bel_self _ _
      have hz : Lv ((W.alloc (.cells #[.int .u32 0, .slice none 0 0] 25)).drew) W.heap.size #[.int .u32 0, .slice none 0 0] 25 := Lv.new W _ _
      have hhzW : W.heap.size ≤ W.heap.size := Nat.le_refl _
      refine hK.out _ _ (hHeld.alloc hHeld.size _) (fun hHeld => ?_)
      clear hK K
      generalize ((W.alloc (.cells #[.int .u32 0, .slice none 0 0] 25)).drew) = w7 at *
      clear b7
      try simp only [Act.put, List.getElem_toArray, List.getElem_cons_succ, List.getElem_cons_zero, List.setIfInBounds_toArray, List.set_cons_zero, List.set_cons_succ]
      refine wpAnyH_ready (rs := [4]) (by kernel_rfl) (by simp) ?_
      refine AllReadyH.cons (o := _) rfl (fun K hK => ?_) (AllReadyH.nil)
      go_simp
      go_at_call 18
      (with_reducible (refine (cloneW _ _ _ _ _ (h.below (bel_call bW (Nat.le_refl _) hHeld)) HN.out hn9).mono ?_))
      rintro e w1 ⟨q1, d1, rfl, o1, b1⟩
      have o1 := own_mono o1 hHeld.size
      have hz := hz.below b1
      refine hK.out _ _ (bel_call hHeld (Nat.le_refl _) b1) (fun hHeld => ?_)
      clear hK K
      try simp only [Act.put, List.getElem_toArray, List.getElem_cons_succ, List.getElem_cons_zero, List.setIfInBounds_toArray, List.set_cons_zero, List.set_cons_succ]
      refine wpAnyH_take (i := 5) (oi := _) (v := ?_) rfl (by kernel_rfl) (by kernel_rfl) (by kernel_rfl) (fun _ _ _ h => h) (Or.inl ⟨by rfl, ?_⟩) hHeld ?_
      rotate_left
      · intro w' hSw
        (go_simp <;> with_reducible rfl)
      try simp only [Act.put, List.getElem_toArray, List.getElem_cons_succ, List.getElem_cons_zero, List.setIfInBounds_toArray, List.set_cons_zero, List.set_cons_succ]
      refine wpAnyH_ready (rs := [7]) (by kernel_rfl) (by simp) ?_
      refine AllReadyH.cons (o := _) rfl (fun K hK => ?_) (AllReadyH.nil)
      have z0 := hz.c 0 rfl
      have z1 := hz.c 1 rfl
      have y0 := hz.fz 0
      have y1 := hz.fz 1
      go_simp
      have fq : Far q1 W.heap.size := Far.type o1 hz (by decide)
      have hz9 : Fv ((w1.setCell ⟨W.heap.size, 0, none⟩ (.int .u32 (b : Int))).setCell ⟨W.heap.size, 1, none⟩ (.slice q1 n d1)) W.heap.size b q1 n d1 := (hz.set 0 (.int .u32 (b : Int))).set 1 (.slice q1 n d1)
      have o1 := own_setFar (own_setFar o1 fq 0 (.int .u32 (b : Int))) fq 1 (.slice q1 n d1)
      have hS9 : Below W.heap.size W ((w1.setCell ⟨W.heap.size, 0, none⟩ (.int .u32 (b : Int))).setCell ⟨W.heap.size, 1, none⟩ (.slice q1 n d1)) := by refine Below.setCell (Below.setCell hHeld ?_ _) ?_ _ <;> exact hhzW
      refine hK.out _ _ hS9 (fun hHeld => ?_)
      clear hK K
      try simp only [Act.put, List.getElem_toArray, List.getElem_cons_succ, List.getElem_cons_zero, List.setIfInBounds_toArray, List.set_cons_zero, List.set_cons_succ]
      refine wpAnyH_done (by kernel_rfl) ?_ _
      go_wp2_with fail
      go_meet
      case rel => exact ⟨W.heap.size, q1, d1, rfl, hhzW, hz9, o1, hHeld⟩
  case rest =>
    obtain ⟨g, q1, d1, rfl, hgW, hv, o1, hB⟩ := hcut
    have hrc : Fv wc (w.heap.size + 1) 0 none 0 0 := (hB.block (w.heap.size + 1) hgr).trans hr0
    have hpc : Fv wc w.heap.size b p n c := (hB.block w.heap.size hgp).trans hp0
    have hne1 : g ≠ w.heap.size + 1 := by omega
    have hne2 : w.heap.size + 1 ≠ g := by omega
    have hne3 : w.heap.size ≠ g := by omega
    have hgw : w.heap.size ≤ g := by omega
    have BW : Below w.heap.size w wc := bel_call bW (Nat.le_refl _) hB
    have k0 := hpc.c0
    have k1 := hpc.c1
    have z0 := hv.c0
    have z1 := hv.c1
    have x0 := hrc.c0
    have x1 := hrc.c1
    have v0 := hrc.f0
    have v1 := hrc.f1
    have hWc := hB.size
    clear bW hp0 hr0 hgp hgr hB
    have hWw : w.heap.size ≤ W.heap.size := hWw0
    by_cases hc0 : cl ≤ 0
    · have dc : decide (cl ≤ 0) = true := by simpa using hc0
      have HB : Hid (awB b cl m = b) := by show _ = _; unfold awB okc; rw [if_neg (by simp; omega)]
      have HG : Hid (awG b cl m = 0) := by show _ = _; unfold awG okc; rw [if_neg (by simp; omega)]
      have hk9 : okc cl m = false := by unfold okc; simp; omega
      have HW : Hid (awW b l cl m = l) := by show _ = _; unfold awW awJ; rw [hk9]; simp
      have HO : Hid (awO b l cl m = false) := by show _ = _; unfold awO; rw [hk9]; simp
      clear hk9 hc0
      go_wp2
      have fR := Far.type (own_mono o1 hWw) hrc (by decide)
      have hR9 : Fv ((wc.setCell ⟨w.heap.size + 1, 0, none⟩ (.int .u32 (b : Int))).setCell ⟨w.heap.size + 1, 1, none⟩ (.slice q1 n d1)) (w.heap.size + 1) b q1 n d1 := (Lv.set hrc 0 (.int .u32 (b : Int))).set 1 (.slice q1 n d1)
      have e9 := loadFlag hR9
      have hb9 : Below w.heap.size w ((wc.setCell ⟨w.heap.size + 1, 0, none⟩ (.int .u32 (b : Int))).setCell ⟨w.heap.size + 1, 1, none⟩ (.slice q1 n d1)) := by
        refine Below.setCell (Below.setCell BW ?_ _) ?_ _
        · exact Nat.le_succ _
        · exact Nat.le_succ _
      have RA9 := own_setFar (own_setFar (own_mono o1 hWw) fR 0 (.int .u32 (b : Int))) fR 1 (.slice q1 n d1)
      refine bodyPost_ret (v := .tuple #[.agg #[.int .u32 (b : Int), .slice q1 n d1], .int .u32 0, .bool false]) (by simp [results, Try.results12, asAddr, e9]) rfl ⟨q1, d1, by rw [HB.out, HW.out, HG.out, HO.out, HN.out]; rfl, by rw [HW.out]; exact RA9, hb9⟩
    have dc : decide (cl ≤ 0) = false := by simp; omega
    by_cases hm0 : m = 0
    · subst hm0
      have hk9 : okc cl 0 = false := by unfold okc; simp
      have HB : Hid (awB b cl 0 = b) := by show _ = _; unfold awB; rw [hk9]; rfl
      have HG : Hid (awG b cl 0 = 0) := by show _ = _; unfold awG; rw [hk9]; rfl
      have HW : Hid (awW b l cl 0 = l) := by show _ = _; unfold awW awJ; rw [hk9]; simp
      have HO : Hid (awO b l cl 0 = false) := by show _ = _; unfold awO; rw [hk9]; simp
      clear hk9 hc0
      go_wp2
      have fR := Far.type (own_mono o1 hWw) hrc (by decide)
      have hR9 : Fv ((wc.setCell ⟨w.heap.size + 1, 0, none⟩ (.int .u32 (b : Int))).setCell ⟨w.heap.size + 1, 1, none⟩ (.slice q1 n d1)) (w.heap.size + 1) b q1 n d1 := (Lv.set hrc 0 (.int .u32 (b : Int))).set 1 (.slice q1 n d1)
      have e9 := loadFlag hR9
      have hb9 : Below w.heap.size w ((wc.setCell ⟨w.heap.size + 1, 0, none⟩ (.int .u32 (b : Int))).setCell ⟨w.heap.size + 1, 1, none⟩ (.slice q1 n d1)) := by
        refine Below.setCell (Below.setCell BW ?_ _) ?_ _
        · exact Nat.le_succ _
        · exact Nat.le_succ _
      have RA9 := own_setFar (own_setFar (own_mono o1 hWw) fR 0 (.int .u32 (b : Int))) fR 1 (.slice q1 n d1)
      refine bodyPost_ret (v := .tuple #[.agg #[.int .u32 (b : Int), .slice q1 n d1], .int .u32 0, .bool false]) (by simp [results, Try.results12, asAddr, e9]) rfl ⟨q1, d1, by rw [HB.out, HW.out, HG.out, HO.out, HN.out]; rfl, by rw [HW.out]; exact RA9, hb9⟩
    have dm : ((m : Int) == 0) = false := by simpa using hm0
    have dm2 : (m == 0) = false := by simpa using hm0
    have hk9 : okc cl m = true := by unfold okc; simp; omega
    have S01 : Below wc.heap.size wc ((wc.alloc (.cells #[.int .i64 cl, .int .u32 (m : Int)] 43)).alloc (.cells #[.int .i64 cl, .int .u32 (m : Int)] 43)) := ((Below.refl _ _).alloc (Nat.le_refl _) _).alloc (by simp) _
    have rN : Rd eW ((wc.alloc (.cells #[.int .i64 cl, .int .u32 (m : Int)] 43)).alloc (.cells #[.int .i64 cl, .int .u32 (m : Int)] 43)) (some ⟨wc.heap.size + 1, 0, none⟩) 1 [(cl, m)] := rd_block (heap_at (by simp)) 1 rfl rfl
    have hS0 : Lv (wc.alloc (.cells #[.int .i64 cl, .int .u32 (m : Int)] 43)) wc.heap.size #[.int .i64 cl, .int .u32 (m : Int)] 43 := Lv.new _ _ _
    have i0 := (hpc.below (bel_self wc (.cells #[.int .i64 cl, .int .u32 (m : Int)] 43))).c0
    by_cases hz : b &&& m = 0
    · have hz9 : Hid (b &&& m = 0) := hz
      have HB : Hid (awB b cl m = b) := by show _ = _; unfold awB; rw [hk9]; exact dn_zero hz
      have HG : Hid (awG b cl m = 0) := by show _ = _; unfold awG; rw [hk9]; exact hz
      have HJ : Hid (awJ b l cl m = (!l.any (·.1 == cl) && decide (l.length < 4))) := by show _ = _; unfold awJ; rw [hk9, hz]; simp
      have HO1 : Hid (awO b l cl m = awJ b l cl m) := by show _ = _; unfold awO; rw [hk9, hz]; simp
      clear hz hk9 hc0 hm0
      by_cases h4 : 4 ≤ n
      · have HW : Hid (awW b l cl m = l) := by show _ = _; unfold awW; rw [HJ.out, HN.out]; simp; omega
        have HO : Hid (awO b l cl m = false) := by show _ = _; rw [HO1.out, HJ.out, HN.out]; simp; omega
        have d4 : decide ((4 : Int) ≤ (n : Int)) = true := by simp; omega
        go_wp2_with (go_at_call 17; (with_reducible (refine (share_no b m cl _ _ _ hb32 hm32 rN hz9.out).mono ?_)); rintro e w1 ⟨q2, d2, u2, v2, rfl, b1⟩
                     have s2 := bel_self w1 (.cells #[.int .u32 (b : Int), .slice q2 1 d2] 25)
                     have C2 := (S01.trans (b1.mono S01.size)).trans (s2.mono (Nat.le_trans S01.size b1.size))
                     have hv2 := hv.below C2; have hr2 := hrc.below C2; have hp2 := hpc.below C2; have hS2 := Lv.below (Lv.below (Lv.below hS0 (bel_self _ _)) b1) s2; have o2 := own_below o1 C2; have B2 := bel_call BW (Nat.le_refl _) C2
                     have n0 := hp2.c0; have n1 := hp2.c1; have g0 := Lv.c hS2 0 rfl; have g1 := Lv.c hS2 1 rfl
                     have y0 := hv2.c0; have y1 := hv2.c1; have yf0 := hv2.f0; have yf1 := hv2.f1
                     have t0 := hr2.c0; have t1 := hr2.c1; have u0 := hr2.f0; have u1 := hr2.f1
                     )
        have fR := Far.type (own_mono o2 hWw) hr2 (by decide)
        have hR9 : Fv (((w1.alloc (.cells #[.int .u32 (b : Int), .slice q2 1 d2] 25)).setCell ⟨w.heap.size + 1, 0, none⟩ (.int .u32 (b : Int))).setCell ⟨w.heap.size + 1, 1, none⟩ (.slice q1 n d1)) (w.heap.size + 1) b q1 n d1 := (Lv.set hr2 0 (.int .u32 (b : Int))).set 1 (.slice q1 n d1)
        have e9 := loadFlag hR9
        have hb9 : Below w.heap.size w (((w1.alloc (.cells #[.int .u32 (b : Int), .slice q2 1 d2] 25)).setCell ⟨w.heap.size + 1, 0, none⟩ (.int .u32 (b : Int))).setCell ⟨w.heap.size + 1, 1, none⟩ (.slice q1 n d1)) := by
          refine Below.setCell (Below.setCell B2 ?_ _) ?_ _
          · exact Nat.le_succ _
          · exact Nat.le_succ _
        have RA9 := own_setFar (own_setFar (own_mono o2 hWw) fR 0 (.int .u32 (b : Int))) fR 1 (.slice q1 n d1)
        refine bodyPost_ret (v := .tuple #[.agg #[.int .u32 (b : Int), .slice q1 n d1], .int .u32 0, .bool false]) (by simp [results, Try.results12, asAddr, e9]) rfl ⟨q1, d1, by rw [HB.out, HW.out, HG.out, HO.out, HN.out]; rfl, by rw [HW.out]; exact RA9, hb9⟩
      · have d4 : decide ((4 : Int) ≤ (n : Int)) = false := by simp; omega
        cases hany : l.any (·.1 == cl) with
        | true =>
          have HA : Hid (l.any (·.1 == cl) = true) := hany
          have HW : Hid (awW b l cl m = l) := by show _ = _; unfold awW; rw [HJ.out, HA.out]; simp
          have HO : Hid (awO b l cl m = false) := by show _ = _; rw [HO1.out, HJ.out, HA.out]; rfl
          clear hany
          go_wp2_with (first
            | (go_at_call 17; (with_reducible (refine (share_no b m cl _ _ _ hb32 hm32 rN hz9.out).mono ?_)); rintro e w1 ⟨q2, d2, u2, v2, rfl, b1⟩
               have s2 := bel_self w1 (.cells #[.int .u32 (b : Int), .slice q2 1 d2] 25)
               have C2 := (S01.trans (b1.mono S01.size)).trans (s2.mono (Nat.le_trans S01.size b1.size))
               have hv2 := hv.below C2; have hr2 := hrc.below C2; have hp2 := hpc.below C2; have hS2 := Lv.below (Lv.below (Lv.below hS0 (bel_self _ _)) b1) s2; have o2 := own_below o1 C2; have B2 := bel_call BW (Nat.le_refl _) C2
               have n0 := hp2.c0; have n1 := hp2.c1; have g0 := Lv.c hS2 0 rfl; have g1 := Lv.c hS2 1 rfl
               have y0 := hv2.c0; have y1 := hv2.c1; have yf0 := hv2.f0; have yf1 := hv2.f1
               have t0 := hr2.c0; have t1 := hr2.c1; have u0 := hr2.f0; have u1 := hr2.f1
               )
            | (go_at_call 19; (with_reducible (refine (waits_any _ _ l cl _ (h.below B2) n HN.out hn9).mono ?_)); rw [HA.out]; rintro e w4 ⟨rfl, b4⟩
               have hv4 := hv2.below b4; have hr4 := hr2.below b4; have hS4 := hS2.below b4; have o4 := own_below o2 b4; have B4 := bel_call B2 (Nat.le_refl _) b4
               have g2 := Lv.c hS4 0 rfl; have g3 := Lv.c hS4 1 rfl; have ltS := hS4.lt
               have y0 := hv4.c0; have y1 := hv4.c1; have yf0 := hv4.f0; have yf1 := hv4.f1
               have t0 := hr4.c0; have t1 := hr4.c1; have u0 := hr4.f0; have u1 := hr4.f1
               ))
          have fR := Far.type (own_mono o4 hWw) hr4 (by decide)
          have hR9 : Fv ((w4.setCell ⟨w.heap.size + 1, 0, none⟩ (.int .u32 (b : Int))).setCell ⟨w.heap.size + 1, 1, none⟩ (.slice q1 n d1)) (w.heap.size + 1) b q1 n d1 := (Lv.set hr4 0 (.int .u32 (b : Int))).set 1 (.slice q1 n d1)
          have e9 := loadFlag hR9
          have hb9 : Below w.heap.size w ((w4.setCell ⟨w.heap.size + 1, 0, none⟩ (.int .u32 (b : Int))).setCell ⟨w.heap.size + 1, 1, none⟩ (.slice q1 n d1)) := by
            refine Below.setCell (Below.setCell B4 ?_ _) ?_ _
            · exact Nat.le_succ _
            · exact Nat.le_succ _
          have RA9 := own_setFar (own_setFar (own_mono o4 hWw) fR 0 (.int .u32 (b : Int))) fR 1 (.slice q1 n d1)
          refine bodyPost_ret (v := .tuple #[.agg #[.int .u32 (b : Int), .slice q1 n d1], .int .u32 0, .bool false]) (by simp [results, Try.results12, asAddr, e9]) rfl ⟨q1, d1, by rw [HB.out, HW.out, HG.out, HO.out, HN.out]; rfl, by rw [HW.out]; exact RA9, hb9⟩
        | false =>
          have HA : Hid (l.any (·.1 == cl) = false) := hany
          have HW : Hid (awW b l cl m = l ++ [(cl, m)]) := by show _ = _; unfold awW; rw [HJ.out, HA.out, HN.out]; simp; omega
          have HO : Hid (awO b l cl m = true) := by show _ = _; rw [HO1.out, HJ.out, HA.out, HN.out]; simp; omega
          clear hany
          go_wp2_with (first
            | (go_at_call 17; (with_reducible (refine (share_no b m cl _ _ _ hb32 hm32 rN hz9.out).mono ?_)); rintro e w1 ⟨q2, d2, u2, v2, rfl, b1⟩
               have s2 := bel_self w1 (.cells #[.int .u32 (b : Int), .slice q2 1 d2] 25)
               have C2 := (S01.trans (b1.mono S01.size)).trans (s2.mono (Nat.le_trans S01.size b1.size))
               have hv2 := hv.below C2; have hr2 := hrc.below C2; have hp2 := hpc.below C2; have hS2 := Lv.below (Lv.below (Lv.below hS0 (bel_self _ _)) b1) s2; have o2 := own_below o1 C2; have B2 := bel_call BW (Nat.le_refl _) C2
               have n0 := hp2.c0; have n1 := hp2.c1; have g0 := Lv.c hS2 0 rfl; have g1 := Lv.c hS2 1 rfl
               have y0 := hv2.c0; have y1 := hv2.c1; have yf0 := hv2.f0; have yf1 := hv2.f1
               have t0 := hr2.c0; have t1 := hr2.c1; have u0 := hr2.f0; have u1 := hr2.f1
               )
            | (go_at_call 19; (with_reducible (refine (waits_any _ _ l cl _ (h.below B2) n HN.out hn9).mono ?_)); rw [HA.out]; rintro e w4 ⟨rfl, b4⟩
               have hv4 := hv2.below b4; have hr4 := hr2.below b4; have hS4 := hS2.below b4; have o4 := own_below o2 b4; have B4 := bel_call B2 (Nat.le_refl _) b4
               have g2 := Lv.c hS4 0 rfl; have g3 := Lv.c hS4 1 rfl; have ltS := hS4.lt
               have y0 := hv4.c0; have y1 := hv4.c1; have yf0 := hv4.f0; have yf1 := hv4.f1
               have t0 := hr4.c0; have t1 := hr4.c1; have u0 := hr4.f0; have u1 := hr4.f1
               )
            | (at_builtin; refine wpList_app tW _ rfl _ _ rfl W.heap.size q1 d1 l n HN.out rfl (own_below o4 (bel_self _ _)) _ _ [(cl, m)] 1 rfl rfl (rd_block (heap_alloc_new _ _) 1 rfl rfl) (by omega) (Nat.le_trans hWc (Nat.le_trans C2.size (Nat.le_trans b4.size (bel_self _ _).size))) (n + 1) rfl ?_; intro q5 d5 w5 o5 b5 g5
               have s1 := bel_self w4 (.cells #[.int .i64 cl, .int .u32 (m : Int)] 43)
               have hv5 : Fv w5 g b q1 n d1 := Lv.grew (hv4.below s1) g5 (Far.type (own_below o4 s1) (hv4.below s1) (by decide))
               have hr5 : Fv w5 (w.heap.size + 1) 0 none 0 0 := Lv.grew (hr4.below s1) g5 (Far.type (own_below o4 s1) (hr4.below s1) (by decide))
               have y0 := hv5.c0; have y1 := hv5.c1; have yf0 := hv5.f0; have yf1 := hv5.f1
               have t0 := hr5.c0; have t1 := hr5.c1; have u0 := hr5.f0; have u1 := hr5.f1))
          have s1 := bel_self w4 (.cells #[.int .i64 cl, .int .u32 (m : Int)] 43)
          have hr6 : Fv (w5.setCell ⟨g, 1, none⟩ (.slice q5 (n + 1) d5)) (w.heap.size + 1) 0 none 0 0 := Lv.far hr5 (a := ⟨g, 1, none⟩) hne1 _
          have o6 := own_setFar o5 (Far.type o5 hv5 (by decide)) 1 (.slice q5 (n + 1) d5)
          have b6 : Below w.heap.size w (w5.setCell ⟨g, 1, none⟩ (.slice q5 (n + 1) d5)) := Below.setCell ((bel_call B4 (Nat.le_refl _) s1).trans (b5.mono hWw)) (p := ⟨g, 1, none⟩) hgw _
          have fR := Far.type (own_mono o6 hWw) hr6 (by decide)
          have hR9 : Fv (((w5.setCell ⟨g, 1, none⟩ (.slice q5 (n + 1) d5)).setCell ⟨w.heap.size + 1, 0, none⟩ (.int .u32 (b : Int))).setCell ⟨w.heap.size + 1, 1, none⟩ (.slice q5 (n + 1) d5)) (w.heap.size + 1) b q5 (n + 1) d5 := (Lv.set hr6 0 (.int .u32 (b : Int))).set 1 (.slice q5 (n + 1) d5)
          have e9 := loadFlag hR9
          have hb9 : Below w.heap.size w (((w5.setCell ⟨g, 1, none⟩ (.slice q5 (n + 1) d5)).setCell ⟨w.heap.size + 1, 0, none⟩ (.int .u32 (b : Int))).setCell ⟨w.heap.size + 1, 1, none⟩ (.slice q5 (n + 1) d5)) := by
            refine Below.setCell (Below.setCell b6 ?_ _) ?_ _
            · exact Nat.le_succ _
            · exact Nat.le_succ _
          have RA9 := own_setFar (own_setFar (own_mono o6 hWw) fR 0 (.int .u32 (b : Int))) fR 1 (.slice q5 (n + 1) d5)
          refine bodyPost_ret (v := .tuple #[.agg #[.int .u32 (b : Int), .slice q5 (n + 1) d5], .int .u32 0, .bool true]) (by simp [results, Try.results12, asAddr, e9]) rfl ⟨q5, d5, by rw [HB.out, HW.out, HG.out, HO.out, List.length_append, HN.out]; rfl, by rw [HW.out]; exact RA9, hb9⟩
    · have HB0 : Hid (awB b cl m = dn b m) := by show _ = _; unfold awB; rw [hk9]; rfl
      have HG0 : Hid (awG b cl m = b &&& m) := by show _ = _; unfold awG; rw [hk9]; rfl
      have HJ : Hid (awJ b l cl m = false) := by show _ = _; unfold awJ; rw [hk9]; simp [hz]
      have HW : Hid (awW b l cl m = l) := by show _ = _; unfold awW; rw [HJ.out]; simp
      have HO : Hid (awO b l cl m = true) := by show _ = _; unfold awO; rw [hk9]; simp [hz]
      obtain ⟨Z, hZ⟩ : ∃ Z, b &&& m = Z := ⟨_, rfl⟩
      obtain ⟨E, hE⟩ : ∃ E, dn b m = E := ⟨_, rfl⟩
      rw [hZ] at hz
      have HZ : Hid (b &&& m = Z) := hZ
      have HE : Hid (dn b m = E) := hE
      have HB : Hid (awB b cl m = E) := HB0.out.trans hE
      have HG : Hid (awG b cl m = Z) := HG0.out.trans hZ
      have hz9 : Hid (Z ≠ 0) := hz
      clear hZ hE hk9 hc0 hm0 HB0 HG0 hz
      go_upto_region 8 with (go_at_call 17; (with_reducible (refine (share_yes b m cl _ _ _ hb32 hm32 rN Z E hz9.out HZ.out HE.out).mono ?_)); rintro e w1 ⟨q2, d2, ub, v2, rfl, hub, hubl, kc0, kc1, b1⟩
                             have s2 := bel_self w1 (.cells #[.int .u32 (E : Int), .slice q2 0 d2] 25)
                             have C2 := (S01.trans (b1.mono S01.size)).trans (s2.mono (Nat.le_trans S01.size b1.size))
                             have hv2 := hv.below C2; have ltg := hv2.lt; have hr2 := hrc.below C2; have o2 := own_below o1 C2; have B2 := bel_call BW (Nat.le_refl _) C2
                             have y0 := hv2.c0; have yf0 := hv2.f0)
      have hubg : ub ≠ g := by have := hv.lt; have := S01.size; omega
      have hubr : ub ≠ w.heap.size + 1 := by have := hrc.lt; have := S01.size; omega
      obtain ⟨W3, hW3⟩ : ∃ x, x = (w1.alloc (.cells #[.int .u32 (E : Int), .slice q2 0 d2] 25)).setCell ⟨g, 0, none⟩ (.int .u32 (E : Int)) := ⟨_, rfl⟩
      have hv3 : Fv W3 g E q1 n d1 := by rw [hW3]; exact Lv.set hv2 0 (.int .u32 (E : Int))
      have hr3 : Fv W3 (w.heap.size + 1) 0 none 0 0 := by rw [hW3]; exact Lv.far hr2 (a := ⟨g, 0, none⟩) hne1 _
      have o3 : Own eW W3 W.heap.size 43 q1 d1 l := by rw [hW3]; exact own_setFar o2 (Far.type o2 hv2 (by decide)) 0 _
      have B3 : Below w.heap.size w W3 := by rw [hW3]; exact Below.setCell B2 (p := ⟨g, 0, none⟩) hgw _
      have kz : W3.cell? ⟨ub, 1, none⟩ = some (.int .u32 (Z : Int)) := by
        have h1 := (s2.cell (p := ⟨ub, 1, none⟩) hubl).trans kc1
        rw [hW3]
        rw [World.cell?_of_block (a := ⟨ub, 1, none⟩) (Below.heap_setCell _ ⟨g, 0, none⟩ _ ub hubg)]
        exact h1
      rw [← hW3]
      clear hW3 hv2 hr2 o2 B2 y0 yf0 kc0 kc1 hubl hub C2 s2 b1 ltg
      have y0 := hv3.c0; have y1 := hv3.c1; have yf0 := hv3.f0; have yf1 := hv3.f1
      have t0 := hr3.c0; have t1 := hr3.c1; have u0 := hr3.f0; have u1 := hr3.f1
      go_region
      go_wp2
      have fR := Far.type (own_mono o3 hWw) hr3 (by decide)
      have hR9 : Fv ((W3.setCell ⟨w.heap.size + 1, 0, none⟩ (.int .u32 (E : Int))).setCell ⟨w.heap.size + 1, 1, none⟩ (.slice q1 n d1)).drew (w.heap.size + 1) E q1 n d1 := (Lv.set hr3 0 (.int .u32 (E : Int))).set 1 (.slice q1 n d1)
      have e9 := loadFlag hR9
      have hb9 : Below w.heap.size w ((W3.setCell ⟨w.heap.size + 1, 0, none⟩ (.int .u32 (E : Int))).setCell ⟨w.heap.size + 1, 1, none⟩ (.slice q1 n d1)) := by
        refine Below.setCell (Below.setCell B3 ?_ _) ?_ _
        · exact Nat.le_succ _
        · exact Nat.le_succ _
      have RA9 := own_setFar (own_setFar (own_mono o3 hWw) fR 0 (.int .u32 (E : Int))) fR 1 (.slice q1 n d1)
      refine bodyPost_ret (v := .tuple #[.agg #[.int .u32 (E : Int), .slice q1 n d1], .int .u32 (Z : Int), .bool true]) (by simp [results, Try.results12, asAddr, e9]) rfl ⟨q1, d1, by rw [HB.out, HW.out, HG.out, HO.out, HN.out], by rw [HW.out]; exact RA9.drw, hb9.drew⟩
end Go.Proofs.Ytodboigmmekkpaa
