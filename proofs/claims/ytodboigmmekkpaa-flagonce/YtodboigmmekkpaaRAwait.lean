/-
  What the document's Await hands back.
-/
import Derived.Test.YtodboigmmekkpaaRRaise
import Derived.Test.YtodboigmmekkpaaHand
import Derived.Deep.CutRange
namespace Go.Proofs.Ytodboigmmekkpaa
open Go.ChangeShapes Go.WideShapes Go.ChangeAt Go.RowKit
attribute [local go_sem ↓] Go.wp_at_zero Go.wp_at_succ

set_option maxHeartbeats 4000000 in
theorem rawait_any (b m : Nat) (cl : Int) (p : Option Addr) (c : Nat) (l : List Wt) (w : World) (hb32 : b < 4294967296) (hm32 : m < 4294967296) (h : Rd eW w p c l) (hU : UL l) (n : Nat) (hn : l.length = n) (hn9 : n ≤ 1000) :
    Calls Try.prog 13 #[.agg #[.int .u32 (b : Int), .slice p n c], .int .i64 cl, .int .u32 (m : Int)] w fun e w' => ∃ (q : Option Addr) (d : Nat), e = .returned (.tuple #[.agg #[.int .u32 ((awB b cl m : Nat) : Int), .slice q (awW b l cl m).length d], .int .u32 ((awG b cl m : Nat) : Int), .bool (awO b l cl m)]) ∧ Own eW w' w.heap.size 43 q d (awW b l cl m) ∧ Below w.heap.size w w' := by
  have HN : Hid (l.length = n) := hn
  have HU : Hid (UL l) := hU
  clear hn hU
  obtain ⟨W, hW⟩ : ∃ W, W = (w.alloc (.cells #[.int .u32 (b : Int), .slice p n c] 25)).alloc (.cells #[.int .u32 0, .slice none 0 0] 25) := ⟨_, rfl⟩
  have bW : Below w.heap.size w W := by rw [hW]; exact ((Below.refl _ _).alloc (Nat.le_refl _) _).alloc (by simp) _
  have hp0 : Fv W w.heap.size b p n c := by rw [hW]; exact (Fv.new _ _ _ _ _).below (bel_self _ _)
  have hr0 : Fv W (w.heap.size + 1) 0 none 0 0 := by rw [hW]; exact heap_at (by simp)
  have hsz : W.heap.size = w.heap.size + 2 := by rw [hW]; simp
  have hgp : w.heap.size < W.heap.size := by omega
  have hgr : w.heap.size + 1 < W.heap.size := by omega
  have hWw0 := bW.size
  clear hsz
  go_enter Try.func13, Try.ntmps13
  go_upto_region 1 with fail
  rw [← hW]
  clear hW
  go_cut [9] from 12 to 18 (fun a wx => ∃ (g : Nat) (q1 : Option Addr) (d1 : Nat), a = .pointer (some ⟨g, 0, none⟩) ∧ W.heap.size ≤ g ∧ Fv wx g b q1 n d1 ∧ Own eW wx W.heap.size 43 q1 d1 l ∧ Below W.heap.size W wx)
  case first =>
    refine wp_region_held_drew (S := fun w' => Below W.heap.size W w') (by kernel_rfl) (Below.refl _ _).drew (fun hHeld => ?_)
    refine wpAnyH_take (i := 0) (oi := _) (v := ?_) rfl (by kernel_rfl) (by kernel_rfl) (by kernel_rfl) (fun _ _ _ h => h) (Or.inl ⟨by rfl, ?_⟩) hHeld ?_
    rotate_left
    · intro w' hSw
      (go_simp <;> with_reducible rfl)
    try simp only [Act.put, List.getElem_toArray, List.getElem_cons_zero, List.setIfInBounds_toArray, List.set_cons_zero, List.set_cons_succ]
    refine wpAnyH_take (i := 1) (oi := _) (v := ?_) rfl (by kernel_rfl) (by kernel_rfl) (by kernel_rfl) (fun _ _ _ h => h) (Or.inl ⟨by rfl, ?_⟩) hHeld ?_
    rotate_left
    · intro w' hSw
      have e0 := Fv.c0 (show Fv w' w.heap.size b p n c from (hSw.block w.heap.size hgp).trans hp0)
      (go_simp <;> with_reducible rfl)
    try simp only [Act.put, List.getElem_toArray, List.getElem_cons_succ, List.getElem_cons_zero, List.setIfInBounds_toArray, List.set_cons_zero, List.set_cons_succ]
    refine wpAnyH_take (i := 3) (oi := _) (v := ?_) rfl (by kernel_rfl) (by kernel_rfl) (by kernel_rfl) (fun _ _ _ h => h) (Or.inl ⟨by rfl, ?_⟩) hHeld ?_
    rotate_left
    · intro w' hSw
      (go_simp <;> with_reducible rfl)
    try simp only [Act.put, List.getElem_toArray, List.getElem_cons_succ, List.getElem_cons_zero, List.setIfInBounds_toArray, List.set_cons_zero, List.set_cons_succ]
    refine wpAnyH_take (i := 4) (oi := _) (v := ?_) rfl (by kernel_rfl) (by kernel_rfl) (by kernel_rfl) (fun _ _ _ h => h) (Or.inl ⟨by rfl, ?_⟩) hHeld ?_
    rotate_left
    · intro w' hSw
      have e0 := Fv.c1 (show Fv w' w.heap.size b p n c from (hSw.block w.heap.size hgp).trans hp0)
      (go_simp <;> with_reducible rfl)
    try simp only [Act.put, List.getElem_toArray, List.getElem_cons_succ, List.getElem_cons_zero, List.setIfInBounds_toArray, List.set_cons_zero, List.set_cons_succ]
    refine wpAnyH_ready (rs := [2, 7]) (by kernel_rfl) (by simp) ?_
    refine AllReadyH.cons (o := _) rfl (fun K hK => ?_) (AllReadyH.cons (o := _) rfl (fun K hK => ?_) (AllReadyH.nil))
    · go_simp
      have b7 : Below W.heap.size W (W.alloc (.cells #[] 43)) := bel_self _ _
      have e8 : Lv ((W.alloc (.cells #[] 43)).drew) W.heap.size #[] 43 := Lv.new W _ _
      have he8W : W.heap.size ≤ W.heap.size := Nat.le_refl _
      refine hK.out _ _ (hHeld.alloc hHeld.size _) (fun hHeld => ?_)
      clear hK K
      generalize ((W.alloc (.cells #[] 43)).drew) = w8 at *
      clear b7
      try simp only [Act.put, List.getElem_toArray, List.getElem_cons_succ, List.getElem_cons_zero, List.setIfInBounds_toArray, List.set_cons_zero, List.set_cons_succ]
      refine wpAnyH_ready (rs := [5, 7]) (by kernel_rfl) (by simp) ?_
      refine AllReadyH.cons (o := _) rfl (fun K hK => ?_) (AllReadyH.cons (o := _) rfl (fun K hK => ?_) (AllReadyH.nil))
      · refine step_fresh tW _ rfl _ _ rfl W.heap.size W.heap.size e8 he8W rfl p c l n HN.out rfl (h.below (bel_call bW (Nat.le_refl _) hHeld)) (by omega) ?_
        intro q1 d1 w1 o1 b1 _
        refine hK.out _ _ (bel_call hHeld (Nat.le_refl _) b1) (fun hHeld => ?_)
        clear hK K
        try simp only [Act.put, List.getElem_toArray, List.getElem_cons_succ, List.getElem_cons_zero, List.setIfInBounds_toArray, List.set_cons_zero, List.set_cons_succ]
        refine wpAnyH_take (i := 6) (oi := _) (v := ?_) rfl (by kernel_rfl) (by kernel_rfl) (by kernel_rfl) (fun _ _ _ h => h) (Or.inl ⟨by rfl, ?_⟩) hHeld ?_
        rotate_left
        · intro w' hSw
          (go_simp <;> with_reducible rfl)
        try simp only [Act.put, List.getElem_toArray, List.getElem_cons_succ, List.getElem_cons_zero, List.setIfInBounds_toArray, List.set_cons_zero, List.set_cons_succ]
        refine wpAnyH_ready (rs := [7]) (by kernel_rfl) (by simp) ?_
        refine AllReadyH.cons (o := _) rfl (fun K hK => ?_) (AllReadyH.nil)
        go_simp
        have b7 : Below w1.heap.size w1 (w1.alloc (.cells #[.int .u32 0, .slice none 0 0] 25)) := bel_self _ _
        have hz : Lv (w1.alloc (.cells #[.int .u32 0, .slice none 0 0] 25)) w1.heap.size #[.int .u32 0, .slice none 0 0] 25 := Lv.new w1 _ _
        obtain ⟨g7, hg7⟩ : ∃ g, g = w1.heap.size := ⟨_, rfl⟩
        have hhzW : W.heap.size ≤ g7 := by have := hHeld.size; rw [hg7]; exact this
        have o1 := own_below o1 b7
        refine hK.out _ _ (hHeld.alloc hHeld.size _) (fun hHeld => ?_)
        clear hK K
        rw [← hg7] at hz
        simp only [← hg7]
        generalize (w1.alloc (.cells #[.int .u32 0, .slice none 0 0] 25)) = w7 at *
        clear hg7 b7
        try simp only [Act.put, List.getElem_toArray, List.getElem_cons_succ, List.getElem_cons_zero, List.setIfInBounds_toArray, List.set_cons_zero, List.set_cons_succ]
        refine wpAnyH_ready (rs := [8]) (by kernel_rfl) (by simp) ?_
        refine AllReadyH.cons (o := _) rfl (fun K hK => ?_) (AllReadyH.nil)
        have z0 := hz.c 0 rfl
        have z1 := hz.c 1 rfl
        have y0 := hz.fz 0
        have y1 := hz.fz 1
        go_simp
        have fq : Far q1 g7 := Far.type o1 hz (by decide)
        have hz9 : Fv ((w7.setCell ⟨g7, 0, none⟩ (.int .u32 (b : Int))).setCell ⟨g7, 1, none⟩ (.slice q1 n d1)) g7 b q1 n d1 := (hz.set 0 (.int .u32 (b : Int))).set 1 (.slice q1 n d1)
        have o1 := own_setFar (own_setFar o1 fq 0 (.int .u32 (b : Int))) fq 1 (.slice q1 n d1)
        have hS9 : Below W.heap.size W ((w7.setCell ⟨g7, 0, none⟩ (.int .u32 (b : Int))).setCell ⟨g7, 1, none⟩ (.slice q1 n d1)) := by refine Below.setCell (Below.setCell hHeld ?_ _) ?_ _ <;> exact hhzW
        refine hK.out _ _ hS9 (fun hHeld => ?_)
        clear hK K
        try simp only [Act.put, List.getElem_toArray, List.getElem_cons_succ, List.getElem_cons_zero, List.setIfInBounds_toArray, List.set_cons_zero, List.set_cons_succ]
        refine wpAnyH_done (by kernel_rfl) ?_ _
        go_wp2_with fail
        go_meet
        case rel => exact ⟨g7, q1, d1, rfl, hhzW, hz9, o1, hHeld⟩
      · go_simp
        have b7 : Below w8.heap.size w8 (w8.alloc (.cells #[.int .u32 0, .slice none 0 0] 25)) := bel_self _ _
        have hz : Lv (w8.alloc (.cells #[.int .u32 0, .slice none 0 0] 25)) w8.heap.size #[.int .u32 0, .slice none 0 0] 25 := Lv.new w8 _ _
        obtain ⟨g7, hg7⟩ : ∃ g, g = w8.heap.size := ⟨_, rfl⟩
        have hhzW : W.heap.size ≤ g7 := by have := hHeld.size; rw [hg7]; exact this
        have e8 := e8.below b7
        refine hK.out _ _ (hHeld.alloc hHeld.size _) (fun hHeld => ?_)
        clear hK K
        rw [← hg7] at hz
        simp only [← hg7]
        generalize (w8.alloc (.cells #[.int .u32 0, .slice none 0 0] 25)) = w7 at *
        clear hg7 b7
        try simp only [Act.put, List.getElem_toArray, List.getElem_cons_succ, List.getElem_cons_zero, List.setIfInBounds_toArray, List.set_cons_zero, List.set_cons_succ]
        refine wpAnyH_ready (rs := [5]) (by kernel_rfl) (by simp) ?_
        refine AllReadyH.cons (o := _) rfl (fun K hK => ?_) (AllReadyH.nil)
        refine step_fresh tW _ rfl _ _ rfl W.heap.size W.heap.size e8 he8W rfl p c l n HN.out rfl (h.below (bel_call bW (Nat.le_refl _) hHeld)) (by omega) ?_
        intro q1 d1 w1 o1 b1 _
        have hz := hz.below b1
        refine hK.out _ _ (bel_call hHeld (Nat.le_refl _) b1) (fun hHeld => ?_)
        clear hK K
        try simp only [Act.put, List.getElem_toArray, List.getElem_cons_succ, List.getElem_cons_zero, List.setIfInBounds_toArray, List.set_cons_zero, List.set_cons_succ]
        refine wpAnyH_take (i := 6) (oi := _) (v := ?_) rfl (by kernel_rfl) (by kernel_rfl) (by kernel_rfl) (fun _ _ _ h => h) (Or.inl ⟨by rfl, ?_⟩) hHeld ?_
        rotate_left
        · intro w' hSw
          (go_simp <;> with_reducible rfl)
        try simp only [Act.put, List.getElem_toArray, List.getElem_cons_succ, List.getElem_cons_zero, List.setIfInBounds_toArray, List.set_cons_zero, List.set_cons_succ]
        refine wpAnyH_ready (rs := [8]) (by kernel_rfl) (by simp) ?_
        refine AllReadyH.cons (o := _) rfl (fun K hK => ?_) (AllReadyH.nil)
        have z0 := hz.c 0 rfl
        have z1 := hz.c 1 rfl
        have y0 := hz.fz 0
        have y1 := hz.fz 1
        go_simp
        have fq : Far q1 g7 := Far.type o1 hz (by decide)
        have hz9 : Fv ((w1.setCell ⟨g7, 0, none⟩ (.int .u32 (b : Int))).setCell ⟨g7, 1, none⟩ (.slice q1 n d1)) g7 b q1 n d1 := (hz.set 0 (.int .u32 (b : Int))).set 1 (.slice q1 n d1)
        have o1 := own_setFar (own_setFar o1 fq 0 (.int .u32 (b : Int))) fq 1 (.slice q1 n d1)
        have hS9 : Below W.heap.size W ((w1.setCell ⟨g7, 0, none⟩ (.int .u32 (b : Int))).setCell ⟨g7, 1, none⟩ (.slice q1 n d1)) := by refine Below.setCell (Below.setCell hHeld ?_ _) ?_ _ <;> exact hhzW
        refine hK.out _ _ hS9 (fun hHeld => ?_)
        clear hK K
        try simp only [Act.put, List.getElem_toArray, List.getElem_cons_succ, List.getElem_cons_zero, List.setIfInBounds_toArray, List.set_cons_zero, List.set_cons_succ]
        refine wpAnyH_done (by kernel_rfl) ?_ _
        go_wp2_with fail
        go_meet
        case rel => exact ⟨g7, q1, d1, rfl, hhzW, hz9, o1, hHeld⟩
    · go_simp
      have b7 : Below W.heap.size W (W.alloc (.cells #[.int .u32 0, .slice none 0 0] 25)) := bel_self _ _
      have hz : Lv ((W.alloc (.cells #[.int .u32 0, .slice none 0 0] 25)).drew) W.heap.size #[.int .u32 0, .slice none 0 0] 25 := Lv.new W _ _
      have hhzW : W.heap.size ≤ W.heap.size := Nat.le_refl _
      refine hK.out _ _ (hHeld.alloc hHeld.size _) (fun hHeld => ?_)
      clear hK K
      generalize ((W.alloc (.cells #[.int .u32 0, .slice none 0 0] 25)).drew) = w7 at *
      clear b7
      try simp only [Act.put, List.getElem_toArray, List.getElem_cons_succ, List.getElem_cons_zero, List.setIfInBounds_toArray, List.set_cons_zero, List.set_cons_succ]
      refine wpAnyH_ready (rs := [2]) (by kernel_rfl) (by simp) ?_
      refine AllReadyH.cons (o := _) rfl (fun K hK => ?_) (AllReadyH.nil)
      go_simp
      have b7 : Below w7.heap.size w7 (w7.alloc (.cells #[] 43)) := bel_self _ _
      have e8 : Lv (w7.alloc (.cells #[] 43)) w7.heap.size #[] 43 := Lv.new w7 _ _
      obtain ⟨g8, hg8⟩ : ∃ g, g = w7.heap.size := ⟨_, rfl⟩
      have he8W : W.heap.size ≤ g8 := by have := hHeld.size; rw [hg8]; exact this
      have hz := hz.below b7
      refine hK.out _ _ (hHeld.alloc hHeld.size _) (fun hHeld => ?_)
      clear hK K
      rw [← hg8] at e8
      simp only [← hg8]
      generalize (w7.alloc (.cells #[] 43)) = w8 at *
      clear hg8 b7
      try simp only [Act.put, List.getElem_toArray, List.getElem_cons_succ, List.getElem_cons_zero, List.setIfInBounds_toArray, List.set_cons_zero, List.set_cons_succ]
      refine wpAnyH_ready (rs := [5]) (by kernel_rfl) (by simp) ?_
      refine AllReadyH.cons (o := _) rfl (fun K hK => ?_) (AllReadyH.nil)
      refine step_fresh tW _ rfl _ _ rfl W.heap.size g8 e8 he8W rfl p c l n HN.out rfl (h.below (bel_call bW (Nat.le_refl _) hHeld)) (by omega) ?_
      intro q1 d1 w1 o1 b1 _
      have hz := hz.below b1
      refine hK.out _ _ (bel_call hHeld (Nat.le_refl _) b1) (fun hHeld => ?_)
      clear hK K
      try simp only [Act.put, List.getElem_toArray, List.getElem_cons_succ, List.getElem_cons_zero, List.setIfInBounds_toArray, List.set_cons_zero, List.set_cons_succ]
      refine wpAnyH_take (i := 6) (oi := _) (v := ?_) rfl (by kernel_rfl) (by kernel_rfl) (by kernel_rfl) (fun _ _ _ h => h) (Or.inl ⟨by rfl, ?_⟩) hHeld ?_
      rotate_left
      · intro w' hSw
        (go_simp <;> with_reducible rfl)
      try simp only [Act.put, List.getElem_toArray, List.getElem_cons_succ, List.getElem_cons_zero, List.setIfInBounds_toArray, List.set_cons_zero, List.set_cons_succ]
      refine wpAnyH_ready (rs := [8]) (by kernel_rfl) (by simp) ?_
      refine AllReadyH.cons (o := _) rfl (fun K hK => ?_) (AllReadyH.nil)
      have z0 := hz.c 0 rfl
      have z1 := hz.c 1 rfl
      have y0 := hz.fz 0
      have y1 := hz.fz 1
      go_simp
      have fq : Far q1 W.heap.size := Far.type o1 hz (by decide)
      have hz9 : Fv ((w1.setCell ⟨W.heap.size, 0, none⟩ (.int .u32 (b : Int))).setCell ⟨W.heap.size, 1, none⟩ (.slice q1 n d1)) W.heap.size b q1 n d1 := (hz.set 0 (.int .u32 (b : Int))).set 1 (.slice q1 n d1)
      have o1 := own_setFar (own_setFar o1 fq 0 (.int .u32 (b : Int))) fq 1 (.slice q1 n d1)
      have hS9 : Below W.heap.size W ((w1.setCell ⟨W.heap.size, 0, none⟩ (.int .u32 (b : Int))).setCell ⟨W.heap.size, 1, none⟩ (.slice q1 n d1)) := by refine Below.setCell (Below.setCell hHeld ?_ _) ?_ _ <;> exact hhzW
      refine hK.out _ _ hS9 (fun hHeld => ?_)
      clear hK K
      try simp only [Act.put, List.getElem_toArray, List.getElem_cons_succ, List.getElem_cons_zero, List.setIfInBounds_toArray, List.set_cons_zero, List.set_cons_succ]
      refine wpAnyH_done (by kernel_rfl) ?_ _
      go_wp2_with fail
      go_meet
      case rel => exact ⟨W.heap.size, q1, d1, rfl, hhzW, hz9, o1, hHeld⟩
  case rest =>
    obtain ⟨g, q1, d1, rfl, hgW, hv, o1, hB⟩ := hcut
    have hrc : Fv wc (w.heap.size + 1) 0 none 0 0 := (hB.block (w.heap.size + 1) hgr).trans hr0
    have hpc : Fv wc w.heap.size b p n c := (hB.block w.heap.size hgp).trans hp0
    have hne1 : g ≠ w.heap.size + 1 := by omega
    have hne2 : w.heap.size + 1 ≠ g := by omega
    have hne3 : w.heap.size ≠ g := by omega
    have hgw : w.heap.size ≤ g := by omega
    have BW : Below w.heap.size w wc := bel_call bW (Nat.le_refl _) hB
    have k0 := hpc.c0
    have k1 := hpc.c1
    have z0 := hv.c0
    have z1 := hv.c1
    have x0 := hrc.c0
    have x1 := hrc.c1
    have v0 := hrc.f0
    have v1 := hrc.f1
    have hWc := hB.size
    clear bW hp0 hr0 hgp hgr hB
    have hWw : w.heap.size ≤ W.heap.size := hWw0
    by_cases hc0 : cl < 1
    · have dc : decide (cl < 1) = true := by simpa using hc0
      have HB : Hid (awB b cl m = b) := by show _ = _; unfold awB okc; rw [if_neg (by simp; omega)]
      have HG : Hid (awG b cl m = 0) := by show _ = _; unfold awG okc; rw [if_neg (by simp; omega)]
      have hk9 : okc cl m = false := by unfold okc; simp; omega
      have HW : Hid (awW b l cl m = l) := by show _ = _; unfold awW awJ; rw [hk9]; simp
      have HO : Hid (awO b l cl m = false) := by show _ = _; unfold awO; rw [hk9]; simp
      clear hk9 hc0
      go_wp2
      have fR := Far.type (own_mono o1 hWw) hrc (by decide)
      have hR9 : Fv ((wc.setCell ⟨w.heap.size + 1, 0, none⟩ (.int .u32 (b : Int))).setCell ⟨w.heap.size + 1, 1, none⟩ (.slice q1 n d1)) (w.heap.size + 1) b q1 n d1 := (Lv.set hrc 0 (.int .u32 (b : Int))).set 1 (.slice q1 n d1)
      have e9 := loadFlag hR9
      have hb9 : Below w.heap.size w ((wc.setCell ⟨w.heap.size + 1, 0, none⟩ (.int .u32 (b : Int))).setCell ⟨w.heap.size + 1, 1, none⟩ (.slice q1 n d1)) := by
        refine Below.setCell (Below.setCell BW ?_ _) ?_ _
        · exact Nat.le_succ _
        · exact Nat.le_succ _
      have RA9 := own_setFar (own_setFar (own_mono o1 hWw) fR 0 (.int .u32 (b : Int))) fR 1 (.slice q1 n d1)
      refine bodyPost_ret (v := .tuple #[.agg #[.int .u32 (b : Int), .slice q1 n d1], .int .u32 0, .bool false]) (by simp [results, Try.results13, asAddr, e9]) rfl ⟨q1, d1, by rw [HB.out, HW.out, HG.out, HO.out, HN.out]; rfl, by rw [HW.out]; exact RA9, hb9⟩
    have dc : decide (cl < 1) = false := by simp; omega
    by_cases hm0 : m = 0
    · subst hm0
      have hk9 : okc cl 0 = false := by unfold okc; simp
      have HB : Hid (awB b cl 0 = b) := by show _ = _; unfold awB; rw [hk9]; rfl
      have HG : Hid (awG b cl 0 = 0) := by show _ = _; unfold awG; rw [hk9]; rfl
      have HW : Hid (awW b l cl 0 = l) := by show _ = _; unfold awW awJ; rw [hk9]; simp
      have HO : Hid (awO b l cl 0 = false) := by show _ = _; unfold awO; rw [hk9]; simp
      clear hk9 hc0
      go_wp2
      have fR := Far.type (own_mono o1 hWw) hrc (by decide)
      have hR9 : Fv ((wc.setCell ⟨w.heap.size + 1, 0, none⟩ (.int .u32 (b : Int))).setCell ⟨w.heap.size + 1, 1, none⟩ (.slice q1 n d1)) (w.heap.size + 1) b q1 n d1 := (Lv.set hrc 0 (.int .u32 (b : Int))).set 1 (.slice q1 n d1)
      have e9 := loadFlag hR9
      have hb9 : Below w.heap.size w ((wc.setCell ⟨w.heap.size + 1, 0, none⟩ (.int .u32 (b : Int))).setCell ⟨w.heap.size + 1, 1, none⟩ (.slice q1 n d1)) := by
        refine Below.setCell (Below.setCell BW ?_ _) ?_ _
        · exact Nat.le_succ _
        · exact Nat.le_succ _
      have RA9 := own_setFar (own_setFar (own_mono o1 hWw) fR 0 (.int .u32 (b : Int))) fR 1 (.slice q1 n d1)
      refine bodyPost_ret (v := .tuple #[.agg #[.int .u32 (b : Int), .slice q1 n d1], .int .u32 0, .bool false]) (by simp [results, Try.results13, asAddr, e9]) rfl ⟨q1, d1, by rw [HB.out, HW.out, HG.out, HO.out, HN.out]; rfl, by rw [HW.out]; exact RA9, hb9⟩
    have dm : ((m : Int) == 0) = false := by simpa using hm0
    have hk9 : okc cl m = true := by unfold okc; simp; omega
    have hsub := dn_add m hb32
    have hand := u32_and_nat b m hb32 hm32
    by_cases hz : b &&& m = 0
    · rw [hz] at hand
      have HB : Hid (awB b cl m = b) := by show _ = _; unfold awB; rw [hk9]; exact dn_zero hz
      have HG : Hid (awG b cl m = 0) := by show _ = _; unfold awG; rw [hk9]; exact hz
      have HJ : Hid (awJ b l cl m = (!l.any (·.1 == cl) && decide (l.length < 4))) := by show _ = _; unfold awJ; rw [hk9, hz]; simp
      have HO1 : Hid (awO b l cl m = awJ b l cl m) := by show _ = _; unfold awO; rw [hk9, hz]; simp
      clear hsub hz hk9 hc0 hm0
      have hpL := hpc
      go_wp2
      go_loop [11] (fun i => ∃ k : Nat, k ≤ n ∧ i = .int .i64 k ∧ ∀ j (hj : j < l.length), j < k → (l[j]).1 ≠ cl) (fun i => n - (intOf i).toNat)
      case atStart => exact ⟨0, Nat.zero_le _, rfl, fun j _ hj => absurd hj (Nat.not_lt_zero _)⟩
      case round =>
        obtain ⟨k, hk, rfl, hall⟩ := hrel
        have HL : Hid (∀ j (hj : j < l.length), j < k → (l[j]).1 ≠ cl) := hall
        clear hall
        by_cases hlt : k < n
        · have hkl : k < l.length := by rw [HN.out]; exact hlt
          obtain ⟨bb, oo, rfl, hbb, hc1, hc2⟩ := (h.below BW).wt k hkl
          obtain ⟨X, hX⟩ : ∃ X, (l[k]).1 = X := ⟨_, rfl⟩
          have HX : Hid ((l[k]).1 = X) := hX
          rw [hX] at hc1
          clear hX hc2
          by_cases he : X = cl
          · subst he
            have HA : Hid (l.any (·.1 == X) = true) := List.any_eq_true.2 ⟨l[k], List.getElem_mem hkl, by rw [HX.out]; simp⟩
            have HW : Hid (awW b l X m = l) := by show _ = _; unfold awW; rw [HJ.out, HA.out]; simp
            have HO : Hid (awO b l X m = false) := by show _ = _; rw [HO1.out, HJ.out, HA.out]; rfl
            go_wp2
            have fR := Far.type (own_mono o1 hWw) hrc (by decide)
            have hR9 : Fv ((wc.setCell ⟨w.heap.size + 1, 0, none⟩ (.int .u32 (b : Int))).setCell ⟨w.heap.size + 1, 1, none⟩ (.slice q1 n d1)) (w.heap.size + 1) b q1 n d1 := (Lv.set hrc 0 (.int .u32 (b : Int))).set 1 (.slice q1 n d1)
            have e9 := loadFlag hR9
            have hb9 : Below w.heap.size w ((wc.setCell ⟨w.heap.size + 1, 0, none⟩ (.int .u32 (b : Int))).setCell ⟨w.heap.size + 1, 1, none⟩ (.slice q1 n d1)) := by
              refine Below.setCell (Below.setCell BW ?_ _) ?_ _
              · exact Nat.le_succ _
              · exact Nat.le_succ _
            have RA9 := own_setFar (own_setFar (own_mono o1 hWw) fR 0 (.int .u32 (b : Int))) fR 1 (.slice q1 n d1)
            refine bodyPost_ret (v := .tuple #[.agg #[.int .u32 (b : Int), .slice q1 n d1], .int .u32 0, .bool false]) (by simp [results, Try.results13, asAddr, e9]) rfl ⟨q1, d1, by rw [HB.out, HW.out, HG.out, HO.out, HN.out]; rfl, by rw [HW.out]; exact RA9, hb9⟩
          · have hne : (X == cl) = false := by simpa using he
            have HE : Hid (X ≠ cl) := he
            clear he
            go_wp2
            go_round
            case rel => exact ⟨k + 1, by omega, by go_num, fun a ha hlt => by
              by_cases e : a = k
              · subst e; rw [HX.out]; exact HE.out
              · exact HL.out a ha (by omega)⟩
            case measure => simp [intOf]; omega
        · have hkn : k = n := by omega
          subst hkn
          have HA : Hid (l.any (·.1 == cl) = false) := by
            show _ = _
            rw [List.any_eq_false]
            intro y hy
            obtain ⟨a, ha, rfl⟩ := List.getElem_of_mem hy
            simpa using HL.out a ha (by rw [← HN.out]; exact ha)
          by_cases h4 : 4 ≤ k
          · have HW : Hid (awW b l cl m = l) := by show _ = _; unfold awW; rw [HJ.out, HN.out]; simp; omega
            have HO : Hid (awO b l cl m = false) := by show _ = _; rw [HO1.out, HJ.out, HN.out]; simp; omega
            have d4 : decide ((4 : Int) ≤ (k : Int)) = true := by simp; omega
            go_wp2
            have fR := Far.type (own_mono o1 hWw) hrc (by decide)
            have hR9 : Fv ((wc.setCell ⟨w.heap.size + 1, 0, none⟩ (.int .u32 (b : Int))).setCell ⟨w.heap.size + 1, 1, none⟩ (.slice q1 k d1)) (w.heap.size + 1) b q1 k d1 := (Lv.set hrc 0 (.int .u32 (b : Int))).set 1 (.slice q1 k d1)
            have e9 := loadFlag hR9
            have hb9 : Below w.heap.size w ((wc.setCell ⟨w.heap.size + 1, 0, none⟩ (.int .u32 (b : Int))).setCell ⟨w.heap.size + 1, 1, none⟩ (.slice q1 k d1)) := by
              refine Below.setCell (Below.setCell BW ?_ _) ?_ _
              · exact Nat.le_succ _
              · exact Nat.le_succ _
            have RA9 := own_setFar (own_setFar (own_mono o1 hWw) fR 0 (.int .u32 (b : Int))) fR 1 (.slice q1 k d1)
            refine bodyPost_ret (v := .tuple #[.agg #[.int .u32 (b : Int), .slice q1 k d1], .int .u32 0, .bool false]) (by simp [results, Try.results13, asAddr, e9]) rfl ⟨q1, d1, by rw [HB.out, HW.out, HG.out, HO.out, HN.out]; rfl, by rw [HW.out]; exact RA9, hb9⟩
          · have HW : Hid (awW b l cl m = l ++ [(cl, m)]) := by show _ = _; unfold awW; rw [HJ.out, HA.out, HN.out]; simp; omega
            have HO : Hid (awO b l cl m = true) := by show _ = _; rw [HO1.out, HJ.out, HA.out, HN.out]; simp; omega
            have d4 : decide ((4 : Int) ≤ (k : Int)) = false := by simp; omega
            have s1 := bel_self wc (.cells #[.int .i64 cl, .int .u32 (m : Int)] 43)
            have hv3 := hv.below s1
            have o3 := own_below o1 s1
            go_wp2_with (at_builtin; refine wpList_app tW _ rfl _ _ rfl W.heap.size q1 d1 l k HN.out rfl o3 _ _ [(cl, m)] 1 rfl rfl (rd_block (heap_alloc_new _ _) 1 rfl rfl) (by omega) (Nat.le_trans hWc s1.size) (k + 1) rfl ?_; intro q5 d5 w5 o5 b5 g5
                         have hv5 : Fv w5 g b q1 k d1 := Lv.grew hv3 g5 (Far.type o3 hv3 (by decide))
                         have y0 := hv5.c0; have y1 := hv5.c1; have yf := hv5.f1
                         have hr5 : Fv w5 (w.heap.size + 1) 0 none 0 0 := Lv.grew (hrc.below s1) g5 (Far.type o3 (hrc.below s1) (by decide))
                         have t0 := hr5.c0; have t1 := hr5.c1; have u0 := hr5.f0; have u1 := hr5.f1)
            have hr6 : Fv (w5.setCell ⟨g, 1, none⟩ (.slice q5 (k + 1) d5)) (w.heap.size + 1) 0 none 0 0 := Lv.far hr5 (a := ⟨g, 1, none⟩) hne1 _
            have o6 := own_setFar o5 (Far.type o5 hv5 (by decide)) 1 (.slice q5 (k + 1) d5)
            have b6 : Below w.heap.size w (w5.setCell ⟨g, 1, none⟩ (.slice q5 (k + 1) d5)) := Below.setCell ((bel_call BW (Nat.le_refl _) s1).trans (b5.mono hWw)) (p := ⟨g, 1, none⟩) hgw _
            have fR := Far.type (own_mono o6 hWw) hr6 (by decide)
            have hR9 : Fv (((w5.setCell ⟨g, 1, none⟩ (.slice q5 (k + 1) d5)).setCell ⟨w.heap.size + 1, 0, none⟩ (.int .u32 (b : Int))).setCell ⟨w.heap.size + 1, 1, none⟩ (.slice q5 (k + 1) d5)) (w.heap.size + 1) b q5 (k + 1) d5 := (Lv.set hr6 0 (.int .u32 (b : Int))).set 1 (.slice q5 (k + 1) d5)
            have e9 := loadFlag hR9
            have hb9 : Below w.heap.size w (((w5.setCell ⟨g, 1, none⟩ (.slice q5 (k + 1) d5)).setCell ⟨w.heap.size + 1, 0, none⟩ (.int .u32 (b : Int))).setCell ⟨w.heap.size + 1, 1, none⟩ (.slice q5 (k + 1) d5)) := by
              refine Below.setCell (Below.setCell b6 ?_ _) ?_ _
              · exact Nat.le_succ _
              · exact Nat.le_succ _
            have RA9 := own_setFar (own_setFar (own_mono o6 hWw) fR 0 (.int .u32 (b : Int))) fR 1 (.slice q5 (k + 1) d5)
            refine bodyPost_ret (v := .tuple #[.agg #[.int .u32 (b : Int), .slice q5 (k + 1) d5], .int .u32 0, .bool true]) (by simp [results, Try.results13, asAddr, e9]) rfl ⟨q5, d5, by rw [HB.out, HW.out, HG.out, HO.out, List.length_append, HN.out]; rfl, by rw [HW.out]; exact RA9, hb9⟩
    · have HB : Hid (awB b cl m = dn b m) := by show _ = _; unfold awB; rw [hk9]; rfl
      have HG : Hid (awG b cl m = b &&& m) := by show _ = _; unfold awG; rw [hk9]; rfl
      have HJ : Hid (awJ b l cl m = false) := by show _ = _; unfold awJ; rw [hk9]; simp [hz]
      have HW : Hid (awW b l cl m = l) := by show _ = _; unfold awW; rw [HJ.out]; simp
      have HO : Hid (awO b l cl m = true) := by show _ = _; unfold awO; rw [hk9]; simp [hz]
      clear hk9 hc0 hm0
      generalize b &&& m = Z at *
      generalize dn b m = E at *
      have hd1 : ((Z : Int) == 0) = false := by simpa using hz
      have hd2 : (Z == 0) = false := by simpa using hz
      have hm9 : (b : Int) - (Z : Int) = (E : Int) := by omega
      have yf := hv.f0
      clear hsub
      go_wp2
      have hr6 : Fv (wc.setCell ⟨g, 0, none⟩ (.int .u32 (E : Int))) (w.heap.size + 1) 0 none 0 0 := Lv.far hrc (a := ⟨g, 0, none⟩) hne1 _
      have o6 := own_setFar o1 (Far.type o1 hv (by decide)) 0 (.int .u32 (E : Int))
      have b6 : Below w.heap.size w (wc.setCell ⟨g, 0, none⟩ (.int .u32 (E : Int))) := Below.setCell BW (p := ⟨g, 0, none⟩) hgw _
      have fR := Far.type (own_mono o6 hWw) hr6 (by decide)
      have hR9 : Fv (((wc.setCell ⟨g, 0, none⟩ (.int .u32 (E : Int))).setCell ⟨w.heap.size + 1, 0, none⟩ (.int .u32 (E : Int))).setCell ⟨w.heap.size + 1, 1, none⟩ (.slice q1 n d1)) (w.heap.size + 1) E q1 n d1 := (Lv.set hr6 0 (.int .u32 (E : Int))).set 1 (.slice q1 n d1)
      have e9 := loadFlag hR9
      have hb9 : Below w.heap.size w (((wc.setCell ⟨g, 0, none⟩ (.int .u32 (E : Int))).setCell ⟨w.heap.size + 1, 0, none⟩ (.int .u32 (E : Int))).setCell ⟨w.heap.size + 1, 1, none⟩ (.slice q1 n d1)) := by
        refine Below.setCell (Below.setCell b6 ?_ _) ?_ _
        · exact Nat.le_succ _
        · exact Nat.le_succ _
      have RA9 := own_setFar (own_setFar (own_mono o6 hWw) fR 0 (.int .u32 (E : Int))) fR 1 (.slice q1 n d1)
      refine bodyPost_ret (v := .tuple #[.agg #[.int .u32 (E : Int), .slice q1 n d1], .int .u32 (Z : Int), .bool true]) (by simp [results, Try.results13, asAddr, e9]) rfl ⟨q1, d1, by rw [HB.out, HW.out, HG.out, HO.out, HN.out], by rw [HW.out]; exact RA9, hb9⟩
end Go.Proofs.Ytodboigmmekkpaa
