/-
  What Table of the statements hands back: the program's table as the document's.
-/
import Derived.Test.YtcncpefdjgnhdaaSames
namespace Go.Proofs.Ytcncpefdjgnhdaa
open Go.ChangeShapes Go.WideShapes Go.ChangeAt Go.RowKit
attribute [local go_sem ↓] Go.wp_at_zero Go.wp_at_succ

theorem dec_lt {k n : Nat} (h : k < n) : decide ((k : Int) < (n : Int)) = true := by simp; omega
set_option maxRecDepth 20000 in
set_option maxHeartbeats 8000000 in
theorem table_any (x : Tw) (T : Tb) (w : World) (ht : Tr w x T) :
    Calls Try.prog 27 #[.agg #[.slice x.gp 12 x.gc, .slice x.ip 12 x.ic, .slice x.tp 12 x.tc]] w fun e w' => ∃ y : Tw, e = .returned (.agg #[.slice y.gp 12 y.gc, .slice y.ip 12 y.ic, .slice y.tp 12 y.tc]) ∧ Tr w' y T ∧ Below w.heap.size w w' := by
  obtain ⟨gp, gc, ip, ic, tp, tc⟩ := x
  obtain ⟨b, o, _, e9, _⟩ := ht.thing 0 (by decide)
  dsimp only at e9 ⊢
  subst e9
  obtain ⟨xs, hxs, hts⟩ := ht.R
  have HXL : Hid (xs.length = 12) := by show _ = _; rw [hts.1, ht.tl]
  obtain ⟨W, hW⟩ : ∃ W, W = ((w.alloc (.cells #[.slice gp 12 gc, .slice ip 12 ic, .slice (some ⟨b, o, none⟩) 12 tc] 30)).alloc (.cells #[.slice none 0 0, .slice none 0 0, .slice none 0 0] 35)).alloc (.cells #[.slice gp 12 gc, .slice ip 12 ic, .slice none 0 0] 35) := ⟨_, rfl⟩
  have bW : Below w.heap.size w W := by rw [hW]; exact (((Below.refl _ _).alloc (Nat.le_refl _) _).alloc (by simp) _).alloc (by simp; omega) _
  have hsz : W.heap.size = w.heap.size + 3 := by rw [hW]; simp
  have hV : Vw W w.heap.size ⟨gp, gc, ip, ic, some ⟨b, o, none⟩, tc⟩ 30 := by rw [hW]; exact ((Vw.new _ (⟨gp, gc, ip, ic, some ⟨b, o, none⟩, tc⟩ : Tw) _).below (bel_self _ _)).below (bel_self _ _)
  have hR : Lv W (w.heap.size + 1) #[.slice none 0 0, .slice none 0 0, .slice none 0 0] 35 := by rw [hW]; exact Lv.below (heap_at (by simp)) (bel_self _ _)
  have hX : Lv W (w.heap.size + 1 + 1) #[.slice gp 12 gc, .slice ip 12 ic, .slice none 0 0] 35 := by rw [hW]; exact heap_at (by simp)
  go_enter Try.func27, Try.ntmps27
  go_wp2
  rw [← hW]
  clear hW
  go_loopw [4] (fun i wr => ∃ (k : Nat) (p : Option Addr) (c : Nat), k ≤ 12 ∧ i = .int .i64 k ∧ Own eT wr W.heap.size 56 p c (xs.take k) ∧ Lv wr (w.heap.size + 1 + 1) #[.slice gp 12 gc, .slice ip 12 ic, .slice p k c] 35 ∧ Vw wr w.heap.size ⟨gp, gc, ip, ic, some ⟨b, o, none⟩, tc⟩ 30 ∧ Lv wr (w.heap.size + 1) #[.slice none 0 0, .slice none 0 0, .slice none 0 0] 35 ∧ Below w.heap.size w wr ∧ W.heap.size ≤ wr.heap.size) (fun i _ => 12 - (intOf i).toNat)
  case atStart => exact ⟨0, none, 0, Nat.zero_le _, rfl, own_nil _ _ _, hX, hV, hR, bW, Nat.le_refl _⟩
  case round =>
    obtain ⟨k, p, c, hk, rfl, oq, hx, hv, hr, hbw, hle⟩ := hrel
    clear hX hV hR
    obtain ⟨c0, c1, c2⟩ := hv.at
    by_cases hlt : k < 12
    · have hkI : (k : Int) < 12 := by omega
      have hkZ : (0 : Int) ≤ (k : Int) := by omega
      have hxk : k < xs.length := by rw [HXL.out]; exact hlt
      obtain ⟨b', o', e8, hb, hcw⟩ := hxs.thing k hxk
      cases e8
      have hnx := take_nx xs k hxk
      have HNX : Hid (xs.take (k + 1) = xs.take k ++ [xs[k]]) := hnx
      have HLK : Hid ((xs.take k).length = k) := by show _ = _; rw [List.length_take, HXL.out]; omega
      clear hnx
      obtain ⟨X, hXX⟩ : ∃ X, xs[k] = X := ⟨_, rfl⟩
      rw [hXX] at hcw
      have HXX : Hid (xs[k] = X) := hXX
      clear hXX
      go_wp2
      obtain ⟨wo, hwo⟩ : ∃ wo : World, wo = wr := ⟨_, rfl⟩
      subst hwo
      clear c0 c1 c2
      have xx : Lv wo.drew (w.heap.size + 1 + 1) #[.slice gp 12 gc, .slice ip 12 ic, .slice p k c] 35 := Lv.draw hx
      have rr : Lv wo.drew (w.heap.size + 1) #[.slice none 0 0, .slice none 0 0, .slice none 0 0] 35 := Lv.draw hr
      have oq := own_below oq (Below.refl wo.heap.size wo).drew
      have lez : W.heap.size ≤ wo.drew.heap.size := hle
      refine wp_region_held_drew (S := fun w' => w'.heap[w.heap.size]? = wo.heap[w.heap.size]? ∧ Below w.heap.size w w') (by kernel_rfl) ⟨rfl, hbw.drew⟩ (fun hHeld => ?_)
      refine wpAnyH_take (i := 0) (oi := _) (v := ?_) rfl (by kernel_rfl) (by kernel_rfl) (by kernel_rfl) (fun _ _ _ h => h) (Or.inl ⟨by rfl, ?_⟩) hHeld ?_
      rotate_left
      · intro w' hSw
        (go_simp <;> with_reducible rfl)
      try simp only [Act.put, List.getElem_toArray, List.getElem_cons_zero, List.setIfInBounds_toArray, List.set_cons_zero, List.set_cons_succ]
      refine wpAnyH_take (i := 2) (oi := _) (v := ?_) rfl (by kernel_rfl) (by kernel_rfl) (by kernel_rfl) (fun _ _ _ h => h) (Or.inl ⟨by rfl, ?_⟩) hHeld ?_
      rotate_left
      · intro w' hSw
        (go_simp <;> with_reducible rfl)
      try simp only [Act.put, List.getElem_toArray, List.getElem_cons_succ, List.getElem_cons_zero, List.setIfInBounds_toArray, List.set_cons_zero, List.set_cons_succ]
      refine wpAnyH_take (i := 3) (oi := _) (v := ?_) rfl (by kernel_rfl) (by kernel_rfl) (by kernel_rfl) (fun _ _ _ h => h) (Or.inl ⟨by rfl, ?_⟩) hHeld ?_
      rotate_left
      · intro w' hSw
        obtain ⟨c0, c1, c2⟩ := Vw.at (show Vw w' w.heap.size ⟨gp, gc, ip, ic, some ⟨b, o, none⟩, tc⟩ 30 from hSw.1.trans hv)
        obtain ⟨f0, f1, f2, f3, f4, f5, f6, f7, f8, f9⟩ := hcw.below hSw.2 hb
        (go_simp <;> with_reducible rfl)
      try simp only [Act.put, List.getElem_toArray, List.getElem_cons_succ, List.getElem_cons_zero, List.setIfInBounds_toArray, List.set_cons_zero, List.set_cons_succ]
      refine wpAnyH_take (i := 4) (oi := _) (v := ?_) rfl (by kernel_rfl) (by kernel_rfl) (by kernel_rfl) (fun _ _ _ h => h) (Or.inl ⟨by rfl, ?_⟩) hHeld ?_
      rotate_left
      · intro w' hSw
        (go_simp <;> with_reducible rfl)
      try simp only [Act.put, List.getElem_toArray, List.getElem_cons_succ, List.getElem_cons_zero, List.setIfInBounds_toArray, List.set_cons_zero, List.set_cons_succ]
      refine wpAnyH_take (i := 5) (oi := _) (v := ?_) rfl (by kernel_rfl) (by kernel_rfl) (by kernel_rfl) (fun _ _ _ h => h) (Or.inl ⟨by rfl, ?_⟩) hHeld ?_
      rotate_left
      · intro w' hSw
        (go_simp <;> with_reducible rfl)
      try simp only [Act.put, List.getElem_toArray, List.getElem_cons_succ, List.getElem_cons_zero, List.setIfInBounds_toArray, List.set_cons_zero, List.set_cons_succ]
      refine wpAnyH_take (i := 6) (oi := _) (v := ?_) rfl (by kernel_rfl) (by kernel_rfl) (by kernel_rfl) (fun _ _ _ h => h) (Or.inl ⟨by rfl, ?_⟩) hHeld ?_
      rotate_left
      · intro w' hSw
        obtain ⟨c0, c1, c2⟩ := Vw.at (show Vw w' w.heap.size ⟨gp, gc, ip, ic, some ⟨b, o, none⟩, tc⟩ 30 from hSw.1.trans hv)
        obtain ⟨f0, f1, f2, f3, f4, f5, f6, f7, f8, f9⟩ := hcw.below hSw.2 hb
        (go_simp <;> with_reducible rfl)
      try simp only [Act.put, List.getElem_toArray, List.getElem_cons_succ, List.getElem_cons_zero, List.setIfInBounds_toArray, List.set_cons_zero, List.set_cons_succ]
      refine wpAnyH_ready (rs := [1, 7]) (by kernel_rfl) (by simp) ?_
      refine AllReadyH.cons (o := _) rfl (fun K hK => ?_) (AllReadyH.cons (o := _) rfl (fun K hK => ?_) (AllReadyH.nil))
      · have x2 := Lv.c xx 2 rfl
        go_simp
        refine hK.out _ _ hHeld (fun hHeld => ?_)
        clear hK K
        try simp only [Act.put, List.getElem_toArray, List.getElem_cons_succ, List.getElem_cons_zero, List.setIfInBounds_toArray, List.set_cons_zero, List.set_cons_succ]
        refine wpAnyH_ready (rs := [7]) (by kernel_rfl) (by simp) ?_
        refine AllReadyH.cons (o := _) rfl (fun K hK => ?_) (AllReadyH.nil)
        go_simp
        go_at_call 57; refine (thing_any X _).mono ?_
        rintro e w3 ⟨rfl, b3⟩
        have xx := Lv.below xx b3
        have oq := own_below oq b3
        have rr := Lv.below rr b3
        have hS3 : w3.heap[w.heap.size]? = wo.heap[w.heap.size]? ∧ Below w.heap.size w w3 := ⟨(b3.block _ (by have := Lv.lt rr; omega)).trans hHeld.1, bel_call hHeld.2 (Nat.le_refl _) b3⟩
        have le3 : W.heap.size ≤ w3.heap.size := Nat.le_trans lez b3.size
        have lez := le3
        refine hK.out _ _ hS3 (fun hHeld => ?_)
        clear hK K
        try simp only [Act.put, List.getElem_toArray, List.getElem_cons_succ, List.getElem_cons_zero, List.setIfInBounds_toArray, List.set_cons_zero, List.set_cons_succ]
        refine wpAnyH_ready (rs := [8]) (by kernel_rfl) (by simp) ?_
        refine AllReadyH.cons (o := _) rfl (fun K hK => ?_) (AllReadyH.nil)
        go_simp
        have bb : Below w3.heap.size w3 (w3.alloc (.cells #[.int .i64 X.k, .int .i64 X.a, .int .i64 X.g, .int .i64 X.c, .int .i64 X.h, .slice X.lp X.ln X.lc, .slice X.wp X.wn X.wc, .int .u32 (X.b : Int), .slice X.fp X.fn X.fc, .int .u32 (X.s : Int)] 56)) := bel_self _ _
        have nn : Rd eT (w3.alloc (.cells #[.int .i64 X.k, .int .i64 X.a, .int .i64 X.g, .int .i64 X.c, .int .i64 X.h, .slice X.lp X.ln X.lc, .slice X.wp X.wn X.wc, .int .u32 (X.b : Int), .slice X.fp X.fn X.fc, .int .u32 (X.s : Int)] 56)) (some ⟨w3.heap.size, 0, none⟩) 1 [X] := rd_block (heap_alloc_new _ _) 1 rfl rfl
        have xx := Lv.below xx bb
        have oq := own_below oq bb
        have rr := Lv.below rr bb
        have hS4 : (w3.alloc (.cells #[.int .i64 X.k, .int .i64 X.a, .int .i64 X.g, .int .i64 X.c, .int .i64 X.h, .slice X.lp X.ln X.lc, .slice X.wp X.wn X.wc, .int .u32 (X.b : Int), .slice X.fp X.fn X.fc, .int .u32 (X.s : Int)] 56)).heap[w.heap.size]? = wo.heap[w.heap.size]? ∧ Below w.heap.size w (w3.alloc (.cells #[.int .i64 X.k, .int .i64 X.a, .int .i64 X.g, .int .i64 X.c, .int .i64 X.h, .slice X.lp X.ln X.lc, .slice X.wp X.wn X.wc, .int .u32 (X.b : Int), .slice X.fp X.fn X.fc, .int .u32 (X.s : Int)] 56)) := ⟨(bb.block _ (by have := Lv.lt rr; simp at this; omega)).trans hHeld.1, bel_call hHeld.2 (Nat.le_refl _) bb⟩
        have le4 : W.heap.size ≤ (w3.alloc (.cells #[.int .i64 X.k, .int .i64 X.a, .int .i64 X.g, .int .i64 X.c, .int .i64 X.h, .slice X.lp X.ln X.lc, .slice X.wp X.wn X.wc, .int .u32 (X.b : Int), .slice X.fp X.fn X.fc, .int .u32 (X.s : Int)] 56)).heap.size := Nat.le_trans lez bb.size
        have lez := le4
        refine hK.out _ _ hS4 (fun hHeld => ?_)
        clear hK K
        try simp only [Act.put, List.getElem_toArray, List.getElem_cons_succ, List.getElem_cons_zero, List.setIfInBounds_toArray, List.set_cons_zero, List.set_cons_succ]
        refine wpAnyH_ready (rs := [9]) (by kernel_rfl) (by simp) ?_
        refine AllReadyH.cons (o := _) rfl (fun K hK => ?_) (AllReadyH.nil)
        refine step_app tD _ rfl _ _ rfl W.heap.size p c _ k HLK.out rfl oq _ _ [X] 1 rfl rfl nn (by omega) lez (k + 1) rfl ?_
        intro p5 c5 w5 o5 b5 g5
        have x5 : Lv w5 (w.heap.size + 1 + 1) #[.slice gp 12 gc, .slice ip 12 ic, .slice p k c] 35 := (b5.block _ (by omega)).trans xx
        have r5 : Lv w5 (w.heap.size + 1) #[.slice none 0 0, .slice none 0 0, .slice none 0 0] 35 := (b5.block _ (by omega)).trans rr
        have hS5 : w5.heap[w.heap.size]? = wo.heap[w.heap.size]? ∧ Below w.heap.size w w5 := ⟨(b5.block _ (by omega)).trans hHeld.1, hHeld.2.trans (b5.mono (by omega))⟩
        have le5 : W.heap.size ≤ w5.heap.size := Nat.le_trans lez b5.size
        refine hK.out _ _ hS5 (fun hHeld => ?_)
        clear hK K
        try simp only [Act.put, List.getElem_toArray, List.getElem_cons_succ, List.getElem_cons_zero, List.setIfInBounds_toArray, List.set_cons_zero, List.set_cons_succ]
        refine wpAnyH_take (i := 10) (oi := _) (v := ?_) rfl (by kernel_rfl) (by kernel_rfl) (by kernel_rfl) (fun _ _ _ h => h) (Or.inl ⟨by rfl, ?_⟩) hHeld ?_
        rotate_left
        · intro w' hSw
          (go_simp <;> with_reducible rfl)
        try simp only [Act.put, List.getElem_toArray, List.getElem_cons_succ, List.getElem_cons_zero, List.setIfInBounds_toArray, List.set_cons_zero, List.set_cons_succ]
        refine wpAnyH_ready (rs := [11]) (by kernel_rfl) (by simp) ?_
        refine AllReadyH.cons (o := _) rfl (fun K hK => ?_) (AllReadyH.nil)
        have x52 := Lv.c x5 2 rfl
        have z52 := Lv.fz x5 2
        go_simp
        have x6 := Lv.set x5 2 (.slice p5 (k + 1) c5)
        have r6 := Lv.far r5 (a := ⟨w.heap.size + 1 + 1, 2, none⟩) (by simp) (.slice p5 (k + 1) c5)
        have o6 := own_kp o5 (Kp.set (g := w.heap.size + 1 + 1) (a := ⟨w.heap.size + 1 + 1, 2, none⟩) rfl (.slice p5 (k + 1) c5)) (by omega)
        have hS6 : (w5.setCell ⟨w.heap.size + 1 + 1, 2, none⟩ (.slice p5 (k + 1) c5)).heap[w.heap.size]? = wo.heap[w.heap.size]? ∧ Below w.heap.size w (w5.setCell ⟨w.heap.size + 1 + 1, 2, none⟩ (.slice p5 (k + 1) c5)) := ⟨(Below.heap_setCell _ _ _ _ (by show w.heap.size ≠ w.heap.size + 1 + 1; omega)).trans hS5.1, Below.setCell hS5.2 (p := ⟨w.heap.size + 1 + 1, 2, none⟩) (by show w.heap.size ≤ w.heap.size + 1 + 1; omega) _⟩
        have le6 : W.heap.size ≤ (w5.setCell ⟨w.heap.size + 1 + 1, 2, none⟩ (.slice p5 (k + 1) c5)).heap.size := by simp [World.setCell]; omega
        refine hK.out _ _ hS6 (fun hHeld => ?_)
        clear hK K
        try simp only [Act.put, List.getElem_toArray, List.getElem_cons_succ, List.getElem_cons_zero]
        refine wpAnyH_done (by kernel_rfl) ?_ _
        have v6 : Vw (w5.setCell ⟨w.heap.size + 1 + 1, 2, none⟩ (.slice p5 (k + 1) c5)) w.heap.size ⟨gp, gc, ip, ic, some ⟨b, o, none⟩, tc⟩ 30 := hS6.1.trans hv
        have o7 : Own eT (w5.setCell ⟨w.heap.size + 1 + 1, 2, none⟩ (.slice p5 (k + 1) c5)) W.heap.size 56 p5 c5 (xs.take (k + 1)) := by rw [HNX.out, HXX.out]; exact o6
        have x7 : Lv (w5.setCell ⟨w.heap.size + 1 + 1, 2, none⟩ (.slice p5 (k + 1) c5)) (w.heap.size + 1 + 1) #[.slice gp 12 gc, .slice ip 12 ic, .slice p5 (k + 1) c5] 35 := x6
        go_wp2
        go_roundw
        case rel => exact ⟨k + 1, p5, c5, by omega, by go_num, o7, x7, v6, r6, hS6.2, le6⟩
        case measure => simp [intOf]; omega
      · go_simp
        go_at_call 57; refine (thing_any X _).mono ?_
        rintro e w3 ⟨rfl, b3⟩
        have xx := Lv.below xx b3
        have oq := own_below oq b3
        have rr := Lv.below rr b3
        have hS3 : w3.heap[w.heap.size]? = wo.heap[w.heap.size]? ∧ Below w.heap.size w w3 := ⟨(b3.block _ (by have := Lv.lt rr; omega)).trans hHeld.1, bel_call hHeld.2 (Nat.le_refl _) b3⟩
        have le3 : W.heap.size ≤ w3.heap.size := Nat.le_trans lez b3.size
        have lez := le3
        refine hK.out _ _ hS3 (fun hHeld => ?_)
        clear hK K
        try simp only [Act.put, List.getElem_toArray, List.getElem_cons_succ, List.getElem_cons_zero, List.setIfInBounds_toArray, List.set_cons_zero, List.set_cons_succ]
        refine wpAnyH_ready (rs := [1, 8]) (by kernel_rfl) (by simp) ?_
        refine AllReadyH.cons (o := _) rfl (fun K hK => ?_) (AllReadyH.cons (o := _) rfl (fun K hK => ?_) (AllReadyH.nil))
        · have x2 := Lv.c xx 2 rfl
          go_simp
          refine hK.out _ _ hHeld (fun hHeld => ?_)
          clear hK K
          try simp only [Act.put, List.getElem_toArray, List.getElem_cons_succ, List.getElem_cons_zero, List.setIfInBounds_toArray, List.set_cons_zero, List.set_cons_succ]
          refine wpAnyH_ready (rs := [8]) (by kernel_rfl) (by simp) ?_
          refine AllReadyH.cons (o := _) rfl (fun K hK => ?_) (AllReadyH.nil)
          go_simp
          have bb : Below w3.heap.size w3 (w3.alloc (.cells #[.int .i64 X.k, .int .i64 X.a, .int .i64 X.g, .int .i64 X.c, .int .i64 X.h, .slice X.lp X.ln X.lc, .slice X.wp X.wn X.wc, .int .u32 (X.b : Int), .slice X.fp X.fn X.fc, .int .u32 (X.s : Int)] 56)) := bel_self _ _
          have nn : Rd eT (w3.alloc (.cells #[.int .i64 X.k, .int .i64 X.a, .int .i64 X.g, .int .i64 X.c, .int .i64 X.h, .slice X.lp X.ln X.lc, .slice X.wp X.wn X.wc, .int .u32 (X.b : Int), .slice X.fp X.fn X.fc, .int .u32 (X.s : Int)] 56)) (some ⟨w3.heap.size, 0, none⟩) 1 [X] := rd_block (heap_alloc_new _ _) 1 rfl rfl
          have xx := Lv.below xx bb
          have oq := own_below oq bb
          have rr := Lv.below rr bb
          have hS4 : (w3.alloc (.cells #[.int .i64 X.k, .int .i64 X.a, .int .i64 X.g, .int .i64 X.c, .int .i64 X.h, .slice X.lp X.ln X.lc, .slice X.wp X.wn X.wc, .int .u32 (X.b : Int), .slice X.fp X.fn X.fc, .int .u32 (X.s : Int)] 56)).heap[w.heap.size]? = wo.heap[w.heap.size]? ∧ Below w.heap.size w (w3.alloc (.cells #[.int .i64 X.k, .int .i64 X.a, .int .i64 X.g, .int .i64 X.c, .int .i64 X.h, .slice X.lp X.ln X.lc, .slice X.wp X.wn X.wc, .int .u32 (X.b : Int), .slice X.fp X.fn X.fc, .int .u32 (X.s : Int)] 56)) := ⟨(bb.block _ (by have := Lv.lt rr; simp at this; omega)).trans hHeld.1, bel_call hHeld.2 (Nat.le_refl _) bb⟩
          have le4 : W.heap.size ≤ (w3.alloc (.cells #[.int .i64 X.k, .int .i64 X.a, .int .i64 X.g, .int .i64 X.c, .int .i64 X.h, .slice X.lp X.ln X.lc, .slice X.wp X.wn X.wc, .int .u32 (X.b : Int), .slice X.fp X.fn X.fc, .int .u32 (X.s : Int)] 56)).heap.size := Nat.le_trans lez bb.size
          have lez := le4
          refine hK.out _ _ hS4 (fun hHeld => ?_)
          clear hK K
          try simp only [Act.put, List.getElem_toArray, List.getElem_cons_succ, List.getElem_cons_zero, List.setIfInBounds_toArray, List.set_cons_zero, List.set_cons_succ]
          refine wpAnyH_ready (rs := [9]) (by kernel_rfl) (by simp) ?_
          refine AllReadyH.cons (o := _) rfl (fun K hK => ?_) (AllReadyH.nil)
          refine step_app tD _ rfl _ _ rfl W.heap.size p c _ k HLK.out rfl oq _ _ [X] 1 rfl rfl nn (by omega) lez (k + 1) rfl ?_
          intro p5 c5 w5 o5 b5 g5
          have x5 : Lv w5 (w.heap.size + 1 + 1) #[.slice gp 12 gc, .slice ip 12 ic, .slice p k c] 35 := (b5.block _ (by omega)).trans xx
          have r5 : Lv w5 (w.heap.size + 1) #[.slice none 0 0, .slice none 0 0, .slice none 0 0] 35 := (b5.block _ (by omega)).trans rr
          have hS5 : w5.heap[w.heap.size]? = wo.heap[w.heap.size]? ∧ Below w.heap.size w w5 := ⟨(b5.block _ (by omega)).trans hHeld.1, hHeld.2.trans (b5.mono (by omega))⟩
          have le5 : W.heap.size ≤ w5.heap.size := Nat.le_trans lez b5.size
          refine hK.out _ _ hS5 (fun hHeld => ?_)
          clear hK K
          try simp only [Act.put, List.getElem_toArray, List.getElem_cons_succ, List.getElem_cons_zero, List.setIfInBounds_toArray, List.set_cons_zero, List.set_cons_succ]
          refine wpAnyH_take (i := 10) (oi := _) (v := ?_) rfl (by kernel_rfl) (by kernel_rfl) (by kernel_rfl) (fun _ _ _ h => h) (Or.inl ⟨by rfl, ?_⟩) hHeld ?_
          rotate_left
          · intro w' hSw
            (go_simp <;> with_reducible rfl)
          try simp only [Act.put, List.getElem_toArray, List.getElem_cons_succ, List.getElem_cons_zero, List.setIfInBounds_toArray, List.set_cons_zero, List.set_cons_succ]
          refine wpAnyH_ready (rs := [11]) (by kernel_rfl) (by simp) ?_
          refine AllReadyH.cons (o := _) rfl (fun K hK => ?_) (AllReadyH.nil)
          have x52 := Lv.c x5 2 rfl
          have z52 := Lv.fz x5 2
          go_simp
          have x6 := Lv.set x5 2 (.slice p5 (k + 1) c5)
          have r6 := Lv.far r5 (a := ⟨w.heap.size + 1 + 1, 2, none⟩) (by simp) (.slice p5 (k + 1) c5)
          have o6 := own_kp o5 (Kp.set (g := w.heap.size + 1 + 1) (a := ⟨w.heap.size + 1 + 1, 2, none⟩) rfl (.slice p5 (k + 1) c5)) (by omega)
          have hS6 : (w5.setCell ⟨w.heap.size + 1 + 1, 2, none⟩ (.slice p5 (k + 1) c5)).heap[w.heap.size]? = wo.heap[w.heap.size]? ∧ Below w.heap.size w (w5.setCell ⟨w.heap.size + 1 + 1, 2, none⟩ (.slice p5 (k + 1) c5)) := ⟨(Below.heap_setCell _ _ _ _ (by show w.heap.size ≠ w.heap.size + 1 + 1; omega)).trans hS5.1, Below.setCell hS5.2 (p := ⟨w.heap.size + 1 + 1, 2, none⟩) (by show w.heap.size ≤ w.heap.size + 1 + 1; omega) _⟩
          have le6 : W.heap.size ≤ (w5.setCell ⟨w.heap.size + 1 + 1, 2, none⟩ (.slice p5 (k + 1) c5)).heap.size := by simp [World.setCell]; omega
          refine hK.out _ _ hS6 (fun hHeld => ?_)
          clear hK K
          try simp only [Act.put, List.getElem_toArray, List.getElem_cons_succ, List.getElem_cons_zero]
          refine wpAnyH_done (by kernel_rfl) ?_ _
          have v6 : Vw (w5.setCell ⟨w.heap.size + 1 + 1, 2, none⟩ (.slice p5 (k + 1) c5)) w.heap.size ⟨gp, gc, ip, ic, some ⟨b, o, none⟩, tc⟩ 30 := hS6.1.trans hv
          have o7 : Own eT (w5.setCell ⟨w.heap.size + 1 + 1, 2, none⟩ (.slice p5 (k + 1) c5)) W.heap.size 56 p5 c5 (xs.take (k + 1)) := by rw [HNX.out, HXX.out]; exact o6
          have x7 : Lv (w5.setCell ⟨w.heap.size + 1 + 1, 2, none⟩ (.slice p5 (k + 1) c5)) (w.heap.size + 1 + 1) #[.slice gp 12 gc, .slice ip 12 ic, .slice p5 (k + 1) c5] 35 := x6
          go_wp2
          go_roundw
          case rel => exact ⟨k + 1, p5, c5, by omega, by go_num, o7, x7, v6, r6, hS6.2, le6⟩
          case measure => simp [intOf]; omega
        · go_simp
          have bb : Below w3.heap.size w3 (w3.alloc (.cells #[.int .i64 X.k, .int .i64 X.a, .int .i64 X.g, .int .i64 X.c, .int .i64 X.h, .slice X.lp X.ln X.lc, .slice X.wp X.wn X.wc, .int .u32 (X.b : Int), .slice X.fp X.fn X.fc, .int .u32 (X.s : Int)] 56)) := bel_self _ _
          have nn : Rd eT (w3.alloc (.cells #[.int .i64 X.k, .int .i64 X.a, .int .i64 X.g, .int .i64 X.c, .int .i64 X.h, .slice X.lp X.ln X.lc, .slice X.wp X.wn X.wc, .int .u32 (X.b : Int), .slice X.fp X.fn X.fc, .int .u32 (X.s : Int)] 56)) (some ⟨w3.heap.size, 0, none⟩) 1 [X] := rd_block (heap_alloc_new _ _) 1 rfl rfl
          have xx := Lv.below xx bb
          have oq := own_below oq bb
          have rr := Lv.below rr bb
          have hS4 : (w3.alloc (.cells #[.int .i64 X.k, .int .i64 X.a, .int .i64 X.g, .int .i64 X.c, .int .i64 X.h, .slice X.lp X.ln X.lc, .slice X.wp X.wn X.wc, .int .u32 (X.b : Int), .slice X.fp X.fn X.fc, .int .u32 (X.s : Int)] 56)).heap[w.heap.size]? = wo.heap[w.heap.size]? ∧ Below w.heap.size w (w3.alloc (.cells #[.int .i64 X.k, .int .i64 X.a, .int .i64 X.g, .int .i64 X.c, .int .i64 X.h, .slice X.lp X.ln X.lc, .slice X.wp X.wn X.wc, .int .u32 (X.b : Int), .slice X.fp X.fn X.fc, .int .u32 (X.s : Int)] 56)) := ⟨(bb.block _ (by have := Lv.lt rr; simp at this; omega)).trans hHeld.1, bel_call hHeld.2 (Nat.le_refl _) bb⟩
          have le4 : W.heap.size ≤ (w3.alloc (.cells #[.int .i64 X.k, .int .i64 X.a, .int .i64 X.g, .int .i64 X.c, .int .i64 X.h, .slice X.lp X.ln X.lc, .slice X.wp X.wn X.wc, .int .u32 (X.b : Int), .slice X.fp X.fn X.fc, .int .u32 (X.s : Int)] 56)).heap.size := Nat.le_trans lez bb.size
          have lez := le4
          refine hK.out _ _ hS4 (fun hHeld => ?_)
          clear hK K
          try simp only [Act.put, List.getElem_toArray, List.getElem_cons_succ, List.getElem_cons_zero, List.setIfInBounds_toArray, List.set_cons_zero, List.set_cons_succ]
          refine wpAnyH_ready (rs := [1]) (by kernel_rfl) (by simp) ?_
          refine AllReadyH.cons (o := _) rfl (fun K hK => ?_) (AllReadyH.nil)
          have x2 := Lv.c xx 2 rfl
          go_simp
          refine hK.out _ _ hHeld (fun hHeld => ?_)
          clear hK K
          try simp only [Act.put, List.getElem_toArray, List.getElem_cons_succ, List.getElem_cons_zero, List.setIfInBounds_toArray, List.set_cons_zero, List.set_cons_succ]
          refine wpAnyH_ready (rs := [9]) (by kernel_rfl) (by simp) ?_
          refine AllReadyH.cons (o := _) rfl (fun K hK => ?_) (AllReadyH.nil)
          refine step_app tD _ rfl _ _ rfl W.heap.size p c _ k HLK.out rfl oq _ _ [X] 1 rfl rfl nn (by omega) lez (k + 1) rfl ?_
          intro p5 c5 w5 o5 b5 g5
          have x5 : Lv w5 (w.heap.size + 1 + 1) #[.slice gp 12 gc, .slice ip 12 ic, .slice p k c] 35 := (b5.block _ (by omega)).trans xx
          have r5 : Lv w5 (w.heap.size + 1) #[.slice none 0 0, .slice none 0 0, .slice none 0 0] 35 := (b5.block _ (by omega)).trans rr
          have hS5 : w5.heap[w.heap.size]? = wo.heap[w.heap.size]? ∧ Below w.heap.size w w5 := ⟨(b5.block _ (by omega)).trans hHeld.1, hHeld.2.trans (b5.mono (by omega))⟩
          have le5 : W.heap.size ≤ w5.heap.size := Nat.le_trans lez b5.size
          refine hK.out _ _ hS5 (fun hHeld => ?_)
          clear hK K
          try simp only [Act.put, List.getElem_toArray, List.getElem_cons_succ, List.getElem_cons_zero, List.setIfInBounds_toArray, List.set_cons_zero, List.set_cons_succ]
          refine wpAnyH_take (i := 10) (oi := _) (v := ?_) rfl (by kernel_rfl) (by kernel_rfl) (by kernel_rfl) (fun _ _ _ h => h) (Or.inl ⟨by rfl, ?_⟩) hHeld ?_
          rotate_left
          · intro w' hSw
            (go_simp <;> with_reducible rfl)
          try simp only [Act.put, List.getElem_toArray, List.getElem_cons_succ, List.getElem_cons_zero, List.setIfInBounds_toArray, List.set_cons_zero, List.set_cons_succ]
          refine wpAnyH_ready (rs := [11]) (by kernel_rfl) (by simp) ?_
          refine AllReadyH.cons (o := _) rfl (fun K hK => ?_) (AllReadyH.nil)
          have x52 := Lv.c x5 2 rfl
          have z52 := Lv.fz x5 2
          go_simp
          have x6 := Lv.set x5 2 (.slice p5 (k + 1) c5)
          have r6 := Lv.far r5 (a := ⟨w.heap.size + 1 + 1, 2, none⟩) (by simp) (.slice p5 (k + 1) c5)
          have o6 := own_kp o5 (Kp.set (g := w.heap.size + 1 + 1) (a := ⟨w.heap.size + 1 + 1, 2, none⟩) rfl (.slice p5 (k + 1) c5)) (by omega)
          have hS6 : (w5.setCell ⟨w.heap.size + 1 + 1, 2, none⟩ (.slice p5 (k + 1) c5)).heap[w.heap.size]? = wo.heap[w.heap.size]? ∧ Below w.heap.size w (w5.setCell ⟨w.heap.size + 1 + 1, 2, none⟩ (.slice p5 (k + 1) c5)) := ⟨(Below.heap_setCell _ _ _ _ (by show w.heap.size ≠ w.heap.size + 1 + 1; omega)).trans hS5.1, Below.setCell hS5.2 (p := ⟨w.heap.size + 1 + 1, 2, none⟩) (by show w.heap.size ≤ w.heap.size + 1 + 1; omega) _⟩
          have le6 : W.heap.size ≤ (w5.setCell ⟨w.heap.size + 1 + 1, 2, none⟩ (.slice p5 (k + 1) c5)).heap.size := by simp [World.setCell]; omega
          refine hK.out _ _ hS6 (fun hHeld => ?_)
          clear hK K
          try simp only [Act.put, List.getElem_toArray, List.getElem_cons_succ, List.getElem_cons_zero]
          refine wpAnyH_done (by kernel_rfl) ?_ _
          have v6 : Vw (w5.setCell ⟨w.heap.size + 1 + 1, 2, none⟩ (.slice p5 (k + 1) c5)) w.heap.size ⟨gp, gc, ip, ic, some ⟨b, o, none⟩, tc⟩ 30 := hS6.1.trans hv
          have o7 : Own eT (w5.setCell ⟨w.heap.size + 1 + 1, 2, none⟩ (.slice p5 (k + 1) c5)) W.heap.size 56 p5 c5 (xs.take (k + 1)) := by rw [HNX.out, HXX.out]; exact o6
          have x7 : Lv (w5.setCell ⟨w.heap.size + 1 + 1, 2, none⟩ (.slice p5 (k + 1) c5)) (w.heap.size + 1 + 1) #[.slice gp 12 gc, .slice ip 12 ic, .slice p5 (k + 1) c5] 35 := x6
          go_wp2
          go_roundw
          case rel => exact ⟨k + 1, p5, c5, by omega, by go_num, o7, x7, v6, r6, hS6.2, le6⟩
          case measure => simp [intOf]; omega
    · have hk12 : k = 12 := by omega
      subst hk12
      have hall : xs.take 12 = xs := by rw [← HXL.out, List.take_length]
      rw [hall] at oq
      clear hall
      have x0 := Lv.c hx 0 rfl
      have x1 := Lv.c hx 1 rfl
      have x2 := Lv.c hx 2 rfl
      go_wp2_with (refine wpList_stV (E := eTb) rfl 35 (.tmp 2) (.tmp 31) rfl size35 (w.heap.size + 1) _ hr rfl (⟨gp, gc, ip, ic, p, c⟩ : Tw) rfl rfl ?_; intro w9 L9 k9)
      have e9 := load35 L9
      have B9 : Below w.heap.size w w9 := bel_kp hbw k9 (by omega) hbw.size
      have o9 := own_kp oq k9 (by omega)
      refine bodyPost_ret (v := .agg #[.slice gp 12 gc, .slice ip 12 ic, .slice p 12 c]) (by simp [results, Try.results27, asAddr, e9]) rfl ⟨⟨gp, gc, ip, ic, p, c⟩, rfl, ⟨ht.G.below B9, ht.I.below B9, ⟨xs, own_rd o9, hts.below B9⟩, ht.gl, ht.il, ht.tl⟩, B9⟩
end Go.Proofs.Ytcncpefdjgnhdaa
