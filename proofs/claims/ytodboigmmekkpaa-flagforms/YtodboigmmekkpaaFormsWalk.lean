/-
  The law FlagForms, walked.
-/
import Derived.Test.YtodboigmmekkpaaUse
import Derived.Test.YtodboigmmekkpaaHand
import Derived.Deep.CutRange
namespace Go.Proofs.Ytodboigmmekkpaa
open Go.ChangeShapes Go.WideShapes Go.ChangeAt Go.RowKit
attribute [local go_sem ↓] Go.wp_at_zero Go.wp_at_succ

/-- the first k that wait -/
def fL (k : Nat) : List Wt := [((1 : Int), 1), (2, 3), (3, 6), (4, 8)].take k
def fM (k : Nat) : Nat := [1, 3, 6, 8].getD k 0
theorem fL_facts (k : Nat) (hk : k < 4) : awB 0 ((k : Int) + 1) (fM k) = 0 ∧ awG 0 ((k : Int) + 1) (fM k) = 0 ∧ awO 0 (fL k) ((k : Int) + 1) (fM k) = true ∧ awW 0 (fL k) ((k : Int) + 1) (fM k) = fL (k + 1) ∧ (fL (k + 1)).length = k + 1 ∧ fM k < 4294967296 := by
  have : k = 0 ∨ k = 1 ∨ k = 2 ∨ k = 3 := by omega
  clear hk
  rcases this with rfl | rfl | rfl | rfl <;> decide
theorem four_at {w : World} {g : Nat} (h : Lv w g #[.int .u32 1, .int .u32 3, .int .u32 6, .int .u32 8] 22) (k : Nat) (hk : k < 4) : w.cell? ⟨g, k, none⟩ = some (.int .u32 ((fM k : Nat) : Int)) :=
  h.c k (by
    have : k = 0 ∨ k = 1 ∨ k = 2 ∨ k = 3 := by omega
    rcases this with rfl | rfl | rfl | rfl <;> rfl)
set_option maxRecDepth 100000 in
set_option maxHeartbeats 8000000 in
theorem forms_walk (w : World) : Calls Try.prog 5 #[] w fun e w' => e = .returned (.bool true) ∧ Below w.heap.size w w' := by
  go_enter Try.func5, Try.ntmps5
  go_wp2_with (go_at_call 7; refine (begun_any _).mono ?_; rintro e w1 ⟨rfl, b1⟩)
  obtain ⟨W, hW⟩ : ∃ W, W = (w1.alloc (.cells #[.int .u32 0, .slice none 0 0] 25)).alloc (.cells #[.int .u32 1, .int .u32 3, .int .u32 6, .int .u32 8] 22) := ⟨_, rfl⟩
  have v1 : Fv W w1.heap.size 0 none 0 0 := by rw [hW]; exact (Fv.new w1 0 none 0 0).below (bel_self _ _)
  have m1 : Lv W (w1.heap.size + 1) #[.int .u32 1, .int .u32 3, .int .u32 6, .int .u32 8] 22 := by rw [hW]; exact heap_at (by simp)
  have B1 : Below w.heap.size w W := by rw [hW]; exact bel_call (bel_call b1 (Nat.le_refl _) (bel_self _ _)) (Nat.le_refl _) (bel_self _ _)
  rw [← hW]
  obtain ⟨gm, hgm⟩ : ∃ g, g = w1.heap.size + 1 := ⟨_, rfl⟩
  obtain ⟨gf, hgf⟩ : ∃ g, g = w1.heap.size := ⟨_, rfl⟩
  have hfm : gf ≠ gm := by omega
  have hgw : w.heap.size ≤ gf := by rw [hgf]; exact b1.size
  rw [← hgm] at m1
  rw [← hgf] at v1
  simp only [← hgm]
  simp only [← hgf]
  have x1 : Fx W 0 none 0 0 (fL 0) := Fx.nil W (by decide)
  clear hgm hgf hW b1 w1
  go_loopw [3] (fun i wr => ∃ (k : Nat) (p : Option Addr) (c : Nat), k ≤ 4 ∧ i = .int .i64 k ∧ Fv wr gf 0 p k c ∧ Fx wr 0 p c k (fL k) ∧ Lv wr gm #[.int .u32 1, .int .u32 3, .int .u32 6, .int .u32 8] 22 ∧ Below w.heap.size w wr) (fun i _ => 4 - (intOf i).toNat)
  case atStart => exact ⟨0, none, 0, by omega, rfl, v1, x1, m1, B1⟩
  case round =>
    obtain ⟨k, p, c, hk, rfl, vb, xb, hct, hbw⟩ := hrel
    clear v1 x1 m1 B1
    by_cases hlt : k < 4
    · obtain ⟨f1, f2, f3, f4, f5, hm32⟩ := fL_facts k hlt
      have hw : IntKind.i64.wrap ((k : Int) + 1) = (k : Int) + 1 := by rw [IntKind.wrap_i64]; omega
      rw [← hw] at f1 f2 f3 f4
      clear hw
      obtain ⟨m, hm⟩ : ∃ m, fM k = m := ⟨_, rfl⟩
      rw [hm] at f1 f2 f3 f4 hm32
      have HM : Hid (fM k = m) := hm
      have HB : Hid (awB 0 (IntKind.i64.wrap ((k : Int) + 1)) m = 0) := f1
      have HG : Hid (awG 0 (IntKind.i64.wrap ((k : Int) + 1)) m = 0) := f2
      have HO : Hid (awO 0 (fL k) (IntKind.i64.wrap ((k : Int) + 1)) m = true) := f3
      have HL : Hid (awW 0 (fL k) (IntKind.i64.wrap ((k : Int) + 1)) m = fL (k + 1)) := f4
      have HN1 : Hid ((fL (k + 1)).length = k + 1) := f5
      have hk9 : k + 1 ≤ 1000 := by omega
      clear hm f1 f2 f3 f4 f5
      have dk : decide ((k : Int) < 4) = true := by simp; omega
      have dk2 : (k : Int) < 4 := by omega
      go_upto_region 8 with fail
      go_cut [4, 5, 6] from 34 to 52 (fun a y o wx => ∃ (g : Nat) (q : Option Addr) (d : Nat), a = .pointer (some ⟨g, 0, none⟩) ∧ y = .int .u32 0 ∧ o = .bool true ∧ Fv wx g 0 q (k + 1) d ∧ Fx wx 0 q d (k + 1) (fL (k + 1)) ∧ Below wr.heap.size wr wx)
      case first =>
        refine wp_region_held_drew (S := fun w' => Below wr.heap.size wr w') (by kernel_rfl) (Below.refl _ _).drew (fun hHeld => ?_)
        refine wpAnyH_take (i := 0) (oi := _) (v := ?_) rfl (by kernel_rfl) (by kernel_rfl) (by kernel_rfl) (fun _ _ _ h => h) (Or.inl ⟨by rfl, ?_⟩) hHeld ?_
        rotate_left
        · intro w' hSw
          have s0 := (vb.below hSw).c0
          have s1 := (vb.below hSw).c1
          (go_simp <;> with_reducible rfl)
        try simp only [Act.put, List.getElem_toArray, List.getElem_cons_zero, List.setIfInBounds_toArray, List.set_cons_zero, List.set_cons_succ]
        refine wpAnyH_take (i := 1) (oi := _) (v := ?_) rfl (by kernel_rfl) (by kernel_rfl) (by kernel_rfl) (fun _ _ _ h => h) (Or.inl ⟨by rfl, ?_⟩) hHeld ?_
        rotate_left
        · intro w' hSw
          (go_simp <;> with_reducible rfl)
        try simp only [Act.put, List.getElem_toArray, List.getElem_cons_succ, List.getElem_cons_zero, List.setIfInBounds_toArray, List.set_cons_zero, List.set_cons_succ]
        refine wpAnyH_take (i := 2) (oi := _) (v := ?_) rfl (by kernel_rfl) (by kernel_rfl) (by kernel_rfl) (fun _ _ _ h => h) (Or.inl ⟨by rfl, ?_⟩) hHeld ?_
        rotate_left
        · intro w' hSw
          (go_simp <;> with_reducible rfl)
        try simp only [Act.put, List.getElem_toArray, List.getElem_cons_succ, List.getElem_cons_zero, List.setIfInBounds_toArray, List.set_cons_zero, List.set_cons_succ]
        refine wpAnyH_take (i := 3) (oi := _) (v := ?_) rfl (by kernel_rfl) (by kernel_rfl) (by kernel_rfl) (fun _ _ _ h => h) (Or.inl ⟨by rfl, ?_⟩) hHeld ?_
        rotate_left
        · intro w' hSw
          (go_simp <;> with_reducible rfl)
        try simp only [Act.put, List.getElem_toArray, List.getElem_cons_succ, List.getElem_cons_zero, List.setIfInBounds_toArray, List.set_cons_zero, List.set_cons_succ]
        refine wpAnyH_take (i := 4) (oi := _) (v := ?_) rfl (by kernel_rfl) (by kernel_rfl) (by kernel_rfl) (fun _ _ _ h => h) (Or.inl ⟨by rfl, ?_⟩) hHeld ?_
        rotate_left
        · intro w' hSw
          (go_simp <;> with_reducible rfl)
        try simp only [Act.put, List.getElem_toArray, List.getElem_cons_succ, List.getElem_cons_zero, List.setIfInBounds_toArray, List.set_cons_zero, List.set_cons_succ]
        refine wpAnyH_take (i := 5) (oi := _) (v := ?_) rfl (by kernel_rfl) (by kernel_rfl) (by kernel_rfl) (fun _ _ _ h => h) (Or.inl ⟨by rfl, ?_⟩) hHeld ?_
        rotate_left
        · intro w' hSw
          (go_simp <;> with_reducible rfl)
        try simp only [Act.put, List.getElem_toArray, List.getElem_cons_succ, List.getElem_cons_zero, List.setIfInBounds_toArray, List.set_cons_zero, List.set_cons_succ]
        refine wpAnyH_take (i := 6) (oi := _) (v := ?_) rfl (by kernel_rfl) (by kernel_rfl) (by kernel_rfl) (fun _ _ _ h => h) (Or.inl ⟨by rfl, ?_⟩) hHeld ?_
        rotate_left
        · intro w' hSw
          have s0 := (hSw.cell (p := ⟨gm, k, none⟩) hct.lt).trans (four_at hct k hlt)
          rw [HM.out] at s0
          (go_simp <;> with_reducible rfl)
        try simp only [Act.put, List.getElem_toArray, List.getElem_cons_succ, List.getElem_cons_zero, List.setIfInBounds_toArray, List.set_cons_zero, List.set_cons_succ]
        refine wpAnyH_ready (rs := [7, 12]) (by kernel_rfl) (by simp) ?_
        refine AllReadyH.cons (o := _) rfl (fun K hK => ?_) (AllReadyH.cons (o := _) rfl (fun K hK => ?_) (AllReadyH.nil))
        · go_simp
          go_at_call 12
          (with_reducible (refine ((await_c (xb.below hHeld) (0) rfl (IntKind.i64.wrap ((k : Int) + 1)) m hm32 (m : Int) rfl 0 HB.out (0) rfl 0 HG.out (0) rfl true HO.out (fL (k + 1)) HL.out (k + 1) HN1.out hk9).mono ?_)))
          rintro e w1 ⟨q0, d0, rfl, x0, b1⟩
          refine hK.out _ _ (bel_call hHeld (Nat.le_refl _) b1) (fun hHeld => ?_)
          clear hK K
          try simp only [Act.put, List.getElem_toArray, List.getElem_cons_succ, List.getElem_cons_zero, List.setIfInBounds_toArray, List.set_cons_zero, List.set_cons_succ]
          refine wpAnyH_take (i := 8) (oi := _) (v := ?_) rfl (by kernel_rfl) (by kernel_rfl) (by kernel_rfl) (fun _ _ _ h => h) (Or.inl ⟨by rfl, ?_⟩) hHeld ?_
          rotate_left
          · intro w' hSw
            (go_simp <;> with_reducible rfl)
          try simp only [Act.put, List.getElem_toArray, List.getElem_cons_succ, List.getElem_cons_zero, List.setIfInBounds_toArray, List.set_cons_zero, List.set_cons_succ]
          refine wpAnyH_take (i := 9) (oi := _) (v := ?_) rfl (by kernel_rfl) (by kernel_rfl) (by kernel_rfl) (fun _ _ _ h => h) (Or.inl ⟨by rfl, ?_⟩) hHeld ?_
          rotate_left
          · intro w' hSw
            (go_simp <;> with_reducible rfl)
          try simp only [Act.put, List.getElem_toArray, List.getElem_cons_succ, List.getElem_cons_zero, List.setIfInBounds_toArray, List.set_cons_zero, List.set_cons_succ]
          refine wpAnyH_take (i := 10) (oi := _) (v := ?_) rfl (by kernel_rfl) (by kernel_rfl) (by kernel_rfl) (fun _ _ _ h => h) (Or.inl ⟨by rfl, ?_⟩) hHeld ?_
          rotate_left
          · intro w' hSw
            (go_simp <;> with_reducible rfl)
          try simp only [Act.put, List.getElem_toArray, List.getElem_cons_succ, List.getElem_cons_zero, List.setIfInBounds_toArray, List.set_cons_zero, List.set_cons_succ]
          refine wpAnyH_take (i := 11) (oi := _) (v := ?_) rfl (by kernel_rfl) (by kernel_rfl) (by kernel_rfl) (fun _ _ _ h => h) (Or.inl ⟨by rfl, ?_⟩) hHeld ?_
          rotate_left
          · intro w' hSw
            (go_simp <;> with_reducible rfl)
          try simp only [Act.put, List.getElem_toArray, List.getElem_cons_succ, List.getElem_cons_zero, List.setIfInBounds_toArray, List.set_cons_zero, List.set_cons_succ]
          refine wpAnyH_ready (rs := [12]) (by kernel_rfl) (by simp) ?_
          refine AllReadyH.cons (o := _) rfl (fun K hK => ?_) (AllReadyH.nil)
          go_simp
          have b7 : Below w1.heap.size w1 (w1.alloc (.cells #[.int .u32 0, .slice none 0 0] 25)) := bel_self _ _
          have hz : Fv (w1.alloc (.cells #[.int .u32 0, .slice none 0 0] 25)) w1.heap.size 0 none 0 0 := Lv.new w1 _ _
          obtain ⟨g7, hg7⟩ : ∃ g, g = w1.heap.size := ⟨_, rfl⟩
          have hg7W : wr.heap.size ≤ g7 := by have := hHeld.size; rw [hg7]; exact this
          have x0 := x0.below b7
          refine hK.out _ _ (hHeld.alloc hHeld.size _) (fun hHeld => ?_)
          clear hK K
          rw [← hg7] at hz
          simp only [← hg7]
          generalize (w1.alloc (.cells #[.int .u32 0, .slice none 0 0] 25)) = w7 at *
          clear hg7 b7
          try simp only [Act.put, List.getElem_toArray, List.getElem_cons_succ, List.getElem_cons_zero, List.setIfInBounds_toArray, List.set_cons_zero, List.set_cons_succ]
          refine wpAnyH_ready (rs := [13]) (by kernel_rfl) (by simp) ?_
          refine AllReadyH.cons (o := _) rfl (fun K hK => ?_) (AllReadyH.nil)
          have z0 := hz.c0
          have z1 := hz.c1
          have y0 := hz.f0
          have y1 := hz.f1
          go_simp
          have x0 := x0.stored hz (.int .u32 0) (.slice q0 (k + 1) d0)
          have hv0 : Fv ((w7.setCell ⟨g7, 0, none⟩ (.int .u32 0)).setCell ⟨g7, 1, none⟩ (.slice q0 (k + 1) d0)) g7 0 q0 (k + 1) d0 := hz.put 0 q0 (k + 1) d0
          have hS9 : Below wr.heap.size wr ((w7.setCell ⟨g7, 0, none⟩ (.int .u32 0)).setCell ⟨g7, 1, none⟩ (.slice q0 (k + 1) d0)) := by refine Below.setCell (Below.setCell hHeld ?_ _) ?_ _ <;> exact hg7W
          refine hK.out _ _ hS9 (fun hHeld => ?_)
          clear hK K
          try simp only [Act.put, List.getElem_toArray, List.getElem_cons_succ, List.getElem_cons_zero, List.setIfInBounds_toArray, List.set_cons_zero, List.set_cons_succ]
          refine wpAnyH_take (i := 14) (oi := _) (v := ?_) rfl (by kernel_rfl) (by kernel_rfl) (by kernel_rfl) (fun _ _ _ h => h) (Or.inl ⟨by rfl, ?_⟩) hHeld ?_
          rotate_left
          · intro w' hSw
            (go_simp <;> with_reducible rfl)
          try simp only [Act.put, List.getElem_toArray, List.getElem_cons_succ, List.getElem_cons_zero, List.setIfInBounds_toArray, List.set_cons_zero, List.set_cons_succ]
          refine wpAnyH_take (i := 15) (oi := _) (v := ?_) rfl (by kernel_rfl) (by kernel_rfl) (by kernel_rfl) (fun _ _ _ h => h) (Or.inl ⟨by rfl, ?_⟩) hHeld ?_
          rotate_left
          · intro w' hSw
            (go_simp <;> with_reducible rfl)
          try simp only [Act.put, List.getElem_toArray, List.getElem_cons_succ, List.getElem_cons_zero, List.setIfInBounds_toArray, List.set_cons_zero, List.set_cons_succ]
          refine wpAnyH_done (by kernel_rfl) ?_ _
          go_wp2_with fail
          go_meet
          case rel => exact ⟨g7, q0, d0, rfl, rfl, rfl, hv0, x0, hHeld⟩
        · go_simp
          have b7 : Below wr.heap.size wr (wr.alloc (.cells #[.int .u32 0, .slice none 0 0] 25)) := bel_self _ _
          have hz : Fv ((wr.alloc (.cells #[.int .u32 0, .slice none 0 0] 25)).drew) wr.heap.size 0 none 0 0 := Lv.new wr _ _
          have hg7W : wr.heap.size ≤ wr.heap.size := Nat.le_refl _
          refine hK.out _ _ (hHeld.alloc hHeld.size _) (fun hHeld => ?_)
          clear hK K
          generalize ((wr.alloc (.cells #[.int .u32 0, .slice none 0 0] 25)).drew) = w7 at *
          clear b7
          try simp only [Act.put, List.getElem_toArray, List.getElem_cons_succ, List.getElem_cons_zero, List.setIfInBounds_toArray, List.set_cons_zero, List.set_cons_succ]
          refine wpAnyH_ready (rs := [7]) (by kernel_rfl) (by simp) ?_
          refine AllReadyH.cons (o := _) rfl (fun K hK => ?_) (AllReadyH.nil)
          go_simp
          go_at_call 12
          (with_reducible (refine ((await_c (xb.below hHeld) (0) rfl (IntKind.i64.wrap ((k : Int) + 1)) m hm32 (m : Int) rfl 0 HB.out (0) rfl 0 HG.out (0) rfl true HO.out (fL (k + 1)) HL.out (k + 1) HN1.out hk9).mono ?_)))
          rintro e w1 ⟨q0, d0, rfl, x0, b1⟩
          have hz := Fv.below hz b1
          refine hK.out _ _ (bel_call hHeld (Nat.le_refl _) b1) (fun hHeld => ?_)
          clear hK K
          try simp only [Act.put, List.getElem_toArray, List.getElem_cons_succ, List.getElem_cons_zero, List.setIfInBounds_toArray, List.set_cons_zero, List.set_cons_succ]
          refine wpAnyH_take (i := 8) (oi := _) (v := ?_) rfl (by kernel_rfl) (by kernel_rfl) (by kernel_rfl) (fun _ _ _ h => h) (Or.inl ⟨by rfl, ?_⟩) hHeld ?_
          rotate_left
          · intro w' hSw
            (go_simp <;> with_reducible rfl)
          try simp only [Act.put, List.getElem_toArray, List.getElem_cons_succ, List.getElem_cons_zero, List.setIfInBounds_toArray, List.set_cons_zero, List.set_cons_succ]
          refine wpAnyH_take (i := 9) (oi := _) (v := ?_) rfl (by kernel_rfl) (by kernel_rfl) (by kernel_rfl) (fun _ _ _ h => h) (Or.inl ⟨by rfl, ?_⟩) hHeld ?_
          rotate_left
          · intro w' hSw
            (go_simp <;> with_reducible rfl)
          try simp only [Act.put, List.getElem_toArray, List.getElem_cons_succ, List.getElem_cons_zero, List.setIfInBounds_toArray, List.set_cons_zero, List.set_cons_succ]
          refine wpAnyH_take (i := 10) (oi := _) (v := ?_) rfl (by kernel_rfl) (by kernel_rfl) (by kernel_rfl) (fun _ _ _ h => h) (Or.inl ⟨by rfl, ?_⟩) hHeld ?_
          rotate_left
          · intro w' hSw
            (go_simp <;> with_reducible rfl)
          try simp only [Act.put, List.getElem_toArray, List.getElem_cons_succ, List.getElem_cons_zero, List.setIfInBounds_toArray, List.set_cons_zero, List.set_cons_succ]
          refine wpAnyH_take (i := 11) (oi := _) (v := ?_) rfl (by kernel_rfl) (by kernel_rfl) (by kernel_rfl) (fun _ _ _ h => h) (Or.inl ⟨by rfl, ?_⟩) hHeld ?_
          rotate_left
          · intro w' hSw
            (go_simp <;> with_reducible rfl)
          try simp only [Act.put, List.getElem_toArray, List.getElem_cons_succ, List.getElem_cons_zero, List.setIfInBounds_toArray, List.set_cons_zero, List.set_cons_succ]
          refine wpAnyH_ready (rs := [13]) (by kernel_rfl) (by simp) ?_
          refine AllReadyH.cons (o := _) rfl (fun K hK => ?_) (AllReadyH.nil)
          have z0 := hz.c0
          have z1 := hz.c1
          have y0 := hz.f0
          have y1 := hz.f1
          go_simp
          have x0 := x0.stored hz (.int .u32 0) (.slice q0 (k + 1) d0)
          have hv0 : Fv ((w1.setCell ⟨wr.heap.size, 0, none⟩ (.int .u32 0)).setCell ⟨wr.heap.size, 1, none⟩ (.slice q0 (k + 1) d0)) wr.heap.size 0 q0 (k + 1) d0 := hz.put 0 q0 (k + 1) d0
          have hS9 : Below wr.heap.size wr ((w1.setCell ⟨wr.heap.size, 0, none⟩ (.int .u32 0)).setCell ⟨wr.heap.size, 1, none⟩ (.slice q0 (k + 1) d0)) := by refine Below.setCell (Below.setCell hHeld ?_ _) ?_ _ <;> exact hg7W
          refine hK.out _ _ hS9 (fun hHeld => ?_)
          clear hK K
          try simp only [Act.put, List.getElem_toArray, List.getElem_cons_succ, List.getElem_cons_zero, List.setIfInBounds_toArray, List.set_cons_zero, List.set_cons_succ]
          refine wpAnyH_take (i := 14) (oi := _) (v := ?_) rfl (by kernel_rfl) (by kernel_rfl) (by kernel_rfl) (fun _ _ _ h => h) (Or.inl ⟨by rfl, ?_⟩) hHeld ?_
          rotate_left
          · intro w' hSw
            (go_simp <;> with_reducible rfl)
          try simp only [Act.put, List.getElem_toArray, List.getElem_cons_succ, List.getElem_cons_zero, List.setIfInBounds_toArray, List.set_cons_zero, List.set_cons_succ]
          refine wpAnyH_take (i := 15) (oi := _) (v := ?_) rfl (by kernel_rfl) (by kernel_rfl) (by kernel_rfl) (fun _ _ _ h => h) (Or.inl ⟨by rfl, ?_⟩) hHeld ?_
          rotate_left
          · intro w' hSw
            (go_simp <;> with_reducible rfl)
          try simp only [Act.put, List.getElem_toArray, List.getElem_cons_succ, List.getElem_cons_zero, List.setIfInBounds_toArray, List.set_cons_zero, List.set_cons_succ]
          refine wpAnyH_done (by kernel_rfl) ?_ _
          go_wp2_with fail
          go_meet
          case rel => exact ⟨wr.heap.size, q0, d0, rfl, rfl, rfl, hv0, x0, hHeld⟩
      case rest =>
        obtain ⟨g0, q0, d0, rfl, rfl, rfl, hv0, x0, b0⟩ := hcut
        obtain ⟨wx, hwx⟩ : ∃ x : World, x = wc := ⟨_, rfl⟩
        subst hwx
        have vb0 := vb.below b0
        have ltg0 := hv0.lt
        have i0 := hv0.c0
        have i1 := hv0.c1
        have o0 := vb0.c0
        have o1 := vb0.c1
        have z0 := vb0.f0
        have z1 := vb0.f1
        go_wp2
        have vb1 := vb0.put 0 q0 (k + 1) d0
        have x1 := x0.stored vb0 (.int .u32 ((0 : Nat) : Int)) (.slice q0 (k + 1) d0)
        have ct1 := Lv.far (Lv.far (Lv.below hct b0) (a := ⟨gf, 0, none⟩) hfm (.int .u32 ((0 : Nat) : Int))) (a := ⟨gf, 1, none⟩) hfm (.slice q0 (k + 1) d0)
        have b1 := bel_call hbw (Nat.le_refl _) b0
        have b2 : Below w.heap.size w ((wx.setCell ⟨gf, 0, none⟩ (.int .u32 ((0 : Nat) : Int))).setCell ⟨gf, 1, none⟩ (.slice q0 (k + 1) d0)) := by
          refine Below.setCell (Below.setCell b1 ?_ _) ?_ _ <;> exact hgw
        go_roundw
        case rel => exact ⟨k + 1, q0, d0, by omega, by go_num, vb1, x1, ct1, b2⟩
        case measure => simp [intOf]; omega
    · obtain rfl : k = 4 := by omega
      have dk : decide (((4 : Nat) : Int) < 4) = false := by decide
      have j0 := vb.c0
      have j1 := vb.c1
      have BW0 := hbw
      simp only [show fL 4 = [(1, 1), (2, 3), (3, 6), (4, 8)] from by decide] at xb
      clear hct
      go_wp2_with (first
        | (go_at_call 12; (with_reducible (refine (await_c xb (0) ?h1 (9) 1 (by decide) (1) ?h2 0 ?h3 (0) ?h4 0 ?h5 (0) ?h6 false ?h7 [(1, 1), (2, 3), (3, 6), (4, 8)] ?h8 4 ?h9 (by decide)).mono ?_)); (case h1 => first | rfl | decide); (case h2 => first | rfl | decide); (case h3 => first | rfl | decide); (case h4 => first | rfl | decide); (case h5 => first | rfl | decide); (case h6 => first | rfl | decide); (case h7 => first | rfl | decide); (case h8 => first | rfl | decide); (case h9 => first | rfl | decide); (rintro e y1 ⟨q1, d1, rfl, x1, b1⟩; have vb := vb.below b1; have xb := xb.below b1; have BWa1 := bel_call BW0 (Nat.le_refl _) b1; have s1 := bel_self y1 (.cells #[.int .u32 0, .slice q1 4 d1] 25); have vb := vb.below s1; have xb := xb.below s1; have BW1 := bel_call BWa1 (Nat.le_refl _) s1; have lvb1 := vb.lt; have cb1 := vb.c0; have db1 := vb.c1; ))
        | (go_at_call 12; (with_reducible (refine (await_c xb (0) ?h1 (2) 1 (by decide) (1) ?h2 0 ?h3 (0) ?h4 0 ?h5 (0) ?h6 false ?h7 [(1, 1), (2, 3), (3, 6), (4, 8)] ?h8 4 ?h9 (by decide)).mono ?_)); (case h1 => first | rfl | decide); (case h2 => first | rfl | decide); (case h3 => first | rfl | decide); (case h4 => first | rfl | decide); (case h5 => first | rfl | decide); (case h6 => first | rfl | decide); (case h7 => first | rfl | decide); (case h8 => first | rfl | decide); (case h9 => first | rfl | decide); (rintro e y2 ⟨q2, d2, rfl, x2, b2⟩; have vb := vb.below b2; have xb := xb.below b2; have BWa2 := bel_call BW1 (Nat.le_refl _) b2; have s2 := bel_self y2 (.cells #[.int .u32 0, .slice q2 4 d2] 25); have vb := vb.below s2; have xb := xb.below s2; have BW2 := bel_call BWa2 (Nat.le_refl _) s2; have lvb2 := vb.lt; have cb2 := vb.c0; have db2 := vb.c1; ))
        | (go_at_call 12; (with_reducible (refine (await_c xb (0) ?h1 (0) 1 (by decide) (1) ?h2 0 ?h3 (0) ?h4 0 ?h5 (0) ?h6 false ?h7 [(1, 1), (2, 3), (3, 6), (4, 8)] ?h8 4 ?h9 (by decide)).mono ?_)); (case h1 => first | rfl | decide); (case h2 => first | rfl | decide); (case h3 => first | rfl | decide); (case h4 => first | rfl | decide); (case h5 => first | rfl | decide); (case h6 => first | rfl | decide); (case h7 => first | rfl | decide); (case h8 => first | rfl | decide); (case h9 => first | rfl | decide); (rintro e y3 ⟨q3, d3, rfl, x3, b3⟩; have vb := vb.below b3; have xb := xb.below b3; have BWa3 := bel_call BW2 (Nat.le_refl _) b3; have s3 := bel_self y3 (.cells #[.int .u32 0, .slice q3 4 d3] 25); have vb := vb.below s3; have xb := xb.below s3; have BW3 := bel_call BWa3 (Nat.le_refl _) s3; have lvb3 := vb.lt; have cb3 := vb.c0; have db3 := vb.c1; ))
        | (go_at_call 12; (with_reducible (refine (await_c (Fx.nil _ (b := 1) (by decide)) (1) ?h1 (1) 0 (by decide) (0) ?h2 1 ?h3 (1) ?h4 0 ?h5 (0) ?h6 false ?h7 [] ?h8 0 ?h9 (by decide)).mono ?_)); (case h1 => first | rfl | decide); (case h2 => first | rfl | decide); (case h3 => first | rfl | decide); (case h4 => first | rfl | decide); (case h5 => first | rfl | decide); (case h6 => first | rfl | decide); (case h7 => first | rfl | decide); (case h8 => first | rfl | decide); (case h9 => first | rfl | decide); (rintro e y4 ⟨q4, d4, rfl, x4, b4⟩; have vb := vb.below b4; have xb := xb.below b4; have BWa4 := bel_call BW3 (Nat.le_refl _) b4; have s4 := bel_self y4 (.cells #[.int .u32 1, .slice q4 0 d4] 25); have vb := vb.below s4; have xb := xb.below s4; have BW4 := bel_call BWa4 (Nat.le_refl _) s4; have lvb4 := vb.lt; have cb4 := vb.c0; have db4 := vb.c1; ))
        | (go_at_call 8; (with_reducible (refine (raise_c xb (0) ?h1 19 (by decide) (19) ?h2 16 ?h3 (16) ?h4 [(3, 6), (4, 8)] [(1, 1), (2, 2)] ?h5 ?h6 2 2 ?h7 ?h8).mono ?_)); (case h1 => first | rfl | decide); (case h2 => first | rfl | decide); (case h3 => first | rfl | decide); (case h4 => first | rfl | decide); (case h5 => first | rfl | decide); (case h6 => first | rfl | decide); (case h7 => first | rfl | decide); (case h8 => first | rfl | decide); (rintro e y5 ⟨q5, d5, u5, v5, rfl, x5, t5, b5⟩; have vb := vb.below b5; have xb := xb.below b5; have BWa5 := bel_call BW4 (Nat.le_refl _) b5; have s5 := bel_self y5 (.cells #[.int .u32 16, .slice q5 2 d5] 25); have vb := vb.below s5; have xb := xb.below s5; have BW5 := bel_call BWa5 (Nat.le_refl _) s5; have lvb5 := vb.lt; have cb5 := vb.c0; have db5 := vb.c1; have vg := Fv.new y5 16 q5 2 d5; have xg := x5.below s5; have tg := t5.below s5; have cg0 := vg.c0; have cg1 := vg.c1))
        | (go_at_call 12; (with_reducible (refine (await_c xg (16) ?h1 (8) 48 (by decide) (48) ?h2 0 ?h3 (0) ?h4 16 ?h5 (16) ?h6 true ?h7 [(3, 6), (4, 8)] ?h8 2 ?h9 (by decide)).mono ?_)); (case h1 => first | rfl | decide); (case h2 => first | rfl | decide); (case h3 => first | rfl | decide); (case h4 => first | rfl | decide); (case h5 => first | rfl | decide); (case h6 => first | rfl | decide); (case h7 => first | rfl | decide); (case h8 => first | rfl | decide); (case h9 => first | rfl | decide); (rintro e y6 ⟨q6, d6, rfl, x6, b6⟩; have vb := vb.below b6; have xb := xb.below b6; have BWa6 := bel_call BW5 (Nat.le_refl _) b6; have vg := vg.below b6; have xg := xg.below b6; have tg := tg.below b6; have s6 := bel_self y6 (.cells #[.int .u32 0, .slice q6 2 d6] 25); have vb := vb.below s6; have xb := xb.below s6; have BW6 := bel_call BWa6 (Nat.le_refl _) s6; have vg := vg.below s6; have xg := xg.below s6; have tg := tg.below s6; have lvb6 := vb.lt; have cb6 := vb.c0; have db6 := vb.c1; have lvg6 := vg.lt; have cvg6 := vg.c0; have evg6 := vg.c1; have vh := Fv.new y6 0 q6 2 d6; have ch0 := vh.c0; have ch1 := vh.c1))
        | (go_at_call 14; (with_reducible (refine (reset_c xb (0) ?h1 [1, 2, 3, 4] ?h2).mono ?_)); (case h1 => rfl); (case h2 => rfl); (rintro e y7 ⟨u7, v7, rfl, r7, b7⟩; have vb := vb.below b7; have xb := xb.below b7; have BWa7 := bel_call BW6 (Nat.le_refl _) b7; have vg := vg.below b7; have xg := xg.below b7; have tg := tg.below b7; have vh := vh.below b7; have s7 := bel_self y7 (.cells #[.int .u32 0, .slice none 0 0] 25); have vb := vb.below s7; have xb := xb.below s7; have BW7 := bel_call BWa7 (Nat.le_refl _) s7; have vg := vg.below s7; have xg := xg.below s7; have tg := tg.below s7; have vh := vh.below s7; have lvb7 := vb.lt; have cb7 := vb.c0; have db7 := vb.c1; have lvg7 := vg.lt; have cvg7 := vg.c0; have evg7 := vg.c1; have lvh7 := vh.lt; have cvh7 := vh.c0; have evh7 := vh.c1; have rr := r7.below s7; obtain ⟨tb, tz, rfl, htb, ta0, ta1⟩ := tg.wt 0 (by decide); obtain ⟨tb', tz', hte, -, tb0, tb1⟩ := tg.wt 1 (by decide); cases hte; obtain ⟨kb, ko, rfl, hkb, ka0, ka1⟩ := xg.rd.wt 0 (by decide); obtain ⟨rb, ro, rfl, hrb, ra⟩ := rr.num 2 (by decide); simp only [Nat.zero_mul, Nat.one_mul, Nat.add_zero, List.getElem_cons_zero, List.getElem_cons_succ] at ta0 ta1 tb0 tb1 ka0 ka1 ra)))
      go_ret
      exact ⟨rfl, BW7⟩
end Go.Proofs.Ytodboigmmekkpaa
