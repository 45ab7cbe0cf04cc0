/-
  What Take of package mbox hands back.
-/
import Derived.Test.YtfghondhonflaaaPost
namespace Go.Proofs.Ytfghondhonflaaa
open Go.ChangeShapes Go.WideShapes Go.ChangeAt Go.RowKit
attribute [local go_sem ↓] Go.wp_at_zero Go.wp_at_succ

set_option maxHeartbeats 2000000 in
theorem take_any (p : Option Addr) (c : Nat) (L : List Int) (q : Option Addr) (d : Nat) (Q : List Int) (v : Int) (w : World) (hL : Rd eI w p c L) (hQ : Rd eI w q d Q) (n m : Nat) (hn : L.length = n) (hm : Q.length = m) (hn9 : n ≤ 1000) (hm9 : m ≤ 1000) :
    Calls Try.prog 11 #[.agg #[.slice p n c, .slice q m d], .int .i64 v] w fun e w' => ∃ (p1 : Option Addr) (c1 : Nat) (q1 : Option Addr) (d1 : Nat), e = .returned (.tuple #[.agg #[.slice p1 (takeL L v).length c1, .slice q1 (takeQ L Q v).length d1], .int .i64 (takeV L v), .bool (takeGot L v), .bool (takeOk L Q v)]) ∧ Rd eI w' p1 c1 (takeL L v) ∧ Rd eI w' q1 d1 (takeQ L Q v) ∧ Nw w.heap.size p1 ∧ Nw w.heap.size q1 ∧ Below w.heap.size w w' := by
  have HN : Hid (L.length = n) := hn
  have HM : Hid (Q.length = m) := hm
  clear hn hm
  obtain ⟨W, hW⟩ : ∃ W, W = (w.alloc (.cells #[.slice p n c, .slice q m d] 25)).alloc (.cells #[.slice none 0 0, .slice none 0 0] 25) := ⟨_, rfl⟩
  have bW : Below w.heap.size w W := by rw [hW]; exact ((Below.refl _ _).alloc (Nat.le_refl _) _).alloc (by simp) _
  have hp0 : Lv W w.heap.size #[.slice p n c, .slice q m d] 25 := by rw [hW]; exact (Lv.new _ _ _).below (bel_self _ _)
  have hr0 : Lv W (w.heap.size + 1) #[.slice none 0 0, .slice none 0 0] 25 := by rw [hW]; exact heap_at (by simp)
  have hsz : W.heap.size = w.heap.size + 2 := by rw [hW]; simp
  have hgp : w.heap.size < W.heap.size := by omega
  have hgr : w.heap.size + 1 < W.heap.size := by omega
  clear hsz
  go_enter Try.func11, Try.ntmps11
  go_upto_region 1 with fail
  rw [← hW]
  clear hW
  go_cut [8, 9] from 16 to 19 (fun a b wx => ∃ (g : Nat) (p1 : Option Addr) (c1 : Nat) (q1 : Option Addr) (d1 mb : Nat) (f : Int → Int → Option Int), a = .pointer (some ⟨g, 0, none⟩) ∧ b = .map (some mb) ∧ W.heap.size ≤ g ∧ Lv wx g #[.slice p1 n c1, .slice q1 m d1] 25 ∧ Own eI wx W.heap.size 2 p1 c1 L ∧ Own eI wx W.heap.size 3 q1 d1 Q ∧ Far p1 g ∧ Far q1 g ∧ (∀ b o, p1 = some ⟨b, o, none⟩ → Far q1 b) ∧ IsF wx mb f ∧ Lk f L Q ∧ Below W.heap.size W wx)
  case first =>
    refine wp_region_held_drew (S := fun w' => Below W.heap.size W w') (by kernel_rfl) (Below.refl _ _).drew (fun hHeld => ?_)
    refine wpAnyH_take (i := 0) (oi := _) (v := ?_) rfl (by kernel_rfl) (by kernel_rfl) (by kernel_rfl) (fun _ _ _ h => h) (Or.inl ⟨by rfl, ?_⟩) hHeld ?_
    rotate_left
    · intro w' hSw
      have e0 := Lv.c (show Lv w' w.heap.size _ 25 from (hSw.block w.heap.size hgp).trans hp0) 0 rfl
      have e1 := Lv.c (show Lv w' w.heap.size _ 25 from (hSw.block w.heap.size hgp).trans hp0) 1 rfl
      (go_simp <;> with_reducible rfl)
    try simp only [Act.put, List.getElem_toArray, List.getElem_cons_zero, List.setIfInBounds_toArray, List.set_cons_zero, List.set_cons_succ]
    refine wpAnyH_take (i := 2) (oi := _) (v := ?_) rfl (by kernel_rfl) (by kernel_rfl) (by kernel_rfl) (fun _ _ _ h => h) (Or.inl ⟨by rfl, ?_⟩) hHeld ?_
    rotate_left
    · intro w' hSw
      have e0 := Lv.c (show Lv w' w.heap.size _ 25 from (hSw.block w.heap.size hgp).trans hp0) 0 rfl
      have e1 := Lv.c (show Lv w' w.heap.size _ 25 from (hSw.block w.heap.size hgp).trans hp0) 1 rfl
      (go_simp <;> with_reducible rfl)
    try simp only [Act.put, List.getElem_toArray, List.getElem_cons_succ, List.getElem_cons_zero, List.setIfInBounds_toArray, List.set_cons_zero, List.set_cons_succ]
    refine wpAnyH_ready (rs := [1, 4]) (by kernel_rfl) (by simp) ?_
    refine AllReadyH.cons (o := _) rfl (fun K hK => ?_) (AllReadyH.cons (o := _) rfl (fun K hK => ?_) (AllReadyH.nil))
    · go_simp
      go_at_call 15
      (with_reducible (refine (clone_any _ _ _ _ _ _ _ (hL.below (bel_call bW (Nat.le_refl _) hHeld)) (hQ.below (bel_call bW (Nat.le_refl _) hHeld)) n m HN.out HM.out hn9 hm9).mono ?_))
      rintro e w1 ⟨p1, c1, q1, d1, rfl, o1, o2, fa, b1⟩
      have o1 := own_mono o1 hHeld.size
      have o2 := own_mono o2 hHeld.size
      refine hK.out _ _ (bel_call hHeld (Nat.le_refl _) b1) (fun hHeld => ?_)
      clear hK K
      try simp only [Act.put, List.getElem_toArray, List.getElem_cons_succ, List.getElem_cons_zero, List.setIfInBounds_toArray, List.set_cons_zero, List.set_cons_succ]
      refine wpAnyH_ready (rs := [3, 4]) (by kernel_rfl) (by simp) ?_
      refine AllReadyH.cons (o := _) rfl (fun K hK => ?_) (AllReadyH.cons (o := _) rfl (fun K hK => ?_) (AllReadyH.nil))
      · go_simp
        go_at_call 16
        (with_reducible (refine (looks_any _ _ _ _ _ _ _ (hL.below (bel_call bW (Nat.le_refl _) hHeld)) (hQ.below (bel_call bW (Nat.le_refl _) hHeld)) n m HN.out HM.out hn9 hm9).mono ?_))
        rintro e w2 ⟨mb, f, rfl, hf, hlk, hmb, b2⟩
        have o1 := own_below o1 b2
        have o2 := own_below o2 b2
        refine hK.out _ _ (bel_call hHeld (Nat.le_refl _) b2) (fun hHeld => ?_)
        clear hK K
        try simp only [Act.put, List.getElem_toArray, List.getElem_cons_succ, List.getElem_cons_zero, List.setIfInBounds_toArray, List.set_cons_zero, List.set_cons_succ]
        refine wpAnyH_ready (rs := [4]) (by kernel_rfl) (by simp) ?_
        refine AllReadyH.cons (o := _) rfl (fun K hK => ?_) (AllReadyH.nil)
        go_simp
        have b7 : Below w2.heap.size w2 (w2.alloc (.cells #[.slice none 0 0, .slice none 0 0] 25)) := bel_self _ _
        have hz : Lv (w2.alloc (.cells #[.slice none 0 0, .slice none 0 0] 25)) w2.heap.size #[.slice none 0 0, .slice none 0 0] 25 := Lv.new w2 _ _
        obtain ⟨g7, hg7⟩ : ∃ g, g = w2.heap.size := ⟨_, rfl⟩
        have hg7W : W.heap.size ≤ g7 := by have := hHeld.size; rw [hg7]; exact this
        have fp : Far p1 g7 := Far.high o1 (by rw [hg7]; exact Nat.le_refl _)
        have fq : Far q1 g7 := Far.high o2 (by rw [hg7]; exact Nat.le_refl _)
        have hne : mb ≠ g7 := by have := hf.lt; omega
        have o1 := own_below o1 b7
        have o2 := own_below o2 b7
        have hf := hf.below b7
        have hg7lt : g7 < (w2.alloc (.cells #[.slice none 0 0, .slice none 0 0] 25)).heap.size := by rw [hg7]; simp
        refine hK.out _ _ (hHeld.alloc hHeld.size _) (fun hHeld => ?_)
        clear hK K
        rw [← hg7] at hz
        simp only [← hg7]
        generalize (w2.alloc (.cells #[.slice none 0 0, .slice none 0 0] 25)) = w7 at *
        clear hg7 b7
        try simp only [Act.put, List.getElem_toArray, List.getElem_cons_succ, List.getElem_cons_zero, List.setIfInBounds_toArray, List.set_cons_zero, List.set_cons_succ]
        refine wpAnyH_ready (rs := [5]) (by kernel_rfl) (by simp) ?_
        refine AllReadyH.cons (o := _) rfl (fun K hK => ?_) (AllReadyH.nil)
        have z0 := hz.c 0 rfl
        have z1 := hz.c 1 rfl
        have y0 := hz.fz 0
        have y1 := hz.fz 1
        go_simp
        have hz9 : Lv ((w7.setCell ⟨g7, 0, none⟩ (.slice p1 n c1)).setCell ⟨g7, 1, none⟩ (.slice q1 m d1)) g7 #[.slice p1 n c1, .slice q1 m d1] 25 := (hz.set 0 (.slice p1 n c1)).set 1 (.slice q1 m d1)
        have o1 := own_setFar (own_setFar o1 fp 0 (.slice p1 n c1)) fp 1 (.slice q1 m d1)
        have o2 := own_setFar (own_setFar o2 fq 0 (.slice p1 n c1)) fq 1 (.slice q1 m d1)
        have hf := hf.of_block (w' := ((w7.setCell ⟨g7, 0, none⟩ (.slice p1 n c1)).setCell ⟨g7, 1, none⟩ (.slice q1 m d1))) (by rw [Below.heap_setCell _ _ _ _ hne, Below.heap_setCell _ _ _ _ hne])
        have hS9 : Below W.heap.size W ((w7.setCell ⟨g7, 0, none⟩ (.slice p1 n c1)).setCell ⟨g7, 1, none⟩ (.slice q1 m d1)) := by refine Below.setCell (Below.setCell hHeld ?_ _) ?_ _ <;> exact hg7W
        refine hK.out _ _ hS9 (fun hHeld => ?_)
        clear hK K
        try simp only [Act.put, List.getElem_toArray, List.getElem_cons_succ, List.getElem_cons_zero, List.setIfInBounds_toArray, List.set_cons_zero, List.set_cons_succ]
        refine wpAnyH_take (i := 6) (oi := _) (v := ?_) rfl (by kernel_rfl) (by kernel_rfl) (by kernel_rfl) (fun _ _ _ h => h) (Or.inl ⟨by rfl, ?_⟩) hHeld ?_
        rotate_left
        · intro w' hSw
          (go_simp <;> with_reducible rfl)
        try simp only [Act.put, List.getElem_toArray, List.getElem_cons_succ, List.getElem_cons_zero, List.setIfInBounds_toArray, List.set_cons_zero, List.set_cons_succ]
        refine wpAnyH_done (by kernel_rfl) ?_ _
        go_wp2_with fail
        go_meet
        case rel => exact ⟨g7, p1, c1, q1, d1, mb, f, rfl, rfl, hg7W, hz9, o1, o2, fp, fq, fa, hf, hlk, hHeld⟩
      · go_simp
        have b7 : Below w1.heap.size w1 (w1.alloc (.cells #[.slice none 0 0, .slice none 0 0] 25)) := bel_self _ _
        have hz : Lv (w1.alloc (.cells #[.slice none 0 0, .slice none 0 0] 25)) w1.heap.size #[.slice none 0 0, .slice none 0 0] 25 := Lv.new w1 _ _
        obtain ⟨g7, hg7⟩ : ∃ g, g = w1.heap.size := ⟨_, rfl⟩
        have hg7W : W.heap.size ≤ g7 := by have := hHeld.size; rw [hg7]; exact this
        have fp : Far p1 g7 := Far.high o1 (by rw [hg7]; exact Nat.le_refl _)
        have fq : Far q1 g7 := Far.high o2 (by rw [hg7]; exact Nat.le_refl _)
        have o1 := own_below o1 b7
        have o2 := own_below o2 b7
        have hg7lt : g7 < (w1.alloc (.cells #[.slice none 0 0, .slice none 0 0] 25)).heap.size := by rw [hg7]; simp
        refine hK.out _ _ (hHeld.alloc hHeld.size _) (fun hHeld => ?_)
        clear hK K
        rw [← hg7] at hz
        simp only [← hg7]
        generalize (w1.alloc (.cells #[.slice none 0 0, .slice none 0 0] 25)) = w7 at *
        clear hg7 b7
        try simp only [Act.put, List.getElem_toArray, List.getElem_cons_succ, List.getElem_cons_zero, List.setIfInBounds_toArray, List.set_cons_zero, List.set_cons_succ]
        refine wpAnyH_ready (rs := [3]) (by kernel_rfl) (by simp) ?_
        refine AllReadyH.cons (o := _) rfl (fun K hK => ?_) (AllReadyH.nil)
        go_simp
        go_at_call 16
        (with_reducible (refine (looks_any _ _ _ _ _ _ _ (hL.below (bel_call bW (Nat.le_refl _) hHeld)) (hQ.below (bel_call bW (Nat.le_refl _) hHeld)) n m HN.out HM.out hn9 hm9).mono ?_))
        rintro e w2 ⟨mb, f, rfl, hf, hlk, hmb, b2⟩
        have hne : mb ≠ g7 := by omega
        have o1 := own_below o1 b2
        have o2 := own_below o2 b2
        have hz := hz.below b2
        have hg7lt := Nat.lt_of_lt_of_le hg7lt b2.size
        refine hK.out _ _ (bel_call hHeld (Nat.le_refl _) b2) (fun hHeld => ?_)
        clear hK K
        try simp only [Act.put, List.getElem_toArray, List.getElem_cons_succ, List.getElem_cons_zero, List.setIfInBounds_toArray, List.set_cons_zero, List.set_cons_succ]
        refine wpAnyH_ready (rs := [5]) (by kernel_rfl) (by simp) ?_
        refine AllReadyH.cons (o := _) rfl (fun K hK => ?_) (AllReadyH.nil)
        have z0 := hz.c 0 rfl
        have z1 := hz.c 1 rfl
        have y0 := hz.fz 0
        have y1 := hz.fz 1
        go_simp
        have hz9 : Lv ((w2.setCell ⟨g7, 0, none⟩ (.slice p1 n c1)).setCell ⟨g7, 1, none⟩ (.slice q1 m d1)) g7 #[.slice p1 n c1, .slice q1 m d1] 25 := (hz.set 0 (.slice p1 n c1)).set 1 (.slice q1 m d1)
        have o1 := own_setFar (own_setFar o1 fp 0 (.slice p1 n c1)) fp 1 (.slice q1 m d1)
        have o2 := own_setFar (own_setFar o2 fq 0 (.slice p1 n c1)) fq 1 (.slice q1 m d1)
        have hf := hf.of_block (w' := ((w2.setCell ⟨g7, 0, none⟩ (.slice p1 n c1)).setCell ⟨g7, 1, none⟩ (.slice q1 m d1))) (by rw [Below.heap_setCell _ _ _ _ hne, Below.heap_setCell _ _ _ _ hne])
        have hS9 : Below W.heap.size W ((w2.setCell ⟨g7, 0, none⟩ (.slice p1 n c1)).setCell ⟨g7, 1, none⟩ (.slice q1 m d1)) := by refine Below.setCell (Below.setCell hHeld ?_ _) ?_ _ <;> exact hg7W
        refine hK.out _ _ hS9 (fun hHeld => ?_)
        clear hK K
        try simp only [Act.put, List.getElem_toArray, List.getElem_cons_succ, List.getElem_cons_zero, List.setIfInBounds_toArray, List.set_cons_zero, List.set_cons_succ]
        refine wpAnyH_take (i := 6) (oi := _) (v := ?_) rfl (by kernel_rfl) (by kernel_rfl) (by kernel_rfl) (fun _ _ _ h => h) (Or.inl ⟨by rfl, ?_⟩) hHeld ?_
        rotate_left
        · intro w' hSw
          (go_simp <;> with_reducible rfl)
        try simp only [Act.put, List.getElem_toArray, List.getElem_cons_succ, List.getElem_cons_zero, List.setIfInBounds_toArray, List.set_cons_zero, List.set_cons_succ]
        refine wpAnyH_done (by kernel_rfl) ?_ _
        go_wp2_with fail
        go_meet
        case rel => exact ⟨g7, p1, c1, q1, d1, mb, f, rfl, rfl, hg7W, hz9, o1, o2, fp, fq, fa, hf, hlk, hHeld⟩
    · go_simp
      have b7 : Below W.heap.size W (W.alloc (.cells #[.slice none 0 0, .slice none 0 0] 25)) := bel_self _ _
      have hz : Lv ((W.alloc (.cells #[.slice none 0 0, .slice none 0 0] 25)).drew) W.heap.size #[.slice none 0 0, .slice none 0 0] 25 := Lv.new W _ _
      have hg7W : W.heap.size ≤ W.heap.size := Nat.le_refl _
      have hg7lt : W.heap.size < ((W.alloc (.cells #[.slice none 0 0, .slice none 0 0] 25)).drew).heap.size := by simp
      refine hK.out _ _ (hHeld.alloc hHeld.size _) (fun hHeld => ?_)
      clear hK K
      generalize ((W.alloc (.cells #[.slice none 0 0, .slice none 0 0] 25)).drew) = w7 at *
      clear b7
      try simp only [Act.put, List.getElem_toArray, List.getElem_cons_succ, List.getElem_cons_zero, List.setIfInBounds_toArray, List.set_cons_zero, List.set_cons_succ]
      refine wpAnyH_ready (rs := [1]) (by kernel_rfl) (by simp) ?_
      refine AllReadyH.cons (o := _) rfl (fun K hK => ?_) (AllReadyH.nil)
      go_simp
      go_at_call 15
      (with_reducible (refine (clone_any _ _ _ _ _ _ _ (hL.below (bel_call bW (Nat.le_refl _) hHeld)) (hQ.below (bel_call bW (Nat.le_refl _) hHeld)) n m HN.out HM.out hn9 hm9).mono ?_))
      rintro e w1 ⟨p1, c1, q1, d1, rfl, o1, o2, fa, b1⟩
      have fp : Far p1 W.heap.size := Far.low o1 hg7lt
      have fq : Far q1 W.heap.size := Far.low o2 hg7lt
      have hz := hz.below b1
      have hg7lt := Nat.lt_of_lt_of_le hg7lt b1.size
      have o1 := own_mono o1 hHeld.size
      have o2 := own_mono o2 hHeld.size
      refine hK.out _ _ (bel_call hHeld (Nat.le_refl _) b1) (fun hHeld => ?_)
      clear hK K
      try simp only [Act.put, List.getElem_toArray, List.getElem_cons_succ, List.getElem_cons_zero, List.setIfInBounds_toArray, List.set_cons_zero, List.set_cons_succ]
      refine wpAnyH_ready (rs := [3]) (by kernel_rfl) (by simp) ?_
      refine AllReadyH.cons (o := _) rfl (fun K hK => ?_) (AllReadyH.nil)
      go_simp
      go_at_call 16
      (with_reducible (refine (looks_any _ _ _ _ _ _ _ (hL.below (bel_call bW (Nat.le_refl _) hHeld)) (hQ.below (bel_call bW (Nat.le_refl _) hHeld)) n m HN.out HM.out hn9 hm9).mono ?_))
      rintro e w2 ⟨mb, f, rfl, hf, hlk, hmb, b2⟩
      have hne : mb ≠ W.heap.size := by omega
      have o1 := own_below o1 b2
      have o2 := own_below o2 b2
      have hz := hz.below b2
      have hg7lt := Nat.lt_of_lt_of_le hg7lt b2.size
      refine hK.out _ _ (bel_call hHeld (Nat.le_refl _) b2) (fun hHeld => ?_)
      clear hK K
      try simp only [Act.put, List.getElem_toArray, List.getElem_cons_succ, List.getElem_cons_zero, List.setIfInBounds_toArray, List.set_cons_zero, List.set_cons_succ]
      refine wpAnyH_ready (rs := [5]) (by kernel_rfl) (by simp) ?_
      refine AllReadyH.cons (o := _) rfl (fun K hK => ?_) (AllReadyH.nil)
      have z0 := hz.c 0 rfl
      have z1 := hz.c 1 rfl
      have y0 := hz.fz 0
      have y1 := hz.fz 1
      go_simp
      have hz9 : Lv ((w2.setCell ⟨W.heap.size, 0, none⟩ (.slice p1 n c1)).setCell ⟨W.heap.size, 1, none⟩ (.slice q1 m d1)) W.heap.size #[.slice p1 n c1, .slice q1 m d1] 25 := (hz.set 0 (.slice p1 n c1)).set 1 (.slice q1 m d1)
      have o1 := own_setFar (own_setFar o1 fp 0 (.slice p1 n c1)) fp 1 (.slice q1 m d1)
      have o2 := own_setFar (own_setFar o2 fq 0 (.slice p1 n c1)) fq 1 (.slice q1 m d1)
      have hf := hf.of_block (w' := ((w2.setCell ⟨W.heap.size, 0, none⟩ (.slice p1 n c1)).setCell ⟨W.heap.size, 1, none⟩ (.slice q1 m d1))) (by rw [Below.heap_setCell _ _ _ _ hne, Below.heap_setCell _ _ _ _ hne])
      have hS9 : Below W.heap.size W ((w2.setCell ⟨W.heap.size, 0, none⟩ (.slice p1 n c1)).setCell ⟨W.heap.size, 1, none⟩ (.slice q1 m d1)) := by refine Below.setCell (Below.setCell hHeld ?_ _) ?_ _ <;> exact hg7W
      refine hK.out _ _ hS9 (fun hHeld => ?_)
      clear hK K
      try simp only [Act.put, List.getElem_toArray, List.getElem_cons_succ, List.getElem_cons_zero, List.setIfInBounds_toArray, List.set_cons_zero, List.set_cons_succ]
      refine wpAnyH_take (i := 6) (oi := _) (v := ?_) rfl (by kernel_rfl) (by kernel_rfl) (by kernel_rfl) (fun _ _ _ h => h) (Or.inl ⟨by rfl, ?_⟩) hHeld ?_
      rotate_left
      · intro w' hSw
        (go_simp <;> with_reducible rfl)
      try simp only [Act.put, List.getElem_toArray, List.getElem_cons_succ, List.getElem_cons_zero, List.setIfInBounds_toArray, List.set_cons_zero, List.set_cons_succ]
      refine wpAnyH_done (by kernel_rfl) ?_ _
      go_wp2_with fail
      go_meet
      case rel => exact ⟨W.heap.size, p1, c1, q1, d1, mb, f, rfl, rfl, hg7W, hz9, o1, o2, fp, fq, fa, hf, hlk, hHeld⟩
  case rest =>
    obtain ⟨g, p1, c1, q1, d1, mb, f, rfl, rfl, hgW, hv, o1, o2, fp, fq, fa, hf, hlk, hB⟩ := hcut
    have hrc : Lv wc (w.heap.size + 1) #[.slice none 0 0, .slice none 0 0] 25 := (hB.block (w.heap.size + 1) hgr).trans hr0
    have hne1 : g ≠ w.heap.size + 1 := by omega
    have hne2 : w.heap.size + 1 ≠ g := by omega
    have fpg := fp
    have fqg := fq
    have fpr : Far p1 (w.heap.size + 1) := Far.low o1 hgr
    have fqr : Far q1 (w.heap.size + 1) := Far.low o2 hgr
    have BW : Below w.heap.size w wc := bel_call bW (Nat.le_refl _) hB
    obtain ⟨h00, h10, h03, h13⟩ := hlk.first
    have hLs := three_some L
    have hQs := three_some Q
    by_cases hc0 : v ≤ 0
    · have dc : decide (v ≤ 0) = true := by simpa using hc0
      have dc2 : decide (0 < v) = false := by simp; omega
      have HA : Hid (takeL L v = L) := by simp [takeL, dc2, Hid]
      have HB : Hid (takeQ L Q v = Q) := by simp [takeQ, dc2, Hid]
      have HV : Hid (takeV L v = 0) := by simp [takeV, takeGot, dc2, Hid]
      have HG : Hid (takeGot L v = false) := by simp [takeGot, dc2, Hid]
      have HO : Hid (takeOk L Q v = false) := by simp [takeOk, dc2, Hid]
      have hv3 := hv
      have hr3 := hrc
      have z0 := hv3.c 0 rfl
      have z1 := hv3.c 1 rfl
      have y0 := hv3.fz 0
      have y1 := hv3.fz 1
      have x0 := hr3.c 0 rfl
      have x1 := hr3.c 1 rfl
      have v0 := hr3.fz 0
      have v1 := hr3.fz 1
      clear h00 h10 h03 h13 hLs hQs dc2
      go_wp2
      have hR9 : Lv ((wc.setCell ⟨w.heap.size + 1, 0, none⟩ (.slice p1 n c1)).setCell ⟨w.heap.size + 1, 1, none⟩ (.slice q1 m d1)) (w.heap.size + 1) #[.slice p1 n c1, .slice q1 m d1] 25 := (hr3.set 0 (.slice p1 n c1)).set 1 (.slice q1 m d1)
      have e9 := loadBox hR9
      have hb9 : Below w.heap.size w ((wc.setCell ⟨w.heap.size + 1, 0, none⟩ (.slice p1 n c1)).setCell ⟨w.heap.size + 1, 1, none⟩ (.slice q1 m d1)) := by
        refine Below.setCell (Below.setCell ?_ ?_ _) ?_ _
        · exact BW
        · exact Nat.le_succ _
        · exact Nat.le_succ _
      have RA9 := rd_setFar (rd_setFar (own_rd o1) fpr 0 (.slice p1 n c1)) fpr 1 (.slice q1 m d1)
      have RB9 := rd_setFar (rd_setFar (own_rd o2) fqr 0 (.slice p1 n c1)) fqr 1 (.slice q1 m d1)
      refine bodyPost_ret (v := .tuple #[.agg #[.slice p1 n c1, .slice q1 m d1], .int .i64 0, .bool false, .bool false]) (by simp [results, Try.results11, asAddr, e9]) rfl ⟨_, _, _, _, (by rw [HA.out, HB.out, HV.out, HG.out, HO.out, HN.out, HM.out] <;> rfl), (by rw [HA.out]; exact RA9), (by rw [HB.out]; exact RB9), Nw.own o1 bW.size, Nw.own o2 bW.size, hb9⟩
    have dc : decide (v ≤ 0) = false := by simp; omega
    have dc2 : decide (0 < v) = true := by simp; omega
    cases L with
    | cons x R =>
      have HA : Hid (takeL (x :: R) v = R) := by simp [takeL, dc2, Hid]
      have HB : Hid (takeQ (x :: R) Q v = Q) := by simp [takeQ, Hid]
      have HV : Hid (takeV (x :: R) v = x) := by simp [takeV, takeGot, dc2, Hid]
      have HG : Hid (takeGot (x :: R) v = true) := by simp [takeGot, dc2, Hid]
      have HO : Hid (takeOk (x :: R) Q v = true) := by simp [takeOk, dc2, Hid]
      obtain ⟨r, hr⟩ : ∃ r, R.length = r := ⟨_, rfl⟩
      obtain rfl : n = r + 1 := by rw [← HN.out]; simp [hr]
      obtain ⟨gq, cur, rfl, hgq, -⟩ := own_open o1 (by simp)
      have hqg : gq ≠ g := fp gq 0 rfl
      have hqr : gq ≠ w.heap.size + 1 := by omega
      have hdel := deleteL gq c1 x R W.heap.size wc o1 r hr (by omega)
      have HR : Hid (R.length = r) := hr
      have hv3 := hv
      have hr3 := hrc
      have HH : Hid (f 0 0 = some x) := h00
      have z0 := hv3.c 0 rfl
      have z1 := hv3.c 1 rfl
      have y0 := hv3.fz 0
      have y1 := hv3.fz 1
      have x0 := hr3.c 0 rfl
      have x1 := hr3.c 1 rfl
      have v0 := hr3.fz 0
      have v1 := hr3.fz 1
      clear h00 h10 h03 h13 hLs hQs hr cur dc2
      go_wp2_with (first
        | (at_lookup; refine wpList_look _ rfl _ _ rfl mb f rfl hf (0) (0) rfl x true (by rw [HH.out]; rfl) (by rw [HH.out]; rfl) ?_)
        | (go_at_call 18; (with_reducible (refine hdel.mono ?_)); rintro e w3 ⟨rfl, o3, k3⟩
           have hv3 : Lv w3 g _ 25 := (k3.block g hv.lt (by intro e; cases e; exact hqg rfl)).trans hv
           have hr3 : Lv w3 (w.heap.size + 1) _ 25 := (k3.block _ hrc.lt (by intro e; cases e; exact hqr rfl)).trans hrc
           have o4 : Own eI w3 W.heap.size 3 q1 d1 Q := own_block_eq o2 (fun b o e => k3.block b (by subst e; exact own_lt o2) (by intro h; cases h; exact fa _ _ rfl _ _ e rfl))
           have b3 : Below w.heap.size w w3 := BW.trans (k3.below (by omega) BW.size)
           have z0 := hv3.c 0 rfl
           have z1 := hv3.c 1 rfl
           have y0 := hv3.fz 0
           have y1 := hv3.fz 1
           have x0 := hr3.c 0 rfl
           have x1 := hr3.c 1 rfl
           have v0 := hr3.fz 0
           have v1 := hr3.fz 1
           ))
      have hR9 : Lv (((w3.setCell ⟨g, 0, none⟩ (.slice (some ⟨gq, 0, none⟩) r c1)).setCell ⟨w.heap.size + 1, 0, none⟩ (.slice (some ⟨gq, 0, none⟩) r c1)).setCell ⟨w.heap.size + 1, 1, none⟩ (.slice q1 m d1)) (w.heap.size + 1) #[.slice (some ⟨gq, 0, none⟩) r c1, .slice q1 m d1] 25 := ((hr3.far (a := ⟨g, 0, none⟩) hne1 (.slice (some ⟨gq, 0, none⟩) r c1)).set 0 (.slice (some ⟨gq, 0, none⟩) r c1)).set 1 (.slice q1 m d1)
      have e9 := loadBox hR9
      have hb9 : Below w.heap.size w (((w3.setCell ⟨g, 0, none⟩ (.slice (some ⟨gq, 0, none⟩) r c1)).setCell ⟨w.heap.size + 1, 0, none⟩ (.slice (some ⟨gq, 0, none⟩) r c1)).setCell ⟨w.heap.size + 1, 1, none⟩ (.slice q1 m d1)) := by
        refine Below.setCell (Below.setCell ?_ ?_ _) ?_ _
        · refine Below.setCell b3 ?_ _
          show w.heap.size ≤ g
          omega
        · exact Nat.le_succ _
        · exact Nat.le_succ _
      have RA9 := rd_setFar (rd_setFar (rd_setFar (own_rd o3) fpg 0 (.slice (some ⟨gq, 0, none⟩) r c1)) fpr 0 (.slice (some ⟨gq, 0, none⟩) r c1)) fpr 1 (.slice q1 m d1)
      have RB9 := rd_setFar (rd_setFar (rd_setFar (own_rd o4) fqg 0 (.slice (some ⟨gq, 0, none⟩) r c1)) fqr 0 (.slice (some ⟨gq, 0, none⟩) r c1)) fqr 1 (.slice q1 m d1)
      refine bodyPost_ret (v := .tuple #[.agg #[.slice (some ⟨gq, 0, none⟩) r c1, .slice q1 m d1], .int .i64 x, .bool true, .bool true]) (by simp [results, Try.results11, asAddr, e9]) rfl ⟨_, _, _, _, (by rw [HA.out, HB.out, HV.out, HG.out, HO.out, HR.out, HM.out] <;> rfl), (by rw [HA.out]; exact RA9), (by rw [HB.out]; exact RB9), Nw.own o3 bW.size, Nw.own o4 bW.size, hb9⟩
    | nil =>
      obtain rfl : n = 0 := HN.out.symm
      have hv3 := hv
      have hr3 := hrc
      have HA : Hid (takeL [] v = []) := by simp [takeL, Hid]
      have HV : Hid (takeV [] v = 0) := by simp [takeV, takeGot, Hid]
      have HG : Hid (takeGot [] v = false) := by simp [takeGot, Hid]
      have HH : Hid (f 0 0 = none) := h00
      have hc2 := hlk.c v
      obtain ⟨y2, hy2⟩ : ∃ y, (f 2 v).getD 0 = y := ⟨_, rfl⟩
      obtain ⟨y3, hy3⟩ : ∃ y, (f 1 3).getD 0 = y := ⟨_, rfl⟩
      have HY2 : Hid ((f 2 v).getD 0 = y2) := hy2
      have HY3 : Hid ((f 1 3).getD 0 = y3) := hy3
      have hs3 : (f 1 3).isSome = decide (4 ≤ Q.length) := by rw [h13]; exact hQs
      rw [HM.out] at hs3
      clear hy2 hy3
      have z0 := hv3.c 0 rfl
      have z1 := hv3.c 1 rfl
      have y0 := hv3.fz 0
      have y1 := hv3.fz 1
      have x0 := hr3.c 0 rfl
      have x1 := hr3.c 1 rfl
      have v0 := hr3.fz 0
      have v1 := hr3.fz 1
      cases hany : Q.any (· == v) with
      | true =>
        have HB : Hid (takeQ [] Q v = Q) := by simp [takeQ, hany, Hid]
        have HO : Hid (takeOk [] Q v = false) := by simp [takeOk, hany, Hid]
        have HC2 : Hid ((f 2 v).isSome = true) := hc2.trans hany
        have HC3 : Hid ((f 1 3).isSome = decide (4 ≤ m)) := hs3
        clear h00 h10 h03 h13 hLs hQs dc2 hc2 hs3 hany
        go_wp2_with (first
          | (at_lookup; refine wpList_look _ rfl _ _ rfl mb f rfl hf (0) (0) rfl 0 false (by rw [HH.out]; rfl) (by rw [HH.out]; rfl) ?_)
          | (at_lookup; refine wpList_look _ rfl _ _ rfl mb f rfl hf (2) (v) rfl y2 true (by exact HY2.out) (by exact HC2.out) ?_)
          | (at_lookup; refine wpList_look _ rfl _ _ rfl mb f rfl hf (1) (3) rfl y3 (decide (4 ≤ m)) (by exact HY3.out) (by exact HC3.out) ?_))
        have hR9 : Lv ((wc.setCell ⟨w.heap.size + 1, 0, none⟩ (.slice p1 0 c1)).setCell ⟨w.heap.size + 1, 1, none⟩ (.slice q1 m d1)) (w.heap.size + 1) #[.slice p1 0 c1, .slice q1 m d1] 25 := (hr3.set 0 (.slice p1 0 c1)).set 1 (.slice q1 m d1)
        have e9 := loadBox hR9
        have hb9 : Below w.heap.size w ((wc.setCell ⟨w.heap.size + 1, 0, none⟩ (.slice p1 0 c1)).setCell ⟨w.heap.size + 1, 1, none⟩ (.slice q1 m d1)) := by
          refine Below.setCell (Below.setCell ?_ ?_ _) ?_ _
          · exact BW
          · exact Nat.le_succ _
          · exact Nat.le_succ _
        have RA9 := rd_setFar (rd_setFar (own_rd o1) fpr 0 (.slice p1 0 c1)) fpr 1 (.slice q1 m d1)
        have RB9 := rd_setFar (rd_setFar (own_rd o2) fqr 0 (.slice p1 0 c1)) fqr 1 (.slice q1 m d1)
        refine bodyPost_ret (v := .tuple #[.agg #[.slice p1 0 c1, .slice q1 m d1], .int .i64 0, .bool false, .bool false]) (by simp [results, Try.results11, asAddr, e9]) rfl ⟨_, _, _, _, (by rw [HA.out, HB.out, HV.out, HG.out, HO.out, HM.out] <;> rfl), (by rw [HA.out]; exact RA9), (by rw [HB.out]; exact RB9), Nw.own o1 bW.size, Nw.own o2 bW.size, hb9⟩
      | false =>
        have HC2 : Hid ((f 2 v).isSome = false) := hc2.trans hany
        by_cases h4 : 4 ≤ m
        · have HB : Hid (takeQ [] Q v = Q) := by simp [takeQ, HM.out, Hid]; omega
          have HO : Hid (takeOk [] Q v = false) := by simp [takeOk, HM.out, Hid]; omega
          have HC3 : Hid ((f 1 3).isSome = true) := by rw [hs3]; simpa [Hid] using h4
          clear h00 h10 h03 h13 hLs hQs dc2 hc2 hs3 hany
          go_wp2_with (first
            | (at_lookup; refine wpList_look _ rfl _ _ rfl mb f rfl hf (0) (0) rfl 0 false (by rw [HH.out]; rfl) (by rw [HH.out]; rfl) ?_)
            | (at_lookup; refine wpList_look _ rfl _ _ rfl mb f rfl hf (2) (v) rfl y2 false (by exact HY2.out) (by exact HC2.out) ?_)
            | (at_lookup; refine wpList_look _ rfl _ _ rfl mb f rfl hf (1) (3) rfl y3 true (by exact HY3.out) (by exact HC3.out) ?_))
          have hR9 : Lv ((wc.setCell ⟨w.heap.size + 1, 0, none⟩ (.slice p1 0 c1)).setCell ⟨w.heap.size + 1, 1, none⟩ (.slice q1 m d1)) (w.heap.size + 1) #[.slice p1 0 c1, .slice q1 m d1] 25 := (hr3.set 0 (.slice p1 0 c1)).set 1 (.slice q1 m d1)
          have e9 := loadBox hR9
          have hb9 : Below w.heap.size w ((wc.setCell ⟨w.heap.size + 1, 0, none⟩ (.slice p1 0 c1)).setCell ⟨w.heap.size + 1, 1, none⟩ (.slice q1 m d1)) := by
            refine Below.setCell (Below.setCell ?_ ?_ _) ?_ _
            · exact BW
            · exact Nat.le_succ _
            · exact Nat.le_succ _
          have RA9 := rd_setFar (rd_setFar (own_rd o1) fpr 0 (.slice p1 0 c1)) fpr 1 (.slice q1 m d1)
          have RB9 := rd_setFar (rd_setFar (own_rd o2) fqr 0 (.slice p1 0 c1)) fqr 1 (.slice q1 m d1)
          refine bodyPost_ret (v := .tuple #[.agg #[.slice p1 0 c1, .slice q1 m d1], .int .i64 0, .bool false, .bool false]) (by simp [results, Try.results11, asAddr, e9]) rfl ⟨_, _, _, _, (by rw [HA.out, HB.out, HV.out, HG.out, HO.out, HM.out] <;> rfl), (by rw [HA.out]; exact RA9), (by rw [HB.out]; exact RB9), Nw.own o1 bW.size, Nw.own o2 bW.size, hb9⟩
        · have HB : Hid (takeQ [] Q v = Q ++ [v]) := by simp only [takeQ, hany, dc2, Hid]; simp [HM.out]; omega
          have HO : Hid (takeOk [] Q v = true) := by simp only [takeOk, hany, dc2, Hid]; simp [HM.out]; omega
          have HC3 : Hid ((f 1 3).isSome = false) := by rw [hs3]; simp [Hid]; omega
          clear h00 h10 h03 h13 hLs hQs dc2 hc2 hs3 hany
          go_wp2_with (first
            | (at_lookup; refine wpList_look _ rfl _ _ rfl mb f rfl hf (0) (0) rfl 0 false (by rw [HH.out]; rfl) (by rw [HH.out]; rfl) ?_)
            | (at_lookup; refine wpList_look _ rfl _ _ rfl mb f rfl hf (2) (v) rfl y2 false (by exact HY2.out) (by exact HC2.out) ?_)
            | (at_lookup; refine wpList_look _ rfl _ _ rfl mb f rfl hf (1) (3) rfl y3 false (by exact HY3.out) (by exact HC3.out) ?_)
            | (at_builtin; refine wpList_app tI _ rfl _ _ rfl W.heap.size q1 d1 Q m HM.out rfl (own_below o2 (bel_self _ _)) _ _ [v] 1 rfl rfl (rd_block (heap_alloc_new _ _) 1 rfl rfl) (by omega) (Nat.le_trans hB.size (bel_self _ _).size) (m + 1) rfl ?_; intro q5 d5 w5 o5 b5 st5
               have a5 := bel_self wc (.cells #[.int .i64 v] 3)
               have hv3 : Lv w5 g _ 25 := (st5 g (Nat.lt_of_lt_of_le hv.lt a5.size) (fun g' e => by have := fq g' 0 e; omega)).trans (hv.below a5)
               have hr3 : Lv w5 (w.heap.size + 1) _ 25 := (st5 _ (Nat.lt_of_lt_of_le hrc.lt a5.size) (fun g' e => by have := fqr g' 0 e; omega)).trans (hrc.below a5)
               have b3 : Below w.heap.size w w5 := (bel_call BW (Nat.le_refl _) a5).trans (b5.mono bW.size)
               have z0 := hv3.c 0 rfl
               have z1 := hv3.c 1 rfl
               have y0 := hv3.fz 0
               have y1 := hv3.fz 1
               have x0 := hr3.c 0 rfl
               have x1 := hr3.c 1 rfl
               have v0 := hr3.fz 0
               have v1 := hr3.fz 1
               ))
          have fqg : Far q5 g := Far.type o5 hv3 (by decide)
          have fqr : Far q5 (w.heap.size + 1) := Far.type o5 hr3 (by decide)
          have rp5 : Rd eI w5 p1 c1 [] := Rd.void (own_rd o1)
          have hR9 : Lv (((w5.setCell ⟨g, 1, none⟩ (.slice q5 (m + 1) d5)).setCell ⟨w.heap.size + 1, 0, none⟩ (.slice p1 0 c1)).setCell ⟨w.heap.size + 1, 1, none⟩ (.slice q5 (m + 1) d5)) (w.heap.size + 1) #[.slice p1 0 c1, .slice q5 (m + 1) d5] 25 := ((hr3.far (a := ⟨g, 1, none⟩) hne1 (.slice q5 (m + 1) d5)).set 0 (.slice p1 0 c1)).set 1 (.slice q5 (m + 1) d5)
          have e9 := loadBox hR9
          have hb9 : Below w.heap.size w (((w5.setCell ⟨g, 1, none⟩ (.slice q5 (m + 1) d5)).setCell ⟨w.heap.size + 1, 0, none⟩ (.slice p1 0 c1)).setCell ⟨w.heap.size + 1, 1, none⟩ (.slice q5 (m + 1) d5)) := by
            refine Below.setCell (Below.setCell ?_ ?_ _) ?_ _
            · refine Below.setCell b3 ?_ _
              show w.heap.size ≤ g
              omega
            · exact Nat.le_succ _
            · exact Nat.le_succ _
          have RA9 := rd_setFar (rd_setFar (rd_setFar rp5 fpg 1 (.slice q5 (m + 1) d5)) fpr 0 (.slice p1 0 c1)) fpr 1 (.slice q5 (m + 1) d5)
          have RB9 := rd_setFar (rd_setFar (rd_setFar (own_rd o5) fqg 1 (.slice q5 (m + 1) d5)) fqr 0 (.slice p1 0 c1)) fqr 1 (.slice q5 (m + 1) d5)
          refine bodyPost_ret (v := .tuple #[.agg #[.slice p1 0 c1, .slice q5 (m + 1) d5], .int .i64 0, .bool false, .bool true]) (by simp [results, Try.results11, asAddr, e9]) rfl ⟨_, _, _, _, (by rw [HA.out, HB.out, HV.out, HG.out, HO.out, List.length_append, HM.out] <;> rfl), (by rw [HA.out]; exact RA9), (by rw [HB.out]; exact RB9), Nw.own o1 bW.size, Nw.own o5 bW.size, hb9⟩
end Go.Proofs.Ytfghondhonflaaa
