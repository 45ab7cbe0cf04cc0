/-
  What the document's Post hands back.
-/
import Derived.Test.YtfghondhonflaaaPost
namespace Go.Proofs.Ytfghondhonflaaa
open Go.ChangeShapes Go.WideShapes Go.ChangeAt Go.RowKit
attribute [local go_sem ↓] Go.wp_at_zero Go.wp_at_succ

set_option maxHeartbeats 4000000 in
theorem rpost_any (p : Option Addr) (c : Nat) (L : List Int) (q : Option Addr) (d : Nat) (Q : List Int) (v : Int) (w : World) (hL : Rd eI w p c L) (hQ : Rd eI w q d Q) (n m : Nat) (hn : L.length = n) (hm : Q.length = m) (hn9 : n ≤ 1000) (hm9 : m ≤ 1000) :
    Calls Try.prog 9 #[.agg #[.slice p n c, .slice q m d], .int .i64 v] w fun e w' => ∃ (p1 : Option Addr) (c1 : Nat) (q1 : Option Addr) (d1 : Nat), e = .returned (.tuple #[.agg #[.slice p1 (postL L Q v).length c1, .slice q1 (postQ Q).length d1], .int .i64 (postC Q), .bool (postB L Q)]) ∧ Rd eI w' p1 c1 (postL L Q v) ∧ Rd eI w' q1 d1 (postQ Q) ∧ Below w.heap.size w w' := by
  have HN : Hid (L.length = n) := hn
  have HM : Hid (Q.length = m) := hm
  clear hn hm
  obtain ⟨W, hW⟩ : ∃ W, W = (w.alloc (.cells #[.slice p n c, .slice q m d] 25)).alloc (.cells #[.slice none 0 0, .slice none 0 0] 25) := ⟨_, rfl⟩
  have bW : Below w.heap.size w W := by rw [hW]; exact ((Below.refl _ _).alloc (Nat.le_refl _) _).alloc (by simp) _
  have hp0 : Lv W w.heap.size #[.slice p n c, .slice q m d] 25 := by rw [hW]; exact (Lv.new _ _ _).below (bel_self _ _)
  have hr0 : Lv W (w.heap.size + 1) #[.slice none 0 0, .slice none 0 0] 25 := by rw [hW]; exact heap_at (by simp)
  have hsz : W.heap.size = w.heap.size + 2 := by rw [hW]; simp
  have hgp : w.heap.size < W.heap.size := by omega
  have hgr : w.heap.size + 1 < W.heap.size := by omega
  clear hsz
  go_enter Try.func9, Try.ntmps9
  go_upto_region 1 with fail
  rw [← hW]
  clear hW
  go_cut [7] from 8 to 16 (fun a wx => ∃ (g : Nat) (p1 : Option Addr) (c1 : Nat) (q1 : Option Addr) (d1 : Nat), a = .pointer (some ⟨g, 0, none⟩) ∧ W.heap.size ≤ g ∧ Lv wx g #[.slice p1 n c1, .slice q1 m d1] 25 ∧ Own eI wx W.heap.size 2 p1 c1 L ∧ Own eI wx W.heap.size 3 q1 d1 Q ∧ Below W.heap.size W wx)
  case first =>
    refine wp_region_held_drew (S := fun w' => Below W.heap.size W w') (by kernel_rfl) (Below.refl _ _).drew (fun hHeld => ?_)
    refine wpAnyH_take (i := 1) (oi := _) (v := ?_) rfl (by kernel_rfl) (by kernel_rfl) (by kernel_rfl) (fun _ _ _ h => h) (Or.inl ⟨by rfl, ?_⟩) hHeld ?_
    rotate_left
    · intro w' hSw
      (go_simp <;> with_reducible rfl)
    try simp only [Act.put, List.getElem_toArray, List.getElem_cons_succ, List.getElem_cons_zero, List.setIfInBounds_toArray, List.set_cons_zero, List.set_cons_succ]
    refine wpAnyH_take (i := 2) (oi := _) (v := ?_) rfl (by kernel_rfl) (by kernel_rfl) (by kernel_rfl) (fun _ _ _ h => h) (Or.inl ⟨by rfl, ?_⟩) hHeld ?_
    rotate_left
    · intro w' hSw
      have e0 := Lv.c (show Lv w' w.heap.size _ 25 from (hSw.block w.heap.size hgp).trans hp0) 0 rfl
      have e1 := Lv.c (show Lv w' w.heap.size _ 25 from (hSw.block w.heap.size hgp).trans hp0) 1 rfl
      (go_simp <;> with_reducible rfl)
    try simp only [Act.put, List.getElem_toArray, List.getElem_cons_succ, List.getElem_cons_zero, List.setIfInBounds_toArray, List.set_cons_zero, List.set_cons_succ]
    refine wpAnyH_take (i := 5) (oi := _) (v := ?_) rfl (by kernel_rfl) (by kernel_rfl) (by kernel_rfl) (fun _ _ _ h => h) (Or.inl ⟨by rfl, ?_⟩) hHeld ?_
    rotate_left
    · intro w' hSw
      (go_simp <;> with_reducible rfl)
    try simp only [Act.put, List.getElem_toArray, List.getElem_cons_succ, List.getElem_cons_zero, List.setIfInBounds_toArray, List.set_cons_zero, List.set_cons_succ]
    refine wpAnyH_take (i := 6) (oi := _) (v := ?_) rfl (by kernel_rfl) (by kernel_rfl) (by kernel_rfl) (fun _ _ _ h => h) (Or.inl ⟨by rfl, ?_⟩) hHeld ?_
    rotate_left
    · intro w' hSw
      have e0 := Lv.c (show Lv w' w.heap.size _ 25 from (hSw.block w.heap.size hgp).trans hp0) 0 rfl
      have e1 := Lv.c (show Lv w' w.heap.size _ 25 from (hSw.block w.heap.size hgp).trans hp0) 1 rfl
      (go_simp <;> with_reducible rfl)
    try simp only [Act.put, List.getElem_toArray, List.getElem_cons_succ, List.getElem_cons_zero, List.setIfInBounds_toArray, List.set_cons_zero, List.set_cons_succ]
    refine wpAnyH_ready (rs := [0, 4, 9]) (by kernel_rfl) (by simp) ?_
    refine AllReadyH.cons (o := _) rfl (fun K hK => ?_) (AllReadyH.cons (o := _) rfl (fun K hK => ?_) (AllReadyH.cons (o := _) rfl (fun K hK => ?_) (AllReadyH.nil)))
    · go_simp
      have b7 : Below W.heap.size W (W.alloc (.cells #[] 2)) := bel_self _ _
      have e8 : Lv ((W.alloc (.cells #[] 2)).drew) W.heap.size #[] 2 := Lv.new W _ _
      have he8W : W.heap.size ≤ W.heap.size := Nat.le_refl _
      refine hK.out _ _ (hHeld.alloc hHeld.size _) (fun hHeld => ?_)
      clear hK K
      generalize ((W.alloc (.cells #[] 2)).drew) = w8 at *
      clear b7
      try simp only [Act.put, List.getElem_toArray, List.getElem_cons_zero, List.setIfInBounds_toArray, List.set_cons_zero, List.set_cons_succ]
      refine wpAnyH_ready (rs := [3, 4, 9]) (by kernel_rfl) (by simp) ?_
      refine AllReadyH.cons (o := _) rfl (fun K hK => ?_) (AllReadyH.cons (o := _) rfl (fun K hK => ?_) (AllReadyH.cons (o := _) rfl (fun K hK => ?_) (AllReadyH.nil)))
      · refine step_fresh tL _ rfl _ _ rfl W.heap.size W.heap.size e8 he8W rfl p c L n HN.out rfl (hL.below (bel_call bW (Nat.le_refl _) hHeld)) (by omega) ?_
        intro p1 c1 w1 o1 b1 _
        refine hK.out _ _ (bel_call hHeld (Nat.le_refl _) b1) (fun hHeld => ?_)
        clear hK K
        try simp only [Act.put, List.getElem_toArray, List.getElem_cons_succ, List.getElem_cons_zero, List.setIfInBounds_toArray, List.set_cons_zero, List.set_cons_succ]
        refine wpAnyH_ready (rs := [4, 9]) (by kernel_rfl) (by simp) ?_
        refine AllReadyH.cons (o := _) rfl (fun K hK => ?_) (AllReadyH.cons (o := _) rfl (fun K hK => ?_) (AllReadyH.nil))
        · go_simp
          have b7 : Below w1.heap.size w1 (w1.alloc (.cells #[] 3)) := bel_self _ _
          have e12 : Lv (w1.alloc (.cells #[] 3)) w1.heap.size #[] 3 := Lv.new w1 _ _
          obtain ⟨g12, hg12⟩ : ∃ g, g = w1.heap.size := ⟨_, rfl⟩
          have he12W : W.heap.size ≤ g12 := by have := hHeld.size; rw [hg12]; exact this
          have o1 := own_below o1 b7
          refine hK.out _ _ (hHeld.alloc hHeld.size _) (fun hHeld => ?_)
          clear hK K
          rw [← hg12] at e12
          simp only [← hg12]
          generalize (w1.alloc (.cells #[] 3)) = w12 at *
          clear hg12 b7
          try simp only [Act.put, List.getElem_toArray, List.getElem_cons_succ, List.getElem_cons_zero, List.setIfInBounds_toArray, List.set_cons_zero, List.set_cons_succ]
          refine wpAnyH_ready (rs := [7, 9]) (by kernel_rfl) (by simp) ?_
          refine AllReadyH.cons (o := _) rfl (fun K hK => ?_) (AllReadyH.cons (o := _) rfl (fun K hK => ?_) (AllReadyH.nil))
          · refine step_fresh tI _ rfl _ _ rfl W.heap.size g12 e12 he12W rfl q d Q m HM.out rfl (hQ.below (bel_call bW (Nat.le_refl _) hHeld)) (by omega) ?_
            intro q1 d1 w2 o2 b2 _
            have o1 := own_below o1 b2
            refine hK.out _ _ (bel_call hHeld (Nat.le_refl _) b2) (fun hHeld => ?_)
            clear hK K
            try simp only [Act.put, List.getElem_toArray, List.getElem_cons_succ, List.getElem_cons_zero, List.setIfInBounds_toArray, List.set_cons_zero, List.set_cons_succ]
            refine wpAnyH_take (i := 8) (oi := _) (v := ?_) rfl (by kernel_rfl) (by kernel_rfl) (by kernel_rfl) (fun _ _ _ h => h) (Or.inl ⟨by rfl, ?_⟩) hHeld ?_
            rotate_left
            · intro w' hSw
              (go_simp <;> with_reducible rfl)
            try simp only [Act.put, List.getElem_toArray, List.getElem_cons_succ, List.getElem_cons_zero, List.setIfInBounds_toArray, List.set_cons_zero, List.set_cons_succ]
            refine wpAnyH_ready (rs := [9]) (by kernel_rfl) (by simp) ?_
            refine AllReadyH.cons (o := _) rfl (fun K hK => ?_) (AllReadyH.nil)
            go_simp
            have b7 : Below w2.heap.size w2 (w2.alloc (.cells #[.slice none 0 0, .slice none 0 0] 25)) := bel_self _ _
            have hz : Lv (w2.alloc (.cells #[.slice none 0 0, .slice none 0 0] 25)) w2.heap.size #[.slice none 0 0, .slice none 0 0] 25 := Lv.new w2 _ _
            obtain ⟨g7, hg7⟩ : ∃ g, g = w2.heap.size := ⟨_, rfl⟩
            have hhzW : W.heap.size ≤ g7 := by have := hHeld.size; rw [hg7]; exact this
            have o1 := own_below o1 b7
            have o2 := own_below o2 b7
            refine hK.out _ _ (hHeld.alloc hHeld.size _) (fun hHeld => ?_)
            clear hK K
            rw [← hg7] at hz
            simp only [← hg7]
            generalize (w2.alloc (.cells #[.slice none 0 0, .slice none 0 0] 25)) = w7 at *
            clear hg7 b7
            try simp only [Act.put, List.getElem_toArray, List.getElem_cons_succ, List.getElem_cons_zero, List.setIfInBounds_toArray, List.set_cons_zero, List.set_cons_succ]
            refine wpAnyH_ready (rs := [10]) (by kernel_rfl) (by simp) ?_
            refine AllReadyH.cons (o := _) rfl (fun K hK => ?_) (AllReadyH.nil)
            have z0 := hz.c 0 rfl
            have z1 := hz.c 1 rfl
            have y0 := hz.fz 0
            have y1 := hz.fz 1
            go_simp
            have fp : Far p1 g7 := Far.type o1 hz (by decide)
            have fq : Far q1 g7 := Far.type o2 hz (by decide)
            have hz9 : Lv ((w7.setCell ⟨g7, 0, none⟩ (.slice p1 n c1)).setCell ⟨g7, 1, none⟩ (.slice q1 m d1)) g7 #[.slice p1 n c1, .slice q1 m d1] 25 := (hz.set 0 (.slice p1 n c1)).set 1 (.slice q1 m d1)
            have o1 := own_setFar (own_setFar o1 fp 0 (.slice p1 n c1)) fp 1 (.slice q1 m d1)
            have o2 := own_setFar (own_setFar o2 fq 0 (.slice p1 n c1)) fq 1 (.slice q1 m d1)
            have hS9 : Below W.heap.size W ((w7.setCell ⟨g7, 0, none⟩ (.slice p1 n c1)).setCell ⟨g7, 1, none⟩ (.slice q1 m d1)) := by refine Below.setCell (Below.setCell hHeld ?_ _) ?_ _ <;> exact hhzW
            refine hK.out _ _ hS9 (fun hHeld => ?_)
            clear hK K
            try simp only [Act.put, List.getElem_toArray, List.getElem_cons_succ, List.getElem_cons_zero, List.setIfInBounds_toArray, List.set_cons_zero, List.set_cons_succ]
            refine wpAnyH_done (by kernel_rfl) ?_ _
            go_wp2_with fail
            go_meet
            case rel => exact ⟨g7, p1, c1, q1, d1, rfl, hhzW, hz9, o1, o2, hHeld⟩
          · go_simp
            have b7 : Below w12.heap.size w12 (w12.alloc (.cells #[.slice none 0 0, .slice none 0 0] 25)) := bel_self _ _
            have hz : Lv (w12.alloc (.cells #[.slice none 0 0, .slice none 0 0] 25)) w12.heap.size #[.slice none 0 0, .slice none 0 0] 25 := Lv.new w12 _ _
            obtain ⟨g7, hg7⟩ : ∃ g, g = w12.heap.size := ⟨_, rfl⟩
            have hhzW : W.heap.size ≤ g7 := by have := hHeld.size; rw [hg7]; exact this
            have e12 := e12.below b7
            have o1 := own_below o1 b7
            refine hK.out _ _ (hHeld.alloc hHeld.size _) (fun hHeld => ?_)
            clear hK K
            rw [← hg7] at hz
            simp only [← hg7]
            generalize (w12.alloc (.cells #[.slice none 0 0, .slice none 0 0] 25)) = w7 at *
            clear hg7 b7
            try simp only [Act.put, List.getElem_toArray, List.getElem_cons_succ, List.getElem_cons_zero, List.setIfInBounds_toArray, List.set_cons_zero, List.set_cons_succ]
            refine wpAnyH_ready (rs := [7]) (by kernel_rfl) (by simp) ?_
            refine AllReadyH.cons (o := _) rfl (fun K hK => ?_) (AllReadyH.nil)
            refine step_fresh tI _ rfl _ _ rfl W.heap.size g12 e12 he12W rfl q d Q m HM.out rfl (hQ.below (bel_call bW (Nat.le_refl _) hHeld)) (by omega) ?_
            intro q1 d1 w2 o2 b2 _
            have o1 := own_below o1 b2
            have hz := hz.below b2
            refine hK.out _ _ (bel_call hHeld (Nat.le_refl _) b2) (fun hHeld => ?_)
            clear hK K
            try simp only [Act.put, List.getElem_toArray, List.getElem_cons_succ, List.getElem_cons_zero, List.setIfInBounds_toArray, List.set_cons_zero, List.set_cons_succ]
            refine wpAnyH_take (i := 8) (oi := _) (v := ?_) rfl (by kernel_rfl) (by kernel_rfl) (by kernel_rfl) (fun _ _ _ h => h) (Or.inl ⟨by rfl, ?_⟩) hHeld ?_
            rotate_left
            · intro w' hSw
              (go_simp <;> with_reducible rfl)
            try simp only [Act.put, List.getElem_toArray, List.getElem_cons_succ, List.getElem_cons_zero, List.setIfInBounds_toArray, List.set_cons_zero, List.set_cons_succ]
            refine wpAnyH_ready (rs := [10]) (by kernel_rfl) (by simp) ?_
            refine AllReadyH.cons (o := _) rfl (fun K hK => ?_) (AllReadyH.nil)
            have z0 := hz.c 0 rfl
            have z1 := hz.c 1 rfl
            have y0 := hz.fz 0
            have y1 := hz.fz 1
            go_simp
            have fp : Far p1 g7 := Far.type o1 hz (by decide)
            have fq : Far q1 g7 := Far.type o2 hz (by decide)
            have hz9 : Lv ((w2.setCell ⟨g7, 0, none⟩ (.slice p1 n c1)).setCell ⟨g7, 1, none⟩ (.slice q1 m d1)) g7 #[.slice p1 n c1, .slice q1 m d1] 25 := (hz.set 0 (.slice p1 n c1)).set 1 (.slice q1 m d1)
            have o1 := own_setFar (own_setFar o1 fp 0 (.slice p1 n c1)) fp 1 (.slice q1 m d1)
            have o2 := own_setFar (own_setFar o2 fq 0 (.slice p1 n c1)) fq 1 (.slice q1 m d1)
            have hS9 : Below W.heap.size W ((w2.setCell ⟨g7, 0, none⟩ (.slice p1 n c1)).setCell ⟨g7, 1, none⟩ (.slice q1 m d1)) := by refine Below.setCell (Below.setCell hHeld ?_ _) ?_ _ <;> exact hhzW
            refine hK.out _ _ hS9 (fun hHeld => ?_)
            clear hK K
            try simp only [Act.put, List.getElem_toArray, List.getElem_cons_succ, List.getElem_cons_zero, List.setIfInBounds_toArray, List.set_cons_zero, List.set_cons_succ]
            refine wpAnyH_done (by kernel_rfl) ?_ _
            go_wp2_with fail
            go_meet
            case rel => exact ⟨g7, p1, c1, q1, d1, rfl, hhzW, hz9, o1, o2, hHeld⟩
        · go_simp
          have b7 : Below w1.heap.size w1 (w1.alloc (.cells #[.slice none 0 0, .slice none 0 0] 25)) := bel_self _ _
          have hz : Lv (w1.alloc (.cells #[.slice none 0 0, .slice none 0 0] 25)) w1.heap.size #[.slice none 0 0, .slice none 0 0] 25 := Lv.new w1 _ _
          obtain ⟨g7, hg7⟩ : ∃ g, g = w1.heap.size := ⟨_, rfl⟩
          have hhzW : W.heap.size ≤ g7 := by have := hHeld.size; rw [hg7]; exact this
          have o1 := own_below o1 b7
          refine hK.out _ _ (hHeld.alloc hHeld.size _) (fun hHeld => ?_)
          clear hK K
          rw [← hg7] at hz
          simp only [← hg7]
          generalize (w1.alloc (.cells #[.slice none 0 0, .slice none 0 0] 25)) = w7 at *
          clear hg7 b7
          try simp only [Act.put, List.getElem_toArray, List.getElem_cons_succ, List.getElem_cons_zero, List.setIfInBounds_toArray, List.set_cons_zero, List.set_cons_succ]
          refine wpAnyH_ready (rs := [4]) (by kernel_rfl) (by simp) ?_
          refine AllReadyH.cons (o := _) rfl (fun K hK => ?_) (AllReadyH.nil)
          go_simp
          have b7 : Below w7.heap.size w7 (w7.alloc (.cells #[] 3)) := bel_self _ _
          have e12 : Lv (w7.alloc (.cells #[] 3)) w7.heap.size #[] 3 := Lv.new w7 _ _
          obtain ⟨g12, hg12⟩ : ∃ g, g = w7.heap.size := ⟨_, rfl⟩
          have he12W : W.heap.size ≤ g12 := by have := hHeld.size; rw [hg12]; exact this
          have o1 := own_below o1 b7
          have hz := hz.below b7
          refine hK.out _ _ (hHeld.alloc hHeld.size _) (fun hHeld => ?_)
          clear hK K
          rw [← hg12] at e12
          simp only [← hg12]
          generalize (w7.alloc (.cells #[] 3)) = w12 at *
          clear hg12 b7
          try simp only [Act.put, List.getElem_toArray, List.getElem_cons_succ, List.getElem_cons_zero, List.setIfInBounds_toArray, List.set_cons_zero, List.set_cons_succ]
          refine wpAnyH_ready (rs := [7]) (by kernel_rfl) (by simp) ?_
          refine AllReadyH.cons (o := _) rfl (fun K hK => ?_) (AllReadyH.nil)
          refine step_fresh tI _ rfl _ _ rfl W.heap.size g12 e12 he12W rfl q d Q m HM.out rfl (hQ.below (bel_call bW (Nat.le_refl _) hHeld)) (by omega) ?_
          intro q1 d1 w2 o2 b2 _
          have o1 := own_below o1 b2
          have hz := hz.below b2
          refine hK.out _ _ (bel_call hHeld (Nat.le_refl _) b2) (fun hHeld => ?_)
          clear hK K
          try simp only [Act.put, List.getElem_toArray, List.getElem_cons_succ, List.getElem_cons_zero, List.setIfInBounds_toArray, List.set_cons_zero, List.set_cons_succ]
          refine wpAnyH_take (i := 8) (oi := _) (v := ?_) rfl (by kernel_rfl) (by kernel_rfl) (by kernel_rfl) (fun _ _ _ h => h) (Or.inl ⟨by rfl, ?_⟩) hHeld ?_
          rotate_left
          · intro w' hSw
            (go_simp <;> with_reducible rfl)
          try simp only [Act.put, List.getElem_toArray, List.getElem_cons_succ, List.getElem_cons_zero, List.setIfInBounds_toArray, List.set_cons_zero, List.set_cons_succ]
          refine wpAnyH_ready (rs := [10]) (by kernel_rfl) (by simp) ?_
          refine AllReadyH.cons (o := _) rfl (fun K hK => ?_) (AllReadyH.nil)
          have z0 := hz.c 0 rfl
          have z1 := hz.c 1 rfl
          have y0 := hz.fz 0
          have y1 := hz.fz 1
          go_simp
          have fp : Far p1 g7 := Far.type o1 hz (by decide)
          have fq : Far q1 g7 := Far.type o2 hz (by decide)
          have hz9 : Lv ((w2.setCell ⟨g7, 0, none⟩ (.slice p1 n c1)).setCell ⟨g7, 1, none⟩ (.slice q1 m d1)) g7 #[.slice p1 n c1, .slice q1 m d1] 25 := (hz.set 0 (.slice p1 n c1)).set 1 (.slice q1 m d1)
          have o1 := own_setFar (own_setFar o1 fp 0 (.slice p1 n c1)) fp 1 (.slice q1 m d1)
          have o2 := own_setFar (own_setFar o2 fq 0 (.slice p1 n c1)) fq 1 (.slice q1 m d1)
          have hS9 : Below W.heap.size W ((w2.setCell ⟨g7, 0, none⟩ (.slice p1 n c1)).setCell ⟨g7, 1, none⟩ (.slice q1 m d1)) := by refine Below.setCell (Below.setCell hHeld ?_ _) ?_ _ <;> exact hhzW
          refine hK.out _ _ hS9 (fun hHeld => ?_)
          clear hK K
          try simp only [Act.put, List.getElem_toArray, List.getElem_cons_succ, List.getElem_cons_zero, List.setIfInBounds_toArray, List.set_cons_zero, List.set_cons_succ]
          refine wpAnyH_done (by kernel_rfl) ?_ _
          go_wp2_with fail
          go_meet
          case rel => exact ⟨g7, p1, c1, q1, d1, rfl, hhzW, hz9, o1, o2, hHeld⟩
      · go_simp
        have b7 : Below w8.heap.size w8 (w8.alloc (.cells #[] 3)) := bel_self _ _
        have e12 : Lv (w8.alloc (.cells #[] 3)) w8.heap.size #[] 3 := Lv.new w8 _ _
        obtain ⟨g12, hg12⟩ : ∃ g, g = w8.heap.size := ⟨_, rfl⟩
        have he12W : W.heap.size ≤ g12 := by have := hHeld.size; rw [hg12]; exact this
        have e8 := e8.below b7
        refine hK.out _ _ (hHeld.alloc hHeld.size _) (fun hHeld => ?_)
        clear hK K
        rw [← hg12] at e12
        simp only [← hg12]
        generalize (w8.alloc (.cells #[] 3)) = w12 at *
        clear hg12 b7
        try simp only [Act.put, List.getElem_toArray, List.getElem_cons_succ, List.getElem_cons_zero, List.setIfInBounds_toArray, List.set_cons_zero, List.set_cons_succ]
        refine wpAnyH_ready (rs := [3, 9]) (by kernel_rfl) (by simp) ?_
        refine AllReadyH.cons (o := _) rfl (fun K hK => ?_) (AllReadyH.cons (o := _) rfl (fun K hK => ?_) (AllReadyH.nil))
        · refine step_fresh tL _ rfl _ _ rfl W.heap.size W.heap.size e8 he8W rfl p c L n HN.out rfl (hL.below (bel_call bW (Nat.le_refl _) hHeld)) (by omega) ?_
          intro p1 c1 w1 o1 b1 _
          have e12 := e12.below b1
          refine hK.out _ _ (bel_call hHeld (Nat.le_refl _) b1) (fun hHeld => ?_)
          clear hK K
          try simp only [Act.put, List.getElem_toArray, List.getElem_cons_succ, List.getElem_cons_zero, List.setIfInBounds_toArray, List.set_cons_zero, List.set_cons_succ]
          refine wpAnyH_ready (rs := [7, 9]) (by kernel_rfl) (by simp) ?_
          refine AllReadyH.cons (o := _) rfl (fun K hK => ?_) (AllReadyH.cons (o := _) rfl (fun K hK => ?_) (AllReadyH.nil))
          · refine step_fresh tI _ rfl _ _ rfl W.heap.size g12 e12 he12W rfl q d Q m HM.out rfl (hQ.below (bel_call bW (Nat.le_refl _) hHeld)) (by omega) ?_
            intro q1 d1 w2 o2 b2 _
            have o1 := own_below o1 b2
            refine hK.out _ _ (bel_call hHeld (Nat.le_refl _) b2) (fun hHeld => ?_)
            clear hK K
            try simp only [Act.put, List.getElem_toArray, List.getElem_cons_succ, List.getElem_cons_zero, List.setIfInBounds_toArray, List.set_cons_zero, List.set_cons_succ]
            refine wpAnyH_take (i := 8) (oi := _) (v := ?_) rfl (by kernel_rfl) (by kernel_rfl) (by kernel_rfl) (fun _ _ _ h => h) (Or.inl ⟨by rfl, ?_⟩) hHeld ?_
            rotate_left
            · intro w' hSw
              (go_simp <;> with_reducible rfl)
            try simp only [Act.put, List.getElem_toArray, List.getElem_cons_succ, List.getElem_cons_zero, List.setIfInBounds_toArray, List.set_cons_zero, List.set_cons_succ]
            refine wpAnyH_ready (rs := [9]) (by kernel_rfl) (by simp) ?_
            refine AllReadyH.cons (o := _) rfl (fun K hK => ?_) (AllReadyH.nil)
            go_simp
            have b7 : Below w2.heap.size w2 (w2.alloc (.cells #[.slice none 0 0, .slice none 0 0] 25)) := bel_self _ _
            have hz : Lv (w2.alloc (.cells #[.slice none 0 0, .slice none 0 0] 25)) w2.heap.size #[.slice none 0 0, .slice none 0 0] 25 := Lv.new w2 _ _
            obtain ⟨g7, hg7⟩ : ∃ g, g = w2.heap.size := ⟨_, rfl⟩
            have hhzW : W.heap.size ≤ g7 := by have := hHeld.size; rw [hg7]; exact this
            have o1 := own_below o1 b7
            have o2 := own_below o2 b7
            refine hK.out _ _ (hHeld.alloc hHeld.size _) (fun hHeld => ?_)
            clear hK K
            rw [← hg7] at hz
            simp only [← hg7]
            generalize (w2.alloc (.cells #[.slice none 0 0, .slice none 0 0] 25)) = w7 at *
            clear hg7 b7
            try simp only [Act.put, List.getElem_toArray, List.getElem_cons_succ, List.getElem_cons_zero, List.setIfInBounds_toArray, List.set_cons_zero, List.set_cons_succ]
            refine wpAnyH_ready (rs := [10]) (by kernel_rfl) (by simp) ?_
            refine AllReadyH.cons (o := _) rfl (fun K hK => ?_) (AllReadyH.nil)
            have z0 := hz.c 0 rfl
            have z1 := hz.c 1 rfl
            have y0 := hz.fz 0
            have y1 := hz.fz 1
            go_simp
            have fp : Far p1 g7 := Far.type o1 hz (by decide)
            have fq : Far q1 g7 := Far.type o2 hz (by decide)
            have hz9 : Lv ((w7.setCell ⟨g7, 0, none⟩ (.slice p1 n c1)).setCell ⟨g7, 1, none⟩ (.slice q1 m d1)) g7 #[.slice p1 n c1, .slice q1 m d1] 25 := (hz.set 0 (.slice p1 n c1)).set 1 (.slice q1 m d1)
            have o1 := own_setFar (own_setFar o1 fp 0 (.slice p1 n c1)) fp 1 (.slice q1 m d1)
            have o2 := own_setFar (own_setFar o2 fq 0 (.slice p1 n c1)) fq 1 (.slice q1 m d1)
            have hS9 : Below W.heap.size W ((w7.setCell ⟨g7, 0, none⟩ (.slice p1 n c1)).setCell ⟨g7, 1, none⟩ (.slice q1 m d1)) := by refine Below.setCell (Below.setCell hHeld ?_ _) ?_ _ <;> exact hhzW
            refine hK.out _ _ hS9 (fun hHeld => ?_)
            clear hK K
            try simp only [Act.put, List.getElem_toArray, List.getElem_cons_succ, List.getElem_cons_zero, List.setIfInBounds_toArray, List.set_cons_zero, List.set_cons_succ]
            refine wpAnyH_done (by kernel_rfl) ?_ _
            go_wp2_with fail
            go_meet
            case rel => exact ⟨g7, p1, c1, q1, d1, rfl, hhzW, hz9, o1, o2, hHeld⟩
          · go_simp
            have b7 : Below w1.heap.size w1 (w1.alloc (.cells #[.slice none 0 0, .slice none 0 0] 25)) := bel_self _ _
            have hz : Lv (w1.alloc (.cells #[.slice none 0 0, .slice none 0 0] 25)) w1.heap.size #[.slice none 0 0, .slice none 0 0] 25 := Lv.new w1 _ _
            obtain ⟨g7, hg7⟩ : ∃ g, g = w1.heap.size := ⟨_, rfl⟩
            have hhzW : W.heap.size ≤ g7 := by have := hHeld.size; rw [hg7]; exact this
            have e12 := e12.below b7
            have o1 := own_below o1 b7
            refine hK.out _ _ (hHeld.alloc hHeld.size _) (fun hHeld => ?_)
            clear hK K
            rw [← hg7] at hz
            simp only [← hg7]
            generalize (w1.alloc (.cells #[.slice none 0 0, .slice none 0 0] 25)) = w7 at *
            clear hg7 b7
            try simp only [Act.put, List.getElem_toArray, List.getElem_cons_succ, List.getElem_cons_zero, List.setIfInBounds_toArray, List.set_cons_zero, List.set_cons_succ]
            refine wpAnyH_ready (rs := [7]) (by kernel_rfl) (by simp) ?_
            refine AllReadyH.cons (o := _) rfl (fun K hK => ?_) (AllReadyH.nil)
            refine step_fresh tI _ rfl _ _ rfl W.heap.size g12 e12 he12W rfl q d Q m HM.out rfl (hQ.below (bel_call bW (Nat.le_refl _) hHeld)) (by omega) ?_
            intro q1 d1 w2 o2 b2 _
            have o1 := own_below o1 b2
            have hz := hz.below b2
            refine hK.out _ _ (bel_call hHeld (Nat.le_refl _) b2) (fun hHeld => ?_)
            clear hK K
            try simp only [Act.put, List.getElem_toArray, List.getElem_cons_succ, List.getElem_cons_zero, List.setIfInBounds_toArray, List.set_cons_zero, List.set_cons_succ]
            refine wpAnyH_take (i := 8) (oi := _) (v := ?_) rfl (by kernel_rfl) (by kernel_rfl) (by kernel_rfl) (fun _ _ _ h => h) (Or.inl ⟨by rfl, ?_⟩) hHeld ?_
            rotate_left
            · intro w' hSw
              (go_simp <;> with_reducible rfl)
            try simp only [Act.put, List.getElem_toArray, List.getElem_cons_succ, List.getElem_cons_zero, List.setIfInBounds_toArray, List.set_cons_zero, List.set_cons_succ]
            refine wpAnyH_ready (rs := [10]) (by kernel_rfl) (by simp) ?_
            refine AllReadyH.cons (o := _) rfl (fun K hK => ?_) (AllReadyH.nil)
            have z0 := hz.c 0 rfl
            have z1 := hz.c 1 rfl
            have y0 := hz.fz 0
            have y1 := hz.fz 1
            go_simp
            have fp : Far p1 g7 := Far.type o1 hz (by decide)
            have fq : Far q1 g7 := Far.type o2 hz (by decide)
            have hz9 : Lv ((w2.setCell ⟨g7, 0, none⟩ (.slice p1 n c1)).setCell ⟨g7, 1, none⟩ (.slice q1 m d1)) g7 #[.slice p1 n c1, .slice q1 m d1] 25 := (hz.set 0 (.slice p1 n c1)).set 1 (.slice q1 m d1)
            have o1 := own_setFar (own_setFar o1 fp 0 (.slice p1 n c1)) fp 1 (.slice q1 m d1)
            have o2 := own_setFar (own_setFar o2 fq 0 (.slice p1 n c1)) fq 1 (.slice q1 m d1)
            have hS9 : Below W.heap.size W ((w2.setCell ⟨g7, 0, none⟩ (.slice p1 n c1)).setCell ⟨g7, 1, none⟩ (.slice q1 m d1)) := by refine Below.setCell (Below.setCell hHeld ?_ _) ?_ _ <;> exact hhzW
            refine hK.out _ _ hS9 (fun hHeld => ?_)
            clear hK K
            try simp only [Act.put, List.getElem_toArray, List.getElem_cons_succ, List.getElem_cons_zero, List.setIfInBounds_toArray, List.set_cons_zero, List.set_cons_succ]
            refine wpAnyH_done (by kernel_rfl) ?_ _
            go_wp2_with fail
            go_meet
            case rel => exact ⟨g7, p1, c1, q1, d1, rfl, hhzW, hz9, o1, o2, hHeld⟩
        · go_simp
          have b7 : Below w12.heap.size w12 (w12.alloc (.cells #[.slice none 0 0, .slice none 0 0] 25)) := bel_self _ _
          have hz : Lv (w12.alloc (.cells #[.slice none 0 0, .slice none 0 0] 25)) w12.heap.size #[.slice none 0 0, .slice none 0 0] 25 := Lv.new w12 _ _
          obtain ⟨g7, hg7⟩ : ∃ g, g = w12.heap.size := ⟨_, rfl⟩
          have hhzW : W.heap.size ≤ g7 := by have := hHeld.size; rw [hg7]; exact this
          have e8 := e8.below b7
          have e12 := e12.below b7
          refine hK.out _ _ (hHeld.alloc hHeld.size _) (fun hHeld => ?_)
          clear hK K
          rw [← hg7] at hz
          simp only [← hg7]
          generalize (w12.alloc (.cells #[.slice none 0 0, .slice none 0 0] 25)) = w7 at *
          clear hg7 b7
          try simp only [Act.put, List.getElem_toArray, List.getElem_cons_succ, List.getElem_cons_zero, List.setIfInBounds_toArray, List.set_cons_zero, List.set_cons_succ]
          refine wpAnyH_ready (rs := [3]) (by kernel_rfl) (by simp) ?_
          refine AllReadyH.cons (o := _) rfl (fun K hK => ?_) (AllReadyH.nil)
          refine step_fresh tL _ rfl _ _ rfl W.heap.size W.heap.size e8 he8W rfl p c L n HN.out rfl (hL.below (bel_call bW (Nat.le_refl _) hHeld)) (by omega) ?_
          intro p1 c1 w1 o1 b1 _
          have e12 := e12.below b1
          have hz := hz.below b1
          refine hK.out _ _ (bel_call hHeld (Nat.le_refl _) b1) (fun hHeld => ?_)
          clear hK K
          try simp only [Act.put, List.getElem_toArray, List.getElem_cons_succ, List.getElem_cons_zero, List.setIfInBounds_toArray, List.set_cons_zero, List.set_cons_succ]
          refine wpAnyH_ready (rs := [7]) (by kernel_rfl) (by simp) ?_
          refine AllReadyH.cons (o := _) rfl (fun K hK => ?_) (AllReadyH.nil)
          refine step_fresh tI _ rfl _ _ rfl W.heap.size g12 e12 he12W rfl q d Q m HM.out rfl (hQ.below (bel_call bW (Nat.le_refl _) hHeld)) (by omega) ?_
          intro q1 d1 w2 o2 b2 _
          have o1 := own_below o1 b2
          have hz := hz.below b2
          refine hK.out _ _ (bel_call hHeld (Nat.le_refl _) b2) (fun hHeld => ?_)
          clear hK K
          try simp only [Act.put, List.getElem_toArray, List.getElem_cons_succ, List.getElem_cons_zero, List.setIfInBounds_toArray, List.set_cons_zero, List.set_cons_succ]
          refine wpAnyH_take (i := 8) (oi := _) (v := ?_) rfl (by kernel_rfl) (by kernel_rfl) (by kernel_rfl) (fun _ _ _ h => h) (Or.inl ⟨by rfl, ?_⟩) hHeld ?_
          rotate_left
          · intro w' hSw
            (go_simp <;> with_reducible rfl)
          try simp only [Act.put, List.getElem_toArray, List.getElem_cons_succ, List.getElem_cons_zero, List.setIfInBounds_toArray, List.set_cons_zero, List.set_cons_succ]
          refine wpAnyH_ready (rs := [10]) (by kernel_rfl) (by simp) ?_
          refine AllReadyH.cons (o := _) rfl (fun K hK => ?_) (AllReadyH.nil)
          have z0 := hz.c 0 rfl
          have z1 := hz.c 1 rfl
          have y0 := hz.fz 0
          have y1 := hz.fz 1
          go_simp
          have fp : Far p1 g7 := Far.type o1 hz (by decide)
          have fq : Far q1 g7 := Far.type o2 hz (by decide)
          have hz9 : Lv ((w2.setCell ⟨g7, 0, none⟩ (.slice p1 n c1)).setCell ⟨g7, 1, none⟩ (.slice q1 m d1)) g7 #[.slice p1 n c1, .slice q1 m d1] 25 := (hz.set 0 (.slice p1 n c1)).set 1 (.slice q1 m d1)
          have o1 := own_setFar (own_setFar o1 fp 0 (.slice p1 n c1)) fp 1 (.slice q1 m d1)
          have o2 := own_setFar (own_setFar o2 fq 0 (.slice p1 n c1)) fq 1 (.slice q1 m d1)
          have hS9 : Below W.heap.size W ((w2.setCell ⟨g7, 0, none⟩ (.slice p1 n c1)).setCell ⟨g7, 1, none⟩ (.slice q1 m d1)) := by refine Below.setCell (Below.setCell hHeld ?_ _) ?_ _ <;> exact hhzW
          refine hK.out _ _ hS9 (fun hHeld => ?_)
          clear hK K
          try simp only [Act.put, List.getElem_toArray, List.getElem_cons_succ, List.getElem_cons_zero, List.setIfInBounds_toArray, List.set_cons_zero, List.set_cons_succ]
          refine wpAnyH_done (by kernel_rfl) ?_ _
          go_wp2_with fail
          go_meet
          case rel => exact ⟨g7, p1, c1, q1, d1, rfl, hhzW, hz9, o1, o2, hHeld⟩
      · go_simp
        have b7 : Below w8.heap.size w8 (w8.alloc (.cells #[.slice none 0 0, .slice none 0 0] 25)) := bel_self _ _
        have hz : Lv (w8.alloc (.cells #[.slice none 0 0, .slice none 0 0] 25)) w8.heap.size #[.slice none 0 0, .slice none 0 0] 25 := Lv.new w8 _ _
        obtain ⟨g7, hg7⟩ : ∃ g, g = w8.heap.size := ⟨_, rfl⟩
        have hhzW : W.heap.size ≤ g7 := by have := hHeld.size; rw [hg7]; exact this
        have e8 := e8.below b7
        refine hK.out _ _ (hHeld.alloc hHeld.size _) (fun hHeld => ?_)
        clear hK K
        rw [← hg7] at hz
        simp only [← hg7]
        generalize (w8.alloc (.cells #[.slice none 0 0, .slice none 0 0] 25)) = w7 at *
        clear hg7 b7
        try simp only [Act.put, List.getElem_toArray, List.getElem_cons_succ, List.getElem_cons_zero, List.setIfInBounds_toArray, List.set_cons_zero, List.set_cons_succ]
        refine wpAnyH_ready (rs := [3, 4]) (by kernel_rfl) (by simp) ?_
        refine AllReadyH.cons (o := _) rfl (fun K hK => ?_) (AllReadyH.cons (o := _) rfl (fun K hK => ?_) (AllReadyH.nil))
        · refine step_fresh tL _ rfl _ _ rfl W.heap.size W.heap.size e8 he8W rfl p c L n HN.out rfl (hL.below (bel_call bW (Nat.le_refl _) hHeld)) (by omega) ?_
          intro p1 c1 w1 o1 b1 _
          have hz := hz.below b1
          refine hK.out _ _ (bel_call hHeld (Nat.le_refl _) b1) (fun hHeld => ?_)
          clear hK K
          try simp only [Act.put, List.getElem_toArray, List.getElem_cons_succ, List.getElem_cons_zero, List.setIfInBounds_toArray, List.set_cons_zero, List.set_cons_succ]
          refine wpAnyH_ready (rs := [4]) (by kernel_rfl) (by simp) ?_
          refine AllReadyH.cons (o := _) rfl (fun K hK => ?_) (AllReadyH.nil)
          go_simp
          have b7 : Below w1.heap.size w1 (w1.alloc (.cells #[] 3)) := bel_self _ _
          have e12 : Lv (w1.alloc (.cells #[] 3)) w1.heap.size #[] 3 := Lv.new w1 _ _
          obtain ⟨g12, hg12⟩ : ∃ g, g = w1.heap.size := ⟨_, rfl⟩
          have he12W : W.heap.size ≤ g12 := by have := hHeld.size; rw [hg12]; exact this
          have o1 := own_below o1 b7
          have hz := hz.below b7
          refine hK.out _ _ (hHeld.alloc hHeld.size _) (fun hHeld => ?_)
          clear hK K
          rw [← hg12] at e12
          simp only [← hg12]
          generalize (w1.alloc (.cells #[] 3)) = w12 at *
          clear hg12 b7
          try simp only [Act.put, List.getElem_toArray, List.getElem_cons_succ, List.getElem_cons_zero, List.setIfInBounds_toArray, List.set_cons_zero, List.set_cons_succ]
          refine wpAnyH_ready (rs := [7]) (by kernel_rfl) (by simp) ?_
          refine AllReadyH.cons (o := _) rfl (fun K hK => ?_) (AllReadyH.nil)
          refine step_fresh tI _ rfl _ _ rfl W.heap.size g12 e12 he12W rfl q d Q m HM.out rfl (hQ.below (bel_call bW (Nat.le_refl _) hHeld)) (by omega) ?_
          intro q1 d1 w2 o2 b2 _
          have o1 := own_below o1 b2
          have hz := hz.below b2
          refine hK.out _ _ (bel_call hHeld (Nat.le_refl _) b2) (fun hHeld => ?_)
          clear hK K
          try simp only [Act.put, List.getElem_toArray, List.getElem_cons_succ, List.getElem_cons_zero, List.setIfInBounds_toArray, List.set_cons_zero, List.set_cons_succ]
          refine wpAnyH_take (i := 8) (oi := _) (v := ?_) rfl (by kernel_rfl) (by kernel_rfl) (by kernel_rfl) (fun _ _ _ h => h) (Or.inl ⟨by rfl, ?_⟩) hHeld ?_
          rotate_left
          · intro w' hSw
            (go_simp <;> with_reducible rfl)
          try simp only [Act.put, List.getElem_toArray, List.getElem_cons_succ, List.getElem_cons_zero, List.setIfInBounds_toArray, List.set_cons_zero, List.set_cons_succ]
          refine wpAnyH_ready (rs := [10]) (by kernel_rfl) (by simp) ?_
          refine AllReadyH.cons (o := _) rfl (fun K hK => ?_) (AllReadyH.nil)
          have z0 := hz.c 0 rfl
          have z1 := hz.c 1 rfl
          have y0 := hz.fz 0
          have y1 := hz.fz 1
          go_simp
          have fp : Far p1 g7 := Far.type o1 hz (by decide)
          have fq : Far q1 g7 := Far.type o2 hz (by decide)
          have hz9 : Lv ((w2.setCell ⟨g7, 0, none⟩ (.slice p1 n c1)).setCell ⟨g7, 1, none⟩ (.slice q1 m d1)) g7 #[.slice p1 n c1, .slice q1 m d1] 25 := (hz.set 0 (.slice p1 n c1)).set 1 (.slice q1 m d1)
          have o1 := own_setFar (own_setFar o1 fp 0 (.slice p1 n c1)) fp 1 (.slice q1 m d1)
          have o2 := own_setFar (own_setFar o2 fq 0 (.slice p1 n c1)) fq 1 (.slice q1 m d1)
          have hS9 : Below W.heap.size W ((w2.setCell ⟨g7, 0, none⟩ (.slice p1 n c1)).setCell ⟨g7, 1, none⟩ (.slice q1 m d1)) := by refine Below.setCell (Below.setCell hHeld ?_ _) ?_ _ <;> exact hhzW
          refine hK.out _ _ hS9 (fun hHeld => ?_)
          clear hK K
          try simp only [Act.put, List.getElem_toArray, List.getElem_cons_succ, List.getElem_cons_zero, List.setIfInBounds_toArray, List.set_cons_zero, List.set_cons_succ]
          refine wpAnyH_done (by kernel_rfl) ?_ _
          go_wp2_with fail
          go_meet
          case rel => exact ⟨g7, p1, c1, q1, d1, rfl, hhzW, hz9, o1, o2, hHeld⟩
        · go_simp
          have b7 : Below w7.heap.size w7 (w7.alloc (.cells #[] 3)) := bel_self _ _
          have e12 : Lv (w7.alloc (.cells #[] 3)) w7.heap.size #[] 3 := Lv.new w7 _ _
          obtain ⟨g12, hg12⟩ : ∃ g, g = w7.heap.size := ⟨_, rfl⟩
          have he12W : W.heap.size ≤ g12 := by have := hHeld.size; rw [hg12]; exact this
          have e8 := e8.below b7
          have hz := hz.below b7
          refine hK.out _ _ (hHeld.alloc hHeld.size _) (fun hHeld => ?_)
          clear hK K
          rw [← hg12] at e12
          simp only [← hg12]
          generalize (w7.alloc (.cells #[] 3)) = w12 at *
          clear hg12 b7
          try simp only [Act.put, List.getElem_toArray, List.getElem_cons_succ, List.getElem_cons_zero, List.setIfInBounds_toArray, List.set_cons_zero, List.set_cons_succ]
          refine wpAnyH_ready (rs := [3]) (by kernel_rfl) (by simp) ?_
          refine AllReadyH.cons (o := _) rfl (fun K hK => ?_) (AllReadyH.nil)
          refine step_fresh tL _ rfl _ _ rfl W.heap.size W.heap.size e8 he8W rfl p c L n HN.out rfl (hL.below (bel_call bW (Nat.le_refl _) hHeld)) (by omega) ?_
          intro p1 c1 w1 o1 b1 _
          have e12 := e12.below b1
          have hz := hz.below b1
          refine hK.out _ _ (bel_call hHeld (Nat.le_refl _) b1) (fun hHeld => ?_)
          clear hK K
          try simp only [Act.put, List.getElem_toArray, List.getElem_cons_succ, List.getElem_cons_zero, List.setIfInBounds_toArray, List.set_cons_zero, List.set_cons_succ]
          refine wpAnyH_ready (rs := [7]) (by kernel_rfl) (by simp) ?_
          refine AllReadyH.cons (o := _) rfl (fun K hK => ?_) (AllReadyH.nil)
          refine step_fresh tI _ rfl _ _ rfl W.heap.size g12 e12 he12W rfl q d Q m HM.out rfl (hQ.below (bel_call bW (Nat.le_refl _) hHeld)) (by omega) ?_
          intro q1 d1 w2 o2 b2 _
          have o1 := own_below o1 b2
          have hz := hz.below b2
          refine hK.out _ _ (bel_call hHeld (Nat.le_refl _) b2) (fun hHeld => ?_)
          clear hK K
          try simp only [Act.put, List.getElem_toArray, List.getElem_cons_succ, List.getElem_cons_zero, List.setIfInBounds_toArray, List.set_cons_zero, List.set_cons_succ]
          refine wpAnyH_take (i := 8) (oi := _) (v := ?_) rfl (by kernel_rfl) (by kernel_rfl) (by kernel_rfl) (fun _ _ _ h => h) (Or.inl ⟨by rfl, ?_⟩) hHeld ?_
          rotate_left
          · intro w' hSw
            (go_simp <;> with_reducible rfl)
          try simp only [Act.put, List.getElem_toArray, List.getElem_cons_succ, List.getElem_cons_zero, List.setIfInBounds_toArray, List.set_cons_zero, List.set_cons_succ]
          refine wpAnyH_ready (rs := [10]) (by kernel_rfl) (by simp) ?_
          refine AllReadyH.cons (o := _) rfl (fun K hK => ?_) (AllReadyH.nil)
          have z0 := hz.c 0 rfl
          have z1 := hz.c 1 rfl
          have y0 := hz.fz 0
          have y1 := hz.fz 1
          go_simp
          have fp : Far p1 g7 := Far.type o1 hz (by decide)
          have fq : Far q1 g7 := Far.type o2 hz (by decide)
          have hz9 : Lv ((w2.setCell ⟨g7, 0, none⟩ (.slice p1 n c1)).setCell ⟨g7, 1, none⟩ (.slice q1 m d1)) g7 #[.slice p1 n c1, .slice q1 m d1] 25 := (hz.set 0 (.slice p1 n c1)).set 1 (.slice q1 m d1)
          have o1 := own_setFar (own_setFar o1 fp 0 (.slice p1 n c1)) fp 1 (.slice q1 m d1)
          have o2 := own_setFar (own_setFar o2 fq 0 (.slice p1 n c1)) fq 1 (.slice q1 m d1)
          have hS9 : Below W.heap.size W ((w2.setCell ⟨g7, 0, none⟩ (.slice p1 n c1)).setCell ⟨g7, 1, none⟩ (.slice q1 m d1)) := by refine Below.setCell (Below.setCell hHeld ?_ _) ?_ _ <;> exact hhzW
          refine hK.out _ _ hS9 (fun hHeld => ?_)
          clear hK K
          try simp only [Act.put, List.getElem_toArray, List.getElem_cons_succ, List.getElem_cons_zero, List.setIfInBounds_toArray, List.set_cons_zero, List.set_cons_succ]
          refine wpAnyH_done (by kernel_rfl) ?_ _
          go_wp2_with fail
          go_meet
          case rel => exact ⟨g7, p1, c1, q1, d1, rfl, hhzW, hz9, o1, o2, hHeld⟩
    · go_simp
      have b7 : Below W.heap.size W (W.alloc (.cells #[] 3)) := bel_self _ _
      have e12 : Lv ((W.alloc (.cells #[] 3)).drew) W.heap.size #[] 3 := Lv.new W _ _
      have he12W : W.heap.size ≤ W.heap.size := Nat.le_refl _
      refine hK.out _ _ (hHeld.alloc hHeld.size _) (fun hHeld => ?_)
      clear hK K
      generalize ((W.alloc (.cells #[] 3)).drew) = w12 at *
      clear b7
      try simp only [Act.put, List.getElem_toArray, List.getElem_cons_succ, List.getElem_cons_zero, List.setIfInBounds_toArray, List.set_cons_zero, List.set_cons_succ]
      refine wpAnyH_ready (rs := [0, 9]) (by kernel_rfl) (by simp) ?_
      refine AllReadyH.cons (o := _) rfl (fun K hK => ?_) (AllReadyH.cons (o := _) rfl (fun K hK => ?_) (AllReadyH.nil))
      · go_simp
        have b7 : Below w12.heap.size w12 (w12.alloc (.cells #[] 2)) := bel_self _ _
        have e8 : Lv (w12.alloc (.cells #[] 2)) w12.heap.size #[] 2 := Lv.new w12 _ _
        obtain ⟨g8, hg8⟩ : ∃ g, g = w12.heap.size := ⟨_, rfl⟩
        have he8W : W.heap.size ≤ g8 := by have := hHeld.size; rw [hg8]; exact this
        have e12 := e12.below b7
        refine hK.out _ _ (hHeld.alloc hHeld.size _) (fun hHeld => ?_)
        clear hK K
        rw [← hg8] at e8
        simp only [← hg8]
        generalize (w12.alloc (.cells #[] 2)) = w8 at *
        clear hg8 b7
        try simp only [Act.put, List.getElem_toArray, List.getElem_cons_zero, List.setIfInBounds_toArray, List.set_cons_zero, List.set_cons_succ]
        refine wpAnyH_ready (rs := [3, 9]) (by kernel_rfl) (by simp) ?_
        refine AllReadyH.cons (o := _) rfl (fun K hK => ?_) (AllReadyH.cons (o := _) rfl (fun K hK => ?_) (AllReadyH.nil))
        · refine step_fresh tL _ rfl _ _ rfl W.heap.size g8 e8 he8W rfl p c L n HN.out rfl (hL.below (bel_call bW (Nat.le_refl _) hHeld)) (by omega) ?_
          intro p1 c1 w1 o1 b1 _
          have e12 := e12.below b1
          refine hK.out _ _ (bel_call hHeld (Nat.le_refl _) b1) (fun hHeld => ?_)
          clear hK K
          try simp only [Act.put, List.getElem_toArray, List.getElem_cons_succ, List.getElem_cons_zero, List.setIfInBounds_toArray, List.set_cons_zero, List.set_cons_succ]
          refine wpAnyH_ready (rs := [7, 9]) (by kernel_rfl) (by simp) ?_
          refine AllReadyH.cons (o := _) rfl (fun K hK => ?_) (AllReadyH.cons (o := _) rfl (fun K hK => ?_) (AllReadyH.nil))
          · refine step_fresh tI _ rfl _ _ rfl W.heap.size W.heap.size e12 he12W rfl q d Q m HM.out rfl (hQ.below (bel_call bW (Nat.le_refl _) hHeld)) (by omega) ?_
            intro q1 d1 w2 o2 b2 _
            have o1 := own_below o1 b2
            refine hK.out _ _ (bel_call hHeld (Nat.le_refl _) b2) (fun hHeld => ?_)
            clear hK K
            try simp only [Act.put, List.getElem_toArray, List.getElem_cons_succ, List.getElem_cons_zero, List.setIfInBounds_toArray, List.set_cons_zero, List.set_cons_succ]
            refine wpAnyH_take (i := 8) (oi := _) (v := ?_) rfl (by kernel_rfl) (by kernel_rfl) (by kernel_rfl) (fun _ _ _ h => h) (Or.inl ⟨by rfl, ?_⟩) hHeld ?_
            rotate_left
            · intro w' hSw
              (go_simp <;> with_reducible rfl)
            try simp only [Act.put, List.getElem_toArray, List.getElem_cons_succ, List.getElem_cons_zero, List.setIfInBounds_toArray, List.set_cons_zero, List.set_cons_succ]
            refine wpAnyH_ready (rs := [9]) (by kernel_rfl) (by simp) ?_
            refine AllReadyH.cons (o := _) rfl (fun K hK => ?_) (AllReadyH.nil)
            go_simp
            have b7 : Below w2.heap.size w2 (w2.alloc (.cells #[.slice none 0 0, .slice none 0 0] 25)) := bel_self _ _
            have hz : Lv (w2.alloc (.cells #[.slice none 0 0, .slice none 0 0] 25)) w2.heap.size #[.slice none 0 0, .slice none 0 0] 25 := Lv.new w2 _ _
            obtain ⟨g7, hg7⟩ : ∃ g, g = w2.heap.size := ⟨_, rfl⟩
            have hhzW : W.heap.size ≤ g7 := by have := hHeld.size; rw [hg7]; exact this
            have o1 := own_below o1 b7
            have o2 := own_below o2 b7
            refine hK.out _ _ (hHeld.alloc hHeld.size _) (fun hHeld => ?_)
            clear hK K
            rw [← hg7] at hz
            simp only [← hg7]
            generalize (w2.alloc (.cells #[.slice none 0 0, .slice none 0 0] 25)) = w7 at *
            clear hg7 b7
            try simp only [Act.put, List.getElem_toArray, List.getElem_cons_succ, List.getElem_cons_zero, List.setIfInBounds_toArray, List.set_cons_zero, List.set_cons_succ]
            refine wpAnyH_ready (rs := [10]) (by kernel_rfl) (by simp) ?_
            refine AllReadyH.cons (o := _) rfl (fun K hK => ?_) (AllReadyH.nil)
            have z0 := hz.c 0 rfl
            have z1 := hz.c 1 rfl
            have y0 := hz.fz 0
            have y1 := hz.fz 1
            go_simp
            have fp : Far p1 g7 := Far.type o1 hz (by decide)
            have fq : Far q1 g7 := Far.type o2 hz (by decide)
            have hz9 : Lv ((w7.setCell ⟨g7, 0, none⟩ (.slice p1 n c1)).setCell ⟨g7, 1, none⟩ (.slice q1 m d1)) g7 #[.slice p1 n c1, .slice q1 m d1] 25 := (hz.set 0 (.slice p1 n c1)).set 1 (.slice q1 m d1)
            have o1 := own_setFar (own_setFar o1 fp 0 (.slice p1 n c1)) fp 1 (.slice q1 m d1)
            have o2 := own_setFar (own_setFar o2 fq 0 (.slice p1 n c1)) fq 1 (.slice q1 m d1)
            have hS9 : Below W.heap.size W ((w7.setCell ⟨g7, 0, none⟩ (.slice p1 n c1)).setCell ⟨g7, 1, none⟩ (.slice q1 m d1)) := by refine Below.setCell (Below.setCell hHeld ?_ _) ?_ _ <;> exact hhzW
            refine hK.out _ _ hS9 (fun hHeld => ?_)
            clear hK K
            try simp only [Act.put, List.getElem_toArray, List.getElem_cons_succ, List.getElem_cons_zero, List.setIfInBounds_toArray, List.set_cons_zero, List.set_cons_succ]
            refine wpAnyH_done (by kernel_rfl) ?_ _
            go_wp2_with fail
            go_meet
            case rel => exact ⟨g7, p1, c1, q1, d1, rfl, hhzW, hz9, o1, o2, hHeld⟩
          · go_simp
            have b7 : Below w1.heap.size w1 (w1.alloc (.cells #[.slice none 0 0, .slice none 0 0] 25)) := bel_self _ _
            have hz : Lv (w1.alloc (.cells #[.slice none 0 0, .slice none 0 0] 25)) w1.heap.size #[.slice none 0 0, .slice none 0 0] 25 := Lv.new w1 _ _
            obtain ⟨g7, hg7⟩ : ∃ g, g = w1.heap.size := ⟨_, rfl⟩
            have hhzW : W.heap.size ≤ g7 := by have := hHeld.size; rw [hg7]; exact this
            have e12 := e12.below b7
            have o1 := own_below o1 b7
            refine hK.out _ _ (hHeld.alloc hHeld.size _) (fun hHeld => ?_)
            clear hK K
            rw [← hg7] at hz
            simp only [← hg7]
            generalize (w1.alloc (.cells #[.slice none 0 0, .slice none 0 0] 25)) = w7 at *
            clear hg7 b7
            try simp only [Act.put, List.getElem_toArray, List.getElem_cons_succ, List.getElem_cons_zero, List.setIfInBounds_toArray, List.set_cons_zero, List.set_cons_succ]
            refine wpAnyH_ready (rs := [7]) (by kernel_rfl) (by simp) ?_
            refine AllReadyH.cons (o := _) rfl (fun K hK => ?_) (AllReadyH.nil)
            refine step_fresh tI _ rfl _ _ rfl W.heap.size W.heap.size e12 he12W rfl q d Q m HM.out rfl (hQ.below (bel_call bW (Nat.le_refl _) hHeld)) (by omega) ?_
            intro q1 d1 w2 o2 b2 _
            have o1 := own_below o1 b2
            have hz := hz.below b2
            refine hK.out _ _ (bel_call hHeld (Nat.le_refl _) b2) (fun hHeld => ?_)
            clear hK K
            try simp only [Act.put, List.getElem_toArray, List.getElem_cons_succ, List.getElem_cons_zero, List.setIfInBounds_toArray, List.set_cons_zero, List.set_cons_succ]
            refine wpAnyH_take (i := 8) (oi := _) (v := ?_) rfl (by kernel_rfl) (by kernel_rfl) (by kernel_rfl) (fun _ _ _ h => h) (Or.inl ⟨by rfl, ?_⟩) hHeld ?_
            rotate_left
            · intro w' hSw
              (go_simp <;> with_reducible rfl)
            try simp only [Act.put, List.getElem_toArray, List.getElem_cons_succ, List.getElem_cons_zero, List.setIfInBounds_toArray, List.set_cons_zero, List.set_cons_succ]
            refine wpAnyH_ready (rs := [10]) (by kernel_rfl) (by simp) ?_
            refine AllReadyH.cons (o := _) rfl (fun K hK => ?_) (AllReadyH.nil)
            have z0 := hz.c 0 rfl
            have z1 := hz.c 1 rfl
            have y0 := hz.fz 0
            have y1 := hz.fz 1
            go_simp
            have fp : Far p1 g7 := Far.type o1 hz (by decide)
            have fq : Far q1 g7 := Far.type o2 hz (by decide)
            have hz9 : Lv ((w2.setCell ⟨g7, 0, none⟩ (.slice p1 n c1)).setCell ⟨g7, 1, none⟩ (.slice q1 m d1)) g7 #[.slice p1 n c1, .slice q1 m d1] 25 := (hz.set 0 (.slice p1 n c1)).set 1 (.slice q1 m d1)
            have o1 := own_setFar (own_setFar o1 fp 0 (.slice p1 n c1)) fp 1 (.slice q1 m d1)
            have o2 := own_setFar (own_setFar o2 fq 0 (.slice p1 n c1)) fq 1 (.slice q1 m d1)
            have hS9 : Below W.heap.size W ((w2.setCell ⟨g7, 0, none⟩ (.slice p1 n c1)).setCell ⟨g7, 1, none⟩ (.slice q1 m d1)) := by refine Below.setCell (Below.setCell hHeld ?_ _) ?_ _ <;> exact hhzW
            refine hK.out _ _ hS9 (fun hHeld => ?_)
            clear hK K
            try simp only [Act.put, List.getElem_toArray, List.getElem_cons_succ, List.getElem_cons_zero, List.setIfInBounds_toArray, List.set_cons_zero, List.set_cons_succ]
            refine wpAnyH_done (by kernel_rfl) ?_ _
            go_wp2_with fail
            go_meet
            case rel => exact ⟨g7, p1, c1, q1, d1, rfl, hhzW, hz9, o1, o2, hHeld⟩
        · go_simp
          have b7 : Below w8.heap.size w8 (w8.alloc (.cells #[.slice none 0 0, .slice none 0 0] 25)) := bel_self _ _
          have hz : Lv (w8.alloc (.cells #[.slice none 0 0, .slice none 0 0] 25)) w8.heap.size #[.slice none 0 0, .slice none 0 0] 25 := Lv.new w8 _ _
          obtain ⟨g7, hg7⟩ : ∃ g, g = w8.heap.size := ⟨_, rfl⟩
          have hhzW : W.heap.size ≤ g7 := by have := hHeld.size; rw [hg7]; exact this
          have e8 := e8.below b7
          have e12 := e12.below b7
          refine hK.out _ _ (hHeld.alloc hHeld.size _) (fun hHeld => ?_)
          clear hK K
          rw [← hg7] at hz
          simp only [← hg7]
          generalize (w8.alloc (.cells #[.slice none 0 0, .slice none 0 0] 25)) = w7 at *
          clear hg7 b7
          try simp only [Act.put, List.getElem_toArray, List.getElem_cons_succ, List.getElem_cons_zero, List.setIfInBounds_toArray, List.set_cons_zero, List.set_cons_succ]
          refine wpAnyH_ready (rs := [3]) (by kernel_rfl) (by simp) ?_
          refine AllReadyH.cons (o := _) rfl (fun K hK => ?_) (AllReadyH.nil)
          refine step_fresh tL _ rfl _ _ rfl W.heap.size g8 e8 he8W rfl p c L n HN.out rfl (hL.below (bel_call bW (Nat.le_refl _) hHeld)) (by omega) ?_
          intro p1 c1 w1 o1 b1 _
          have e12 := e12.below b1
          have hz := hz.below b1
          refine hK.out _ _ (bel_call hHeld (Nat.le_refl _) b1) (fun hHeld => ?_)
          clear hK K
          try simp only [Act.put, List.getElem_toArray, List.getElem_cons_succ, List.getElem_cons_zero, List.setIfInBounds_toArray, List.set_cons_zero, List.set_cons_succ]
          refine wpAnyH_ready (rs := [7]) (by kernel_rfl) (by simp) ?_
          refine AllReadyH.cons (o := _) rfl (fun K hK => ?_) (AllReadyH.nil)
          refine step_fresh tI _ rfl _ _ rfl W.heap.size W.heap.size e12 he12W rfl q d Q m HM.out rfl (hQ.below (bel_call bW (Nat.le_refl _) hHeld)) (by omega) ?_
          intro q1 d1 w2 o2 b2 _
          have o1 := own_below o1 b2
          have hz := hz.below b2
          refine hK.out _ _ (bel_call hHeld (Nat.le_refl _) b2) (fun hHeld => ?_)
          clear hK K
          try simp only [Act.put, List.getElem_toArray, List.getElem_cons_succ, List.getElem_cons_zero, List.setIfInBounds_toArray, List.set_cons_zero, List.set_cons_succ]
          refine wpAnyH_take (i := 8) (oi := _) (v := ?_) rfl (by kernel_rfl) (by kernel_rfl) (by kernel_rfl) (fun _ _ _ h => h) (Or.inl ⟨by rfl, ?_⟩) hHeld ?_
          rotate_left
          · intro w' hSw
            (go_simp <;> with_reducible rfl)
          try simp only [Act.put, List.getElem_toArray, List.getElem_cons_succ, List.getElem_cons_zero, List.setIfInBounds_toArray, List.set_cons_zero, List.set_cons_succ]
          refine wpAnyH_ready (rs := [10]) (by kernel_rfl) (by simp) ?_
          refine AllReadyH.cons (o := _) rfl (fun K hK => ?_) (AllReadyH.nil)
          have z0 := hz.c 0 rfl
          have z1 := hz.c 1 rfl
          have y0 := hz.fz 0
          have y1 := hz.fz 1
          go_simp
          have fp : Far p1 g7 := Far.type o1 hz (by decide)
          have fq : Far q1 g7 := Far.type o2 hz (by decide)
          have hz9 : Lv ((w2.setCell ⟨g7, 0, none⟩ (.slice p1 n c1)).setCell ⟨g7, 1, none⟩ (.slice q1 m d1)) g7 #[.slice p1 n c1, .slice q1 m d1] 25 := (hz.set 0 (.slice p1 n c1)).set 1 (.slice q1 m d1)
          have o1 := own_setFar (own_setFar o1 fp 0 (.slice p1 n c1)) fp 1 (.slice q1 m d1)
          have o2 := own_setFar (own_setFar o2 fq 0 (.slice p1 n c1)) fq 1 (.slice q1 m d1)
          have hS9 : Below W.heap.size W ((w2.setCell ⟨g7, 0, none⟩ (.slice p1 n c1)).setCell ⟨g7, 1, none⟩ (.slice q1 m d1)) := by refine Below.setCell (Below.setCell hHeld ?_ _) ?_ _ <;> exact hhzW
          refine hK.out _ _ hS9 (fun hHeld => ?_)
          clear hK K
          try simp only [Act.put, List.getElem_toArray, List.getElem_cons_succ, List.getElem_cons_zero, List.setIfInBounds_toArray, List.set_cons_zero, List.set_cons_succ]
          refine wpAnyH_done (by kernel_rfl) ?_ _
          go_wp2_with fail
          go_meet
          case rel => exact ⟨g7, p1, c1, q1, d1, rfl, hhzW, hz9, o1, o2, hHeld⟩
      · go_simp
        have b7 : Below w12.heap.size w12 (w12.alloc (.cells #[.slice none 0 0, .slice none 0 0] 25)) := bel_self _ _
        have hz : Lv (w12.alloc (.cells #[.slice none 0 0, .slice none 0 0] 25)) w12.heap.size #[.slice none 0 0, .slice none 0 0] 25 := Lv.new w12 _ _
        obtain ⟨g7, hg7⟩ : ∃ g, g = w12.heap.size := ⟨_, rfl⟩
        have hhzW : W.heap.size ≤ g7 := by have := hHeld.size; rw [hg7]; exact this
        have e12 := e12.below b7
        refine hK.out _ _ (hHeld.alloc hHeld.size _) (fun hHeld => ?_)
        clear hK K
        rw [← hg7] at hz
        simp only [← hg7]
        generalize (w12.alloc (.cells #[.slice none 0 0, .slice none 0 0] 25)) = w7 at *
        clear hg7 b7
        try simp only [Act.put, List.getElem_toArray, List.getElem_cons_succ, List.getElem_cons_zero, List.setIfInBounds_toArray, List.set_cons_zero, List.set_cons_succ]
        refine wpAnyH_ready (rs := [0]) (by kernel_rfl) (by simp) ?_
        refine AllReadyH.cons (o := _) rfl (fun K hK => ?_) (AllReadyH.nil)
        go_simp
        have b7 : Below w7.heap.size w7 (w7.alloc (.cells #[] 2)) := bel_self _ _
        have e8 : Lv (w7.alloc (.cells #[] 2)) w7.heap.size #[] 2 := Lv.new w7 _ _
        obtain ⟨g8, hg8⟩ : ∃ g, g = w7.heap.size := ⟨_, rfl⟩
        have he8W : W.heap.size ≤ g8 := by have := hHeld.size; rw [hg8]; exact this
        have e12 := e12.below b7
        have hz := hz.below b7
        refine hK.out _ _ (hHeld.alloc hHeld.size _) (fun hHeld => ?_)
        clear hK K
        rw [← hg8] at e8
        simp only [← hg8]
        generalize (w7.alloc (.cells #[] 2)) = w8 at *
        clear hg8 b7
        try simp only [Act.put, List.getElem_toArray, List.getElem_cons_zero, List.setIfInBounds_toArray, List.set_cons_zero, List.set_cons_succ]
        refine wpAnyH_ready (rs := [3]) (by kernel_rfl) (by simp) ?_
        refine AllReadyH.cons (o := _) rfl (fun K hK => ?_) (AllReadyH.nil)
        refine step_fresh tL _ rfl _ _ rfl W.heap.size g8 e8 he8W rfl p c L n HN.out rfl (hL.below (bel_call bW (Nat.le_refl _) hHeld)) (by omega) ?_
        intro p1 c1 w1 o1 b1 _
        have e12 := e12.below b1
        have hz := hz.below b1
        refine hK.out _ _ (bel_call hHeld (Nat.le_refl _) b1) (fun hHeld => ?_)
        clear hK K
        try simp only [Act.put, List.getElem_toArray, List.getElem_cons_succ, List.getElem_cons_zero, List.setIfInBounds_toArray, List.set_cons_zero, List.set_cons_succ]
        refine wpAnyH_ready (rs := [7]) (by kernel_rfl) (by simp) ?_
        refine AllReadyH.cons (o := _) rfl (fun K hK => ?_) (AllReadyH.nil)
        refine step_fresh tI _ rfl _ _ rfl W.heap.size W.heap.size e12 he12W rfl q d Q m HM.out rfl (hQ.below (bel_call bW (Nat.le_refl _) hHeld)) (by omega) ?_
        intro q1 d1 w2 o2 b2 _
        have o1 := own_below o1 b2
        have hz := hz.below b2
        refine hK.out _ _ (bel_call hHeld (Nat.le_refl _) b2) (fun hHeld => ?_)
        clear hK K
        try simp only [Act.put, List.getElem_toArray, List.getElem_cons_succ, List.getElem_cons_zero, List.setIfInBounds_toArray, List.set_cons_zero, List.set_cons_succ]
        refine wpAnyH_take (i := 8) (oi := _) (v := ?_) rfl (by kernel_rfl) (by kernel_rfl) (by kernel_rfl) (fun _ _ _ h => h) (Or.inl ⟨by rfl, ?_⟩) hHeld ?_
        rotate_left
        · intro w' hSw
          (go_simp <;> with_reducible rfl)
        try simp only [Act.put, List.getElem_toArray, List.getElem_cons_succ, List.getElem_cons_zero, List.setIfInBounds_toArray, List.set_cons_zero, List.set_cons_succ]
        refine wpAnyH_ready (rs := [10]) (by kernel_rfl) (by simp) ?_
        refine AllReadyH.cons (o := _) rfl (fun K hK => ?_) (AllReadyH.nil)
        have z0 := hz.c 0 rfl
        have z1 := hz.c 1 rfl
        have y0 := hz.fz 0
        have y1 := hz.fz 1
        go_simp
        have fp : Far p1 g7 := Far.type o1 hz (by decide)
        have fq : Far q1 g7 := Far.type o2 hz (by decide)
        have hz9 : Lv ((w2.setCell ⟨g7, 0, none⟩ (.slice p1 n c1)).setCell ⟨g7, 1, none⟩ (.slice q1 m d1)) g7 #[.slice p1 n c1, .slice q1 m d1] 25 := (hz.set 0 (.slice p1 n c1)).set 1 (.slice q1 m d1)
        have o1 := own_setFar (own_setFar o1 fp 0 (.slice p1 n c1)) fp 1 (.slice q1 m d1)
        have o2 := own_setFar (own_setFar o2 fq 0 (.slice p1 n c1)) fq 1 (.slice q1 m d1)
        have hS9 : Below W.heap.size W ((w2.setCell ⟨g7, 0, none⟩ (.slice p1 n c1)).setCell ⟨g7, 1, none⟩ (.slice q1 m d1)) := by refine Below.setCell (Below.setCell hHeld ?_ _) ?_ _ <;> exact hhzW
        refine hK.out _ _ hS9 (fun hHeld => ?_)
        clear hK K
        try simp only [Act.put, List.getElem_toArray, List.getElem_cons_succ, List.getElem_cons_zero, List.setIfInBounds_toArray, List.set_cons_zero, List.set_cons_succ]
        refine wpAnyH_done (by kernel_rfl) ?_ _
        go_wp2_with fail
        go_meet
        case rel => exact ⟨g7, p1, c1, q1, d1, rfl, hhzW, hz9, o1, o2, hHeld⟩
    · go_simp
      have b7 : Below W.heap.size W (W.alloc (.cells #[.slice none 0 0, .slice none 0 0] 25)) := bel_self _ _
      have hz : Lv ((W.alloc (.cells #[.slice none 0 0, .slice none 0 0] 25)).drew) W.heap.size #[.slice none 0 0, .slice none 0 0] 25 := Lv.new W _ _
      have hhzW : W.heap.size ≤ W.heap.size := Nat.le_refl _
      refine hK.out _ _ (hHeld.alloc hHeld.size _) (fun hHeld => ?_)
      clear hK K
      generalize ((W.alloc (.cells #[.slice none 0 0, .slice none 0 0] 25)).drew) = w7 at *
      clear b7
      try simp only [Act.put, List.getElem_toArray, List.getElem_cons_succ, List.getElem_cons_zero, List.setIfInBounds_toArray, List.set_cons_zero, List.set_cons_succ]
      refine wpAnyH_ready (rs := [0, 4]) (by kernel_rfl) (by simp) ?_
      refine AllReadyH.cons (o := _) rfl (fun K hK => ?_) (AllReadyH.cons (o := _) rfl (fun K hK => ?_) (AllReadyH.nil))
      · go_simp
        have b7 : Below w7.heap.size w7 (w7.alloc (.cells #[] 2)) := bel_self _ _
        have e8 : Lv (w7.alloc (.cells #[] 2)) w7.heap.size #[] 2 := Lv.new w7 _ _
        obtain ⟨g8, hg8⟩ : ∃ g, g = w7.heap.size := ⟨_, rfl⟩
        have he8W : W.heap.size ≤ g8 := by have := hHeld.size; rw [hg8]; exact this
        have hz := hz.below b7
        refine hK.out _ _ (hHeld.alloc hHeld.size _) (fun hHeld => ?_)
        clear hK K
        rw [← hg8] at e8
        simp only [← hg8]
        generalize (w7.alloc (.cells #[] 2)) = w8 at *
        clear hg8 b7
        try simp only [Act.put, List.getElem_toArray, List.getElem_cons_zero, List.setIfInBounds_toArray, List.set_cons_zero, List.set_cons_succ]
        refine wpAnyH_ready (rs := [3, 4]) (by kernel_rfl) (by simp) ?_
        refine AllReadyH.cons (o := _) rfl (fun K hK => ?_) (AllReadyH.cons (o := _) rfl (fun K hK => ?_) (AllReadyH.nil))
        · refine step_fresh tL _ rfl _ _ rfl W.heap.size g8 e8 he8W rfl p c L n HN.out rfl (hL.below (bel_call bW (Nat.le_refl _) hHeld)) (by omega) ?_
          intro p1 c1 w1 o1 b1 _
          have hz := hz.below b1
          refine hK.out _ _ (bel_call hHeld (Nat.le_refl _) b1) (fun hHeld => ?_)
          clear hK K
          try simp only [Act.put, List.getElem_toArray, List.getElem_cons_succ, List.getElem_cons_zero, List.setIfInBounds_toArray, List.set_cons_zero, List.set_cons_succ]
          refine wpAnyH_ready (rs := [4]) (by kernel_rfl) (by simp) ?_
          refine AllReadyH.cons (o := _) rfl (fun K hK => ?_) (AllReadyH.nil)
          go_simp
          have b7 : Below w1.heap.size w1 (w1.alloc (.cells #[] 3)) := bel_self _ _
          have e12 : Lv (w1.alloc (.cells #[] 3)) w1.heap.size #[] 3 := Lv.new w1 _ _
          obtain ⟨g12, hg12⟩ : ∃ g, g = w1.heap.size := ⟨_, rfl⟩
          have he12W : W.heap.size ≤ g12 := by have := hHeld.size; rw [hg12]; exact this
          have o1 := own_below o1 b7
          have hz := hz.below b7
          refine hK.out _ _ (hHeld.alloc hHeld.size _) (fun hHeld => ?_)
          clear hK K
          rw [← hg12] at e12
          simp only [← hg12]
          generalize (w1.alloc (.cells #[] 3)) = w12 at *
          clear hg12 b7
          try simp only [Act.put, List.getElem_toArray, List.getElem_cons_succ, List.getElem_cons_zero, List.setIfInBounds_toArray, List.set_cons_zero, List.set_cons_succ]
          refine wpAnyH_ready (rs := [7]) (by kernel_rfl) (by simp) ?_
          refine AllReadyH.cons (o := _) rfl (fun K hK => ?_) (AllReadyH.nil)
          refine step_fresh tI _ rfl _ _ rfl W.heap.size g12 e12 he12W rfl q d Q m HM.out rfl (hQ.below (bel_call bW (Nat.le_refl _) hHeld)) (by omega) ?_
          intro q1 d1 w2 o2 b2 _
          have o1 := own_below o1 b2
          have hz := hz.below b2
          refine hK.out _ _ (bel_call hHeld (Nat.le_refl _) b2) (fun hHeld => ?_)
          clear hK K
          try simp only [Act.put, List.getElem_toArray, List.getElem_cons_succ, List.getElem_cons_zero, List.setIfInBounds_toArray, List.set_cons_zero, List.set_cons_succ]
          refine wpAnyH_take (i := 8) (oi := _) (v := ?_) rfl (by kernel_rfl) (by kernel_rfl) (by kernel_rfl) (fun _ _ _ h => h) (Or.inl ⟨by rfl, ?_⟩) hHeld ?_
          rotate_left
          · intro w' hSw
            (go_simp <;> with_reducible rfl)
          try simp only [Act.put, List.getElem_toArray, List.getElem_cons_succ, List.getElem_cons_zero, List.setIfInBounds_toArray, List.set_cons_zero, List.set_cons_succ]
          refine wpAnyH_ready (rs := [10]) (by kernel_rfl) (by simp) ?_
          refine AllReadyH.cons (o := _) rfl (fun K hK => ?_) (AllReadyH.nil)
          have z0 := hz.c 0 rfl
          have z1 := hz.c 1 rfl
          have y0 := hz.fz 0
          have y1 := hz.fz 1
          go_simp
          have fp : Far p1 W.heap.size := Far.type o1 hz (by decide)
          have fq : Far q1 W.heap.size := Far.type o2 hz (by decide)
          have hz9 : Lv ((w2.setCell ⟨W.heap.size, 0, none⟩ (.slice p1 n c1)).setCell ⟨W.heap.size, 1, none⟩ (.slice q1 m d1)) W.heap.size #[.slice p1 n c1, .slice q1 m d1] 25 := (hz.set 0 (.slice p1 n c1)).set 1 (.slice q1 m d1)
          have o1 := own_setFar (own_setFar o1 fp 0 (.slice p1 n c1)) fp 1 (.slice q1 m d1)
          have o2 := own_setFar (own_setFar o2 fq 0 (.slice p1 n c1)) fq 1 (.slice q1 m d1)
          have hS9 : Below W.heap.size W ((w2.setCell ⟨W.heap.size, 0, none⟩ (.slice p1 n c1)).setCell ⟨W.heap.size, 1, none⟩ (.slice q1 m d1)) := by refine Below.setCell (Below.setCell hHeld ?_ _) ?_ _ <;> exact hhzW
          refine hK.out _ _ hS9 (fun hHeld => ?_)
          clear hK K
          try simp only [Act.put, List.getElem_toArray, List.getElem_cons_succ, List.getElem_cons_zero, List.setIfInBounds_toArray, List.set_cons_zero, List.set_cons_succ]
          refine wpAnyH_done (by kernel_rfl) ?_ _
          go_wp2_with fail
          go_meet
          case rel => exact ⟨W.heap.size, p1, c1, q1, d1, rfl, hhzW, hz9, o1, o2, hHeld⟩
        · go_simp
          have b7 : Below w8.heap.size w8 (w8.alloc (.cells #[] 3)) := bel_self _ _
          have e12 : Lv (w8.alloc (.cells #[] 3)) w8.heap.size #[] 3 := Lv.new w8 _ _
          obtain ⟨g12, hg12⟩ : ∃ g, g = w8.heap.size := ⟨_, rfl⟩
          have he12W : W.heap.size ≤ g12 := by have := hHeld.size; rw [hg12]; exact this
          have e8 := e8.below b7
          have hz := hz.below b7
          refine hK.out _ _ (hHeld.alloc hHeld.size _) (fun hHeld => ?_)
          clear hK K
          rw [← hg12] at e12
          simp only [← hg12]
          generalize (w8.alloc (.cells #[] 3)) = w12 at *
          clear hg12 b7
          try simp only [Act.put, List.getElem_toArray, List.getElem_cons_succ, List.getElem_cons_zero, List.setIfInBounds_toArray, List.set_cons_zero, List.set_cons_succ]
          refine wpAnyH_ready (rs := [3]) (by kernel_rfl) (by simp) ?_
          refine AllReadyH.cons (o := _) rfl (fun K hK => ?_) (AllReadyH.nil)
          refine step_fresh tL _ rfl _ _ rfl W.heap.size g8 e8 he8W rfl p c L n HN.out rfl (hL.below (bel_call bW (Nat.le_refl _) hHeld)) (by omega) ?_
          intro p1 c1 w1 o1 b1 _
          have e12 := e12.below b1
          have hz := hz.below b1
          refine hK.out _ _ (bel_call hHeld (Nat.le_refl _) b1) (fun hHeld => ?_)
          clear hK K
          try simp only [Act.put, List.getElem_toArray, List.getElem_cons_succ, List.getElem_cons_zero, List.setIfInBounds_toArray, List.set_cons_zero, List.set_cons_succ]
          refine wpAnyH_ready (rs := [7]) (by kernel_rfl) (by simp) ?_
          refine AllReadyH.cons (o := _) rfl (fun K hK => ?_) (AllReadyH.nil)
          refine step_fresh tI _ rfl _ _ rfl W.heap.size g12 e12 he12W rfl q d Q m HM.out rfl (hQ.below (bel_call bW (Nat.le_refl _) hHeld)) (by omega) ?_
          intro q1 d1 w2 o2 b2 _
          have o1 := own_below o1 b2
          have hz := hz.below b2
          refine hK.out _ _ (bel_call hHeld (Nat.le_refl _) b2) (fun hHeld => ?_)
          clear hK K
          try simp only [Act.put, List.getElem_toArray, List.getElem_cons_succ, List.getElem_cons_zero, List.setIfInBounds_toArray, List.set_cons_zero, List.set_cons_succ]
          refine wpAnyH_take (i := 8) (oi := _) (v := ?_) rfl (by kernel_rfl) (by kernel_rfl) (by kernel_rfl) (fun _ _ _ h => h) (Or.inl ⟨by rfl, ?_⟩) hHeld ?_
          rotate_left
          · intro w' hSw
            (go_simp <;> with_reducible rfl)
          try simp only [Act.put, List.getElem_toArray, List.getElem_cons_succ, List.getElem_cons_zero, List.setIfInBounds_toArray, List.set_cons_zero, List.set_cons_succ]
          refine wpAnyH_ready (rs := [10]) (by kernel_rfl) (by simp) ?_
          refine AllReadyH.cons (o := _) rfl (fun K hK => ?_) (AllReadyH.nil)
          have z0 := hz.c 0 rfl
          have z1 := hz.c 1 rfl
          have y0 := hz.fz 0
          have y1 := hz.fz 1
          go_simp
          have fp : Far p1 W.heap.size := Far.type o1 hz (by decide)
          have fq : Far q1 W.heap.size := Far.type o2 hz (by decide)
          have hz9 : Lv ((w2.setCell ⟨W.heap.size, 0, none⟩ (.slice p1 n c1)).setCell ⟨W.heap.size, 1, none⟩ (.slice q1 m d1)) W.heap.size #[.slice p1 n c1, .slice q1 m d1] 25 := (hz.set 0 (.slice p1 n c1)).set 1 (.slice q1 m d1)
          have o1 := own_setFar (own_setFar o1 fp 0 (.slice p1 n c1)) fp 1 (.slice q1 m d1)
          have o2 := own_setFar (own_setFar o2 fq 0 (.slice p1 n c1)) fq 1 (.slice q1 m d1)
          have hS9 : Below W.heap.size W ((w2.setCell ⟨W.heap.size, 0, none⟩ (.slice p1 n c1)).setCell ⟨W.heap.size, 1, none⟩ (.slice q1 m d1)) := by refine Below.setCell (Below.setCell hHeld ?_ _) ?_ _ <;> exact hhzW
          refine hK.out _ _ hS9 (fun hHeld => ?_)
          clear hK K
          try simp only [Act.put, List.getElem_toArray, List.getElem_cons_succ, List.getElem_cons_zero, List.setIfInBounds_toArray, List.set_cons_zero, List.set_cons_succ]
          refine wpAnyH_done (by kernel_rfl) ?_ _
          go_wp2_with fail
          go_meet
          case rel => exact ⟨W.heap.size, p1, c1, q1, d1, rfl, hhzW, hz9, o1, o2, hHeld⟩
      · go_simp
        have b7 : Below w7.heap.size w7 (w7.alloc (.cells #[] 3)) := bel_self _ _
        have e12 : Lv (w7.alloc (.cells #[] 3)) w7.heap.size #[] 3 := Lv.new w7 _ _
        obtain ⟨g12, hg12⟩ : ∃ g, g = w7.heap.size := ⟨_, rfl⟩
        have he12W : W.heap.size ≤ g12 := by have := hHeld.size; rw [hg12]; exact this
        have hz := hz.below b7
        refine hK.out _ _ (hHeld.alloc hHeld.size _) (fun hHeld => ?_)
        clear hK K
        rw [← hg12] at e12
        simp only [← hg12]
        generalize (w7.alloc (.cells #[] 3)) = w12 at *
        clear hg12 b7
        try simp only [Act.put, List.getElem_toArray, List.getElem_cons_succ, List.getElem_cons_zero, List.setIfInBounds_toArray, List.set_cons_zero, List.set_cons_succ]
        refine wpAnyH_ready (rs := [0]) (by kernel_rfl) (by simp) ?_
        refine AllReadyH.cons (o := _) rfl (fun K hK => ?_) (AllReadyH.nil)
        go_simp
        have b7 : Below w12.heap.size w12 (w12.alloc (.cells #[] 2)) := bel_self _ _
        have e8 : Lv (w12.alloc (.cells #[] 2)) w12.heap.size #[] 2 := Lv.new w12 _ _
        obtain ⟨g8, hg8⟩ : ∃ g, g = w12.heap.size := ⟨_, rfl⟩
        have he8W : W.heap.size ≤ g8 := by have := hHeld.size; rw [hg8]; exact this
        have e12 := e12.below b7
        have hz := hz.below b7
        refine hK.out _ _ (hHeld.alloc hHeld.size _) (fun hHeld => ?_)
        clear hK K
        rw [← hg8] at e8
        simp only [← hg8]
        generalize (w12.alloc (.cells #[] 2)) = w8 at *
        clear hg8 b7
        try simp only [Act.put, List.getElem_toArray, List.getElem_cons_zero, List.setIfInBounds_toArray, List.set_cons_zero, List.set_cons_succ]
        refine wpAnyH_ready (rs := [3]) (by kernel_rfl) (by simp) ?_
        refine AllReadyH.cons (o := _) rfl (fun K hK => ?_) (AllReadyH.nil)
        refine step_fresh tL _ rfl _ _ rfl W.heap.size g8 e8 he8W rfl p c L n HN.out rfl (hL.below (bel_call bW (Nat.le_refl _) hHeld)) (by omega) ?_
        intro p1 c1 w1 o1 b1 _
        have e12 := e12.below b1
        have hz := hz.below b1
        refine hK.out _ _ (bel_call hHeld (Nat.le_refl _) b1) (fun hHeld => ?_)
        clear hK K
        try simp only [Act.put, List.getElem_toArray, List.getElem_cons_succ, List.getElem_cons_zero, List.setIfInBounds_toArray, List.set_cons_zero, List.set_cons_succ]
        refine wpAnyH_ready (rs := [7]) (by kernel_rfl) (by simp) ?_
        refine AllReadyH.cons (o := _) rfl (fun K hK => ?_) (AllReadyH.nil)
        refine step_fresh tI _ rfl _ _ rfl W.heap.size g12 e12 he12W rfl q d Q m HM.out rfl (hQ.below (bel_call bW (Nat.le_refl _) hHeld)) (by omega) ?_
        intro q1 d1 w2 o2 b2 _
        have o1 := own_below o1 b2
        have hz := hz.below b2
        refine hK.out _ _ (bel_call hHeld (Nat.le_refl _) b2) (fun hHeld => ?_)
        clear hK K
        try simp only [Act.put, List.getElem_toArray, List.getElem_cons_succ, List.getElem_cons_zero, List.setIfInBounds_toArray, List.set_cons_zero, List.set_cons_succ]
        refine wpAnyH_take (i := 8) (oi := _) (v := ?_) rfl (by kernel_rfl) (by kernel_rfl) (by kernel_rfl) (fun _ _ _ h => h) (Or.inl ⟨by rfl, ?_⟩) hHeld ?_
        rotate_left
        · intro w' hSw
          (go_simp <;> with_reducible rfl)
        try simp only [Act.put, List.getElem_toArray, List.getElem_cons_succ, List.getElem_cons_zero, List.setIfInBounds_toArray, List.set_cons_zero, List.set_cons_succ]
        refine wpAnyH_ready (rs := [10]) (by kernel_rfl) (by simp) ?_
        refine AllReadyH.cons (o := _) rfl (fun K hK => ?_) (AllReadyH.nil)
        have z0 := hz.c 0 rfl
        have z1 := hz.c 1 rfl
        have y0 := hz.fz 0
        have y1 := hz.fz 1
        go_simp
        have fp : Far p1 W.heap.size := Far.type o1 hz (by decide)
        have fq : Far q1 W.heap.size := Far.type o2 hz (by decide)
        have hz9 : Lv ((w2.setCell ⟨W.heap.size, 0, none⟩ (.slice p1 n c1)).setCell ⟨W.heap.size, 1, none⟩ (.slice q1 m d1)) W.heap.size #[.slice p1 n c1, .slice q1 m d1] 25 := (hz.set 0 (.slice p1 n c1)).set 1 (.slice q1 m d1)
        have o1 := own_setFar (own_setFar o1 fp 0 (.slice p1 n c1)) fp 1 (.slice q1 m d1)
        have o2 := own_setFar (own_setFar o2 fq 0 (.slice p1 n c1)) fq 1 (.slice q1 m d1)
        have hS9 : Below W.heap.size W ((w2.setCell ⟨W.heap.size, 0, none⟩ (.slice p1 n c1)).setCell ⟨W.heap.size, 1, none⟩ (.slice q1 m d1)) := by refine Below.setCell (Below.setCell hHeld ?_ _) ?_ _ <;> exact hhzW
        refine hK.out _ _ hS9 (fun hHeld => ?_)
        clear hK K
        try simp only [Act.put, List.getElem_toArray, List.getElem_cons_succ, List.getElem_cons_zero, List.setIfInBounds_toArray, List.set_cons_zero, List.set_cons_succ]
        refine wpAnyH_done (by kernel_rfl) ?_ _
        go_wp2_with fail
        go_meet
        case rel => exact ⟨W.heap.size, p1, c1, q1, d1, rfl, hhzW, hz9, o1, o2, hHeld⟩
  case rest =>
    obtain ⟨g, p1, c1, q1, d1, rfl, hgW, hv, o1, o2, hB⟩ := hcut
    have hrc : Lv wc (w.heap.size + 1) #[.slice none 0 0, .slice none 0 0] 25 := (hB.block (w.heap.size + 1) hgr).trans hr0
    have hpc : Lv wc w.heap.size #[.slice p n c, .slice q m d] 25 := (hB.block w.heap.size hgp).trans hp0
    have hne1 : g ≠ w.heap.size + 1 := by omega
    have hne2 : w.heap.size + 1 ≠ g := by omega
    have hne3 : w.heap.size ≠ g := by omega
    have fpg : Far p1 g := Far.type o1 hv (by decide)
    have fqg : Far q1 g := Far.type o2 hv (by decide)
    have fp := fpg
    have fq := fqg
    have fpr : Far p1 (w.heap.size + 1) := Far.low o1 hgr
    have fqr : Far q1 (w.heap.size + 1) := Far.low o2 hgr
    have BW : Below w.heap.size w wc := bel_call bW (Nat.le_refl _) hB
    have k0 := hpc.c 0 rfl
    have k1 := hpc.c 1 rfl
    cases Q with
    | cons x R =>
      obtain ⟨r, hr⟩ : ∃ r, R.length = r := ⟨_, rfl⟩
      obtain rfl : m = r + 1 := by rw [← HM.out]; simp [hr]
      have HR : Hid (R.length = r) := hr
      obtain ⟨b0, o0, rfl, hb0, kb0⟩ := hQ.num 0 (by simp)
      have kb := (BW.cell (p := ⟨b0, o0 + 0, none⟩) hb0).trans kb0
      have hbr : b0 ≠ w.heap.size + 1 := by omega
      have hbg : b0 ≠ g := by omega
      clear kb0
      simp only [Nat.add_zero, List.getElem_cons_zero] at kb
      obtain ⟨gq, cur, rfl, hgq, -⟩ := own_open o2 (by simp)
      have hcap := own_cap o2
      simp only [List.length_cons, hr] at hcap
      obtain ⟨q2, hq2⟩ : ∃ q2 : Option Addr, q2 = if d1 = 1 then some ⟨gq, 0, none⟩ else some ⟨gq, 1, none⟩ := ⟨_, rfl⟩
      have r2 : Rd eI wc q2 (d1 - 1) R := by
        have := (own_rd o2).drop 1 (by simp)
        rw [hq2]
        simpa [eI, Addr.add] using this
      have fqg2 : Far q2 g := by
        intro b o e
        rw [hq2] at e
        have := fqg gq 0 rfl
        split at e <;> cases e <;> exact this
      have fqr2 : Far q2 (w.heap.size + 1) := by
        intro b o e
        rw [hq2] at e
        have := fqr gq 0 rfl
        split at e <;> cases e <;> exact this
      have hv3 := hv
      have hr3 := hrc
      have z0 := hv3.c 0 rfl
      have z1 := hv3.c 1 rfl
      have y0 := hv3.fz 0
      have y1 := hv3.fz 1
      have x0 := hr3.c 0 rfl
      have x1 := hr3.c 1 rfl
      have v0 := hr3.fz 0
      have v1 := hr3.fz 1
      have d1c : (1 : Int) ≤ (r : Int) + 1 := by omega
      have d2c : r + 1 ≤ d1 := hcap
      have d3c : 1 ≤ d1 := by omega
      have d4c : (0 : Int) < (r : Int) + 1 := by omega
      have d5c : decide ((0 : Int) < (r : Int) + 1) = true := decide_eq_true d4c
      clear hr cur hcap
      by_cases hd : d1 = 1
      · rw [if_pos hd] at hq2
        subst hq2 hd
        obtain rfl : r = 0 := by omega
        clear d2c d3c
        go_wp2
        go_region
        go_wp2
        have hR9 : Lv (((wc.setCell ⟨g, 1, none⟩ (.slice (some ⟨gq, 0, none⟩) 0 (0))).setCell ⟨w.heap.size + 1, 0, none⟩ (.slice p1 n c1)).setCell ⟨w.heap.size + 1, 1, none⟩ (.slice (some ⟨gq, 0, none⟩) 0 (0))).drew (w.heap.size + 1) #[.slice p1 n c1, .slice (some ⟨gq, 0, none⟩) 0 (0)] 25 := ((hr3.far (a := ⟨g, 1, none⟩) hne1 (.slice (some ⟨gq, 0, none⟩) 0 (0))).set 0 (.slice p1 n c1)).set 1 (.slice (some ⟨gq, 0, none⟩) 0 (0))
        have e9 := loadBox hR9
        have hb9 : Below w.heap.size w (((wc.setCell ⟨g, 1, none⟩ (.slice (some ⟨gq, 0, none⟩) 0 (0))).setCell ⟨w.heap.size + 1, 0, none⟩ (.slice p1 n c1)).setCell ⟨w.heap.size + 1, 1, none⟩ (.slice (some ⟨gq, 0, none⟩) 0 (0))) := by
          refine Below.setCell (Below.setCell ?_ ?_ _) ?_ _
          · refine Below.setCell BW ?_ _
            show w.heap.size ≤ g
            omega
          · exact Nat.le_succ _
          · exact Nat.le_succ _
        have RA9 := rd_setFar (rd_setFar (rd_setFar (own_rd o1) fpg 1 (.slice (some ⟨gq, 0, none⟩) 0 (0))) fpr 0 (.slice p1 n c1)) fpr 1 (.slice (some ⟨gq, 0, none⟩) 0 (0))
        have RB9 := rd_setFar (rd_setFar (rd_setFar r2 fqg2 1 (.slice (some ⟨gq, 0, none⟩) 0 (0))) fqr2 0 (.slice p1 n c1)) fqr2 1 (.slice (some ⟨gq, 0, none⟩) 0 (0))
        have RA9 := RA9.drw
        have RB9 := RB9.drw
        have hb9 := hb9.drew
        refine bodyPost_ret (v := .tuple #[.agg #[.slice p1 n c1, .slice (some ⟨gq, 0, none⟩) 0 (0)], .int .i64 x, .bool true]) (by simp [results, Try.results9, asAddr, e9]) rfl ⟨_, _, _, _, (by simp [postL, postQ, postC, postB, HN.out, HR.out]), RA9, RB9, hb9⟩
      · rw [if_neg hd] at hq2
        subst hq2
        go_wp2
        go_region
        go_wp2
        have hR9 : Lv (((wc.setCell ⟨g, 1, none⟩ (.slice (some ⟨gq, 1, none⟩) r (d1 - 1))).setCell ⟨w.heap.size + 1, 0, none⟩ (.slice p1 n c1)).setCell ⟨w.heap.size + 1, 1, none⟩ (.slice (some ⟨gq, 1, none⟩) r (d1 - 1))).drew (w.heap.size + 1) #[.slice p1 n c1, .slice (some ⟨gq, 1, none⟩) r (d1 - 1)] 25 := ((hr3.far (a := ⟨g, 1, none⟩) hne1 (.slice (some ⟨gq, 1, none⟩) r (d1 - 1))).set 0 (.slice p1 n c1)).set 1 (.slice (some ⟨gq, 1, none⟩) r (d1 - 1))
        have e9 := loadBox hR9
        have hb9 : Below w.heap.size w (((wc.setCell ⟨g, 1, none⟩ (.slice (some ⟨gq, 1, none⟩) r (d1 - 1))).setCell ⟨w.heap.size + 1, 0, none⟩ (.slice p1 n c1)).setCell ⟨w.heap.size + 1, 1, none⟩ (.slice (some ⟨gq, 1, none⟩) r (d1 - 1))) := by
          refine Below.setCell (Below.setCell ?_ ?_ _) ?_ _
          · refine Below.setCell BW ?_ _
            show w.heap.size ≤ g
            omega
          · exact Nat.le_succ _
          · exact Nat.le_succ _
        have RA9 := rd_setFar (rd_setFar (rd_setFar (own_rd o1) fpg 1 (.slice (some ⟨gq, 1, none⟩) r (d1 - 1))) fpr 0 (.slice p1 n c1)) fpr 1 (.slice (some ⟨gq, 1, none⟩) r (d1 - 1))
        have RB9 := rd_setFar (rd_setFar (rd_setFar r2 fqg2 1 (.slice (some ⟨gq, 1, none⟩) r (d1 - 1))) fqr2 0 (.slice p1 n c1)) fqr2 1 (.slice (some ⟨gq, 1, none⟩) r (d1 - 1))
        have RA9 := RA9.drw
        have RB9 := RB9.drw
        have hb9 := hb9.drew
        refine bodyPost_ret (v := .tuple #[.agg #[.slice p1 n c1, .slice (some ⟨gq, 1, none⟩) r (d1 - 1)], .int .i64 x, .bool true]) (by simp [results, Try.results9, asAddr, e9]) rfl ⟨_, _, _, _, (by simp [postL, postQ, postC, postB, HN.out, HR.out]), RA9, RB9, hb9⟩
    | nil =>
      obtain rfl : m = 0 := HM.out.symm
      have hv3 := hv
      have hr3 := hrc
      have z0 := hv3.c 0 rfl
      have z1 := hv3.c 1 rfl
      have y0 := hv3.fz 0
      have y1 := hv3.fz 1
      have x0 := hr3.c 0 rfl
      have x1 := hr3.c 1 rfl
      have v0 := hr3.fz 0
      have v1 := hr3.fz 1
      by_cases h4 : 4 ≤ n
      · have HB : Hid (postB L [] = false) := by simp [postB, HN.out, Hid]; omega
        have HL : Hid (postL L [] v = L) := by simp [postL, HN.out, Hid]; omega
        have d4 : decide ((4 : Int) ≤ (n : Int)) = true := by simp; omega
        go_wp2
        have hR9 : Lv ((wc.setCell ⟨w.heap.size + 1, 0, none⟩ (.slice p1 n c1)).setCell ⟨w.heap.size + 1, 1, none⟩ (.slice q1 0 d1)) (w.heap.size + 1) #[.slice p1 n c1, .slice q1 0 d1] 25 := (hr3.set 0 (.slice p1 n c1)).set 1 (.slice q1 0 d1)
        have e9 := loadBox hR9
        have hb9 : Below w.heap.size w ((wc.setCell ⟨w.heap.size + 1, 0, none⟩ (.slice p1 n c1)).setCell ⟨w.heap.size + 1, 1, none⟩ (.slice q1 0 d1)) := by
          refine Below.setCell (Below.setCell ?_ ?_ _) ?_ _
          · exact BW
          · exact Nat.le_succ _
          · exact Nat.le_succ _
        have RA9 := rd_setFar (rd_setFar (own_rd o1) fpr 0 (.slice p1 n c1)) fpr 1 (.slice q1 0 d1)
        have RB9 := rd_setFar (rd_setFar (own_rd o2) fqr 0 (.slice p1 n c1)) fqr 1 (.slice q1 0 d1)
        refine bodyPost_ret (v := .tuple #[.agg #[.slice p1 n c1, .slice q1 0 d1], .int .i64 0, .bool false]) (by simp [results, Try.results9, asAddr, e9]) rfl ⟨_, _, _, _, (by rw [HL.out, HB.out, HN.out] <;> rfl), (by rw [HL.out]; exact RA9), RB9, hb9⟩
      · have HB : Hid (postB L [] = true) := by simp [postB, HN.out, Hid]; omega
        have HL : Hid (postL L [] v = L ++ [v]) := by simp [postL, HN.out, Hid]; omega
        have d4 : decide ((4 : Int) ≤ (n : Int)) = false := by simp; omega
        go_wp2_with (first
          | (at_builtin; refine wpList_app tL _ rfl _ _ rfl W.heap.size p1 c1 L n HN.out rfl (own_below o1 (bel_self _ _)) _ _ [v] 1 rfl rfl (rd_block (heap_alloc_new _ _) 1 rfl rfl) (by omega) (Nat.le_trans hB.size (bel_self _ _).size) (n + 1) rfl ?_; intro p5 c5 w5 o5 b5 st5
             have a5 := bel_self wc (.cells #[.int .i64 v] 2)
             have hv3 : Lv w5 g _ 25 := (st5 g (Nat.lt_of_lt_of_le hv.lt a5.size) (fun g' e => by have := fp g' 0 e; omega)).trans (hv.below a5)
             have hr3 : Lv w5 (w.heap.size + 1) _ 25 := (st5 _ (Nat.lt_of_lt_of_le hrc.lt a5.size) (fun g' e => by have := fpr g' 0 e; omega)).trans (hrc.below a5)
             have b3 : Below w.heap.size w w5 := (bel_call BW (Nat.le_refl _) a5).trans (b5.mono bW.size)
             have z0 := hv3.c 0 rfl
             have z1 := hv3.c 1 rfl
             have y0 := hv3.fz 0
             have y1 := hv3.fz 1
             have x0 := hr3.c 0 rfl
             have x1 := hr3.c 1 rfl
             have v0 := hr3.fz 0
             have v1 := hr3.fz 1
             ))
        have fpg : Far p5 g := Far.type o5 hv3 (by decide)
        have fpr : Far p5 (w.heap.size + 1) := Far.type o5 hr3 (by decide)
        have rq5 : Rd eI w5 q1 d1 [] := Rd.void (own_rd o2)
        have hR9 : Lv (((w5.setCell ⟨g, 0, none⟩ (.slice p5 (n + 1) c5)).setCell ⟨w.heap.size + 1, 0, none⟩ (.slice p5 (n + 1) c5)).setCell ⟨w.heap.size + 1, 1, none⟩ (.slice q1 0 d1)) (w.heap.size + 1) #[.slice p5 (n + 1) c5, .slice q1 0 d1] 25 := ((hr3.far (a := ⟨g, 0, none⟩) hne1 (.slice p5 (n + 1) c5)).set 0 (.slice p5 (n + 1) c5)).set 1 (.slice q1 0 d1)
        have e9 := loadBox hR9
        have hb9 : Below w.heap.size w (((w5.setCell ⟨g, 0, none⟩ (.slice p5 (n + 1) c5)).setCell ⟨w.heap.size + 1, 0, none⟩ (.slice p5 (n + 1) c5)).setCell ⟨w.heap.size + 1, 1, none⟩ (.slice q1 0 d1)) := by
          refine Below.setCell (Below.setCell ?_ ?_ _) ?_ _
          · refine Below.setCell b3 ?_ _
            show w.heap.size ≤ g
            omega
          · exact Nat.le_succ _
          · exact Nat.le_succ _
        have RA9 := rd_setFar (rd_setFar (rd_setFar (own_rd o5) fpg 0 (.slice p5 (n + 1) c5)) fpr 0 (.slice p5 (n + 1) c5)) fpr 1 (.slice q1 0 d1)
        have RB9 := rd_setFar (rd_setFar (rd_setFar rq5 fqg 0 (.slice p5 (n + 1) c5)) fqr 0 (.slice p5 (n + 1) c5)) fqr 1 (.slice q1 0 d1)
        refine bodyPost_ret (v := .tuple #[.agg #[.slice p5 (n + 1) c5, .slice q1 0 d1], .int .i64 0, .bool true]) (by simp [results, Try.results9, asAddr, e9]) rfl ⟨_, _, _, _, (by rw [HL.out, HB.out, List.length_append, HN.out] <;> rfl), (by rw [HL.out]; exact RA9), RB9, hb9⟩
end Go.Proofs.Ytfghondhonflaaa
