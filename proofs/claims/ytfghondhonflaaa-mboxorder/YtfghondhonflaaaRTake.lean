/-
  What the document's Take hands back.
-/
import Derived.Test.YtfghondhonflaaaPost
namespace Go.Proofs.Ytfghondhonflaaa
open Go.ChangeShapes Go.WideShapes Go.ChangeAt Go.RowKit
attribute [local go_sem ↓] Go.wp_at_zero Go.wp_at_succ

set_option maxHeartbeats 4000000 in
theorem rtake_any (p : Option Addr) (c : Nat) (L : List Int) (q : Option Addr) (d : Nat) (Q : List Int) (v : Int) (w : World) (hL : Rd eI w p c L) (hQ : Rd eI w q d Q) (n m : Nat) (hn : L.length = n) (hm : Q.length = m) (hn9 : n ≤ 1000) (hm9 : m ≤ 1000) :
    Calls Try.prog 12 #[.agg #[.slice p n c, .slice q m d], .int .i64 v] w fun e w' => ∃ (p1 : Option Addr) (c1 : Nat) (q1 : Option Addr) (d1 : Nat), e = .returned (.tuple #[.agg #[.slice p1 (takeL L v).length c1, .slice q1 (takeQ L Q v).length d1], .int .i64 (takeV L v), .bool (takeGot L v), .bool (takeOk L Q v)]) ∧ Rd eI w' p1 c1 (takeL L v) ∧ Rd eI w' q1 d1 (takeQ L Q v) ∧ Below w.heap.size w w' := by
  have HN : Hid (L.length = n) := hn
  have HM : Hid (Q.length = m) := hm
  clear hn hm
  obtain ⟨W, hW⟩ : ∃ W, W = (w.alloc (.cells #[.slice p n c, .slice q m d] 25)).alloc (.cells #[.slice none 0 0, .slice none 0 0] 25) := ⟨_, rfl⟩
  have bW : Below w.heap.size w W := by rw [hW]; exact ((Below.refl _ _).alloc (Nat.le_refl _) _).alloc (by simp) _
  have hp0 : Lv W w.heap.size #[.slice p n c, .slice q m d] 25 := by rw [hW]; exact (Lv.new _ _ _).below (bel_self _ _)
  have hr0 : Lv W (w.heap.size + 1) #[.slice none 0 0, .slice none 0 0] 25 := by rw [hW]; exact heap_at (by simp)
  have hsz : W.heap.size = w.heap.size + 2 := by rw [hW]; simp
  have hgp : w.heap.size < W.heap.size := by omega
  have hgr : w.heap.size + 1 < W.heap.size := by omega
  clear hsz
  go_enter Try.func12, Try.ntmps12
  go_upto_region 1 with fail
  rw [← hW]
  clear hW
  go_cut [8] from 10 to 18 (fun a wx => ∃ (g : Nat) (p1 : Option Addr) (c1 : Nat) (q1 : Option Addr) (d1 : Nat), a = .pointer (some ⟨g, 0, none⟩) ∧ W.heap.size ≤ g ∧ Lv wx g #[.slice p1 n c1, .slice q1 m d1] 25 ∧ Own eI wx W.heap.size 2 p1 c1 L ∧ Own eI wx W.heap.size 3 q1 d1 Q ∧ Below W.heap.size W wx)
  case first =>
    refine wp_region_held_drew (S := fun w' => Below W.heap.size W w') (by kernel_rfl) (Below.refl _ _).drew (fun hHeld => ?_)
    refine wpAnyH_take (i := 1) (oi := _) (v := ?_) rfl (by kernel_rfl) (by kernel_rfl) (by kernel_rfl) (fun _ _ _ h => h) (Or.inl ⟨by rfl, ?_⟩) hHeld ?_
    rotate_left
    · intro w' hSw
      (go_simp <;> with_reducible rfl)
    try simp only [Act.put, List.getElem_toArray, List.getElem_cons_succ, List.getElem_cons_zero, List.setIfInBounds_toArray, List.set_cons_zero, List.set_cons_succ]
    refine wpAnyH_take (i := 2) (oi := _) (v := ?_) rfl (by kernel_rfl) (by kernel_rfl) (by kernel_rfl) (fun _ _ _ h => h) (Or.inl ⟨by rfl, ?_⟩) hHeld ?_
    rotate_left
    · intro w' hSw
      have e0 := Lv.c (show Lv w' w.heap.size _ 25 from (hSw.block w.heap.size hgp).trans hp0) 0 rfl
      have e1 := Lv.c (show Lv w' w.heap.size _ 25 from (hSw.block w.heap.size hgp).trans hp0) 1 rfl
      (go_simp <;> with_reducible rfl)
    try simp only [Act.put, List.getElem_toArray, List.getElem_cons_succ, List.getElem_cons_zero, List.setIfInBounds_toArray, List.set_cons_zero, List.set_cons_succ]
    refine wpAnyH_take (i := 5) (oi := _) (v := ?_) rfl (by kernel_rfl) (by kernel_rfl) (by kernel_rfl) (fun _ _ _ h => h) (Or.inl ⟨by rfl, ?_⟩) hHeld ?_
    rotate_left
    · intro w' hSw
      (go_simp <;> with_reducible rfl)
    try simp only [Act.put, List.getElem_toArray, List.getElem_cons_succ, List.getElem_cons_zero, List.setIfInBounds_toArray, List.set_cons_zero, List.set_cons_succ]
    refine wpAnyH_take (i := 6) (oi := _) (v := ?_) rfl (by kernel_rfl) (by kernel_rfl) (by kernel_rfl) (fun _ _ _ h => h) (Or.inl ⟨by rfl, ?_⟩) hHeld ?_
    rotate_left
    · intro w' hSw
      have e0 := Lv.c (show Lv w' w.heap.size _ 25 from (hSw.block w.heap.size hgp).trans hp0) 0 rfl
      have e1 := Lv.c (show Lv w' w.heap.size _ 25 from (hSw.block w.heap.size hgp).trans hp0) 1 rfl
      (go_simp <;> with_reducible rfl)
    try simp only [Act.put, List.getElem_toArray, List.getElem_cons_succ, List.getElem_cons_zero, List.setIfInBounds_toArray, List.set_cons_zero, List.set_cons_succ]
    refine wpAnyH_ready (rs := [0, 4, 9]) (by kernel_rfl) (by simp) ?_
    refine AllReadyH.cons (o := _) rfl (fun K hK => ?_) (AllReadyH.cons (o := _) rfl (fun K hK => ?_) (AllReadyH.cons (o := _) rfl (fun K hK => ?_) (AllReadyH.nil)))
    · go_simp
      have b7 : Below W.heap.size W (W.alloc (.cells #[] 2)) := bel_self _ _
      have e8 : Lv ((W.alloc (.cells #[] 2)).drew) W.heap.size #[] 2 := Lv.new W _ _
      have he8W : W.heap.size ≤ W.heap.size := Nat.le_refl _
      refine hK.out _ _ (hHeld.alloc hHeld.size _) (fun hHeld => ?_)
      clear hK K
      generalize ((W.alloc (.cells #[] 2)).drew) = w8 at *
      clear b7
      try simp only [Act.put, List.getElem_toArray, List.getElem_cons_zero, List.setIfInBounds_toArray, List.set_cons_zero, List.set_cons_succ]
      refine wpAnyH_ready (rs := [3, 4, 9]) (by kernel_rfl) (by simp) ?_
      refine AllReadyH.cons (o := _) rfl (fun K hK => ?_) (AllReadyH.cons (o := _) rfl (fun K hK => ?_) (AllReadyH.cons (o := _) rfl (fun K hK => ?_) (AllReadyH.nil)))
      · refine step_fresh tL _ rfl _ _ rfl W.heap.size W.heap.size e8 he8W rfl p c L n HN.out rfl (hL.below (bel_call bW (Nat.le_refl _) hHeld)) (by omega) ?_
        intro p1 c1 w1 o1 b1 _
        refine hK.out _ _ (bel_call hHeld (Nat.le_refl _) b1) (fun hHeld => ?_)
        clear hK K
        try simp only [Act.put, List.getElem_toArray, List.getElem_cons_succ, List.getElem_cons_zero, List.setIfInBounds_toArray, List.set_cons_zero, List.set_cons_succ]
        refine wpAnyH_ready (rs := [4, 9]) (by kernel_rfl) (by simp) ?_
        refine AllReadyH.cons (o := _) rfl (fun K hK => ?_) (AllReadyH.cons (o := _) rfl (fun K hK => ?_) (AllReadyH.nil))
        · go_simp
          have b7 : Below w1.heap.size w1 (w1.alloc (.cells #[] 3)) := bel_self _ _
          have e12 : Lv (w1.alloc (.cells #[] 3)) w1.heap.size #[] 3 := Lv.new w1 _ _
          obtain ⟨g12, hg12⟩ : ∃ g, g = w1.heap.size := ⟨_, rfl⟩
          have he12W : W.heap.size ≤ g12 := by have := hHeld.size; rw [hg12]; exact this
          have o1 := own_below o1 b7
          refine hK.out _ _ (hHeld.alloc hHeld.size _) (fun hHeld => ?_)
          clear hK K
          rw [← hg12] at e12
          simp only [← hg12]
          generalize (w1.alloc (.cells #[] 3)) = w12 at *
          clear hg12 b7
          try simp only [Act.put, List.getElem_toArray, List.getElem_cons_succ, List.getElem_cons_zero, List.setIfInBounds_toArray, List.set_cons_zero, List.set_cons_succ]
          refine wpAnyH_ready (rs := [7, 9]) (by kernel_rfl) (by simp) ?_
          refine AllReadyH.cons (o := _) rfl (fun K hK => ?_) (AllReadyH.cons (o := _) rfl (fun K hK => ?_) (AllReadyH.nil))
          · refine step_fresh tI _ rfl _ _ rfl W.heap.size g12 e12 he12W rfl q d Q m HM.out rfl (hQ.below (bel_call bW (Nat.le_refl _) hHeld)) (by omega) ?_
            intro q1 d1 w2 o2 b2 _
            have o1 := own_below o1 b2
            refine hK.out _ _ (bel_call hHeld (Nat.le_refl _) b2) (fun hHeld => ?_)
            clear hK K
            try simp only [Act.put, List.getElem_toArray, List.getElem_cons_succ, List.getElem_cons_zero, List.setIfInBounds_toArray, List.set_cons_zero, List.set_cons_succ]
            refine wpAnyH_take (i := 8) (oi := _) (v := ?_) rfl (by kernel_rfl) (by kernel_rfl) (by kernel_rfl) (fun _ _ _ h => h) (Or.inl ⟨by rfl, ?_⟩) hHeld ?_
            rotate_left
            · intro w' hSw
              (go_simp <;> with_reducible rfl)
            try simp only [Act.put, List.getElem_toArray, List.getElem_cons_succ, List.getElem_cons_zero, List.setIfInBounds_toArray, List.set_cons_zero, List.set_cons_succ]
            refine wpAnyH_ready (rs := [9]) (by kernel_rfl) (by simp) ?_
            refine AllReadyH.cons (o := _) rfl (fun K hK => ?_) (AllReadyH.nil)
            go_simp
            have b7 : Below w2.heap.size w2 (w2.alloc (.cells #[.slice none 0 0, .slice none 0 0] 25)) := bel_self _ _
            have hz : Lv (w2.alloc (.cells #[.slice none 0 0, .slice none 0 0] 25)) w2.heap.size #[.slice none 0 0, .slice none 0 0] 25 := Lv.new w2 _ _
            obtain ⟨g7, hg7⟩ : ∃ g, g = w2.heap.size := ⟨_, rfl⟩
            have hhzW : W.heap.size ≤ g7 := by have := hHeld.size; rw [hg7]; exact this
            have o1 := own_below o1 b7
            have o2 := own_below o2 b7
            refine hK.out _ _ (hHeld.alloc hHeld.size _) (fun hHeld => ?_)
            clear hK K
            rw [← hg7] at hz
            simp only [← hg7]
            generalize (w2.alloc (.cells #[.slice none 0 0, .slice none 0 0] 25)) = w7 at *
            clear hg7 b7
            try simp only [Act.put, List.getElem_toArray, List.getElem_cons_succ, List.getElem_cons_zero, List.setIfInBounds_toArray, List.set_cons_zero, List.set_cons_succ]
            refine wpAnyH_ready (rs := [10]) (by kernel_rfl) (by simp) ?_
            refine AllReadyH.cons (o := _) rfl (fun K hK => ?_) (AllReadyH.nil)
            have z0 := hz.c 0 rfl
            have z1 := hz.c 1 rfl
            have y0 := hz.fz 0
            have y1 := hz.fz 1
            go_simp
            have fp : Far p1 g7 := Far.type o1 hz (by decide)
            have fq : Far q1 g7 := Far.type o2 hz (by decide)
            have hz9 : Lv ((w7.setCell ⟨g7, 0, none⟩ (.slice p1 n c1)).setCell ⟨g7, 1, none⟩ (.slice q1 m d1)) g7 #[.slice p1 n c1, .slice q1 m d1] 25 := (hz.set 0 (.slice p1 n c1)).set 1 (.slice q1 m d1)
            have o1 := own_setFar (own_setFar o1 fp 0 (.slice p1 n c1)) fp 1 (.slice q1 m d1)
            have o2 := own_setFar (own_setFar o2 fq 0 (.slice p1 n c1)) fq 1 (.slice q1 m d1)
            have hS9 : Below W.heap.size W ((w7.setCell ⟨g7, 0, none⟩ (.slice p1 n c1)).setCell ⟨g7, 1, none⟩ (.slice q1 m d1)) := by refine Below.setCell (Below.setCell hHeld ?_ _) ?_ _ <;> exact hhzW
            refine hK.out _ _ hS9 (fun hHeld => ?_)
            clear hK K
            try simp only [Act.put, List.getElem_toArray, List.getElem_cons_succ, List.getElem_cons_zero, List.setIfInBounds_toArray, List.set_cons_zero, List.set_cons_succ]
            refine wpAnyH_done (by kernel_rfl) ?_ _
            go_wp2_with fail
            go_meet
            case rel => exact ⟨g7, p1, c1, q1, d1, rfl, hhzW, hz9, o1, o2, hHeld⟩
          · go_simp
            have b7 : Below w12.heap.size w12 (w12.alloc (.cells #[.slice none 0 0, .slice none 0 0] 25)) := bel_self _ _
            have hz : Lv (w12.alloc (.cells #[.slice none 0 0, .slice none 0 0] 25)) w12.heap.size #[.slice none 0 0, .slice none 0 0] 25 := Lv.new w12 _ _
            obtain ⟨g7, hg7⟩ : ∃ g, g = w12.heap.size := ⟨_, rfl⟩
            have hhzW : W.heap.size ≤ g7 := by have := hHeld.size; rw [hg7]; exact this
            have e12 := e12.below b7
            have o1 := own_below o1 b7
            refine hK.out _ _ (hHeld.alloc hHeld.size _) (fun hHeld => ?_)
            clear hK K
            rw [← hg7] at hz
            simp only [← hg7]
            generalize (w12.alloc (.cells #[.slice none 0 0, .slice none 0 0] 25)) = w7 at *
            clear hg7 b7
            try simp only [Act.put, List.getElem_toArray, List.getElem_cons_succ, List.getElem_cons_zero, List.setIfInBounds_toArray, List.set_cons_zero, List.set_cons_succ]
            refine wpAnyH_ready (rs := [7]) (by kernel_rfl) (by simp) ?_
            refine AllReadyH.cons (o := _) rfl (fun K hK => ?_) (AllReadyH.nil)
            refine step_fresh tI _ rfl _ _ rfl W.heap.size g12 e12 he12W rfl q d Q m HM.out rfl (hQ.below (bel_call bW (Nat.le_refl _) hHeld)) (by omega) ?_
            intro q1 d1 w2 o2 b2 _
            have o1 := own_below o1 b2
            have hz := hz.below b2
            refine hK.out _ _ (bel_call hHeld (Nat.le_refl _) b2) (fun hHeld => ?_)
            clear hK K
            try simp only [Act.put, List.getElem_toArray, List.getElem_cons_succ, List.getElem_cons_zero, List.setIfInBounds_toArray, List.set_cons_zero, List.set_cons_succ]
            refine wpAnyH_take (i := 8) (oi := _) (v := ?_) rfl (by kernel_rfl) (by kernel_rfl) (by kernel_rfl) (fun _ _ _ h => h) (Or.inl ⟨by rfl, ?_⟩) hHeld ?_
            rotate_left
            · intro w' hSw
              (go_simp <;> with_reducible rfl)
            try simp only [Act.put, List.getElem_toArray, List.getElem_cons_succ, List.getElem_cons_zero, List.setIfInBounds_toArray, List.set_cons_zero, List.set_cons_succ]
            refine wpAnyH_ready (rs := [10]) (by kernel_rfl) (by simp) ?_
            refine AllReadyH.cons (o := _) rfl (fun K hK => ?_) (AllReadyH.nil)
            have z0 := hz.c 0 rfl
            have z1 := hz.c 1 rfl
            have y0 := hz.fz 0
            have y1 := hz.fz 1
            go_simp
            have fp : Far p1 g7 := Far.type o1 hz (by decide)
            have fq : Far q1 g7 := Far.type o2 hz (by decide)
            have hz9 : Lv ((w2.setCell ⟨g7, 0, none⟩ (.slice p1 n c1)).setCell ⟨g7, 1, none⟩ (.slice q1 m d1)) g7 #[.slice p1 n c1, .slice q1 m d1] 25 := (hz.set 0 (.slice p1 n c1)).set 1 (.slice q1 m d1)
            have o1 := own_setFar (own_setFar o1 fp 0 (.slice p1 n c1)) fp 1 (.slice q1 m d1)
            have o2 := own_setFar (own_setFar o2 fq 0 (.slice p1 n c1)) fq 1 (.slice q1 m d1)
            have hS9 : Below W.heap.size W ((w2.setCell ⟨g7, 0, none⟩ (.slice p1 n c1)).setCell ⟨g7, 1, none⟩ (.slice q1 m d1)) := by refine Below.setCell (Below.setCell hHeld ?_ _) ?_ _ <;> exact hhzW
            refine hK.out _ _ hS9 (fun hHeld => ?_)
            clear hK K
            try simp only [Act.put, List.getElem_toArray, List.getElem_cons_succ, List.getElem_cons_zero, List.setIfInBounds_toArray, List.set_cons_zero, List.set_cons_succ]
            refine wpAnyH_done (by kernel_rfl) ?_ _
            go_wp2_with fail
            go_meet
            case rel => exact ⟨g7, p1, c1, q1, d1, rfl, hhzW, hz9, o1, o2, hHeld⟩
        · go_simp
          have b7 : Below w1.heap.size w1 (w1.alloc (.cells #[.slice none 0 0, .slice none 0 0] 25)) := bel_self _ _
          have hz : Lv (w1.alloc (.cells #[.slice none 0 0, .slice none 0 0] 25)) w1.heap.size #[.slice none 0 0, .slice none 0 0] 25 := Lv.new w1 _ _
          obtain ⟨g7, hg7⟩ : ∃ g, g = w1.heap.size := ⟨_, rfl⟩
          have hhzW : W.heap.size ≤ g7 := by have := hHeld.size; rw [hg7]; exact this
          have o1 := own_below o1 b7
          refine hK.out _ _ (hHeld.alloc hHeld.size _) (fun hHeld => ?_)
          clear hK K
          rw [← hg7] at hz
          simp only [← hg7]
          generalize (w1.alloc (.cells #[.slice none 0 0, .slice none 0 0] 25)) = w7 at *
          clear hg7 b7
          try simp only [Act.put, List.getElem_toArray, List.getElem_cons_succ, List.getElem_cons_zero, List.setIfInBounds_toArray, List.set_cons_zero, List.set_cons_succ]
          refine wpAnyH_ready (rs := [4]) (by kernel_rfl) (by simp) ?_
          refine AllReadyH.cons (o := _) rfl (fun K hK => ?_) (AllReadyH.nil)
          go_simp
          have b7 : Below w7.heap.size w7 (w7.alloc (.cells #[] 3)) := bel_self _ _
          have e12 : Lv (w7.alloc (.cells #[] 3)) w7.heap.size #[] 3 := Lv.new w7 _ _
          obtain ⟨g12, hg12⟩ : ∃ g, g = w7.heap.size := ⟨_, rfl⟩
          have he12W : W.heap.size ≤ g12 := by have := hHeld.size; rw [hg12]; exact this
          have o1 := own_below o1 b7
          have hz := hz.below b7
          refine hK.out _ _ (hHeld.alloc hHeld.size _) (fun hHeld => ?_)
          clear hK K
          rw [← hg12] at e12
          simp only [← hg12]
          generalize (w7.alloc (.cells #[] 3)) = w12 at *
          clear hg12 b7
          try simp only [Act.put, List.getElem_toArray, List.getElem_cons_succ, List.getElem_cons_zero, List.setIfInBounds_toArray, List.set_cons_zero, List.set_cons_succ]
          refine wpAnyH_ready (rs := [7]) (by kernel_rfl) (by simp) ?_
          refine AllReadyH.cons (o := _) rfl (fun K hK => ?_) (AllReadyH.nil)
          refine step_fresh tI _ rfl _ _ rfl W.heap.size g12 e12 he12W rfl q d Q m HM.out rfl (hQ.below (bel_call bW (Nat.le_refl _) hHeld)) (by omega) ?_
          intro q1 d1 w2 o2 b2 _
          have o1 := own_below o1 b2
          have hz := hz.below b2
          refine hK.out _ _ (bel_call hHeld (Nat.le_refl _) b2) (fun hHeld => ?_)
          clear hK K
          try simp only [Act.put, List.getElem_toArray, List.getElem_cons_succ, List.getElem_cons_zero, List.setIfInBounds_toArray, List.set_cons_zero, List.set_cons_succ]
          refine wpAnyH_take (i := 8) (oi := _) (v := ?_) rfl (by kernel_rfl) (by kernel_rfl) (by kernel_rfl) (fun _ _ _ h => h) (Or.inl ⟨by rfl, ?_⟩) hHeld ?_
          rotate_left
          · intro w' hSw
            (go_simp <;> with_reducible rfl)
          try simp only [Act.put, List.getElem_toArray, List.getElem_cons_succ, List.getElem_cons_zero, List.setIfInBounds_toArray, List.set_cons_zero, List.set_cons_succ]
          refine wpAnyH_ready (rs := [10]) (by kernel_rfl) (by simp) ?_
          refine AllReadyH.cons (o := _) rfl (fun K hK => ?_) (AllReadyH.nil)
          have z0 := hz.c 0 rfl
          have z1 := hz.c 1 rfl
          have y0 := hz.fz 0
          have y1 := hz.fz 1
          go_simp
          have fp : Far p1 g7 := Far.type o1 hz (by decide)
          have fq : Far q1 g7 := Far.type o2 hz (by decide)
          have hz9 : Lv ((w2.setCell ⟨g7, 0, none⟩ (.slice p1 n c1)).setCell ⟨g7, 1, none⟩ (.slice q1 m d1)) g7 #[.slice p1 n c1, .slice q1 m d1] 25 := (hz.set 0 (.slice p1 n c1)).set 1 (.slice q1 m d1)
          have o1 := own_setFar (own_setFar o1 fp 0 (.slice p1 n c1)) fp 1 (.slice q1 m d1)
          have o2 := own_setFar (own_setFar o2 fq 0 (.slice p1 n c1)) fq 1 (.slice q1 m d1)
          have hS9 : Below W.heap.size W ((w2.setCell ⟨g7, 0, none⟩ (.slice p1 n c1)).setCell ⟨g7, 1, none⟩ (.slice q1 m d1)) := by refine Below.setCell (Below.setCell hHeld ?_ _) ?_ _ <;> exact hhzW
          refine hK.out _ _ hS9 (fun hHeld => ?_)
          clear hK K
          try simp only [Act.put, List.getElem_toArray, List.getElem_cons_succ, List.getElem_cons_zero, List.setIfInBounds_toArray, List.set_cons_zero, List.set_cons_succ]
          refine wpAnyH_done (by kernel_rfl) ?_ _
          go_wp2_with fail
          go_meet
          case rel => exact ⟨g7, p1, c1, q1, d1, rfl, hhzW, hz9, o1, o2, hHeld⟩
      · go_simp
        have b7 : Below w8.heap.size w8 (w8.alloc (.cells #[] 3)) := bel_self _ _
        have e12 : Lv (w8.alloc (.cells #[] 3)) w8.heap.size #[] 3 := Lv.new w8 _ _
        obtain ⟨g12, hg12⟩ : ∃ g, g = w8.heap.size := ⟨_, rfl⟩
        have he12W : W.heap.size ≤ g12 := by have := hHeld.size; rw [hg12]; exact this
        have e8 := e8.below b7
        refine hK.out _ _ (hHeld.alloc hHeld.size _) (fun hHeld => ?_)
        clear hK K
        rw [← hg12] at e12
        simp only [← hg12]
        generalize (w8.alloc (.cells #[] 3)) = w12 at *
        clear hg12 b7
        try simp only [Act.put, List.getElem_toArray, List.getElem_cons_succ, List.getElem_cons_zero, List.setIfInBounds_toArray, List.set_cons_zero, List.set_cons_succ]
        refine wpAnyH_ready (rs := [3, 9]) (by kernel_rfl) (by simp) ?_
        refine AllReadyH.cons (o := _) rfl (fun K hK => ?_) (AllReadyH.cons (o := _) rfl (fun K hK => ?_) (AllReadyH.nil))
        · refine step_fresh tL _ rfl _ _ rfl W.heap.size W.heap.size e8 he8W rfl p c L n HN.out rfl (hL.below (bel_call bW (Nat.le_refl _) hHeld)) (by omega) ?_
          intro p1 c1 w1 o1 b1 _
          have e12 := e12.below b1
          refine hK.out _ _ (bel_call hHeld (Nat.le_refl _) b1) (fun hHeld => ?_)
          clear hK K
          try simp only [Act.put, List.getElem_toArray, List.getElem_cons_succ, List.getElem_cons_zero, List.setIfInBounds_toArray, List.set_cons_zero, List.set_cons_succ]
          refine wpAnyH_ready (rs := [7, 9]) (by kernel_rfl) (by simp) ?_
          refine AllReadyH.cons (o := _) rfl (fun K hK => ?_) (AllReadyH.cons (o := _) rfl (fun K hK => ?_) (AllReadyH.nil))
          · refine step_fresh tI _ rfl _ _ rfl W.heap.size g12 e12 he12W rfl q d Q m HM.out rfl (hQ.below (bel_call bW (Nat.le_refl _) hHeld)) (by omega) ?_
            intro q1 d1 w2 o2 b2 _
            have o1 := own_below o1 b2
            refine hK.out _ _ (bel_call hHeld (Nat.le_refl _) b2) (fun hHeld => ?_)
            clear hK K
            try simp only [Act.put, List.getElem_toArray, List.getElem_cons_succ, List.getElem_cons_zero, List.setIfInBounds_toArray, List.set_cons_zero, List.set_cons_succ]
            refine wpAnyH_take (i := 8) (oi := _) (v := ?_) rfl (by kernel_rfl) (by kernel_rfl) (by kernel_rfl) (fun _ _ _ h => h) (Or.inl ⟨by rfl, ?_⟩) hHeld ?_
            rotate_left
            · intro w' hSw
              (go_simp <;> with_reducible rfl)
            try simp only [Act.put, List.getElem_toArray, List.getElem_cons_succ, List.getElem_cons_zero, List.setIfInBounds_toArray, List.set_cons_zero, List.set_cons_succ]
            refine wpAnyH_ready (rs := [9]) (by kernel_rfl) (by simp) ?_
            refine AllReadyH.cons (o := _) rfl (fun K hK => ?_) (AllReadyH.nil)
            go_simp
            have b7 : Below w2.heap.size w2 (w2.alloc (.cells #[.slice none 0 0, .slice none 0 0] 25)) := bel_self _ _
            have hz : Lv (w2.alloc (.cells #[.slice none 0 0, .slice none 0 0] 25)) w2.heap.size #[.slice none 0 0, .slice none 0 0] 25 := Lv.new w2 _ _
            obtain ⟨g7, hg7⟩ : ∃ g, g = w2.heap.size := ⟨_, rfl⟩
            have hhzW : W.heap.size ≤ g7 := by have := hHeld.size; rw [hg7]; exact this
            have o1 := own_below o1 b7
            have o2 := own_below o2 b7
            refine hK.out _ _ (hHeld.alloc hHeld.size _) (fun hHeld => ?_)
            clear hK K
            rw [← hg7] at hz
            simp only [← hg7]
            generalize (w2.alloc (.cells #[.slice none 0 0, .slice none 0 0] 25)) = w7 at *
            clear hg7 b7
            try simp only [Act.put, List.getElem_toArray, List.getElem_cons_succ, List.getElem_cons_zero, List.setIfInBounds_toArray, List.set_cons_zero, List.set_cons_succ]
            refine wpAnyH_ready (rs := [10]) (by kernel_rfl) (by simp) ?_
            refine AllReadyH.cons (o := _) rfl (fun K hK => ?_) (AllReadyH.nil)
            have z0 := hz.c 0 rfl
            have z1 := hz.c 1 rfl
            have y0 := hz.fz 0
            have y1 := hz.fz 1
            go_simp
            have fp : Far p1 g7 := Far.type o1 hz (by decide)
            have fq : Far q1 g7 := Far.type o2 hz (by decide)
            have hz9 : Lv ((w7.setCell ⟨g7, 0, none⟩ (.slice p1 n c1)).setCell ⟨g7, 1, none⟩ (.slice q1 m d1)) g7 #[.slice p1 n c1, .slice q1 m d1] 25 := (hz.set 0 (.slice p1 n c1)).set 1 (.slice q1 m d1)
            have o1 := own_setFar (own_setFar o1 fp 0 (.slice p1 n c1)) fp 1 (.slice q1 m d1)
            have o2 := own_setFar (own_setFar o2 fq 0 (.slice p1 n c1)) fq 1 (.slice q1 m d1)
            have hS9 : Below W.heap.size W ((w7.setCell ⟨g7, 0, none⟩ (.slice p1 n c1)).setCell ⟨g7, 1, none⟩ (.slice q1 m d1)) := by refine Below.setCell (Below.setCell hHeld ?_ _) ?_ _ <;> exact hhzW
            refine hK.out _ _ hS9 (fun hHeld => ?_)
            clear hK K
            try simp only [Act.put, List.getElem_toArray, List.getElem_cons_succ, List.getElem_cons_zero, List.setIfInBounds_toArray, List.set_cons_zero, List.set_cons_succ]
            refine wpAnyH_done (by kernel_rfl) ?_ _
            go_wp2_with fail
            go_meet
            case rel => exact ⟨g7, p1, c1, q1, d1, rfl, hhzW, hz9, o1, o2, hHeld⟩
          · go_simp
            have b7 : Below w1.heap.size w1 (w1.alloc (.cells #[.slice none 0 0, .slice none 0 0] 25)) := bel_self _ _
            have hz : Lv (w1.alloc (.cells #[.slice none 0 0, .slice none 0 0] 25)) w1.heap.size #[.slice none 0 0, .slice none 0 0] 25 := Lv.new w1 _ _
            obtain ⟨g7, hg7⟩ : ∃ g, g = w1.heap.size := ⟨_, rfl⟩
            have hhzW : W.heap.size ≤ g7 := by have := hHeld.size; rw [hg7]; exact this
            have e12 := e12.below b7
            have o1 := own_below o1 b7
            refine hK.out _ _ (hHeld.alloc hHeld.size _) (fun hHeld => ?_)
            clear hK K
            rw [← hg7] at hz
            simp only [← hg7]
            generalize (w1.alloc (.cells #[.slice none 0 0, .slice none 0 0] 25)) = w7 at *
            clear hg7 b7
            try simp only [Act.put, List.getElem_toArray, List.getElem_cons_succ, List.getElem_cons_zero, List.setIfInBounds_toArray, List.set_cons_zero, List.set_cons_succ]
            refine wpAnyH_ready (rs := [7]) (by kernel_rfl) (by simp) ?_
            refine AllReadyH.cons (o := _) rfl (fun K hK => ?_) (AllReadyH.nil)
            refine step_fresh tI _ rfl _ _ rfl W.heap.size g12 e12 he12W rfl q d Q m HM.out rfl (hQ.below (bel_call bW (Nat.le_refl _) hHeld)) (by omega) ?_
            intro q1 d1 w2 o2 b2 _
            have o1 := own_below o1 b2
            have hz := hz.below b2
            refine hK.out _ _ (bel_call hHeld (Nat.le_refl _) b2) (fun hHeld => ?_)
            clear hK K
            try simp only [Act.put, List.getElem_toArray, List.getElem_cons_succ, List.getElem_cons_zero, List.setIfInBounds_toArray, List.set_cons_zero, List.set_cons_succ]
            refine wpAnyH_take (i := 8) (oi := _) (v := ?_) rfl (by kernel_rfl) (by kernel_rfl) (by kernel_rfl) (fun _ _ _ h => h) (Or.inl ⟨by rfl, ?_⟩) hHeld ?_
            rotate_left
            · intro w' hSw
              (go_simp <;> with_reducible rfl)
            try simp only [Act.put, List.getElem_toArray, List.getElem_cons_succ, List.getElem_cons_zero, List.setIfInBounds_toArray, List.set_cons_zero, List.set_cons_succ]
            refine wpAnyH_ready (rs := [10]) (by kernel_rfl) (by simp) ?_
            refine AllReadyH.cons (o := _) rfl (fun K hK => ?_) (AllReadyH.nil)
            have z0 := hz.c 0 rfl
            have z1 := hz.c 1 rfl
            have y0 := hz.fz 0
            have y1 := hz.fz 1
            go_simp
            have fp : Far p1 g7 := Far.type o1 hz (by decide)
            have fq : Far q1 g7 := Far.type o2 hz (by decide)
            have hz9 : Lv ((w2.setCell ⟨g7, 0, none⟩ (.slice p1 n c1)).setCell ⟨g7, 1, none⟩ (.slice q1 m d1)) g7 #[.slice p1 n c1, .slice q1 m d1] 25 := (hz.set 0 (.slice p1 n c1)).set 1 (.slice q1 m d1)
            have o1 := own_setFar (own_setFar o1 fp 0 (.slice p1 n c1)) fp 1 (.slice q1 m d1)
            have o2 := own_setFar (own_setFar o2 fq 0 (.slice p1 n c1)) fq 1 (.slice q1 m d1)
            have hS9 : Below W.heap.size W ((w2.setCell ⟨g7, 0, none⟩ (.slice p1 n c1)).setCell ⟨g7, 1, none⟩ (.slice q1 m d1)) := by refine Below.setCell (Below.setCell hHeld ?_ _) ?_ _ <;> exact hhzW
            refine hK.out _ _ hS9 (fun hHeld => ?_)
            clear hK K
            try simp only [Act.put, List.getElem_toArray, List.getElem_cons_succ, List.getElem_cons_zero, List.setIfInBounds_toArray, List.set_cons_zero, List.set_cons_succ]
            refine wpAnyH_done (by kernel_rfl) ?_ _
            go_wp2_with fail
            go_meet
            case rel => exact ⟨g7, p1, c1, q1, d1, rfl, hhzW, hz9, o1, o2, hHeld⟩
        · go_simp
          have b7 : Below w12.heap.size w12 (w12.alloc (.cells #[.slice none 0 0, .slice none 0 0] 25)) := bel_self _ _
          have hz : Lv (w12.alloc (.cells #[.slice none 0 0, .slice none 0 0] 25)) w12.heap.size #[.slice none 0 0, .slice none 0 0] 25 := Lv.new w12 _ _
          obtain ⟨g7, hg7⟩ : ∃ g, g = w12.heap.size := ⟨_, rfl⟩
          have hhzW : W.heap.size ≤ g7 := by have := hHeld.size; rw [hg7]; exact this
          have e8 := e8.below b7
          have e12 := e12.below b7
          refine hK.out _ _ (hHeld.alloc hHeld.size _) (fun hHeld => ?_)
          clear hK K
          rw [← hg7] at hz
          simp only [← hg7]
          generalize (w12.alloc (.cells #[.slice none 0 0, .slice none 0 0] 25)) = w7 at *
          clear hg7 b7
          try simp only [Act.put, List.getElem_toArray, List.getElem_cons_succ, List.getElem_cons_zero, List.setIfInBounds_toArray, List.set_cons_zero, List.set_cons_succ]
          refine wpAnyH_ready (rs := [3]) (by kernel_rfl) (by simp) ?_
          refine AllReadyH.cons (o := _) rfl (fun K hK => ?_) (AllReadyH.nil)
          refine step_fresh tL _ rfl _ _ rfl W.heap.size W.heap.size e8 he8W rfl p c L n HN.out rfl (hL.below (bel_call bW (Nat.le_refl _) hHeld)) (by omega) ?_
          intro p1 c1 w1 o1 b1 _
          have e12 := e12.below b1
          have hz := hz.below b1
          refine hK.out _ _ (bel_call hHeld (Nat.le_refl _) b1) (fun hHeld => ?_)
          clear hK K
          try simp only [Act.put, List.getElem_toArray, List.getElem_cons_succ, List.getElem_cons_zero, List.setIfInBounds_toArray, List.set_cons_zero, List.set_cons_succ]
          refine wpAnyH_ready (rs := [7]) (by kernel_rfl) (by simp) ?_
          refine AllReadyH.cons (o := _) rfl (fun K hK => ?_) (AllReadyH.nil)
          refine step_fresh tI _ rfl _ _ rfl W.heap.size g12 e12 he12W rfl q d Q m HM.out rfl (hQ.below (bel_call bW (Nat.le_refl _) hHeld)) (by omega) ?_
          intro q1 d1 w2 o2 b2 _
          have o1 := own_below o1 b2
          have hz := hz.below b2
          refine hK.out _ _ (bel_call hHeld (Nat.le_refl _) b2) (fun hHeld => ?_)
          clear hK K
          try simp only [Act.put, List.getElem_toArray, List.getElem_cons_succ, List.getElem_cons_zero, List.setIfInBounds_toArray, List.set_cons_zero, List.set_cons_succ]
          refine wpAnyH_take (i := 8) (oi := _) (v := ?_) rfl (by kernel_rfl) (by kernel_rfl) (by kernel_rfl) (fun _ _ _ h => h) (Or.inl ⟨by rfl, ?_⟩) hHeld ?_
          rotate_left
          · intro w' hSw
            (go_simp <;> with_reducible rfl)
          try simp only [Act.put, List.getElem_toArray, List.getElem_cons_succ, List.getElem_cons_zero, List.setIfInBounds_toArray, List.set_cons_zero, List.set_cons_succ]
          refine wpAnyH_ready (rs := [10]) (by kernel_rfl) (by simp) ?_
          refine AllReadyH.cons (o := _) rfl (fun K hK => ?_) (AllReadyH.nil)
          have z0 := hz.c 0 rfl
          have z1 := hz.c 1 rfl
          have y0 := hz.fz 0
          have y1 := hz.fz 1
          go_simp
          have fp : Far p1 g7 := Far.type o1 hz (by decide)
          have fq : Far q1 g7 := Far.type o2 hz (by decide)
          have hz9 : Lv ((w2.setCell ⟨g7, 0, none⟩ (.slice p1 n c1)).setCell ⟨g7, 1, none⟩ (.slice q1 m d1)) g7 #[.slice p1 n c1, .slice q1 m d1] 25 := (hz.set 0 (.slice p1 n c1)).set 1 (.slice q1 m d1)
          have o1 := own_setFar (own_setFar o1 fp 0 (.slice p1 n c1)) fp 1 (.slice q1 m d1)
          have o2 := own_setFar (own_setFar o2 fq 0 (.slice p1 n c1)) fq 1 (.slice q1 m d1)
          have hS9 : Below W.heap.size W ((w2.setCell ⟨g7, 0, none⟩ (.slice p1 n c1)).setCell ⟨g7, 1, none⟩ (.slice q1 m d1)) := by refine Below.setCell (Below.setCell hHeld ?_ _) ?_ _ <;> exact hhzW
          refine hK.out _ _ hS9 (fun hHeld => ?_)
          clear hK K
          try simp only [Act.put, List.getElem_toArray, List.getElem_cons_succ, List.getElem_cons_zero, List.setIfInBounds_toArray, List.set_cons_zero, List.set_cons_succ]
          refine wpAnyH_done (by kernel_rfl) ?_ _
          go_wp2_with fail
          go_meet
          case rel => exact ⟨g7, p1, c1, q1, d1, rfl, hhzW, hz9, o1, o2, hHeld⟩
      · go_simp
        have b7 : Below w8.heap.size w8 (w8.alloc (.cells #[.slice none 0 0, .slice none 0 0] 25)) := bel_self _ _
        have hz : Lv (w8.alloc (.cells #[.slice none 0 0, .slice none 0 0] 25)) w8.heap.size #[.slice none 0 0, .slice none 0 0] 25 := Lv.new w8 _ _
        obtain ⟨g7, hg7⟩ : ∃ g, g = w8.heap.size := ⟨_, rfl⟩
        have hhzW : W.heap.size ≤ g7 := by have := hHeld.size; rw [hg7]; exact this
        have e8 := e8.below b7
        refine hK.out _ _ (hHeld.alloc hHeld.size _) (fun hHeld => ?_)
        clear hK K
        rw [← hg7] at hz
        simp only [← hg7]
        generalize (w8.alloc (.cells #[.slice none 0 0, .slice none 0 0] 25)) = w7 at *
        clear hg7 b7
        try simp only [Act.put, List.getElem_toArray, List.getElem_cons_succ, List.getElem_cons_zero, List.setIfInBounds_toArray, List.set_cons_zero, List.set_cons_succ]
        refine wpAnyH_ready (rs := [3, 4]) (by kernel_rfl) (by simp) ?_
        refine AllReadyH.cons (o := _) rfl (fun K hK => ?_) (AllReadyH.cons (o := _) rfl (fun K hK => ?_) (AllReadyH.nil))
        · refine step_fresh tL _ rfl _ _ rfl W.heap.size W.heap.size e8 he8W rfl p c L n HN.out rfl (hL.below (bel_call bW (Nat.le_refl _) hHeld)) (by omega) ?_
          intro p1 c1 w1 o1 b1 _
          have hz := hz.below b1
          refine hK.out _ _ (bel_call hHeld (Nat.le_refl _) b1) (fun hHeld => ?_)
          clear hK K
          try simp only [Act.put, List.getElem_toArray, List.getElem_cons_succ, List.getElem_cons_zero, List.setIfInBounds_toArray, List.set_cons_zero, List.set_cons_succ]
          refine wpAnyH_ready (rs := [4]) (by kernel_rfl) (by simp) ?_
          refine AllReadyH.cons (o := _) rfl (fun K hK => ?_) (AllReadyH.nil)
          go_simp
          have b7 : Below w1.heap.size w1 (w1.alloc (.cells #[] 3)) := bel_self _ _
          have e12 : Lv (w1.alloc (.cells #[] 3)) w1.heap.size #[] 3 := Lv.new w1 _ _
          obtain ⟨g12, hg12⟩ : ∃ g, g = w1.heap.size := ⟨_, rfl⟩
          have he12W : W.heap.size ≤ g12 := by have := hHeld.size; rw [hg12]; exact this
          have o1 := own_below o1 b7
          have hz := hz.below b7
          refine hK.out _ _ (hHeld.alloc hHeld.size _) (fun hHeld => ?_)
          clear hK K
          rw [← hg12] at e12
          simp only [← hg12]
          generalize (w1.alloc (.cells #[] 3)) = w12 at *
          clear hg12 b7
          try simp only [Act.put, List.getElem_toArray, List.getElem_cons_succ, List.getElem_cons_zero, List.setIfInBounds_toArray, List.set_cons_zero, List.set_cons_succ]
          refine wpAnyH_ready (rs := [7]) (by kernel_rfl) (by simp) ?_
          refine AllReadyH.cons (o := _) rfl (fun K hK => ?_) (AllReadyH.nil)
          refine step_fresh tI _ rfl _ _ rfl W.heap.size g12 e12 he12W rfl q d Q m HM.out rfl (hQ.below (bel_call bW (Nat.le_refl _) hHeld)) (by omega) ?_
          intro q1 d1 w2 o2 b2 _
          have o1 := own_below o1 b2
          have hz := hz.below b2
          refine hK.out _ _ (bel_call hHeld (Nat.le_refl _) b2) (fun hHeld => ?_)
          clear hK K
          try simp only [Act.put, List.getElem_toArray, List.getElem_cons_succ, List.getElem_cons_zero, List.setIfInBounds_toArray, List.set_cons_zero, List.set_cons_succ]
          refine wpAnyH_take (i := 8) (oi := _) (v := ?_) rfl (by kernel_rfl) (by kernel_rfl) (by kernel_rfl) (fun _ _ _ h => h) (Or.inl ⟨by rfl, ?_⟩) hHeld ?_
          rotate_left
          · intro w' hSw
            (go_simp <;> with_reducible rfl)
          try simp only [Act.put, List.getElem_toArray, List.getElem_cons_succ, List.getElem_cons_zero, List.setIfInBounds_toArray, List.set_cons_zero, List.set_cons_succ]
          refine wpAnyH_ready (rs := [10]) (by kernel_rfl) (by simp) ?_
          refine AllReadyH.cons (o := _) rfl (fun K hK => ?_) (AllReadyH.nil)
          have z0 := hz.c 0 rfl
          have z1 := hz.c 1 rfl
          have y0 := hz.fz 0
          have y1 := hz.fz 1
          go_simp
          have fp : Far p1 g7 := Far.type o1 hz (by decide)
          have fq : Far q1 g7 := Far.type o2 hz (by decide)
          have hz9 : Lv ((w2.setCell ⟨g7, 0, none⟩ (.slice p1 n c1)).setCell ⟨g7, 1, none⟩ (.slice q1 m d1)) g7 #[.slice p1 n c1, .slice q1 m d1] 25 := (hz.set 0 (.slice p1 n c1)).set 1 (.slice q1 m d1)
          have o1 := own_setFar (own_setFar o1 fp 0 (.slice p1 n c1)) fp 1 (.slice q1 m d1)
          have o2 := own_setFar (own_setFar o2 fq 0 (.slice p1 n c1)) fq 1 (.slice q1 m d1)
          have hS9 : Below W.heap.size W ((w2.setCell ⟨g7, 0, none⟩ (.slice p1 n c1)).setCell ⟨g7, 1, none⟩ (.slice q1 m d1)) := by refine Below.setCell (Below.setCell hHeld ?_ _) ?_ _ <;> exact hhzW
          refine hK.out _ _ hS9 (fun hHeld => ?_)
          clear hK K
          try simp only [Act.put, List.getElem_toArray, List.getElem_cons_succ, List.getElem_cons_zero, List.setIfInBounds_toArray, List.set_cons_zero, List.set_cons_succ]
          refine wpAnyH_done (by kernel_rfl) ?_ _
          go_wp2_with fail
          go_meet
          case rel => exact ⟨g7, p1, c1, q1, d1, rfl, hhzW, hz9, o1, o2, hHeld⟩
        · go_simp
          have b7 : Below w7.heap.size w7 (w7.alloc (.cells #[] 3)) := bel_self _ _
          have e12 : Lv (w7.alloc (.cells #[] 3)) w7.heap.size #[] 3 := Lv.new w7 _ _
          obtain ⟨g12, hg12⟩ : ∃ g, g = w7.heap.size := ⟨_, rfl⟩
          have he12W : W.heap.size ≤ g12 := by have := hHeld.size; rw [hg12]; exact this
          have e8 := e8.below b7
          have hz := hz.below b7
          refine hK.out _ _ (hHeld.alloc hHeld.size _) (fun hHeld => ?_)
          clear hK K
          rw [← hg12] at e12
          simp only [← hg12]
          generalize (w7.alloc (.cells #[] 3)) = w12 at *
          clear hg12 b7
          try simp only [Act.put, List.getElem_toArray, List.getElem_cons_succ, List.getElem_cons_zero, List.setIfInBounds_toArray, List.set_cons_zero, List.set_cons_succ]
          refine wpAnyH_ready (rs := [3]) (by kernel_rfl) (by simp) ?_
          refine AllReadyH.cons (o := _) rfl (fun K hK => ?_) (AllReadyH.nil)
          refine step_fresh tL _ rfl _ _ rfl W.heap.size W.heap.size e8 he8W rfl p c L n HN.out rfl (hL.below (bel_call bW (Nat.le_refl _) hHeld)) (by omega) ?_
          intro p1 c1 w1 o1 b1 _
          have e12 := e12.below b1
          have hz := hz.below b1
          refine hK.out _ _ (bel_call hHeld (Nat.le_refl _) b1) (fun hHeld => ?_)
          clear hK K
          try simp only [Act.put, List.getElem_toArray, List.getElem_cons_succ, List.getElem_cons_zero, List.setIfInBounds_toArray, List.set_cons_zero, List.set_cons_succ]
          refine wpAnyH_ready (rs := [7]) (by kernel_rfl) (by simp) ?_
          refine AllReadyH.cons (o := _) rfl (fun K hK => ?_) (AllReadyH.nil)
          refine step_fresh tI _ rfl _ _ rfl W.heap.size g12 e12 he12W rfl q d Q m HM.out rfl (hQ.below (bel_call bW (Nat.le_refl _) hHeld)) (by omega) ?_
          intro q1 d1 w2 o2 b2 _
          have o1 := own_below o1 b2
          have hz := hz.below b2
          refine hK.out _ _ (bel_call hHeld (Nat.le_refl _) b2) (fun hHeld => ?_)
          clear hK K
          try simp only [Act.put, List.getElem_toArray, List.getElem_cons_succ, List.getElem_cons_zero, List.setIfInBounds_toArray, List.set_cons_zero, List.set_cons_succ]
          refine wpAnyH_take (i := 8) (oi := _) (v := ?_) rfl (by kernel_rfl) (by kernel_rfl) (by kernel_rfl) (fun _ _ _ h => h) (Or.inl ⟨by rfl, ?_⟩) hHeld ?_
          rotate_left
          · intro w' hSw
            (go_simp <;> with_reducible rfl)
          try simp only [Act.put, List.getElem_toArray, List.getElem_cons_succ, List.getElem_cons_zero, List.setIfInBounds_toArray, List.set_cons_zero, List.set_cons_succ]
          refine wpAnyH_ready (rs := [10]) (by kernel_rfl) (by simp) ?_
          refine AllReadyH.cons (o := _) rfl (fun K hK => ?_) (AllReadyH.nil)
          have z0 := hz.c 0 rfl
          have z1 := hz.c 1 rfl
          have y0 := hz.fz 0
          have y1 := hz.fz 1
          go_simp
          have fp : Far p1 g7 := Far.type o1 hz (by decide)
          have fq : Far q1 g7 := Far.type o2 hz (by decide)
          have hz9 : Lv ((w2.setCell ⟨g7, 0, none⟩ (.slice p1 n c1)).setCell ⟨g7, 1, none⟩ (.slice q1 m d1)) g7 #[.slice p1 n c1, .slice q1 m d1] 25 := (hz.set 0 (.slice p1 n c1)).set 1 (.slice q1 m d1)
          have o1 := own_setFar (own_setFar o1 fp 0 (.slice p1 n c1)) fp 1 (.slice q1 m d1)
          have o2 := own_setFar (own_setFar o2 fq 0 (.slice p1 n c1)) fq 1 (.slice q1 m d1)
          have hS9 : Below W.heap.size W ((w2.setCell ⟨g7, 0, none⟩ (.slice p1 n c1)).setCell ⟨g7, 1, none⟩ (.slice q1 m d1)) := by refine Below.setCell (Below.setCell hHeld ?_ _) ?_ _ <;> exact hhzW
          refine hK.out _ _ hS9 (fun hHeld => ?_)
          clear hK K
          try simp only [Act.put, List.getElem_toArray, List.getElem_cons_succ, List.getElem_cons_zero, List.setIfInBounds_toArray, List.set_cons_zero, List.set_cons_succ]
          refine wpAnyH_done (by kernel_rfl) ?_ _
          go_wp2_with fail
          go_meet
          case rel => exact ⟨g7, p1, c1, q1, d1, rfl, hhzW, hz9, o1, o2, hHeld⟩
    · go_simp
      have b7 : Below W.heap.size W (W.alloc (.cells #[] 3)) := bel_self _ _
      have e12 : Lv ((W.alloc (.cells #[] 3)).drew) W.heap.size #[] 3 := Lv.new W _ _
      have he12W : W.heap.size ≤ W.heap.size := Nat.le_refl _
      refine hK.out _ _ (hHeld.alloc hHeld.size _) (fun hHeld => ?_)
      clear hK K
      generalize ((W.alloc (.cells #[] 3)).drew) = w12 at *
      clear b7
      try simp only [Act.put, List.getElem_toArray, List.getElem_cons_succ, List.getElem_cons_zero, List.setIfInBounds_toArray, List.set_cons_zero, List.set_cons_succ]
      refine wpAnyH_ready (rs := [0, 9]) (by kernel_rfl) (by simp) ?_
      refine AllReadyH.cons (o := _) rfl (fun K hK => ?_) (AllReadyH.cons (o := _) rfl (fun K hK => ?_) (AllReadyH.nil))
      · go_simp
        have b7 : Below w12.heap.size w12 (w12.alloc (.cells #[] 2)) := bel_self _ _
        have e8 : Lv (w12.alloc (.cells #[] 2)) w12.heap.size #[] 2 := Lv.new w12 _ _
        obtain ⟨g8, hg8⟩ : ∃ g, g = w12.heap.size := ⟨_, rfl⟩
        have he8W : W.heap.size ≤ g8 := by have := hHeld.size; rw [hg8]; exact this
        have e12 := e12.below b7
        refine hK.out _ _ (hHeld.alloc hHeld.size _) (fun hHeld => ?_)
        clear hK K
        rw [← hg8] at e8
        simp only [← hg8]
        generalize (w12.alloc (.cells #[] 2)) = w8 at *
        clear hg8 b7
        try simp only [Act.put, List.getElem_toArray, List.getElem_cons_zero, List.setIfInBounds_toArray, List.set_cons_zero, List.set_cons_succ]
        refine wpAnyH_ready (rs := [3, 9]) (by kernel_rfl) (by simp) ?_
        refine AllReadyH.cons (o := _) rfl (fun K hK => ?_) (AllReadyH.cons (o := _) rfl (fun K hK => ?_) (AllReadyH.nil))
        · refine step_fresh tL _ rfl _ _ rfl W.heap.size g8 e8 he8W rfl p c L n HN.out rfl (hL.below (bel_call bW (Nat.le_refl _) hHeld)) (by omega) ?_
          intro p1 c1 w1 o1 b1 _
          have e12 := e12.below b1
          refine hK.out _ _ (bel_call hHeld (Nat.le_refl _) b1) (fun hHeld => ?_)
          clear hK K
          try simp only [Act.put, List.getElem_toArray, List.getElem_cons_succ, List.getElem_cons_zero, List.setIfInBounds_toArray, List.set_cons_zero, List.set_cons_succ]
          refine wpAnyH_ready (rs := [7, 9]) (by kernel_rfl) (by simp) ?_
          refine AllReadyH.cons (o := _) rfl (fun K hK => ?_) (AllReadyH.cons (o := _) rfl (fun K hK => ?_) (AllReadyH.nil))
          · refine step_fresh tI _ rfl _ _ rfl W.heap.size W.heap.size e12 he12W rfl q d Q m HM.out rfl (hQ.below (bel_call bW (Nat.le_refl _) hHeld)) (by omega) ?_
            intro q1 d1 w2 o2 b2 _
            have o1 := own_below o1 b2
            refine hK.out _ _ (bel_call hHeld (Nat.le_refl _) b2) (fun hHeld => ?_)
            clear hK K
            try simp only [Act.put, List.getElem_toArray, List.getElem_cons_succ, List.getElem_cons_zero, List.setIfInBounds_toArray, List.set_cons_zero, List.set_cons_succ]
            refine wpAnyH_take (i := 8) (oi := _) (v := ?_) rfl (by kernel_rfl) (by kernel_rfl) (by kernel_rfl) (fun _ _ _ h => h) (Or.inl ⟨by rfl, ?_⟩) hHeld ?_
            rotate_left
            · intro w' hSw
              (go_simp <;> with_reducible rfl)
            try simp only [Act.put, List.getElem_toArray, List.getElem_cons_succ, List.getElem_cons_zero, List.setIfInBounds_toArray, List.set_cons_zero, List.set_cons_succ]
            refine wpAnyH_ready (rs := [9]) (by kernel_rfl) (by simp) ?_
            refine AllReadyH.cons (o := _) rfl (fun K hK => ?_) (AllReadyH.nil)
            go_simp
            have b7 : Below w2.heap.size w2 (w2.alloc (.cells #[.slice none 0 0, .slice none 0 0] 25)) := bel_self _ _
            have hz : Lv (w2.alloc (.cells #[.slice none 0 0, .slice none 0 0] 25)) w2.heap.size #[.slice none 0 0, .slice none 0 0] 25 := Lv.new w2 _ _
            obtain ⟨g7, hg7⟩ : ∃ g, g = w2.heap.size := ⟨_, rfl⟩
            have hhzW : W.heap.size ≤ g7 := by have := hHeld.size; rw [hg7]; exact this
            have o1 := own_below o1 b7
            have o2 := own_below o2 b7
            refine hK.out _ _ (hHeld.alloc hHeld.size _) (fun hHeld => ?_)
            clear hK K
            rw [← hg7] at hz
            simp only [← hg7]
            generalize (w2.alloc (.cells #[.slice none 0 0, .slice none 0 0] 25)) = w7 at *
            clear hg7 b7
            try simp only [Act.put, List.getElem_toArray, List.getElem_cons_succ, List.getElem_cons_zero, List.setIfInBounds_toArray, List.set_cons_zero, List.set_cons_succ]
            refine wpAnyH_ready (rs := [10]) (by kernel_rfl) (by simp) ?_
            refine AllReadyH.cons (o := _) rfl (fun K hK => ?_) (AllReadyH.nil)
            have z0 := hz.c 0 rfl
            have z1 := hz.c 1 rfl
            have y0 := hz.fz 0
            have y1 := hz.fz 1
            go_simp
            have fp : Far p1 g7 := Far.type o1 hz (by decide)
            have fq : Far q1 g7 := Far.type o2 hz (by decide)
            have hz9 : Lv ((w7.setCell ⟨g7, 0, none⟩ (.slice p1 n c1)).setCell ⟨g7, 1, none⟩ (.slice q1 m d1)) g7 #[.slice p1 n c1, .slice q1 m d1] 25 := (hz.set 0 (.slice p1 n c1)).set 1 (.slice q1 m d1)
            have o1 := own_setFar (own_setFar o1 fp 0 (.slice p1 n c1)) fp 1 (.slice q1 m d1)
            have o2 := own_setFar (own_setFar o2 fq 0 (.slice p1 n c1)) fq 1 (.slice q1 m d1)
            have hS9 : Below W.heap.size W ((w7.setCell ⟨g7, 0, none⟩ (.slice p1 n c1)).setCell ⟨g7, 1, none⟩ (.slice q1 m d1)) := by refine Below.setCell (Below.setCell hHeld ?_ _) ?_ _ <;> exact hhzW
            refine hK.out _ _ hS9 (fun hHeld => ?_)
            clear hK K
            try simp only [Act.put, List.getElem_toArray, List.getElem_cons_succ, List.getElem_cons_zero, List.setIfInBounds_toArray, List.set_cons_zero, List.set_cons_succ]
            refine wpAnyH_done (by kernel_rfl) ?_ _
            go_wp2_with fail
            go_meet
            case rel => exact ⟨g7, p1, c1, q1, d1, rfl, hhzW, hz9, o1, o2, hHeld⟩
          · go_simp
            have b7 : Below w1.heap.size w1 (w1.alloc (.cells #[.slice none 0 0, .slice none 0 0] 25)) := bel_self _ _
            have hz : Lv (w1.alloc (.cells #[.slice none 0 0, .slice none 0 0] 25)) w1.heap.size #[.slice none 0 0, .slice none 0 0] 25 := Lv.new w1 _ _
            obtain ⟨g7, hg7⟩ : ∃ g, g = w1.heap.size := ⟨_, rfl⟩
            have hhzW : W.heap.size ≤ g7 := by have := hHeld.size; rw [hg7]; exact this
            have e12 := e12.below b7
            have o1 := own_below o1 b7
            refine hK.out _ _ (hHeld.alloc hHeld.size _) (fun hHeld => ?_)
            clear hK K
            rw [← hg7] at hz
            simp only [← hg7]
            generalize (w1.alloc (.cells #[.slice none 0 0, .slice none 0 0] 25)) = w7 at *
            clear hg7 b7
            try simp only [Act.put, List.getElem_toArray, List.getElem_cons_succ, List.getElem_cons_zero, List.setIfInBounds_toArray, List.set_cons_zero, List.set_cons_succ]
            refine wpAnyH_ready (rs := [7]) (by kernel_rfl) (by simp) ?_
            refine AllReadyH.cons (o := _) rfl (fun K hK => ?_) (AllReadyH.nil)
            refine step_fresh tI _ rfl _ _ rfl W.heap.size W.heap.size e12 he12W rfl q d Q m HM.out rfl (hQ.below (bel_call bW (Nat.le_refl _) hHeld)) (by omega) ?_
            intro q1 d1 w2 o2 b2 _
            have o1 := own_below o1 b2
            have hz := hz.below b2
            refine hK.out _ _ (bel_call hHeld (Nat.le_refl _) b2) (fun hHeld => ?_)
            clear hK K
            try simp only [Act.put, List.getElem_toArray, List.getElem_cons_succ, List.getElem_cons_zero, List.setIfInBounds_toArray, List.set_cons_zero, List.set_cons_succ]
            refine wpAnyH_take (i := 8) (oi := _) (v := ?_) rfl (by kernel_rfl) (by kernel_rfl) (by kernel_rfl) (fun _ _ _ h => h) (Or.inl ⟨by rfl, ?_⟩) hHeld ?_
            rotate_left
            · intro w' hSw
              (go_simp <;> with_reducible rfl)
            try simp only [Act.put, List.getElem_toArray, List.getElem_cons_succ, List.getElem_cons_zero, List.setIfInBounds_toArray, List.set_cons_zero, List.set_cons_succ]
            refine wpAnyH_ready (rs := [10]) (by kernel_rfl) (by simp) ?_
            refine AllReadyH.cons (o := _) rfl (fun K hK => ?_) (AllReadyH.nil)
            have z0 := hz.c 0 rfl
            have z1 := hz.c 1 rfl
            have y0 := hz.fz 0
            have y1 := hz.fz 1
            go_simp
            have fp : Far p1 g7 := Far.type o1 hz (by decide)
            have fq : Far q1 g7 := Far.type o2 hz (by decide)
            have hz9 : Lv ((w2.setCell ⟨g7, 0, none⟩ (.slice p1 n c1)).setCell ⟨g7, 1, none⟩ (.slice q1 m d1)) g7 #[.slice p1 n c1, .slice q1 m d1] 25 := (hz.set 0 (.slice p1 n c1)).set 1 (.slice q1 m d1)
            have o1 := own_setFar (own_setFar o1 fp 0 (.slice p1 n c1)) fp 1 (.slice q1 m d1)
            have o2 := own_setFar (own_setFar o2 fq 0 (.slice p1 n c1)) fq 1 (.slice q1 m d1)
            have hS9 : Below W.heap.size W ((w2.setCell ⟨g7, 0, none⟩ (.slice p1 n c1)).setCell ⟨g7, 1, none⟩ (.slice q1 m d1)) := by refine Below.setCell (Below.setCell hHeld ?_ _) ?_ _ <;> exact hhzW
            refine hK.out _ _ hS9 (fun hHeld => ?_)
            clear hK K
            try simp only [Act.put, List.getElem_toArray, List.getElem_cons_succ, List.getElem_cons_zero, List.setIfInBounds_toArray, List.set_cons_zero, List.set_cons_succ]
            refine wpAnyH_done (by kernel_rfl) ?_ _
            go_wp2_with fail
            go_meet
            case rel => exact ⟨g7, p1, c1, q1, d1, rfl, hhzW, hz9, o1, o2, hHeld⟩
        · go_simp
          have b7 : Below w8.heap.size w8 (w8.alloc (.cells #[.slice none 0 0, .slice none 0 0] 25)) := bel_self _ _
          have hz : Lv (w8.alloc (.cells #[.slice none 0 0, .slice none 0 0] 25)) w8.heap.size #[.slice none 0 0, .slice none 0 0] 25 := Lv.new w8 _ _
          obtain ⟨g7, hg7⟩ : ∃ g, g = w8.heap.size := ⟨_, rfl⟩
          have hhzW : W.heap.size ≤ g7 := by have := hHeld.size; rw [hg7]; exact this
          have e8 := e8.below b7
          have e12 := e12.below b7
          refine hK.out _ _ (hHeld.alloc hHeld.size _) (fun hHeld => ?_)
          clear hK K
          rw [← hg7] at hz
          simp only [← hg7]
          generalize (w8.alloc (.cells #[.slice none 0 0, .slice none 0 0] 25)) = w7 at *
          clear hg7 b7
          try simp only [Act.put, List.getElem_toArray, List.getElem_cons_succ, List.getElem_cons_zero, List.setIfInBounds_toArray, List.set_cons_zero, List.set_cons_succ]
          refine wpAnyH_ready (rs := [3]) (by kernel_rfl) (by simp) ?_
          refine AllReadyH.cons (o := _) rfl (fun K hK => ?_) (AllReadyH.nil)
          refine step_fresh tL _ rfl _ _ rfl W.heap.size g8 e8 he8W rfl p c L n HN.out rfl (hL.below (bel_call bW (Nat.le_refl _) hHeld)) (by omega) ?_
          intro p1 c1 w1 o1 b1 _
          have e12 := e12.below b1
          have hz := hz.below b1
          refine hK.out _ _ (bel_call hHeld (Nat.le_refl _) b1) (fun hHeld => ?_)
          clear hK K
          try simp only [Act.put, List.getElem_toArray, List.getElem_cons_succ, List.getElem_cons_zero, List.setIfInBounds_toArray, List.set_cons_zero, List.set_cons_succ]
          refine wpAnyH_ready (rs := [7]) (by kernel_rfl) (by simp) ?_
          refine AllReadyH.cons (o := _) rfl (fun K hK => ?_) (AllReadyH.nil)
          refine step_fresh tI _ rfl _ _ rfl W.heap.size W.heap.size e12 he12W rfl q d Q m HM.out rfl (hQ.below (bel_call bW (Nat.le_refl _) hHeld)) (by omega) ?_
          intro q1 d1 w2 o2 b2 _
          have o1 := own_below o1 b2
          have hz := hz.below b2
          refine hK.out _ _ (bel_call hHeld (Nat.le_refl _) b2) (fun hHeld => ?_)
          clear hK K
          try simp only [Act.put, List.getElem_toArray, List.getElem_cons_succ, List.getElem_cons_zero, List.setIfInBounds_toArray, List.set_cons_zero, List.set_cons_succ]
          refine wpAnyH_take (i := 8) (oi := _) (v := ?_) rfl (by kernel_rfl) (by kernel_rfl) (by kernel_rfl) (fun _ _ _ h => h) (Or.inl ⟨by rfl, ?_⟩) hHeld ?_
          rotate_left
          · intro w' hSw
            (go_simp <;> with_reducible rfl)
          try simp only [Act.put, List.getElem_toArray, List.getElem_cons_succ, List.getElem_cons_zero, List.setIfInBounds_toArray, List.set_cons_zero, List.set_cons_succ]
          refine wpAnyH_ready (rs := [10]) (by kernel_rfl) (by simp) ?_
          refine AllReadyH.cons (o := _) rfl (fun K hK => ?_) (AllReadyH.nil)
          have z0 := hz.c 0 rfl
          have z1 := hz.c 1 rfl
          have y0 := hz.fz 0
          have y1 := hz.fz 1
          go_simp
          have fp : Far p1 g7 := Far.type o1 hz (by decide)
          have fq : Far q1 g7 := Far.type o2 hz (by decide)
          have hz9 : Lv ((w2.setCell ⟨g7, 0, none⟩ (.slice p1 n c1)).setCell ⟨g7, 1, none⟩ (.slice q1 m d1)) g7 #[.slice p1 n c1, .slice q1 m d1] 25 := (hz.set 0 (.slice p1 n c1)).set 1 (.slice q1 m d1)
          have o1 := own_setFar (own_setFar o1 fp 0 (.slice p1 n c1)) fp 1 (.slice q1 m d1)
          have o2 := own_setFar (own_setFar o2 fq 0 (.slice p1 n c1)) fq 1 (.slice q1 m d1)
          have hS9 : Below W.heap.size W ((w2.setCell ⟨g7, 0, none⟩ (.slice p1 n c1)).setCell ⟨g7, 1, none⟩ (.slice q1 m d1)) := by refine Below.setCell (Below.setCell hHeld ?_ _) ?_ _ <;> exact hhzW
          refine hK.out _ _ hS9 (fun hHeld => ?_)
          clear hK K
          try simp only [Act.put, List.getElem_toArray, List.getElem_cons_succ, List.getElem_cons_zero, List.setIfInBounds_toArray, List.set_cons_zero, List.set_cons_succ]
          refine wpAnyH_done (by kernel_rfl) ?_ _
          go_wp2_with fail
          go_meet
          case rel => exact ⟨g7, p1, c1, q1, d1, rfl, hhzW, hz9, o1, o2, hHeld⟩
      · go_simp
        have b7 : Below w12.heap.size w12 (w12.alloc (.cells #[.slice none 0 0, .slice none 0 0] 25)) := bel_self _ _
        have hz : Lv (w12.alloc (.cells #[.slice none 0 0, .slice none 0 0] 25)) w12.heap.size #[.slice none 0 0, .slice none 0 0] 25 := Lv.new w12 _ _
        obtain ⟨g7, hg7⟩ : ∃ g, g = w12.heap.size := ⟨_, rfl⟩
        have hhzW : W.heap.size ≤ g7 := by have := hHeld.size; rw [hg7]; exact this
        have e12 := e12.below b7
        refine hK.out _ _ (hHeld.alloc hHeld.size _) (fun hHeld => ?_)
        clear hK K
        rw [← hg7] at hz
        simp only [← hg7]
        generalize (w12.alloc (.cells #[.slice none 0 0, .slice none 0 0] 25)) = w7 at *
        clear hg7 b7
        try simp only [Act.put, List.getElem_toArray, List.getElem_cons_succ, List.getElem_cons_zero, List.setIfInBounds_toArray, List.set_cons_zero, List.set_cons_succ]
        refine wpAnyH_ready (rs := [0]) (by kernel_rfl) (by simp) ?_
        refine AllReadyH.cons (o := _) rfl (fun K hK => ?_) (AllReadyH.nil)
        go_simp
        have b7 : Below w7.heap.size w7 (w7.alloc (.cells #[] 2)) := bel_self _ _
        have e8 : Lv (w7.alloc (.cells #[] 2)) w7.heap.size #[] 2 := Lv.new w7 _ _
        obtain ⟨g8, hg8⟩ : ∃ g, g = w7.heap.size := ⟨_, rfl⟩
        have he8W : W.heap.size ≤ g8 := by have := hHeld.size; rw [hg8]; exact this
        have e12 := e12.below b7
        have hz := hz.below b7
        refine hK.out _ _ (hHeld.alloc hHeld.size _) (fun hHeld => ?_)
        clear hK K
        rw [← hg8] at e8
        simp only [← hg8]
        generalize (w7.alloc (.cells #[] 2)) = w8 at *
        clear hg8 b7
        try simp only [Act.put, List.getElem_toArray, List.getElem_cons_zero, List.setIfInBounds_toArray, List.set_cons_zero, List.set_cons_succ]
        refine wpAnyH_ready (rs := [3]) (by kernel_rfl) (by simp) ?_
        refine AllReadyH.cons (o := _) rfl (fun K hK => ?_) (AllReadyH.nil)
        refine step_fresh tL _ rfl _ _ rfl W.heap.size g8 e8 he8W rfl p c L n HN.out rfl (hL.below (bel_call bW (Nat.le_refl _) hHeld)) (by omega) ?_
        intro p1 c1 w1 o1 b1 _
        have e12 := e12.below b1
        have hz := hz.below b1
        refine hK.out _ _ (bel_call hHeld (Nat.le_refl _) b1) (fun hHeld => ?_)
        clear hK K
        try simp only [Act.put, List.getElem_toArray, List.getElem_cons_succ, List.getElem_cons_zero, List.setIfInBounds_toArray, List.set_cons_zero, List.set_cons_succ]
        refine wpAnyH_ready (rs := [7]) (by kernel_rfl) (by simp) ?_
        refine AllReadyH.cons (o := _) rfl (fun K hK => ?_) (AllReadyH.nil)
        refine step_fresh tI _ rfl _ _ rfl W.heap.size W.heap.size e12 he12W rfl q d Q m HM.out rfl (hQ.below (bel_call bW (Nat.le_refl _) hHeld)) (by omega) ?_
        intro q1 d1 w2 o2 b2 _
        have o1 := own_below o1 b2
        have hz := hz.below b2
        refine hK.out _ _ (bel_call hHeld (Nat.le_refl _) b2) (fun hHeld => ?_)
        clear hK K
        try simp only [Act.put, List.getElem_toArray, List.getElem_cons_succ, List.getElem_cons_zero, List.setIfInBounds_toArray, List.set_cons_zero, List.set_cons_succ]
        refine wpAnyH_take (i := 8) (oi := _) (v := ?_) rfl (by kernel_rfl) (by kernel_rfl) (by kernel_rfl) (fun _ _ _ h => h) (Or.inl ⟨by rfl, ?_⟩) hHeld ?_
        rotate_left
        · intro w' hSw
          (go_simp <;> with_reducible rfl)
        try simp only [Act.put, List.getElem_toArray, List.getElem_cons_succ, List.getElem_cons_zero, List.setIfInBounds_toArray, List.set_cons_zero, List.set_cons_succ]
        refine wpAnyH_ready (rs := [10]) (by kernel_rfl) (by simp) ?_
        refine AllReadyH.cons (o := _) rfl (fun K hK => ?_) (AllReadyH.nil)
        have z0 := hz.c 0 rfl
        have z1 := hz.c 1 rfl
        have y0 := hz.fz 0
        have y1 := hz.fz 1
        go_simp
        have fp : Far p1 g7 := Far.type o1 hz (by decide)
        have fq : Far q1 g7 := Far.type o2 hz (by decide)
        have hz9 : Lv ((w2.setCell ⟨g7, 0, none⟩ (.slice p1 n c1)).setCell ⟨g7, 1, none⟩ (.slice q1 m d1)) g7 #[.slice p1 n c1, .slice q1 m d1] 25 := (hz.set 0 (.slice p1 n c1)).set 1 (.slice q1 m d1)
        have o1 := own_setFar (own_setFar o1 fp 0 (.slice p1 n c1)) fp 1 (.slice q1 m d1)
        have o2 := own_setFar (own_setFar o2 fq 0 (.slice p1 n c1)) fq 1 (.slice q1 m d1)
        have hS9 : Below W.heap.size W ((w2.setCell ⟨g7, 0, none⟩ (.slice p1 n c1)).setCell ⟨g7, 1, none⟩ (.slice q1 m d1)) := by refine Below.setCell (Below.setCell hHeld ?_ _) ?_ _ <;> exact hhzW
        refine hK.out _ _ hS9 (fun hHeld => ?_)
        clear hK K
        try simp only [Act.put, List.getElem_toArray, List.getElem_cons_succ, List.getElem_cons_zero, List.setIfInBounds_toArray, List.set_cons_zero, List.set_cons_succ]
        refine wpAnyH_done (by kernel_rfl) ?_ _
        go_wp2_with fail
        go_meet
        case rel => exact ⟨g7, p1, c1, q1, d1, rfl, hhzW, hz9, o1, o2, hHeld⟩
    · go_simp
      have b7 : Below W.heap.size W (W.alloc (.cells #[.slice none 0 0, .slice none 0 0] 25)) := bel_self _ _
      have hz : Lv ((W.alloc (.cells #[.slice none 0 0, .slice none 0 0] 25)).drew) W.heap.size #[.slice none 0 0, .slice none 0 0] 25 := Lv.new W _ _
      have hhzW : W.heap.size ≤ W.heap.size := Nat.le_refl _
      refine hK.out _ _ (hHeld.alloc hHeld.size _) (fun hHeld => ?_)
      clear hK K
      generalize ((W.alloc (.cells #[.slice none 0 0, .slice none 0 0] 25)).drew) = w7 at *
      clear b7
      try simp only [Act.put, List.getElem_toArray, List.getElem_cons_succ, List.getElem_cons_zero, List.setIfInBounds_toArray, List.set_cons_zero, List.set_cons_succ]
      refine wpAnyH_ready (rs := [0, 4]) (by kernel_rfl) (by simp) ?_
      refine AllReadyH.cons (o := _) rfl (fun K hK => ?_) (AllReadyH.cons (o := _) rfl (fun K hK => ?_) (AllReadyH.nil))
      · go_simp
        have b7 : Below w7.heap.size w7 (w7.alloc (.cells #[] 2)) := bel_self _ _
        have e8 : Lv (w7.alloc (.cells #[] 2)) w7.heap.size #[] 2 := Lv.new w7 _ _
        obtain ⟨g8, hg8⟩ : ∃ g, g = w7.heap.size := ⟨_, rfl⟩
        have he8W : W.heap.size ≤ g8 := by have := hHeld.size; rw [hg8]; exact this
        have hz := hz.below b7
        refine hK.out _ _ (hHeld.alloc hHeld.size _) (fun hHeld => ?_)
        clear hK K
        rw [← hg8] at e8
        simp only [← hg8]
        generalize (w7.alloc (.cells #[] 2)) = w8 at *
        clear hg8 b7
        try simp only [Act.put, List.getElem_toArray, List.getElem_cons_zero, List.setIfInBounds_toArray, List.set_cons_zero, List.set_cons_succ]
        refine wpAnyH_ready (rs := [3, 4]) (by kernel_rfl) (by simp) ?_
        refine AllReadyH.cons (o := _) rfl (fun K hK => ?_) (AllReadyH.cons (o := _) rfl (fun K hK => ?_) (AllReadyH.nil))
        · refine step_fresh tL _ rfl _ _ rfl W.heap.size g8 e8 he8W rfl p c L n HN.out rfl (hL.below (bel_call bW (Nat.le_refl _) hHeld)) (by omega) ?_
          intro p1 c1 w1 o1 b1 _
          have hz := hz.below b1
          refine hK.out _ _ (bel_call hHeld (Nat.le_refl _) b1) (fun hHeld => ?_)
          clear hK K
          try simp only [Act.put, List.getElem_toArray, List.getElem_cons_succ, List.getElem_cons_zero, List.setIfInBounds_toArray, List.set_cons_zero, List.set_cons_succ]
          refine wpAnyH_ready (rs := [4]) (by kernel_rfl) (by simp) ?_
          refine AllReadyH.cons (o := _) rfl (fun K hK => ?_) (AllReadyH.nil)
          go_simp
          have b7 : Below w1.heap.size w1 (w1.alloc (.cells #[] 3)) := bel_self _ _
          have e12 : Lv (w1.alloc (.cells #[] 3)) w1.heap.size #[] 3 := Lv.new w1 _ _
          obtain ⟨g12, hg12⟩ : ∃ g, g = w1.heap.size := ⟨_, rfl⟩
          have he12W : W.heap.size ≤ g12 := by have := hHeld.size; rw [hg12]; exact this
          have o1 := own_below o1 b7
          have hz := hz.below b7
          refine hK.out _ _ (hHeld.alloc hHeld.size _) (fun hHeld => ?_)
          clear hK K
          rw [← hg12] at e12
          simp only [← hg12]
          generalize (w1.alloc (.cells #[] 3)) = w12 at *
          clear hg12 b7
          try simp only [Act.put, List.getElem_toArray, List.getElem_cons_succ, List.getElem_cons_zero, List.setIfInBounds_toArray, List.set_cons_zero, List.set_cons_succ]
          refine wpAnyH_ready (rs := [7]) (by kernel_rfl) (by simp) ?_
          refine AllReadyH.cons (o := _) rfl (fun K hK => ?_) (AllReadyH.nil)
          refine step_fresh tI _ rfl _ _ rfl W.heap.size g12 e12 he12W rfl q d Q m HM.out rfl (hQ.below (bel_call bW (Nat.le_refl _) hHeld)) (by omega) ?_
          intro q1 d1 w2 o2 b2 _
          have o1 := own_below o1 b2
          have hz := hz.below b2
          refine hK.out _ _ (bel_call hHeld (Nat.le_refl _) b2) (fun hHeld => ?_)
          clear hK K
          try simp only [Act.put, List.getElem_toArray, List.getElem_cons_succ, List.getElem_cons_zero, List.setIfInBounds_toArray, List.set_cons_zero, List.set_cons_succ]
          refine wpAnyH_take (i := 8) (oi := _) (v := ?_) rfl (by kernel_rfl) (by kernel_rfl) (by kernel_rfl) (fun _ _ _ h => h) (Or.inl ⟨by rfl, ?_⟩) hHeld ?_
          rotate_left
          · intro w' hSw
            (go_simp <;> with_reducible rfl)
          try simp only [Act.put, List.getElem_toArray, List.getElem_cons_succ, List.getElem_cons_zero, List.setIfInBounds_toArray, List.set_cons_zero, List.set_cons_succ]
          refine wpAnyH_ready (rs := [10]) (by kernel_rfl) (by simp) ?_
          refine AllReadyH.cons (o := _) rfl (fun K hK => ?_) (AllReadyH.nil)
          have z0 := hz.c 0 rfl
          have z1 := hz.c 1 rfl
          have y0 := hz.fz 0
          have y1 := hz.fz 1
          go_simp
          have fp : Far p1 W.heap.size := Far.type o1 hz (by decide)
          have fq : Far q1 W.heap.size := Far.type o2 hz (by decide)
          have hz9 : Lv ((w2.setCell ⟨W.heap.size, 0, none⟩ (.slice p1 n c1)).setCell ⟨W.heap.size, 1, none⟩ (.slice q1 m d1)) W.heap.size #[.slice p1 n c1, .slice q1 m d1] 25 := (hz.set 0 (.slice p1 n c1)).set 1 (.slice q1 m d1)
          have o1 := own_setFar (own_setFar o1 fp 0 (.slice p1 n c1)) fp 1 (.slice q1 m d1)
          have o2 := own_setFar (own_setFar o2 fq 0 (.slice p1 n c1)) fq 1 (.slice q1 m d1)
          have hS9 : Below W.heap.size W ((w2.setCell ⟨W.heap.size, 0, none⟩ (.slice p1 n c1)).setCell ⟨W.heap.size, 1, none⟩ (.slice q1 m d1)) := by refine Below.setCell (Below.setCell hHeld ?_ _) ?_ _ <;> exact hhzW
          refine hK.out _ _ hS9 (fun hHeld => ?_)
          clear hK K
          try simp only [Act.put, List.getElem_toArray, List.getElem_cons_succ, List.getElem_cons_zero, List.setIfInBounds_toArray, List.set_cons_zero, List.set_cons_succ]
          refine wpAnyH_done (by kernel_rfl) ?_ _
          go_wp2_with fail
          go_meet
          case rel => exact ⟨W.heap.size, p1, c1, q1, d1, rfl, hhzW, hz9, o1, o2, hHeld⟩
        · go_simp
          have b7 : Below w8.heap.size w8 (w8.alloc (.cells #[] 3)) := bel_self _ _
          have e12 : Lv (w8.alloc (.cells #[] 3)) w8.heap.size #[] 3 := Lv.new w8 _ _
          obtain ⟨g12, hg12⟩ : ∃ g, g = w8.heap.size := ⟨_, rfl⟩
          have he12W : W.heap.size ≤ g12 := by have := hHeld.size; rw [hg12]; exact this
          have e8 := e8.below b7
          have hz := hz.below b7
          refine hK.out _ _ (hHeld.alloc hHeld.size _) (fun hHeld => ?_)
          clear hK K
          rw [← hg12] at e12
          simp only [← hg12]
          generalize (w8.alloc (.cells #[] 3)) = w12 at *
          clear hg12 b7
          try simp only [Act.put, List.getElem_toArray, List.getElem_cons_succ, List.getElem_cons_zero, List.setIfInBounds_toArray, List.set_cons_zero, List.set_cons_succ]
          refine wpAnyH_ready (rs := [3]) (by kernel_rfl) (by simp) ?_
          refine AllReadyH.cons (o := _) rfl (fun K hK => ?_) (AllReadyH.nil)
          refine step_fresh tL _ rfl _ _ rfl W.heap.size g8 e8 he8W rfl p c L n HN.out rfl (hL.below (bel_call bW (Nat.le_refl _) hHeld)) (by omega) ?_
          intro p1 c1 w1 o1 b1 _
          have e12 := e12.below b1
          have hz := hz.below b1
          refine hK.out _ _ (bel_call hHeld (Nat.le_refl _) b1) (fun hHeld => ?_)
          clear hK K
          try simp only [Act.put, List.getElem_toArray, List.getElem_cons_succ, List.getElem_cons_zero, List.setIfInBounds_toArray, List.set_cons_zero, List.set_cons_succ]
          refine wpAnyH_ready (rs := [7]) (by kernel_rfl) (by simp) ?_
          refine AllReadyH.cons (o := _) rfl (fun K hK => ?_) (AllReadyH.nil)
          refine step_fresh tI _ rfl _ _ rfl W.heap.size g12 e12 he12W rfl q d Q m HM.out rfl (hQ.below (bel_call bW (Nat.le_refl _) hHeld)) (by omega) ?_
          intro q1 d1 w2 o2 b2 _
          have o1 := own_below o1 b2
          have hz := hz.below b2
          refine hK.out _ _ (bel_call hHeld (Nat.le_refl _) b2) (fun hHeld => ?_)
          clear hK K
          try simp only [Act.put, List.getElem_toArray, List.getElem_cons_succ, List.getElem_cons_zero, List.setIfInBounds_toArray, List.set_cons_zero, List.set_cons_succ]
          refine wpAnyH_take (i := 8) (oi := _) (v := ?_) rfl (by kernel_rfl) (by kernel_rfl) (by kernel_rfl) (fun _ _ _ h => h) (Or.inl ⟨by rfl, ?_⟩) hHeld ?_
          rotate_left
          · intro w' hSw
            (go_simp <;> with_reducible rfl)
          try simp only [Act.put, List.getElem_toArray, List.getElem_cons_succ, List.getElem_cons_zero, List.setIfInBounds_toArray, List.set_cons_zero, List.set_cons_succ]
          refine wpAnyH_ready (rs := [10]) (by kernel_rfl) (by simp) ?_
          refine AllReadyH.cons (o := _) rfl (fun K hK => ?_) (AllReadyH.nil)
          have z0 := hz.c 0 rfl
          have z1 := hz.c 1 rfl
          have y0 := hz.fz 0
          have y1 := hz.fz 1
          go_simp
          have fp : Far p1 W.heap.size := Far.type o1 hz (by decide)
          have fq : Far q1 W.heap.size := Far.type o2 hz (by decide)
          have hz9 : Lv ((w2.setCell ⟨W.heap.size, 0, none⟩ (.slice p1 n c1)).setCell ⟨W.heap.size, 1, none⟩ (.slice q1 m d1)) W.heap.size #[.slice p1 n c1, .slice q1 m d1] 25 := (hz.set 0 (.slice p1 n c1)).set 1 (.slice q1 m d1)
          have o1 := own_setFar (own_setFar o1 fp 0 (.slice p1 n c1)) fp 1 (.slice q1 m d1)
          have o2 := own_setFar (own_setFar o2 fq 0 (.slice p1 n c1)) fq 1 (.slice q1 m d1)
          have hS9 : Below W.heap.size W ((w2.setCell ⟨W.heap.size, 0, none⟩ (.slice p1 n c1)).setCell ⟨W.heap.size, 1, none⟩ (.slice q1 m d1)) := by refine Below.setCell (Below.setCell hHeld ?_ _) ?_ _ <;> exact hhzW
          refine hK.out _ _ hS9 (fun hHeld => ?_)
          clear hK K
          try simp only [Act.put, List.getElem_toArray, List.getElem_cons_succ, List.getElem_cons_zero, List.setIfInBounds_toArray, List.set_cons_zero, List.set_cons_succ]
          refine wpAnyH_done (by kernel_rfl) ?_ _
          go_wp2_with fail
          go_meet
          case rel => exact ⟨W.heap.size, p1, c1, q1, d1, rfl, hhzW, hz9, o1, o2, hHeld⟩
      · go_simp
        have b7 : Below w7.heap.size w7 (w7.alloc (.cells #[] 3)) := bel_self _ _
        have e12 : Lv (w7.alloc (.cells #[] 3)) w7.heap.size #[] 3 := Lv.new w7 _ _
        obtain ⟨g12, hg12⟩ : ∃ g, g = w7.heap.size := ⟨_, rfl⟩
        have he12W : W.heap.size ≤ g12 := by have := hHeld.size; rw [hg12]; exact this
        have hz := hz.below b7
        refine hK.out _ _ (hHeld.alloc hHeld.size _) (fun hHeld => ?_)
        clear hK K
        rw [← hg12] at e12
        simp only [← hg12]
        generalize (w7.alloc (.cells #[] 3)) = w12 at *
        clear hg12 b7
        try simp only [Act.put, List.getElem_toArray, List.getElem_cons_succ, List.getElem_cons_zero, List.setIfInBounds_toArray, List.set_cons_zero, List.set_cons_succ]
        refine wpAnyH_ready (rs := [0]) (by kernel_rfl) (by simp) ?_
        refine AllReadyH.cons (o := _) rfl (fun K hK => ?_) (AllReadyH.nil)
        go_simp
        have b7 : Below w12.heap.size w12 (w12.alloc (.cells #[] 2)) := bel_self _ _
        have e8 : Lv (w12.alloc (.cells #[] 2)) w12.heap.size #[] 2 := Lv.new w12 _ _
        obtain ⟨g8, hg8⟩ : ∃ g, g = w12.heap.size := ⟨_, rfl⟩
        have he8W : W.heap.size ≤ g8 := by have := hHeld.size; rw [hg8]; exact this
        have e12 := e12.below b7
        have hz := hz.below b7
        refine hK.out _ _ (hHeld.alloc hHeld.size _) (fun hHeld => ?_)
        clear hK K
        rw [← hg8] at e8
        simp only [← hg8]
        generalize (w12.alloc (.cells #[] 2)) = w8 at *
        clear hg8 b7
        try simp only [Act.put, List.getElem_toArray, List.getElem_cons_zero, List.setIfInBounds_toArray, List.set_cons_zero, List.set_cons_succ]
        refine wpAnyH_ready (rs := [3]) (by kernel_rfl) (by simp) ?_
        refine AllReadyH.cons (o := _) rfl (fun K hK => ?_) (AllReadyH.nil)
        refine step_fresh tL _ rfl _ _ rfl W.heap.size g8 e8 he8W rfl p c L n HN.out rfl (hL.below (bel_call bW (Nat.le_refl _) hHeld)) (by omega) ?_
        intro p1 c1 w1 o1 b1 _
        have e12 := e12.below b1
        have hz := hz.below b1
        refine hK.out _ _ (bel_call hHeld (Nat.le_refl _) b1) (fun hHeld => ?_)
        clear hK K
        try simp only [Act.put, List.getElem_toArray, List.getElem_cons_succ, List.getElem_cons_zero, List.setIfInBounds_toArray, List.set_cons_zero, List.set_cons_succ]
        refine wpAnyH_ready (rs := [7]) (by kernel_rfl) (by simp) ?_
        refine AllReadyH.cons (o := _) rfl (fun K hK => ?_) (AllReadyH.nil)
        refine step_fresh tI _ rfl _ _ rfl W.heap.size g12 e12 he12W rfl q d Q m HM.out rfl (hQ.below (bel_call bW (Nat.le_refl _) hHeld)) (by omega) ?_
        intro q1 d1 w2 o2 b2 _
        have o1 := own_below o1 b2
        have hz := hz.below b2
        refine hK.out _ _ (bel_call hHeld (Nat.le_refl _) b2) (fun hHeld => ?_)
        clear hK K
        try simp only [Act.put, List.getElem_toArray, List.getElem_cons_succ, List.getElem_cons_zero, List.setIfInBounds_toArray, List.set_cons_zero, List.set_cons_succ]
        refine wpAnyH_take (i := 8) (oi := _) (v := ?_) rfl (by kernel_rfl) (by kernel_rfl) (by kernel_rfl) (fun _ _ _ h => h) (Or.inl ⟨by rfl, ?_⟩) hHeld ?_
        rotate_left
        · intro w' hSw
          (go_simp <;> with_reducible rfl)
        try simp only [Act.put, List.getElem_toArray, List.getElem_cons_succ, List.getElem_cons_zero, List.setIfInBounds_toArray, List.set_cons_zero, List.set_cons_succ]
        refine wpAnyH_ready (rs := [10]) (by kernel_rfl) (by simp) ?_
        refine AllReadyH.cons (o := _) rfl (fun K hK => ?_) (AllReadyH.nil)
        have z0 := hz.c 0 rfl
        have z1 := hz.c 1 rfl
        have y0 := hz.fz 0
        have y1 := hz.fz 1
        go_simp
        have fp : Far p1 W.heap.size := Far.type o1 hz (by decide)
        have fq : Far q1 W.heap.size := Far.type o2 hz (by decide)
        have hz9 : Lv ((w2.setCell ⟨W.heap.size, 0, none⟩ (.slice p1 n c1)).setCell ⟨W.heap.size, 1, none⟩ (.slice q1 m d1)) W.heap.size #[.slice p1 n c1, .slice q1 m d1] 25 := (hz.set 0 (.slice p1 n c1)).set 1 (.slice q1 m d1)
        have o1 := own_setFar (own_setFar o1 fp 0 (.slice p1 n c1)) fp 1 (.slice q1 m d1)
        have o2 := own_setFar (own_setFar o2 fq 0 (.slice p1 n c1)) fq 1 (.slice q1 m d1)
        have hS9 : Below W.heap.size W ((w2.setCell ⟨W.heap.size, 0, none⟩ (.slice p1 n c1)).setCell ⟨W.heap.size, 1, none⟩ (.slice q1 m d1)) := by refine Below.setCell (Below.setCell hHeld ?_ _) ?_ _ <;> exact hhzW
        refine hK.out _ _ hS9 (fun hHeld => ?_)
        clear hK K
        try simp only [Act.put, List.getElem_toArray, List.getElem_cons_succ, List.getElem_cons_zero, List.setIfInBounds_toArray, List.set_cons_zero, List.set_cons_succ]
        refine wpAnyH_done (by kernel_rfl) ?_ _
        go_wp2_with fail
        go_meet
        case rel => exact ⟨W.heap.size, p1, c1, q1, d1, rfl, hhzW, hz9, o1, o2, hHeld⟩
  case rest =>
    obtain ⟨g, p1, c1, q1, d1, rfl, hgW, hv, o1, o2, hB⟩ := hcut
    have hrc : Lv wc (w.heap.size + 1) #[.slice none 0 0, .slice none 0 0] 25 := (hB.block (w.heap.size + 1) hgr).trans hr0
    have hpc : Lv wc w.heap.size #[.slice p n c, .slice q m d] 25 := (hB.block w.heap.size hgp).trans hp0
    have hne1 : g ≠ w.heap.size + 1 := by omega
    have hne2 : w.heap.size + 1 ≠ g := by omega
    have hne3 : w.heap.size ≠ g := by omega
    have fpg : Far p1 g := Far.type o1 hv (by decide)
    have fqg : Far q1 g := Far.type o2 hv (by decide)
    have fp := fpg
    have fq := fqg
    have fpr : Far p1 (w.heap.size + 1) := Far.low o1 hgr
    have fqr : Far q1 (w.heap.size + 1) := Far.low o2 hgr
    have BW : Below w.heap.size w wc := bel_call bW (Nat.le_refl _) hB
    have k0 := hpc.c 0 rfl
    have k1 := hpc.c 1 rfl
    have d0 : decide ((0 : Int) < 0) = false := by decide
    by_cases hc0 : v < 1
    · have dc : decide (v < 1) = true := by simpa using hc0
      have dc2 : decide (0 < v) = false := by simp; omega
      have HA : Hid (takeL L v = L) := by simp [takeL, dc2, Hid]
      have HB : Hid (takeQ L Q v = Q) := by simp [takeQ, dc2, Hid]
      have HV : Hid (takeV L v = 0) := by simp [takeV, takeGot, dc2, Hid]
      have HG : Hid (takeGot L v = false) := by simp [takeGot, dc2, Hid]
      have HO : Hid (takeOk L Q v = false) := by simp [takeOk, dc2, Hid]
      have hv3 := hv
      have hr3 := hrc
      have z0 := hv3.c 0 rfl
      have z1 := hv3.c 1 rfl
      have y0 := hv3.fz 0
      have y1 := hv3.fz 1
      have x0 := hr3.c 0 rfl
      have x1 := hr3.c 1 rfl
      have v0 := hr3.fz 0
      have v1 := hr3.fz 1
      clear dc2
      go_wp2
      have hR9 : Lv ((wc.setCell ⟨w.heap.size + 1, 0, none⟩ (.slice p1 n c1)).setCell ⟨w.heap.size + 1, 1, none⟩ (.slice q1 m d1)) (w.heap.size + 1) #[.slice p1 n c1, .slice q1 m d1] 25 := (hr3.set 0 (.slice p1 n c1)).set 1 (.slice q1 m d1)
      have e9 := loadBox hR9
      have hb9 : Below w.heap.size w ((wc.setCell ⟨w.heap.size + 1, 0, none⟩ (.slice p1 n c1)).setCell ⟨w.heap.size + 1, 1, none⟩ (.slice q1 m d1)) := by
        refine Below.setCell (Below.setCell ?_ ?_ _) ?_ _
        · exact BW
        · exact Nat.le_succ _
        · exact Nat.le_succ _
      have RA9 := rd_setFar (rd_setFar (own_rd o1) fpr 0 (.slice p1 n c1)) fpr 1 (.slice q1 m d1)
      have RB9 := rd_setFar (rd_setFar (own_rd o2) fqr 0 (.slice p1 n c1)) fqr 1 (.slice q1 m d1)
      refine bodyPost_ret (v := .tuple #[.agg #[.slice p1 n c1, .slice q1 m d1], .int .i64 0, .bool false, .bool false]) (by simp [results, Try.results12, asAddr, e9]) rfl ⟨_, _, _, _, (by rw [HA.out, HB.out, HV.out, HG.out, HO.out, HN.out, HM.out] <;> rfl), (by rw [HA.out]; exact RA9), (by rw [HB.out]; exact RB9), hb9⟩
    have dc : decide (v < 1) = false := by simp; omega
    have dc2 : decide (0 < v) = true := by simp; omega
    cases L with
    | cons x R =>
      have HA : Hid (takeL (x :: R) v = R) := by simp [takeL, dc2, Hid]
      have HB : Hid (takeQ (x :: R) Q v = Q) := by simp [takeQ, Hid]
      have HV : Hid (takeV (x :: R) v = x) := by simp [takeV, takeGot, dc2, Hid]
      have HG : Hid (takeGot (x :: R) v = true) := by simp [takeGot, dc2, Hid]
      have HO : Hid (takeOk (x :: R) Q v = true) := by simp [takeOk, dc2, Hid]
      obtain ⟨r, hr⟩ : ∃ r, R.length = r := ⟨_, rfl⟩
      obtain rfl : n = r + 1 := by rw [← HN.out]; simp [hr]
      have HR : Hid (R.length = r) := hr
      obtain ⟨b0, o0, rfl, hb0, kb0⟩ := hL.num 0 (by simp)
      have kb := (BW.cell (p := ⟨b0, o0 + 0, none⟩) hb0).trans kb0
      have hbr : b0 ≠ w.heap.size + 1 := by omega
      have hbg : b0 ≠ g := by omega
      clear kb0 dc2
      simp only [Nat.add_zero, List.getElem_cons_zero] at kb
      obtain ⟨gq, cur, rfl, hgq, -⟩ := own_open o1 (by simp)
      have hcap := own_cap o1
      simp only [List.length_cons, hr] at hcap
      obtain ⟨q2, hq2⟩ : ∃ q2 : Option Addr, q2 = if c1 = 1 then some ⟨gq, 0, none⟩ else some ⟨gq, 1, none⟩ := ⟨_, rfl⟩
      have r2 : Rd eI wc q2 (c1 - 1) R := by
        have := (own_rd o1).drop 1 (by simp)
        rw [hq2]
        simpa [eI, Addr.add] using this
      have fpg2 : Far q2 g := by
        intro b o e
        rw [hq2] at e
        have := fpg gq 0 rfl
        split at e <;> cases e <;> exact this
      have fpr2 : Far q2 (w.heap.size + 1) := by
        intro b o e
        rw [hq2] at e
        have := fpr gq 0 rfl
        split at e <;> cases e <;> exact this
      have hv3 := hv
      have hr3 := hrc
      have z0 := hv3.c 0 rfl
      have z1 := hv3.c 1 rfl
      have y0 := hv3.fz 0
      have y1 := hv3.fz 1
      have x0 := hr3.c 0 rfl
      have x1 := hr3.c 1 rfl
      have v0 := hr3.fz 0
      have v1 := hr3.fz 1
      have d1c : (1 : Int) ≤ (r : Int) + 1 := by omega
      have d2c : r + 1 ≤ c1 := hcap
      have d3c : 1 ≤ c1 := by omega
      have d4c : (0 : Int) < (r : Int) + 1 := by omega
      have d5c : decide ((0 : Int) < (r : Int) + 1) = true := decide_eq_true d4c
      clear hr cur hcap
      by_cases hd : c1 = 1
      · rw [if_pos hd] at hq2
        subst hq2 hd
        obtain rfl : r = 0 := by omega
        clear d2c d3c
        go_wp2
        go_region
        go_wp2
        have hR9 : Lv (((wc.setCell ⟨g, 0, none⟩ (.slice (some ⟨gq, 0, none⟩) 0 (0))).setCell ⟨w.heap.size + 1, 0, none⟩ (.slice (some ⟨gq, 0, none⟩) 0 (0))).setCell ⟨w.heap.size + 1, 1, none⟩ (.slice q1 m d1)).drew (w.heap.size + 1) #[.slice (some ⟨gq, 0, none⟩) 0 (0), .slice q1 m d1] 25 := ((hr3.far (a := ⟨g, 0, none⟩) hne1 (.slice (some ⟨gq, 0, none⟩) 0 (0))).set 0 (.slice (some ⟨gq, 0, none⟩) 0 (0))).set 1 (.slice q1 m d1)
        have e9 := loadBox hR9
        have hb9 : Below w.heap.size w (((wc.setCell ⟨g, 0, none⟩ (.slice (some ⟨gq, 0, none⟩) 0 (0))).setCell ⟨w.heap.size + 1, 0, none⟩ (.slice (some ⟨gq, 0, none⟩) 0 (0))).setCell ⟨w.heap.size + 1, 1, none⟩ (.slice q1 m d1)) := by
          refine Below.setCell (Below.setCell ?_ ?_ _) ?_ _
          · refine Below.setCell BW ?_ _
            show w.heap.size ≤ g
            omega
          · exact Nat.le_succ _
          · exact Nat.le_succ _
        have RA9 := rd_setFar (rd_setFar (rd_setFar r2 fpg2 0 (.slice (some ⟨gq, 0, none⟩) 0 (0))) fpr2 0 (.slice (some ⟨gq, 0, none⟩) 0 (0))) fpr2 1 (.slice q1 m d1)
        have RB9 := rd_setFar (rd_setFar (rd_setFar (own_rd o2) fqg 0 (.slice (some ⟨gq, 0, none⟩) 0 (0))) fqr 0 (.slice (some ⟨gq, 0, none⟩) 0 (0))) fqr 1 (.slice q1 m d1)
        have RA9 := RA9.drw
        have RB9 := RB9.drw
        have hb9 := hb9.drew
        refine bodyPost_ret (v := .tuple #[.agg #[.slice (some ⟨gq, 0, none⟩) 0 (0), .slice q1 m d1], .int .i64 x, .bool true, .bool true]) (by simp [results, Try.results12, asAddr, e9]) rfl ⟨_, _, _, _, (by rw [HA.out, HB.out, HV.out, HG.out, HO.out, HR.out, HM.out]), (by rw [HA.out]; exact RA9), (by rw [HB.out]; exact RB9), hb9⟩
      · rw [if_neg hd] at hq2
        subst hq2
        go_wp2
        go_region
        go_wp2
        have hR9 : Lv (((wc.setCell ⟨g, 0, none⟩ (.slice (some ⟨gq, 1, none⟩) r (c1 - 1))).setCell ⟨w.heap.size + 1, 0, none⟩ (.slice (some ⟨gq, 1, none⟩) r (c1 - 1))).setCell ⟨w.heap.size + 1, 1, none⟩ (.slice q1 m d1)).drew (w.heap.size + 1) #[.slice (some ⟨gq, 1, none⟩) r (c1 - 1), .slice q1 m d1] 25 := ((hr3.far (a := ⟨g, 0, none⟩) hne1 (.slice (some ⟨gq, 1, none⟩) r (c1 - 1))).set 0 (.slice (some ⟨gq, 1, none⟩) r (c1 - 1))).set 1 (.slice q1 m d1)
        have e9 := loadBox hR9
        have hb9 : Below w.heap.size w (((wc.setCell ⟨g, 0, none⟩ (.slice (some ⟨gq, 1, none⟩) r (c1 - 1))).setCell ⟨w.heap.size + 1, 0, none⟩ (.slice (some ⟨gq, 1, none⟩) r (c1 - 1))).setCell ⟨w.heap.size + 1, 1, none⟩ (.slice q1 m d1)) := by
          refine Below.setCell (Below.setCell ?_ ?_ _) ?_ _
          · refine Below.setCell BW ?_ _
            show w.heap.size ≤ g
            omega
          · exact Nat.le_succ _
          · exact Nat.le_succ _
        have RA9 := rd_setFar (rd_setFar (rd_setFar r2 fpg2 0 (.slice (some ⟨gq, 1, none⟩) r (c1 - 1))) fpr2 0 (.slice (some ⟨gq, 1, none⟩) r (c1 - 1))) fpr2 1 (.slice q1 m d1)
        have RB9 := rd_setFar (rd_setFar (rd_setFar (own_rd o2) fqg 0 (.slice (some ⟨gq, 1, none⟩) r (c1 - 1))) fqr 0 (.slice (some ⟨gq, 1, none⟩) r (c1 - 1))) fqr 1 (.slice q1 m d1)
        have RA9 := RA9.drw
        have RB9 := RB9.drw
        have hb9 := hb9.drew
        refine bodyPost_ret (v := .tuple #[.agg #[.slice (some ⟨gq, 1, none⟩) r (c1 - 1), .slice q1 m d1], .int .i64 x, .bool true, .bool true]) (by simp [results, Try.results12, asAddr, e9]) rfl ⟨_, _, _, _, (by rw [HA.out, HB.out, HV.out, HG.out, HO.out, HR.out, HM.out]), (by rw [HA.out]; exact RA9), (by rw [HB.out]; exact RB9), hb9⟩
    | nil =>
      obtain rfl : n = 0 := HN.out.symm
      have hv3 := hv
      have hr3 := hrc
      have HA : Hid (takeL [] v = []) := by simp [takeL, Hid]
      have HV : Hid (takeV [] v = 0) := by simp [takeV, takeGot, Hid]
      have HG : Hid (takeGot [] v = false) := by simp [takeGot, Hid]
      have HD : Hid (decide (0 < v) = true) := dc2
      clear dc2
      have z0 := hv3.c 0 rfl
      have z1 := hv3.c 1 rfl
      have y0 := hv3.fz 0
      have y1 := hv3.fz 1
      have x0 := hr3.c 0 rfl
      have x1 := hr3.c 1 rfl
      have v0 := hr3.fz 0
      have v1 := hr3.fz 1
      go_wp2
      go_loop [9] (fun i => ∃ k : Nat, k ≤ m ∧ i = .int .i64 k ∧ ∀ j (hj : j < k) (hm : j < Q.length), Q[j] ≠ v) (fun i => m - (intOf i).toNat)
      case atStart => exact ⟨0, Nat.zero_le _, rfl, fun j hj => by omega⟩
      case round =>
        obtain ⟨k, hk, rfl, hall⟩ := hrel
        have HL : Hid (∀ j (hj : j < k) (hm : j < Q.length), Q[j] ≠ v) := hall
        clear hall
        by_cases hlt : k < m
        · have hkl : k < Q.length := by rw [HM.out]; exact hlt
          obtain ⟨b0, o0, rfl, hb0, kb⟩ := (hQ.below BW).num k hkl
          by_cases he : Q[k] = v
          · have HB9 : Hid (Q.any (· == v) = true) := List.any_eq_true.2 ⟨Q[k], List.getElem_mem hkl, by simp [he]⟩
            have HB : Hid (takeQ [] Q v = Q) := by simp [takeQ, HB9.out, Hid]
            have HO : Hid (takeOk [] Q v = false) := by simp [takeOk, HB9.out, Hid]
            rw [he] at kb
            clear he
            go_wp2
            have hR9 : Lv ((wc.setCell ⟨w.heap.size + 1, 0, none⟩ (.slice p1 0 c1)).setCell ⟨w.heap.size + 1, 1, none⟩ (.slice q1 m d1)) (w.heap.size + 1) #[.slice p1 0 c1, .slice q1 m d1] 25 := (hr3.set 0 (.slice p1 0 c1)).set 1 (.slice q1 m d1)
            have e9 := loadBox hR9
            have hb9 : Below w.heap.size w ((wc.setCell ⟨w.heap.size + 1, 0, none⟩ (.slice p1 0 c1)).setCell ⟨w.heap.size + 1, 1, none⟩ (.slice q1 m d1)) := by
              refine Below.setCell (Below.setCell ?_ ?_ _) ?_ _
              · exact BW
              · exact Nat.le_succ _
              · exact Nat.le_succ _
            have RA9 := rd_setFar (rd_setFar (own_rd o1) fpr 0 (.slice p1 0 c1)) fpr 1 (.slice q1 m d1)
            have RB9 := rd_setFar (rd_setFar (own_rd o2) fqr 0 (.slice p1 0 c1)) fqr 1 (.slice q1 m d1)
            refine bodyPost_ret (v := .tuple #[.agg #[.slice p1 0 c1, .slice q1 m d1], .int .i64 0, .bool false, .bool false]) (by simp [results, Try.results12, asAddr, e9]) rfl ⟨_, _, _, _, (by rw [HA.out, HB.out, HV.out, HG.out, HO.out, HM.out] <;> rfl), (by rw [HA.out]; exact RA9), (by rw [HB.out]; exact RB9), hb9⟩
          · have HE : Hid (Q[k] ≠ v) := he
            have he2 : (Q[k] == v) = false := by simpa using he
            obtain ⟨y, hy⟩ : ∃ y, Q[k] = y := ⟨_, rfl⟩
            rw [hy] at kb he2
            clear he hy
            go_wp2
            go_round
            case rel => exact ⟨k + 1, by omega, by go_num, fun j hj hm => by
              by_cases e : j = k
              · subst e; exact HE.out
              · exact HL.out j (by omega) hm⟩
            case measure => simp [intOf]; omega
        · have hkm : k = m := by omega
          subst hkm
          have HB9 : Hid (Q.any (· == v) = false) := by
            show _ = _
            rw [List.any_eq_false]
            intro y hy
            obtain ⟨j, hj, rfl⟩ := List.getElem_of_mem hy
            simpa using HL.out j (by rw [← HM.out]; exact hj) hj
          by_cases h4 : 4 ≤ k
          · have HB : Hid (takeQ [] Q v = Q) := by simp [takeQ, HM.out, Hid]; omega
            have HO : Hid (takeOk [] Q v = false) := by simp [takeOk, HM.out, Hid]; omega
            have d4 : decide ((4 : Int) ≤ (k : Int)) = true := by simp; omega
            go_wp2
            have hR9 : Lv ((wc.setCell ⟨w.heap.size + 1, 0, none⟩ (.slice p1 0 c1)).setCell ⟨w.heap.size + 1, 1, none⟩ (.slice q1 k d1)) (w.heap.size + 1) #[.slice p1 0 c1, .slice q1 k d1] 25 := (hr3.set 0 (.slice p1 0 c1)).set 1 (.slice q1 k d1)
            have e9 := loadBox hR9
            have hb9 : Below w.heap.size w ((wc.setCell ⟨w.heap.size + 1, 0, none⟩ (.slice p1 0 c1)).setCell ⟨w.heap.size + 1, 1, none⟩ (.slice q1 k d1)) := by
              refine Below.setCell (Below.setCell ?_ ?_ _) ?_ _
              · exact BW
              · exact Nat.le_succ _
              · exact Nat.le_succ _
            have RA9 := rd_setFar (rd_setFar (own_rd o1) fpr 0 (.slice p1 0 c1)) fpr 1 (.slice q1 k d1)
            have RB9 := rd_setFar (rd_setFar (own_rd o2) fqr 0 (.slice p1 0 c1)) fqr 1 (.slice q1 k d1)
            refine bodyPost_ret (v := .tuple #[.agg #[.slice p1 0 c1, .slice q1 k d1], .int .i64 0, .bool false, .bool false]) (by simp [results, Try.results12, asAddr, e9]) rfl ⟨_, _, _, _, (by rw [HA.out, HB.out, HV.out, HG.out, HO.out, HM.out] <;> rfl), (by rw [HA.out]; exact RA9), (by rw [HB.out]; exact RB9), hb9⟩
          · have HB : Hid (takeQ [] Q v = Q ++ [v]) := by simp only [takeQ, HB9.out, HD.out, Hid]; simp [HM.out]; omega
            have HO : Hid (takeOk [] Q v = true) := by simp only [takeOk, HB9.out, HD.out, Hid]; simp [HM.out]; omega
            have d4 : decide ((4 : Int) ≤ (k : Int)) = false := by simp; omega
            go_wp2_with (first
              | (at_builtin; refine wpList_app tI _ rfl _ _ rfl W.heap.size q1 d1 Q k HM.out rfl (own_below o2 (bel_self _ _)) _ _ [v] 1 rfl rfl (rd_block (heap_alloc_new _ _) 1 rfl rfl) (by omega) (Nat.le_trans hB.size (bel_self _ _).size) (k + 1) rfl ?_; intro q5 d5 w5 o5 b5 st5
                 have a5 := bel_self wc (.cells #[.int .i64 v] 3)
                 have hv3 : Lv w5 g _ 25 := (st5 g (Nat.lt_of_lt_of_le hv.lt a5.size) (fun g' e => by have := fq g' 0 e; omega)).trans (hv.below a5)
                 have hr3 : Lv w5 (w.heap.size + 1) _ 25 := (st5 _ (Nat.lt_of_lt_of_le hrc.lt a5.size) (fun g' e => by have := fqr g' 0 e; omega)).trans (hrc.below a5)
                 have b3 : Below w.heap.size w w5 := (bel_call BW (Nat.le_refl _) a5).trans (b5.mono bW.size)
                 have z0 := hv3.c 0 rfl
                 have z1 := hv3.c 1 rfl
                 have y0 := hv3.fz 0
                 have y1 := hv3.fz 1
                 have x0 := hr3.c 0 rfl
                 have x1 := hr3.c 1 rfl
                 have v0 := hr3.fz 0
                 have v1 := hr3.fz 1
                 ))
            have fqg : Far q5 g := Far.type o5 hv3 (by decide)
            have fqr : Far q5 (w.heap.size + 1) := Far.type o5 hr3 (by decide)
            have rp5 : Rd eI w5 p1 c1 [] := Rd.void (own_rd o1)
            have hR9 : Lv (((w5.setCell ⟨g, 1, none⟩ (.slice q5 (k + 1) d5)).setCell ⟨w.heap.size + 1, 0, none⟩ (.slice p1 0 c1)).setCell ⟨w.heap.size + 1, 1, none⟩ (.slice q5 (k + 1) d5)) (w.heap.size + 1) #[.slice p1 0 c1, .slice q5 (k + 1) d5] 25 := ((hr3.far (a := ⟨g, 1, none⟩) hne1 (.slice q5 (k + 1) d5)).set 0 (.slice p1 0 c1)).set 1 (.slice q5 (k + 1) d5)
            have e9 := loadBox hR9
            have hb9 : Below w.heap.size w (((w5.setCell ⟨g, 1, none⟩ (.slice q5 (k + 1) d5)).setCell ⟨w.heap.size + 1, 0, none⟩ (.slice p1 0 c1)).setCell ⟨w.heap.size + 1, 1, none⟩ (.slice q5 (k + 1) d5)) := by
              refine Below.setCell (Below.setCell ?_ ?_ _) ?_ _
              · refine Below.setCell b3 ?_ _
                show w.heap.size ≤ g
                omega
              · exact Nat.le_succ _
              · exact Nat.le_succ _
            have RA9 := rd_setFar (rd_setFar (rd_setFar rp5 fpg 1 (.slice q5 (k + 1) d5)) fpr 0 (.slice p1 0 c1)) fpr 1 (.slice q5 (k + 1) d5)
            have RB9 := rd_setFar (rd_setFar (rd_setFar (own_rd o5) fqg 1 (.slice q5 (k + 1) d5)) fqr 0 (.slice p1 0 c1)) fqr 1 (.slice q5 (k + 1) d5)
            refine bodyPost_ret (v := .tuple #[.agg #[.slice p1 0 c1, .slice q5 (k + 1) d5], .int .i64 0, .bool false, .bool true]) (by simp [results, Try.results12, asAddr, e9]) rfl ⟨_, _, _, _, (by rw [HA.out, HB.out, HV.out, HG.out, HO.out, List.length_append, HM.out] <;> rfl), (by rw [HA.out]; exact RA9), (by rw [HB.out]; exact RB9), hb9⟩
end Go.Proofs.Ytfghondhonflaaa
