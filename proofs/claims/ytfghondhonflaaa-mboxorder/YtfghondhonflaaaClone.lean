/-
  What clone of package mbox hands back.
-/
import Derived.Test.YtfghondhonflaaaLow
import Derived.Test.YtfghondhonflaaaHand
namespace Go.Proofs.Ytfghondhonflaaa
open Go.ChangeShapes Go.WideShapes Go.ChangeAt Go.RowKit
attribute [local go_sem ↓] Go.wp_at_zero Go.wp_at_succ

theorem info25s : (Try.prog.info? 25).map (·.size) = some 2 := by kernel_rfl
theorem clone_any (p : Option Addr) (c : Nat) (L : List Int) (q : Option Addr) (d : Nat) (Q : List Int) (w : World) (hL : Rd eI w p c L) (hQ : Rd eI w q d Q) (n m : Nat) (hn : L.length = n) (hm : Q.length = m) (hn9 : n ≤ 1000) (hm9 : m ≤ 1000) :
    Calls Try.prog 15 #[.agg #[.slice p n c, .slice q m d]] w fun e w' => ∃ (p1 : Option Addr) (c1 : Nat) (q1 : Option Addr) (d1 : Nat), e = .returned (.agg #[.slice p1 n c1, .slice q1 m d1]) ∧ Own eI w' w.heap.size 2 p1 c1 L ∧ Own eI w' w.heap.size 3 q1 d1 Q ∧ (∀ g o, p1 = some ⟨g, o, none⟩ → Far q1 g) ∧ Below w.heap.size w w' := by
  have HN : Hid (L.length = n) := hn
  have HM : Hid (Q.length = m) := hm
  clear hn hm
  obtain ⟨W, hW⟩ : ∃ W, W = (w.alloc (.cells #[.slice p n c, .slice q m d] 25)).alloc (.cells #[.slice none 0 0, .slice none 0 0] 25) := ⟨_, rfl⟩
  have bW : Below w.heap.size w W := by rw [hW]; exact ((Below.refl _ _).alloc (Nat.le_refl _) _).alloc (by simp) _
  have hp0 : Lv W w.heap.size #[.slice p n c, .slice q m d] 25 := by rw [hW]; exact (Lv.new _ _ _).below (bel_self _ _)
  have hr0 : Lv W (w.heap.size + 1) #[.slice none 0 0, .slice none 0 0] 25 := by rw [hW]; exact heap_at (by simp)
  have hsz : W.heap.size = w.heap.size + 2 := by rw [hW]; simp
  have hgW : w.heap.size + 1 ≤ W.heap.size := by omega
  have c0 := hp0.c 0 rfl
  have c1 := hp0.c 1 rfl
  go_enter Try.func15, Try.ntmps15
  go_wp2
  rw [← hW]
  clear hW
  refine wp_region_held_drew (S := fun w' => Below (w.heap.size + 1) W w') (by kernel_rfl) (Below.refl _ _).drew (fun hHeld => ?_)
  refine wpAnyH_take (i := 0) (oi := _) (v := ?_) rfl (by kernel_rfl) (by kernel_rfl) (by kernel_rfl) (fun _ _ _ h => h) (Or.inl ⟨by rfl, ?_⟩) hHeld ?_
  rotate_left
  · intro w' hSw
    (go_simp <;> with_reducible rfl)
  try simp only [Act.put, List.getElem_toArray, List.getElem_cons_zero, List.setIfInBounds_toArray, List.set_cons_zero, List.set_cons_succ]
  refine wpAnyH_take (i := 1) (oi := _) (v := ?_) rfl (by kernel_rfl) (by kernel_rfl) (by kernel_rfl) (fun _ _ _ h => h) (Or.inl ⟨by rfl, ?_⟩) hHeld ?_
  rotate_left
  · intro w' hSw
    have e1 := Lv.c (show Lv w' w.heap.size _ 25 from (hSw.block w.heap.size (by omega)).trans hp0) 0 rfl
    (go_simp <;> with_reducible rfl)
  try simp only [Act.put, List.getElem_toArray, List.getElem_cons_succ, List.getElem_cons_zero, List.setIfInBounds_toArray, List.set_cons_zero, List.set_cons_succ]
  refine wpAnyH_take (i := 3) (oi := _) (v := ?_) rfl (by kernel_rfl) (by kernel_rfl) (by kernel_rfl) (fun _ _ _ h => h) (Or.inl ⟨by rfl, ?_⟩) hHeld ?_
  rotate_left
  · intro w' hSw
    (go_simp <;> with_reducible rfl)
  try simp only [Act.put, List.getElem_toArray, List.getElem_cons_succ, List.getElem_cons_zero, List.setIfInBounds_toArray, List.set_cons_zero, List.set_cons_succ]
  refine wpAnyH_take (i := 4) (oi := _) (v := ?_) rfl (by kernel_rfl) (by kernel_rfl) (by kernel_rfl) (fun _ _ _ h => h) (Or.inl ⟨by rfl, ?_⟩) hHeld ?_
  rotate_left
  · intro w' hSw
    have e1 := Lv.c (show Lv w' w.heap.size _ 25 from (hSw.block w.heap.size (by omega)).trans hp0) 1 rfl
    (go_simp <;> with_reducible rfl)
  try simp only [Act.put, List.getElem_toArray, List.getElem_cons_succ, List.getElem_cons_zero, List.setIfInBounds_toArray, List.set_cons_zero, List.set_cons_succ]
  refine wpAnyH_ready (rs := [2]) (by kernel_rfl) (by simp) ?_
  refine AllReadyH.cons (o := _) rfl (fun K hK => ?_) (AllReadyH.nil)
  go_simp
  go_at_call 20
  (with_reducible (refine (cloneL _ _ _ _ _ (hL.below bW.drew) HN.out hn9).mono ?_))
  rintro e w1 ⟨p1, c1, rfl, o1, b1⟩
  refine hK.out _ _ (bel_call hHeld hgW b1) (fun hHeld => ?_)
  clear hK K
  try simp only [Act.put, List.getElem_toArray, List.getElem_cons_succ, List.getElem_cons_zero, List.setIfInBounds_toArray, List.set_cons_zero, List.set_cons_succ]
  refine wpAnyH_ready (rs := [5]) (by kernel_rfl) (by simp) ?_
  refine AllReadyH.cons (o := _) rfl (fun K hK => ?_) (AllReadyH.nil)
  go_simp
  go_at_call 19
  (with_reducible (refine (cloneI _ _ _ _ _ (hQ.below (bel_call bW.drew (by omega) b1)) HM.out hm9).mono ?_))
  rintro e w2 ⟨q1, d1, rfl, o2, b2⟩
  have hr2 := (hr0.draw.below b1).below b2
  have f0 := hr2.fz 0
  have f1 := hr2.fz 1
  have k0 := hr2.c 0 rfl
  have k1 := hr2.c 1 rfl
  refine hK.out _ _ (bel_call hHeld hgW b2) (fun hHeld => ?_)
  clear hK K
  try simp only [Act.put, List.getElem_toArray, List.getElem_cons_succ, List.getElem_cons_zero, List.setIfInBounds_toArray, List.set_cons_zero, List.set_cons_succ]
  refine wpAnyH_take (i := 6) (oi := _) (v := ?_) rfl (by kernel_rfl) (by kernel_rfl) (by kernel_rfl) (fun _ _ _ h => h) (Or.inl ⟨by rfl, ?_⟩) hHeld ?_
  rotate_left
  · intro w' hSw
    (go_simp <;> with_reducible rfl)
  try simp only [Act.put, List.getElem_toArray, List.getElem_cons_succ, List.getElem_cons_zero, List.setIfInBounds_toArray, List.set_cons_zero, List.set_cons_succ]
  refine wpAnyH_ready (rs := [7]) (by kernel_rfl) (by simp) ?_
  refine AllReadyH.cons (o := _) rfl (fun K hK => ?_) (AllReadyH.nil)
  go_simp
  refine hK.out _ _ ((hHeld.setCell (Nat.le_refl _) _).setCell (Nat.le_refl _) _) (fun hHeld => ?_)
  clear hK K
  try simp only [Act.put, List.getElem_toArray, List.getElem_cons_succ, List.getElem_cons_zero, List.setIfInBounds_toArray, List.set_cons_zero, List.set_cons_succ]
  refine wpAnyH_done (by kernel_rfl) ?_ _
  go_wp2
  have hr3 := (hr2.set 0 (.slice p1 n c1)).set 1 (.slice q1 m d1)
  simp at hr3
  refine bodyPost_ret (v := .agg #[.slice p1 n c1, .slice q1 m d1]) (results_cell_row (fn := Try.f15) Try.results15 _ _ (w.heap.size + 1) 25 #[.slice p1 n c1, .slice q1 m d1] (0, 0) _ rfl hr3 Try.underlying25 rfl info25s) rfl ?_
  have hs1 : w.heap.size + 1 < w1.heap.size := by have := b1.size; simp at this; omega
  have fp : Far p1 (w.heap.size + 1) := Far.low o1 (by simp; omega)
  have fq : Far q1 (w.heap.size + 1) := Far.low o2 hs1
  refine ⟨p1, c1, q1, d1, rfl, own_setFar (own_setFar (own_mono (own_below o1 b2) (by simp; omega)) fp 0 _) fp 1 _, own_setFar (own_setFar (own_mono o2 (by omega)) fq 0 _) fq 1 _, ?_, bW.trans (hHeld.mono (by omega))⟩
  rintro g o rfl
  exact Far.low o2 (own_lt o1)
end Go.Proofs.Ytfghondhonflaaa
