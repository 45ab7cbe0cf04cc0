/-
  What waiting of the document hands back; clone of package obj.
-/
import Derived.Test.YtcncpefdjgnhdaaWaits
namespace Go.Proofs.Ytcncpefdjgnhdaa
open Go.ChangeShapes Go.WideShapes Go.ChangeAt Go.RowKit
attribute [local go_sem ↓] Go.wp_at_zero Go.wp_at_succ

set_option maxHeartbeats 2000000 in
theorem rwaiting_any (x : Tc) (t : Th) (w : World) (ho : Ok w x t) (n : Nat) (hn : x.wn + x.fn = n) :
    Calls Try.prog 38 #[.agg #[.int .i64 x.k, .int .i64 x.a, .int .i64 x.g, .int .i64 x.c, .int .i64 x.h, .slice x.lp x.ln x.lc, .slice x.wp x.wn x.wc, .int .u32 (x.b : Int), .slice x.fp x.fn x.fc, .int .u32 (x.s : Int)]] w fun e w' => ∃ (p : Option Addr) (c : Nat), e = .returned (.slice p n c) ∧ Own eI w' w.heap.size 3 p c (waitT t) ∧ Below w.heap.size w w' := by
  obtain ⟨W, hW⟩ : ∃ W, W = w.alloc (.cells #[.int .i64 x.k, .int .i64 x.a, .int .i64 x.g, .int .i64 x.c, .int .i64 x.h, .slice x.lp x.ln x.lc, .slice x.wp x.wn x.wc, .int .u32 (x.b : Int), .slice x.fp x.fn x.fc, .int .u32 (x.s : Int)] 56) := ⟨_, rfl⟩
  have bW : Below w.heap.size w W := by rw [hW]; exact bel_self _ _
  have hV : Vt W w.heap.size x 56 := by rw [hW]; exact Vt.new _ _ _
  have HO := ho.below bW
  have hw9 := ho.w9
  have hf9 := ho.f9
  have HWN : Hid (t.W.length = x.wn) := ho.wn
  have HFN : Hid (t.F.length = x.fn) := ho.fn
  have rW := HO.W
  have rF := HO.F
  have HN : Hid (x.wn + x.fn = n) := hn
  clear ho HO hn
  obtain ⟨d0, d1, d2, d3, d4, d5, d6, d7, d8, d9⟩ := hV.at
  go_enter Try.func38, Try.ntmps38
  go_wp2
  rw [← hW]
  clear hW
  refine wp_region_held_drew (S := fun w' => Below W.heap.size W w') (by kernel_rfl) (Below.refl _ _).drew (fun hHeld => ?_)
  refine wpAnyH_take (i := 1) (oi := _) (v := ?_) rfl (by kernel_rfl) (by kernel_rfl) (by kernel_rfl) (fun _ _ _ h => h) (Or.inl ⟨by rfl, ?_⟩) hHeld ?_
  rotate_left
  · intro w' hSw
    (go_simp <;> with_reducible rfl)
  try simp only [Act.put, List.getElem_toArray, List.getElem_cons_succ, List.getElem_cons_zero, List.setIfInBounds_toArray, List.set_cons_zero, List.set_cons_succ]
  refine wpAnyH_take (i := 2) (oi := _) (v := ?_) rfl (by kernel_rfl) (by kernel_rfl) (by kernel_rfl) (fun _ _ _ h => h) (Or.inl ⟨by rfl, ?_⟩) hHeld ?_
  rotate_left
  · intro w' hSw
    (go_simp <;> with_reducible rfl)
  try simp only [Act.put, List.getElem_toArray, List.getElem_cons_succ, List.getElem_cons_zero, List.setIfInBounds_toArray, List.set_cons_zero, List.set_cons_succ]
  refine wpAnyH_take (i := 3) (oi := _) (v := ?_) rfl (by kernel_rfl) (by kernel_rfl) (by kernel_rfl) (fun _ _ _ h => h) (Or.inl ⟨by rfl, ?_⟩) hHeld ?_
  rotate_left
  · intro w' hSw
    obtain ⟨d0, d1, d2, d3, d4, d5, d6, d7, d8, d9⟩ := (hV.below hSw).at
    (go_simp <;> with_reducible rfl)
  try simp only [Act.put, List.getElem_toArray, List.getElem_cons_succ, List.getElem_cons_zero, List.setIfInBounds_toArray, List.set_cons_zero, List.set_cons_succ]
  refine wpAnyH_take (i := 5) (oi := _) (v := ?_) rfl (by kernel_rfl) (by kernel_rfl) (by kernel_rfl) (fun _ _ _ h => h) (Or.inl ⟨by rfl, ?_⟩) hHeld ?_
  rotate_left
  · intro w' hSw
    (go_simp <;> with_reducible rfl)
  try simp only [Act.put, List.getElem_toArray, List.getElem_cons_succ, List.getElem_cons_zero, List.setIfInBounds_toArray, List.set_cons_zero, List.set_cons_succ]
  refine wpAnyH_take (i := 6) (oi := _) (v := ?_) rfl (by kernel_rfl) (by kernel_rfl) (by kernel_rfl) (fun _ _ _ h => h) (Or.inl ⟨by rfl, ?_⟩) hHeld ?_
  rotate_left
  · intro w' hSw
    obtain ⟨d0, d1, d2, d3, d4, d5, d6, d7, d8, d9⟩ := (hV.below hSw).at
    (go_simp <;> with_reducible rfl)
  try simp only [Act.put, List.getElem_toArray, List.getElem_cons_succ, List.getElem_cons_zero, List.setIfInBounds_toArray, List.set_cons_zero, List.set_cons_succ]
  refine wpAnyH_ready (rs := [0]) (by kernel_rfl) (by simp) ?_
  refine AllReadyH.cons (o := _) rfl (fun K hK => ?_) (AllReadyH.nil)
  go_simp
  have bA : Below W.heap.size W (W.alloc (.cells #[] 3)).drew := (bel_self _ _).drew
  have lA : Lv (W.alloc (.cells #[] 3)).drew W.heap.size #[] 3 := Lv.draw (Lv.new _ _ _)
  refine hK.out _ _ bA (fun hHeld => ?_)
  clear hK K
  obtain ⟨wA, hwA⟩ : ∃ wA, wA = (W.alloc (.cells #[] 3)).drew := ⟨_, rfl⟩
  rw [← hwA] at bA lA hHeld ⊢
  clear hwA
  try simp only [Act.put, List.getElem_toArray, List.getElem_cons_zero, List.setIfInBounds_toArray, List.set_cons_zero, List.set_cons_succ]
  refine wpAnyH_ready (rs := [4]) (by kernel_rfl) (by simp) ?_
  refine AllReadyH.cons (o := _) rfl (fun K hK => ?_) (AllReadyH.nil)
  refine step_fresh tI _ rfl _ _ rfl W.heap.size W.heap.size lA (Nat.le_refl _) rfl _ _ t.W x.wn HWN.out rfl (rW.below bA) (by omega) ?_
  intro p1 c1 w1 o1 b1 _
  have B1 : Below W.heap.size W w1 := bel_call bA (Nat.le_refl _) b1
  refine hK.out _ _ B1 (fun hHeld => ?_)
  clear hK K
  try simp only [Act.put, List.getElem_toArray, List.getElem_cons_succ, List.getElem_cons_zero, List.setIfInBounds_toArray, List.set_cons_zero, List.set_cons_succ]
  refine wpAnyH_ready (rs := [7]) (by kernel_rfl) (by simp) ?_
  refine AllReadyH.cons (o := _) rfl (fun K hK => ?_) (AllReadyH.nil)
  go_simp
  go_at_call 66; refine (clients_any _ _ _ _ _ (rF.below B1) _ HFN.out (by omega)).mono ?_
  rintro e w2 ⟨p2, c2, rfl, o2, b2⟩
  have B2 : Below W.heap.size W w2 := bel_call B1 (Nat.le_refl _) b2
  have o1 := own_below o1 b2
  refine hK.out _ _ B2 (fun hHeld => ?_)
  clear hK K
  try simp only [Act.put, List.getElem_toArray, List.getElem_cons_succ, List.getElem_cons_zero, List.setIfInBounds_toArray, List.set_cons_zero, List.set_cons_succ]
  refine wpAnyH_ready (rs := [8]) (by kernel_rfl) (by simp) ?_
  refine AllReadyH.cons (o := _) rfl (fun K hK => ?_) (AllReadyH.nil)
  refine step_app tI _ rfl _ _ rfl W.heap.size p1 c1 t.W x.wn HWN.out rfl o1 _ _ (t.F.map (·.1)) x.fn (by rw [List.length_map]; exact HFN.out) rfl (own_rd o2) (by omega) B2.size n HN.out ?_
  intro p3 c3 w3 o3 b3 g3
  have B3 := B2.trans b3
  refine hK.out _ _ B3 (fun hHeld => ?_)
  clear hK K
  try simp only [Act.put, List.getElem_toArray, List.getElem_cons_succ, List.getElem_cons_zero, List.setIfInBounds_toArray, List.set_cons_zero, List.set_cons_succ]
  refine wpAnyH_take (i := 9) (oi := _) (v := ?_) rfl (by kernel_rfl) (by kernel_rfl) (by kernel_rfl) (fun _ _ _ h => h) (Or.inl ⟨by rfl, ?_⟩) hHeld ?_
  rotate_left
  · intro w' hSw
    (go_simp <;> with_reducible rfl)
  try simp only [Act.put, List.getElem_toArray, List.getElem_cons_succ, List.getElem_cons_zero, List.setIfInBounds_toArray, List.set_cons_zero, List.set_cons_succ]
  refine wpAnyH_done (by kernel_rfl) ?_ _
  go_wp2
  go_ret
  exact ⟨_, _, rfl, own_mono o3 bW.size, bel_call bW (Nat.le_refl _) B3⟩
end Go.Proofs.Ytcncpefdjgnhdaa
