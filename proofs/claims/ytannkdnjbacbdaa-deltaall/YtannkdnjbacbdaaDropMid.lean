/-
  What Drop of package delta does with a timer that is not the last one.
-/
import Derived.Test.YtannkdnjbacbdaaDrop
namespace Go.Proofs.Ytannkdnjbacbdaa
open Go.ChangeShapes Go.WideShapes Go.ChangeAt Go.RowKit
attribute [local go_sem ↓] Go.wp_at_zero Go.wp_at_succ

set_option maxHeartbeats 4000000 in
theorem drop_mid (p : Option Addr) (c : Nat) (l : List Tm) (w : World) (hr : Rd w p c l) (hl : l.length ≤ 100) (hB : Bd l) (k : Int) (hyes : hasT l k = true) (A : Nat) (hp : placeT l k = A) (hlast : A + 1 < l.length) :
    Calls Try.prog 10 #[.slice p l.length c, .int .i64 k] w fun e w' => Told w w' e (dropI l A) true := by
  have hA : A < l.length := by omega
  have hm1 := mem_le_sum l hB.low A hA
  have hm2 := mem_le_sum l hB.low (A + 1) hlast
  have hss := sumA_take_le l hB.low (A + 1 + 1)
  have hs1 := sumA_take_le l hB.low A
  rw [sumA_take_succ l (A + 1) hlast, sumA_take_succ l A hA] at hss
  have hsum := hB.sum
  have HQ : Hid (dropI l A = cutT (l.set (A + 1) (l[A + 1].1 + l[A].1, l[A + 1].2)) A (A + 1)) := (by
    unfold dropI
    rw [subAt_set l (A + 1) hlast]
    simp [hA] : dropI l A = _)
  have h1 : decide ((A : Int) + 1 < (l.length : Int)) = true := by simp; omega
  have hx1 : 0 ≤ l[A].1 := hm1.1
  have hx2 : 0 ≤ l[A + 1].1 := hm2.1
  have hx3 : l[A + 1].1 + l[A].1 ≤ 4611686018427387904 := by omega
  have hlen : (l.set (A + 1) (l[A + 1].1 + l[A].1, l[A + 1].2)).length = l.length := by simp
  clear hm1 hm2 hss hs1
  have q1 : IntKind.i64.wrap ((A : Int) + 1) = (A : Int) + 1 := by rw [IntKind.wrap_i64]; omega
  have q2 : (0 : Int) ≤ (A : Int) + 1 := by omega
  have q3 : (A : Int) + 1 < (l.length : Int) := by omega
  have q4 : ((A : Int) + 1).toNat = A + 1 := by omega
  have q5 : wrap64 ((A : Int) + 1) = (A : Int) + 1 := w64 _ (by omega)
  have q6 : (A : Int) < (l.length : Int) := by omega
  go_enter Try.func10, Try.ntmps10
  go_wp2_with (first
    | (go_at_call 16; refine (clone_any _ _ _ _ hr hl).mono ?_; rintro e w1 ⟨p1, c1, rfl, ho1, hb1⟩; obtain ⟨g, rfl⟩ := own_head ho1 (by omega))
    | (go_at_call 21; refine (spots_any _ _ _ _ (hr.below hb1) hl hB).mono ?_; rintro e w3 ⟨b, rfl, hm, hb3⟩; have ho3 := own_below ho1 hb3; have hbw := bel_call hb1 (Nat.le_refl _) hb3)
    | (at_lookup; refine wpList_look _ rfl _ _ rfl b (entT 0 0 l) rfl hm k rfl (placeT l k) (leftT l k) (hasT l k) rfl rfl ?_))
  have hbw4 := hbw.alloc hbw.size (Obj.cells #[Value.int IntKind.i64 (A : Int), Value.int IntKind.i64 (leftT l k)] 59)
  have ho4 := own_below ho3 ((Below.refl _ w3).alloc (Nat.le_refl _) (Obj.cells #[Value.int IntKind.i64 (A : Int), Value.int IntKind.i64 (leftT l k)] 59))
  have hs4 : (w3.alloc (Obj.cells #[Value.int IntKind.i64 (A : Int), Value.int IntKind.i64 (leftT l k)] 59)).cell? ⟨w3.heap.size, 0, none⟩ = some (.int .i64 A) := by simp [go_sem]
  have hz4 : w3.heap.size < (w3.alloc (Obj.cells #[Value.int IntKind.i64 (A : Int), Value.int IntKind.i64 (leftT l k)] 59)).heap.size := by simp
  generalize (w3.alloc (Obj.cells #[Value.int IntKind.i64 (A : Int), Value.int IntKind.i64 (leftT l k)] 59)) = W4 at *
  obtain ⟨hc1, hf1, hg1, hgz⟩ := own_cells ho4 A hA
  obtain ⟨hc2, hf2, _, _⟩ := own_cells ho4 (A + 1) hlast
  have ho5 := own_setAt (w := W4.drew) ho4 (A + 1) hlast (l[A + 1].1 + l[A].1)
  have hne : w3.heap.size ≠ g := by have := (World.ownsRow.lt ho3 g rfl).2; omega
  generalize w3.heap.size = S at *
  generalize hxa : l[A].1 = xa at *
  generalize hxb : l[A + 1].1 = xb at *
  clear hxa hxb
  have hk1 : ∀ (W : World) v, (W.setCell ⟨g, (A + 1) * 2, none⟩ v).cell? ⟨S, 0, none⟩ = W.cell? ⟨S, 0, none⟩ := fun W v => World.cell?_setCell_other _ _ _ _ (by intro e; cases e)
  have HX : Hid (((W4.drew.setCell ⟨g, (A + 1) * 2, none⟩ (.int .i64 (xb + xa))).cell? ⟨S, 0, none⟩ = some (.int .i64 A)) ∧ Own (W4.drew.setCell ⟨g, (A + 1) * 2, none⟩ (.int .i64 (xb + xa))) w.heap.size 50 (some ⟨g, 0, none⟩) c1 (l.set (A + 1) (xb + xa, l[A + 1].2)) ∧
      dropI l A = cutT (l.set (A + 1) (xb + xa, l[A + 1].2)) A (A + 1) ∧ (l.set (A + 1) (xb + xa, l[A + 1].2)).length = l.length ∧ l.length ≤ 100 ∧ Below w.heap.size w (W4.drew.setCell ⟨g, (A + 1) * 2, none⟩ (.int .i64 (xb + xa)))) :=
    (⟨(hk1 _ _).trans hs4, ho5, HQ.out, hlen, hl, (hbw4.drew).setCell hg1 _⟩ : _ ∧ _)
  clear hr hB hl hb1 ho1 hb3 ho3 hbw hm hg1 hgz hz4 hne hsum HQ hlen hk1 ho5 hbw4 ho4
  go_region_with ((go_at_call 22; refine (add_in _ _ _ (by omega) (by omega) (by omega)).mono ?_; rintro e w5 ⟨rfl, rfl⟩))
  all_goals
    obtain ⟨x1, x2, x3, x4, x5, x6⟩ := HX.out
    go_wp2_with (go_at_call 23; refine (delete_n _ _ _ w.heap.size _ l.length x4 x2 x5 A (A + 1) (by omega) (by omega)).mono ?_; rintro e w6 ⟨rfl, ho6, hb6⟩)
    go_ret2
    rw [← x3] at ho6
    exact ⟨_, _, ret_told (by rw [x3]), own_rd ho6, x6.trans hb6⟩

theorem delta_drop (p : Option Addr) (c : Nat) (l : List Tm) (w : World) (hr : Rd w p c l) (hl : l.length ≤ 100) (hB : Bd l) (k : Int) :
    Calls Try.prog 10 #[.slice p l.length c, .int .i64 k] w fun e w' => Told w w' e (resDrop l k) (hasT l k) := by
  unfold resDrop
  cases h : hasT l k with
  | false => exact drop_no p c l w hr hl hB k h
  | true =>
    obtain ⟨A, hA, _, hp, _⟩ := place_of l k h
    rw [if_pos rfl, hp]
    show Calls Try.prog 10 _ w fun e w' => Told w w' e (dropI l A) true
    by_cases hx : A + 1 < l.length
    · exact drop_mid p c l w hr hl hB k h A hp hx
    · exact drop_last p c l w hr hl hB k h A hA hp hx
end Go.Proofs.Ytannkdnjbacbdaa
