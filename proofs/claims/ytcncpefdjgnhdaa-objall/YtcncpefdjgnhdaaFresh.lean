/-
  What fresh of the document hands back.
-/
import Derived.Test.YtcncpefdjgnhdaaSmall
import Derived.Test.YtcncpefdjgnhdaaSealr
namespace Go.Proofs.Ytcncpefdjgnhdaa
open Go.ChangeShapes Go.WideShapes Go.ChangeAt Go.RowKit
attribute [local go_sem ↓] Go.wp_at_zero Go.wp_at_succ

set_option maxHeartbeats 2000000 in
theorem freshT_any (k a g : Int) (w : World) (S : Nat) (hS : (freshT k a g 8).s = S) :
    Calls Try.prog 48 #[.int .i64 k, .agg #[.int .i64 a, .int .i64 g]] w fun e w' => e = .returned (.agg #[.int .i64 k, .int .i64 a, .int .i64 g, .int .i64 (if k = 1 then 8 else 0), .int .i64 0, .slice none 0 0, .slice none 0 0, .int .u32 0, .slice none 0 0, .int .u32 (S : Int)]) ∧ Below w.heap.size w w' := by
  by_cases hk : k = 1
  · subst hk
    have hS2 : sealOf ⟨1, a, g, 8, 0, [], [], 0, [], 0⟩ = S := by rw [← hS]; rfl
    have hS9 : S < 4294967296 := by rw [← hS2]; exact sealOf_lt _
    clear hS
    obtain ⟨W, hW⟩ : ∃ W, W = ((w.alloc (.cells #[.int .i64 a, .int .i64 g] 38)).alloc (.cells #[.int .i64 0, .int .i64 0, .int .i64 0, .int .i64 0, .int .i64 0, .slice none 0 0, .slice none 0 0, .int .u32 0, .slice none 0 0, .int .u32 0] 56)).alloc (.cells #[.int .i64 1, .int .i64 a, .int .i64 g, .int .i64 8, .int .i64 0, .slice none 0 0, .slice none 0 0, .int .u32 0, .slice none 0 0, .int .u32 0] 56) := ⟨_, rfl⟩
    have bW : Below w.heap.size w W := by rw [hW]; exact (((Below.refl _ _).alloc (Nat.le_refl _) _).alloc (by simp) _).alloc (by simp; omega) _
    have hR : Lv W (w.heap.size + 1) #[.int .i64 0, .int .i64 0, .int .i64 0, .int .i64 0, .int .i64 0, .slice none 0 0, .slice none 0 0, .int .u32 0, .slice none 0 0, .int .u32 0] 56 := by rw [hW]; exact (Lv.below (heap_at (by simp)) (bel_self _ _))
    have hV : Lv W (w.heap.size + 1 + 1) #[.int .i64 1, .int .i64 a, .int .i64 g, .int .i64 8, .int .i64 0, .slice none 0 0, .slice none 0 0, .int .u32 0, .slice none 0 0, .int .u32 0] 56 := by rw [hW]; exact heap_at (by simp)
    go_enter Try.func48, Try.ntmps48
    go_wp2_with (first
      | (go_at_call 46; rw [← hW]; refine (seal_any (⟨1, a, g, 8, 0, none, 0, 0, none, 0, 0, 0, none, 0, 0, 0⟩ : Tc) ⟨1, a, g, 8, 0, [], [], 0, [], 0⟩ _ (Ok.nil _ _ _ _ _ _ (by decide)) S hS2).mono ?_; rintro e w1 ⟨rfl, b1⟩; have R1 := hR.below b1; have V1 := hV.below b1; have c0 := V1.c 0 rfl; have c1 := V1.c 1 rfl; have c2 := V1.c 2 rfl; have c3 := V1.c 3 rfl; have c4 := V1.c 4 rfl; have c5 := V1.c 5 rfl; have c6 := V1.c 6 rfl; have c7 := V1.c 7 rfl; have c8 := V1.c 8 rfl; have c9 := V1.c 9 rfl; have z9 := V1.fz 9)
      | (refine wpList_stV (E := eT) rfl 56 (.tmp 4) (.tmp 16) rfl size56 (w.heap.size + 1) _ (R1.far (a := ⟨w.heap.size + 1 + 1, 9, none⟩) (by simp) _) rfl (⟨1, a, g, 8, 0, none, 0, 0, none, 0, 0, 0, none, 0, 0, S⟩ : Tc) rfl rfl ?_; intro w2 L2 k2))
    have e9 := load56 L2
    refine bodyPost_ret (v := .agg #[.int .i64 1, .int .i64 a, .int .i64 g, .int .i64 8, .int .i64 0, .slice none 0 0, .slice none 0 0, .int .u32 0, .slice none 0 0, .int .u32 (S : Int)]) (by simp [results, Try.results48, asAddr, e9]) rfl ⟨by rfl, ?_⟩
    refine bel_kp (Below.setCell (bel_call bW (Nat.le_refl _) b1) (p := ⟨w.heap.size + 1 + 1, 9, none⟩) (by show w.heap.size ≤ w.heap.size + 1 + 1; omega) (.int .u32 (S : Int))) k2 (Nat.le_succ _) ?_
    have := b1.size
    have := bW.size
    simp [World.setCell]; omega
  · have e1 : (k == 1) = false := by simpa using hk
    have e2 : decide (k = 1) = false := by simpa using hk
    have hS2 : sealOf ⟨k, a, g, 0, 0, [], [], 0, [], 0⟩ = S := by rw [← hS]; unfold freshT; rw [if_neg hk]; rfl
    have hS9 : S < 4294967296 := by rw [← hS2]; exact sealOf_lt _
    clear hS
    obtain ⟨W, hW⟩ : ∃ W, W = ((w.alloc (.cells #[.int .i64 a, .int .i64 g] 38)).alloc (.cells #[.int .i64 0, .int .i64 0, .int .i64 0, .int .i64 0, .int .i64 0, .slice none 0 0, .slice none 0 0, .int .u32 0, .slice none 0 0, .int .u32 0] 56)).alloc (.cells #[.int .i64 k, .int .i64 a, .int .i64 g, .int .i64 0, .int .i64 0, .slice none 0 0, .slice none 0 0, .int .u32 0, .slice none 0 0, .int .u32 0] 56) := ⟨_, rfl⟩
    have bW : Below w.heap.size w W := by rw [hW]; exact (((Below.refl _ _).alloc (Nat.le_refl _) _).alloc (by simp) _).alloc (by simp; omega) _
    have hR : Lv W (w.heap.size + 1) #[.int .i64 0, .int .i64 0, .int .i64 0, .int .i64 0, .int .i64 0, .slice none 0 0, .slice none 0 0, .int .u32 0, .slice none 0 0, .int .u32 0] 56 := by rw [hW]; exact (Lv.below (heap_at (by simp)) (bel_self _ _))
    have hV : Lv W (w.heap.size + 1 + 1) #[.int .i64 k, .int .i64 a, .int .i64 g, .int .i64 0, .int .i64 0, .slice none 0 0, .slice none 0 0, .int .u32 0, .slice none 0 0, .int .u32 0] 56 := by rw [hW]; exact heap_at (by simp)
    go_enter Try.func48, Try.ntmps48
    go_wp2_with (first
      | (go_at_call 46; rw [← hW]; refine (seal_any (⟨k, a, g, 0, 0, none, 0, 0, none, 0, 0, 0, none, 0, 0, 0⟩ : Tc) ⟨k, a, g, 0, 0, [], [], 0, [], 0⟩ _ (Ok.nil _ _ _ _ _ _ (by decide)) S hS2).mono ?_; rintro e w1 ⟨rfl, b1⟩; have R1 := hR.below b1; have V1 := hV.below b1; have c0 := V1.c 0 rfl; have c1 := V1.c 1 rfl; have c2 := V1.c 2 rfl; have c3 := V1.c 3 rfl; have c4 := V1.c 4 rfl; have c5 := V1.c 5 rfl; have c6 := V1.c 6 rfl; have c7 := V1.c 7 rfl; have c8 := V1.c 8 rfl; have c9 := V1.c 9 rfl; have z9 := V1.fz 9)
      | (refine wpList_stV (E := eT) rfl 56 (.tmp 4) (.tmp 16) rfl size56 (w.heap.size + 1) _ (R1.far (a := ⟨w.heap.size + 1 + 1, 9, none⟩) (by simp) _) rfl (⟨k, a, g, 0, 0, none, 0, 0, none, 0, 0, 0, none, 0, 0, S⟩ : Tc) rfl rfl ?_; intro w2 L2 k2))
    have e9 := load56 L2
    refine bodyPost_ret (v := .agg #[.int .i64 k, .int .i64 a, .int .i64 g, .int .i64 0, .int .i64 0, .slice none 0 0, .slice none 0 0, .int .u32 0, .slice none 0 0, .int .u32 (S : Int)]) (by simp [results, Try.results48, asAddr, e9]) rfl ⟨by rfl, ?_⟩
    refine bel_kp (Below.setCell (bel_call bW (Nat.le_refl _) b1) (p := ⟨w.heap.size + 1 + 1, 9, none⟩) (by show w.heap.size ≤ w.heap.size + 1 + 1; omega) (.int .u32 (S : Int))) k2 (Nat.le_succ _) ?_
    have := b1.size
    have := bW.size
    simp [World.setCell]; omega
end Go.Proofs.Ytcncpefdjgnhdaa
