/-
  Does package block do anything yet?
-/
import Derived.Test.YteklpceikddggaaBby
namespace Go.Proofs.Yteklpceikddggaa
open Go.ChangeShapes Go.WideShapes Go.ChangeAt Go.RowKit
attribute [local go_sem ↓] Go.wp_at_zero Go.wp_at_succ

def lkA : List In := [(9, 0, 0, 0), (10, 0, 0, 0), (0, 0, 0, 0)]
def lkC : List In := [(9, 0, 0, 0), (1, 0, 0, 0), (10, 0, 0, 0), (0, 0, 0, 0)]
def SP0 : List Sn := [[(0, 1)], [(0, 2)]]
theorem lkA_e : erT 1 9 9 lkA [] [] = 0 ∧ spaT 0 lkA [] = [(0, 1)] := by decide +kernel
theorem lkC_e : erT 2 9 9 lkC [] [] = 0 ∧ spaT 0 lkC [] = [(0, 2)] := by decide +kernel
theorem sp0_c : ceilv SP0 2 0 = 0 ∧ ceilv SP0 2 1 = 8 ∧ byv SP0 2 0 = 2 ∧ byv SP0 2 1 = 1 := by decide +kernel
theorem rd_nilE {α : Type} {E : Elt α} (w : World) : Rd E w none 0 [] := ⟨Nat.le_refl _, .inl ⟨rfl, rfl, rfl⟩⟩
set_option maxRecDepth 20000 in
set_option maxHeartbeats 2000000 in
theorem begun_any (w : World) : Calls Try.prog 8 #[] w fun e w' => e = .returned (.bool true) ∧ Below w.heap.size w w' := by
  obtain ⟨W, hW⟩ : ∃ W, W = (((((w.alloc (.cells #[.int .i64 9, .int .i64 0, .int .i64 0, .int .i64 0, .int .i64 10, .int .i64 0, .int .i64 0, .int .i64 0, .int .i64 0, .int .i64 0, .int .i64 0, .int .i64 0] 30)).alloc (.cells #[.int .i64 1, .int .i64 9, .int .i64 9, .slice (some ⟨w.heap.size, 0, none⟩) 3 3, .slice none 0 0, .slice none 0 0] 33)).alloc (.cells #[.int .i64 9, .int .i64 0, .int .i64 0, .int .i64 0, .int .i64 1, .int .i64 0, .int .i64 0, .int .i64 0, .int .i64 10, .int .i64 0, .int .i64 0, .int .i64 0, .int .i64 0, .int .i64 0, .int .i64 0, .int .i64 0] 30)).alloc (.cells #[.int .i64 2, .int .i64 9, .int .i64 9, .slice (some ⟨w.heap.size + 1 + 1, 0, none⟩) 4 4, .slice none 0 0, .slice none 0 0] 33)).alloc (.cells #[.int .i64 1, .int .i64 9, .int .i64 9, .slice (some ⟨w.heap.size, 0, none⟩) 3 3, .slice none 0 0, .slice none 0 0, .int .i64 2, .int .i64 9, .int .i64 9, .slice (some ⟨w.heap.size + 1 + 1, 0, none⟩) 4 4, .slice none 0 0, .slice none 0 0] 33)) := ⟨_, rfl⟩
  have bW : Below w.heap.size w W := by rw [hW]; exact ((((bel_self _ _).alloc (by simp) _).alloc (by simp <;> omega) _).alloc (by simp <;> omega) _).alloc (by simp <;> omega) _
  have hA : Rd eIn W (some ⟨w.heap.size, 0, none⟩) 3 lkA := by rw [hW]; exact ((((rd_block (E := eIn) (heap_alloc_new w (.cells #[.int .i64 9, .int .i64 0, .int .i64 0, .int .i64 0, .int .i64 10, .int .i64 0, .int .i64 0, .int .i64 0, .int .i64 0, .int .i64 0, .int .i64 0, .int .i64 0] 30)) 3 rfl rfl).below (bel_self _ _)).below (bel_self _ _)).below (bel_self _ _)).below (bel_self _ _)
  have hC : Rd eIn W (some ⟨w.heap.size + 1 + 1, 0, none⟩) 4 lkC := by rw [hW]; exact ((rd_block (E := eIn) (heap_at (o := (.cells #[.int .i64 9, .int .i64 0, .int .i64 0, .int .i64 0, .int .i64 1, .int .i64 0, .int .i64 0, .int .i64 0, .int .i64 10, .int .i64 0, .int .i64 0, .int .i64 0, .int .i64 0, .int .i64 0, .int .i64 0, .int .i64 0] 30)) (by simp)) 4 rfl rfl).below (bel_self _ _)).below (bel_self _ _)
  have hR : Rd eTk W (some ⟨w.heap.size + 1 + 1 + 1 + 1, 0, none⟩) 2 [⟨1, 9, 9, some ⟨w.heap.size, 0, none⟩, 3, 3, none, 0, 0, none, 0, 0⟩, ⟨2, 9, 9, some ⟨w.heap.size + 1 + 1, 0, none⟩, 4, 4, none, 0, 0, none, 0, 0⟩] := by rw [hW]; exact rd_block (E := eTk) (heap_at (by simp)) 2 rfl rfl
  obtain ⟨P, hP⟩ : ∃ P : List Tv, P = [⟨1, 9, 9, some ⟨w.heap.size, 0, none⟩, 3, 3, none, 0, 0, none, 0, 0⟩, ⟨2, 9, 9, some ⟨w.heap.size + 1 + 1, 0, none⟩, 4, 4, none, 0, 0, none, 0, 0⟩] := ⟨_, rfl⟩
  rw [← hP] at hR
  have hD : Rowd W (some ⟨w.heap.size + 1 + 1 + 1 + 1, 0, none⟩) 2 2 P SP0 := by
    refine ⟨hR, by rw [hP]; rfl, rfl, fun k h1 h2 => ?_⟩
    have h3 : k = 0 ∨ k = 1 := by have : SP0.length = 2 := rfl; omega
    subst hP
    rcases h3 with rfl | rfl
    · exact ⟨lkA, [], [], 0, ⟨⟨hA, rd_nilE W, rd_nilE W, rfl, rfl, rfl, (show 3 ≤ 1000 by decide), (show 0 ≤ 1000 by decide), (show 0 ≤ 1000 by decide)⟩, (show I64 1 by unfold I64; decide), (show I64 9 by unfold I64; decide), (show I64 9 by unfold I64; decide)⟩, lkA_e.1, lkA_e.2⟩
    · exact ⟨lkC, [], [], 0, ⟨⟨hC, rd_nilE W, rd_nilE W, rfl, rfl, rfl, (show 4 ≤ 1000 by decide), (show 0 ≤ 1000 by decide), (show 0 ≤ 1000 by decide)⟩, (show I64 2 by unfold I64; decide), (show I64 9 by unfold I64; decide), (show I64 9 by unfold I64; decide)⟩, lkC_e.1, lkC_e.2⟩
  obtain ⟨c0, c1, c2, c3⟩ := sp0_c
  have i0 := ceil_is SP0 2 0
  have i1 := ceil_is SP0 2 1
  rw [c0] at i0
  rw [c1] at i1
  have K0 := fun w' (hb : Below W.heap.size W w') => ceil_any _ _ 2 P SP0 w' (hD.below hb) (by decide) 0 0 i0
  have K1 := fun w' (hb : Below W.heap.size W w') => ceil_any _ _ 2 P SP0 w' (hD.below hb) (by decide) 1 8 i1
  have K2 := fun w' (hb : Below W.heap.size W w') => by_any _ _ 2 P SP0 w' (hD.below hb) (by decide) 0 2 c2
  have K3 := fun w' (hb : Below W.heap.size W w') => by_any _ _ 2 P SP0 w' (hD.below hb) (by decide) 1 1 c3
  clear hA hC hR hD hP c0 c1 c2 c3 i0 i1
  go_enter Try.func8, Try.ntmps8
  go_upto_region 4 with fail
  rw [← hW]
  clear hW
  go_wp2_with (first
    | (go_at_call 10; (with_reducible (refine (K3 _ b3).mono ?_)); rintro e w4 ⟨rfl, b4⟩; have b4 := bel_call b3 (Nat.le_refl _) b4)
    | (go_at_call 10; (with_reducible (refine (K2 _ b2).mono ?_)); rintro e w3 ⟨rfl, b3⟩; have b3 := bel_call b2 (Nat.le_refl _) b3)
    | (go_at_call 12; (with_reducible (refine (K1 _ b1).mono ?_)); rintro e w2 ⟨rfl, b2⟩; have b2 := bel_call b1 (Nat.le_refl _) b2)
    | (go_at_call 12; (with_reducible (refine (K0 _ (Below.refl _ _)).mono ?_)); rintro e w1 ⟨rfl, b1⟩))
  go_ret
  exact ⟨rfl, bel_call bW (Nat.le_refl _) b4⟩
end Go.Proofs.Yteklpceikddggaa
