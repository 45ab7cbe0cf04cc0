/-
  begun of the statements of package task.
-/
import Derived.Test.YtonholadabebbaaTlight
namespace Go.Proofs.Ytonholadabebbaa
open Go.ChangeShapes Go.WideShapes Go.ChangeAt Go.RowKit
attribute [local go_sem ↓] Go.wp_at_zero Go.wp_at_succ

theorem lku_t {w : World} {p : Option Addr} {c : Nat} (h : Rd eIn w p c lku) : Tk3 w p 3 c none 0 0 none 0 0 lku [] [] := ⟨h, own_rd (own_nil w 0 42), own_rd (own_nil w 0 42), rfl, rfl, rfl, by omega, by omega, by omega⟩
set_option maxRecDepth 20000 in
set_option maxHeartbeats 2000000 in
theorem begun_any (w : World) : Calls Try.prog 6 #[] w fun e w' => e = .returned (.bool true) ∧ Below w.heap.size w w' := by
  obtain ⟨W, hW⟩ : ∃ W, W = (w.alloc (.cells #[.int .i64 9, .int .i64 0, .int .i64 0, .int .i64 0, .int .i64 10, .int .i64 0, .int .i64 0, .int .i64 0, .int .i64 0, .int .i64 0, .int .i64 0, .int .i64 0] 42)).alloc (.cells #[.int .i64 0, .int .i64 10, .int .i64 9, .slice (some ⟨w.heap.size, 0, none⟩) 3 3, .slice none 0 0, .slice none 0 0] 24) := ⟨_, rfl⟩
  have bW : Below w.heap.size w W := by rw [hW]; exact (bel_self _ _).alloc (by simp) _
  have hsz : W.heap.size = w.heap.size + 2 := by rw [hW]; simp
  have hR : Rd eIn W (some ⟨w.heap.size, 0, none⟩) 3 lku := by rw [hW]; exact (rd_block (E := eIn) (heap_alloc_new w (.cells #[.int .i64 9, .int .i64 0, .int .i64 0, .int .i64 0, .int .i64 10, .int .i64 0, .int .i64 0, .int .i64 0, .int .i64 0, .int .i64 0, .int .i64 0, .int .i64 0] 42)) 3 rfl rfl).below (bel_self _ _)
  have hT : Lv W (w.heap.size + 1) #[.int .i64 0, .int .i64 10, .int .i64 9, .slice (some ⟨w.heap.size, 0, none⟩) 3 3, .slice none 0 0, .slice none 0 0] 24 := by rw [hW]; exact heap_at (by simp)
  have h1 := lku_t hR
  have hk := costs_any 0 10 9 _ 3 3 none 0 0 none 0 0 lku [] [] W h1 (by unfold I64; omega) (by unfold I64; omega) (by unfold I64; omega) 0 lku_e 3 3 lku_c lku_l 1 (by rw [lku_s]; rfl)
  rw [lku_s] at hk
  have a0 := hT.c 0 rfl
  have a1 := hT.c 1 rfl
  have a2 := hT.c 2 rfl
  have a3 := hT.c 3 rfl
  have a4 := hT.c 4 rfl
  have a5 := hT.c 5 rfl
  go_enter Try.func6, Try.ntmps6
  go_upto_region 2 with fail
  rw [← hW]
  clear hW
  go_upto_region 5 with (go_at_call 11; refine hk.mono ?_; rintro e9 w3 ⟨⟨q, d, rfl, os⟩, b3⟩; have hT3 := hT.below b3; clear a0 a1 a2 a3 a4 a5; have a0 := hT3.c 0 rfl; have a1 := hT3.c 1 rfl; have a2 := hT3.c 2 rfl; have a3 := hT3.c 3 rfl; have a4 := hT3.c 4 rfl; have a5 := hT3.c 5 rfl)
  obtain ⟨sb, so, rfl, hsb, hsc⟩ := (own_rd os).cells 0 (by simp)
  have x1 : w3.cell? ⟨sb, so + 1, none⟩ = some (.int .i64 1) := by have := hsc 1 _ rfl; simpa using this
  have b4 := bel_self w3 (.cells #[.int .i64 0, .int .i64 10, .int .i64 11, .slice (some ⟨w.heap.size, 0, none⟩) 3 3, .slice none 0 0, .slice none 0 0] 24)
  have hT4 := hT3.below b4
  have hU4 : Lv (w3.alloc (.cells #[.int .i64 0, .int .i64 10, .int .i64 11, .slice (some ⟨w.heap.size, 0, none⟩) 3 3, .slice none 0 0, .slice none 0 0] 24)) w3.heap.size #[.int .i64 0, .int .i64 10, .int .i64 11, .slice (some ⟨w.heap.size, 0, none⟩) 3 3, .slice none 0 0, .slice none 0 0] 24 := Lv.new _ _ _
  have y1 := (b4.cell (p := ⟨sb, so + 1, none⟩) hsb).trans x1
  have h4 := lku_t ((hR.below b3).below b4)
  have B4 : Below w.heap.size w (w3.alloc (.cells #[.int .i64 0, .int .i64 10, .int .i64 11, .slice (some ⟨w.heap.size, 0, none⟩) 3 3, .slice none 0 0, .slice none 0 0] 24)) := bel_call (bel_call bW (Nat.le_refl _) b3) (Nat.le_refl _) b4
  have hsb4 : sb < (w3.alloc (.cells #[.int .i64 0, .int .i64 10, .int .i64 11, .slice (some ⟨w.heap.size, 0, none⟩) 3 3, .slice none 0 0, .slice none 0 0] 24)).heap.size := Nat.lt_of_lt_of_le hsb b4.size
  clear a0 a1 a2 a3 a4 a5 x1 hsc os hT3 hT hR h1 hk bW
  obtain ⟨gu, hgu⟩ : ∃ gu, gu = w3.heap.size := ⟨_, rfl⟩
  rw [← hgu] at hU4
  simp only [← hgu]
  obtain ⟨W4, hW4⟩ : ∃ W4, W4 = w3.alloc (.cells #[.int .i64 0, .int .i64 10, .int .i64 11, .slice (some ⟨w.heap.size, 0, none⟩) 3 3, .slice none 0 0, .slice none 0 0] 24) := ⟨_, rfl⟩
  rw [← hW4] at hT4 hU4 y1 h4 B4 hsb4 ⊢
  clear hW4 hgu b4 hsb b3
  have a0 := hT4.c 0 rfl
  have a1 := hT4.c 1 rfl
  have a2 := hT4.c 2 rfl
  have a3 := hT4.c 3 rfl
  have a4 := hT4.c 4 rfl
  have a5 := hT4.c 5 rfl
  have u0 := hU4.c 0 rfl
  have u1 := hU4.c 1 rfl
  have u2 := hU4.c 2 rfl
  have u3 := hU4.c 3 rfl
  have u4 := hU4.c 4 rfl
  have u5 := hU4.c 5 rfl
  go_wp2_with (first
    | (have _u := mk1; go_at_call 13; refine (tmay_any 0 10 11 _ 3 3 none 0 0 none 0 0 lku [] [] _ h5 (by unfold I64; omega) (by unfold I64; omega) (by unfold I64; omega) 9 lku_e2).mono ?_; rintro e9 w6 ⟨rfl, b6⟩)
    | (go_at_call 13; refine (tmay_any 0 10 9 _ 3 3 none 0 0 none 0 0 lku [] [] _ h4 (by unfold I64; omega) (by unfold I64; omega) (by unfold I64; omega) 0 lku_e).mono ?_; rintro e9 w5 ⟨rfl, b5⟩; have hU5 := hU4.below b5; have y5 := (b5.cell (p := ⟨sb, so + 1, none⟩) hsb4).trans y1; have h5 := h4.below b5; clear y1 a0 a1 a2 a3 a4 a5 u0 u1 u2 u3 u4 u5; have u0 := hU5.c 0 rfl; have u1 := hU5.c 1 rfl; have u2 := hU5.c 2 rfl; have u3 := hU5.c 3 rfl; have u4 := hU5.c 4 rfl; have u5 := hU5.c 5 rfl; have mk1 : True := trivial))
  go_ret
  exact ⟨rfl, bel_call (bel_call B4 (Nat.le_refl _) b5) (Nat.le_refl _) b6⟩
end Go.Proofs.Ytonholadabebbaa
