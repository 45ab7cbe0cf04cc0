/-
  begun hands back true: slots does what it promises for two places.
-/
import Derived.Test.YtflfmcclihahmaaUse
namespace Go.Proofs.Ytflfmcclihahmaa
open Go.ChangeShapes Go.WideShapes Go.ChangeAt Go.RowKit Go.Maps
attribute [local go_sem ↓] Go.wp_at_zero Go.wp_at_succ

set_option maxHeartbeats 1000000 in
theorem begun_any (w : World) : Calls Try.prog 7 #[] w fun e w' => e = .returned (.bool true) ∧ Below w.heap.size w w' := by
  have s1 : Small [1, 0] := by intro x hx; simp at hx; omega
  have s2 : Small [2, 0] := by intro x hx; simp at hx; omega
  go_enter Try.func7, Try.ntmps7
  go_wp2_with (first
    | (go_at_call 8; refine (new_n 2 2 _ (by decide)).mono ?_; rintro e w1 ⟨gp1, gc1, ip1, ic1, rfl, hs1, hb1⟩)
    | (go_at_call_of 10 gp1; refine (take_n gp1 ip1 gc1 ic1 2 2 _ _ [1, 0] [true, false] 0 1 true _ hs1.sl (by decide) (by decide) (by decide) (by decide) (by decide) s1).mono ?_; rintro e w2 ⟨gp2, gc2, ip2, ic2, rfl, hs2, hb2⟩)
    | (go_at_call 12; refine (free_n gp2 ip2 gc2 ic2 2 2 [1, 0] [true, false] [false, false] 0 1 true _ (hs2.sl.below (bel2 _ _ _)) (by decide) (by decide) (by decide) (by decide)).mono ?_; rintro e w3 ⟨gp3, gc3, ip3, ic3, rfl, hs3, hb3⟩; have c20 : w3.cell? ⟨w2.heap.size + 1, 0, none⟩ = some (.int .i64 0) := ((hb3.cell (p := ⟨w2.heap.size + 1, 0, none⟩) (by simp)).trans (by simp [go_sem])); have c21 : w3.cell? ⟨w2.heap.size + 1, 1, none⟩ = some (.int .i64 1) := ((hb3.cell (p := ⟨w2.heap.size + 1, 1, none⟩) (by simp)).trans (by simp [go_sem])))
    | (go_at_call_of 10 gp3; refine (take_n gp3 ip3 gc3 ic3 2 2 [1, 0] [false, false] [2, 0] [true, false] 0 2 true _ (hs3.sl.below (bel1 _ _)) (by decide) (by decide) (by decide) (by decide) (by decide) s2).mono ?_; rintro e w4 ⟨gp4, gc4, ip4, ic4, rfl, hs4, hb4⟩; have c22 : w4.cell? ⟨w2.heap.size + 1, 0, none⟩ = some (.int .i64 0) := ((((bel1 w3 _).trans (hb4.mono (by simp))).cell (p := ⟨w2.heap.size + 1, 0, none⟩) (lt_of_cell c20)).trans c20); have c23 : w4.cell? ⟨w2.heap.size + 1, 1, none⟩ = some (.int .i64 1) := ((((bel1 w3 _).trans (hb4.mono (by simp))).cell (p := ⟨w2.heap.size + 1, 1, none⟩) (lt_of_cell c21)).trans c21); have n1 : w2.heap.size + 1 < w4.heap.size := lt_of_cell c22; have n2 : w2.heap.size + 1 < w4.heap.size + 1 := (by omega))
    | (go_at_call_of 15 (2 : Int); refine (has_n gp4 ip4 gc4 ic4 2 2 [2, 0] [true, false] 0 2 true _ (hs4.sl.below (bel2 _ _ _)) (by decide) (by decide) (by decide)).mono ?_; rintro e w5 ⟨rfl, hb5⟩; have d0 : w5.cell? ⟨w2.heap.size + 1, 0, none⟩ = some (.int .i64 0) := ((((bel2 w4 _ _).trans (hb5.mono (by simp; omega))).cell (p := ⟨w2.heap.size + 1, 0, none⟩) n1).trans c22); have d1 : w5.cell? ⟨w2.heap.size + 1, 1, none⟩ = some (.int .i64 1) := ((((bel2 w4 _ _).trans (hb5.mono (by simp; omega))).cell (p := ⟨w2.heap.size + 1, 1, none⟩) n1).trans c23); have d2 : w5.cell? ⟨w4.heap.size, 0, none⟩ = some (.slice gp4 2 gc4) := ((hb5.cell (p := ⟨w4.heap.size, 0, none⟩) (by simp; omega)).trans (by simp [go_sem])); have d3 : w5.cell? ⟨w4.heap.size, 1, none⟩ = some (.slice ip4 2 ic4) := ((hb5.cell (p := ⟨w4.heap.size, 1, none⟩) (by simp; omega)).trans (by simp [go_sem])); have hs5 := (hs4.sl.below (bel2 _ _ _)).below hb5)
    | (go_at_call_of 15 (1 : Int); refine (has_n gp4 ip4 gc4 ic4 2 2 [2, 0] [true, false] 0 1 false _ hs5 (by decide) (by decide) (by decide)).mono ?_; rintro e w6 ⟨rfl, hb6⟩; have g2 : w6.cell? ⟨w4.heap.size, 0, none⟩ = some (.slice gp4 2 gc4) := ((hb6.cell (p := ⟨w4.heap.size, 0, none⟩) (lt_of_cell d2)).trans d2); have g3 : w6.cell? ⟨w4.heap.size, 1, none⟩ = some (.slice ip4 2 ic4) := ((hb6.cell (p := ⟨w4.heap.size, 1, none⟩) (lt_of_cell d3)).trans d3); have hs6 := hs5.below hb6)
    | (go_at_call 17; refine (len_n gp4 ip4 gc4 ic4 2 2 [2, 0] [true, false] 1 _ hs6 (by decide)).mono ?_; rintro e w7 ⟨rfl, hb7⟩))
  go_ret
  exact ⟨rfl, (bel_call (bel_call (bel_call (bel_call (bel_call (bel_call (bel_call (bel_call (bel_call hb1 (Nat.le_refl _) hb2) (Nat.le_refl _) (bel2 w2 _ _)) (Nat.le_refl _) hb3) (Nat.le_refl _) (bel1 w3 _)) (Nat.le_refl _) hb4) (Nat.le_refl _) (bel2 w4 _ _)) (Nat.le_refl _) hb5) (Nat.le_refl _) hb6) (Nat.le_refl _) hb7)⟩

end Go.Proofs.Ytflfmcclihahmaa
