/-
  Light of the statements of package task.
-/
import Derived.Test.YtonholadabebbaaTrcost
namespace Go.Proofs.Ytonholadabebbaa
open Go.ChangeShapes Go.WideShapes Go.ChangeAt Go.RowKit
attribute [local go_sem ↓] Go.wp_at_zero Go.wp_at_succ

set_option maxHeartbeats 2000000 in
theorem light_any (r p e : Int) (mp : Option Addr) (mn mc : Nat) (wp : Option Addr) (wn wc : Nat) (op : Option Addr) (on oc : Nat) (w : World) (B : Bool) (hB : (decide (mn ≤ 30) && decide (wn ≤ 30) && decide (on ≤ 30)) = B) :
    Calls Try.prog 7 #[.agg #[.int .i64 r, .int .i64 p, .int .i64 e, .slice mp mn mc, .slice wp wn wc, .slice op on oc]] w fun e9 w' => e9 = .returned (.bool B) ∧ Below w.heap.size w w' := by
  have s1 := bel_self w (.cells #[.int .i64 r, .int .i64 p, .int .i64 e, .slice mp mn mc, .slice wp wn wc, .slice op on oc] 24)
  have A1 := Lv.new w #[.int .i64 r, .int .i64 p, .int .i64 e, .slice mp mn mc, .slice wp wn wc, .slice op on oc] 24
  have a0 := A1.c 0 rfl
  have a1 := A1.c 1 rfl
  have a2 := A1.c 2 rfl
  have a3 := A1.c 3 rfl
  have a4 := A1.c 4 rfl
  have a5 := A1.c 5 rfl
  have HB : Hid ((decide (mn ≤ 30) && decide (wn ≤ 30) && decide (on ≤ 30)) = B) := hB
  clear hB
  go_enter Try.func7, Try.ntmps7
  by_cases h1 : mn ≤ 30
  · have d1 : decide ((mn : Int) ≤ 30) = true := by simp; omega
    by_cases h2 : wn ≤ 30
    · have d2 : decide ((wn : Int) ≤ 30) = true := by simp; omega
      by_cases h3 : on ≤ 30
      · have d3 : decide ((on : Int) ≤ 30) = true := by simp; omega
        go_wp2
        go_ret
        exact ⟨by rw [← HB.out]; simp [h1, h2, h3], s1⟩
      · have d3 : decide ((on : Int) ≤ 30) = false := by simp; omega
        go_wp2
        go_ret
        exact ⟨by rw [← HB.out]; simp [h1, h2, h3], s1⟩
    · have d2 : decide ((wn : Int) ≤ 30) = false := by simp; omega
      go_wp2
      go_ret
      exact ⟨by rw [← HB.out]; simp [h1, h2], s1⟩
  · have d1 : decide ((mn : Int) ≤ 30) = false := by simp; omega
    go_wp2
    go_ret
    exact ⟨by rw [← HB.out]; simp [h1], s1⟩
def lku : List In := [(9, 0, 0, 0), (10, 0, 0, 0), (0, 0, 0, 0)]
theorem lku_e : erT 0 10 9 lku [] [] = 0 := by decide +kernel
theorem lku_e2 : erT 0 10 11 lku [] [] = 9 := by decide +kernel
theorem lku_c : cosT 0 lku = 3 := by decide +kernel
theorem lku_l : losT 0 lku [] = 3 := by decide +kernel
theorem lku_s : spaT 0 lku [] = [(0, 1)] := by decide +kernel
end Go.Proofs.Ytonholadabebbaa
