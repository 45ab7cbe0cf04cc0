/-
  A new machine.
-/
import Derived.Test.YtonholadabebbaaStepl
namespace Go.Proofs.Ytonholadabebbaa
open Go.ChangeShapes Go.WideShapes Go.ChangeAt Go.RowKit
attribute [local go_sem ↓] Go.wp_at_zero Go.wp_at_succ

theorem res16 {tmps : Array Value} {w : World} {r : Nat} {cs : Array Value} (h2 : tmps.getD 2 undef = .pointer (some ⟨r, 0, none⟩)) (g2 : w.heap[r]? = some (.cells cs 63 (0, 0))) (hs : cs.size = 11 := by rfl) :
    (results Try.f24 tmps).run Try.prog w = .ok (.agg cs) w := by
  have e2 := run_loadVar_row (P := Try.prog) w r 63 63 _ (0, 0) _ g2 Try.underlying63 rfl (by rw [hs]; exact info38)
  have k2 : tmps[2]?.getD undef = .pointer (some ⟨r, 0, none⟩) := by simpa using h2
  simp [results, Try.results24, k2, asAddr, e2]
set_option maxRecDepth 100000 in
set_option maxHeartbeats 8000000 in
theorem newm_any (x : Int) (w : World) : Calls Try.prog 24 #[.int .i64 x] w fun e w' => e = .returned (.agg #[.int .i64 0, .int .i64 x, .int .i64 0, .int .i64 0, .int .i64 0, .int .i64 0, .int .i64 0, .int .i64 0, .int .i64 0, .slice none 0 0, .bool false]) ∧ Below w.heap.size w w' := by
  go_enter Try.func24, Try.ntmps24
  go_wp2
  refine bodyPost_ret (v := .agg #[.int .i64 0, .int .i64 x, .int .i64 0, .int .i64 0, .int .i64 0, .int .i64 0, .int .i64 0, .int .i64 0, .int .i64 0, .slice none 0 0, .bool false]) (res16 rfl ((Below.heap_alloc _ _ _ (by simp)).trans (heap_at rfl))) rfl ?_
  exact ⟨rfl, (by repeat (first | exact Below.refl _ _ | refine Below.alloc ?_ (by simp <;> omega) _ | refine Below.setCell ?_ (by simp <;> omega) _))⟩

end Go.Proofs.Ytonholadabebbaa
