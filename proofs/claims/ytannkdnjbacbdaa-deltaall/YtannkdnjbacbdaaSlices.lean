/-
  What slices.Clone, slices.Insert and slices.Delete do with rows of timers, by their own Go text: a clone is the call's own; one that the call owns has one more, or some less, afterwards.
-/
import Derived.Test.YtannkdnjbacbdaaChecked
import Derived.Test.YtannkdnjbacbdaaParts
import Derived.Deep.QuietTactic
import Derived.BigQuiet
import Derived.Deep.RegionHeld3
import Derived.Deep.RegionLaw
import Derived.Deep.DrawnRows
import Derived.WalkLawsBesides
import Derived.Lib.SliceRun
import Derived.Lib.Overlaps
namespace Go.Proofs.Ytannkdnjbacbdaa
open Go.ChangeShapes Go.WideShapes Go.ChangeAt Go.RowKit
attribute [local go_sem ↓] Go.wp_at_zero Go.wp_at_succ

theorem Try.info50 : (Try.prog.info? 50).map (fun i => (i.zero, i.size, i.bytes)) = some (some (.agg #[.int .i64 0, .int .i64 0]), 2, 16) := by kernel_rfl
theorem Try.size50 : (Try.prog.info? 50).map (·.size) = some 2 := by kernel_rfl

theorem ret_any {a b : Value} (h : a = b) : Ending.returned a = .returned b := by rw [h]

theorem clone_any (p : Option Addr) (c : Nat) (l : List Tm) (w : World) (hr : Rd w p c l) (hl : l.length ≤ 100) :
    Calls Try.prog 16 #[.slice p l.length c] w fun e w' => ∃ p' c', e = .returned (.slice p' l.length c') ∧ Own w' w.heap.size 50 p' c' l ∧ Below w.heap.size w w' := by
  have hnil : ∀ (w : World) (a : Option Addr) (n c : Nat), (binOp .eql 24 (.slice a n c) (.slice none 0 0)).run Try.prog w = .ok (.bool a.isNone) w := fun w a n c => Lib.run_eql_slice_nil w 24 50 a n c 0 0 Try.underlying24
  by_cases hp : p = none
  · obtain ⟨h1, h2⟩ : l = [] ∧ c = 0 := by
      rcases hr.at_ with ⟨_, h1, h2⟩ | ⟨b, o, s, h, _, _⟩
      · exact ⟨h1, h2⟩
      · rw [hp] at h; cases h
    subst hp h1 h2
    go_enter Try.func16, Try.ntmps16
    go_wp2
    go_ret
    exact ⟨_, _, rfl, World.ownsRow_nil _ _ _ _, Below.refl _ _⟩
  · have hp' : p.isNone = false := by cases p <;> simp_all
    obtain ⟨i, hi, hz0, hz1, hz2⟩ := info_parts Try.info50
    have hr1 : Rd (w.alloc (.cells #[] 50)) p c l := hr.below ((Below.refl _ _).alloc (Nat.le_refl _) _)
    obtain ⟨p', c', w1, hrun, hown, hb⟩ := run_clone (P := Try.prog) (w.alloc (.cells #[] 50)) 24 24 50 i _ Try.underlying24 hi hz0 hz1 hz2 rfl w.heap.size w.heap.size (heap_alloc_new w _) (Nat.le_refl _) p c l hr1 hl
    go_enter Try.func16, Try.ntmps16
    go_wp2_with (at_builtin; refine Lib.wpList_append_run _ rfl _ _ 24 24 rfl _ _ rfl rfl _ _ hrun ?_)
    go_ret
    exact ⟨_, _, rfl, hown, ((Below.refl _ _).alloc (Nat.le_refl _) _).trans hb⟩

end Go.Proofs.Ytannkdnjbacbdaa
