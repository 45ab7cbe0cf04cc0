/-
  Sums of fixed numbers; that the package does something.
-/
import Derived.Test.YtbejpacdlabebaaLow
namespace Go.Proofs.Ytbejpacdlabebaa
open Go.ChangeShapes Go.WideShapes Go.ChangeAt Go.RowKit
attribute [local go_sem ↓] Go.wp_at_zero Go.wp_at_succ

theorem sum_lit (p : Option Addr) (c : Nat) (l : List Int) (w : World) (hr : Rd eI w p c l) (n : Nat) (hn : l.length = n) (hm : n ≤ 9223372036854775807) (v : Int) (hv : (sumv seed l : Int) = v) (P : Ending → World → Prop) (hP : P (.returned (.int .u32 v)) w) :
    Calls Try.prog 8 #[.slice p n c] w P := by
  subst hv
  exact (sum_any p c l w hr n hn hm _ rfl).mono (by rintro e w' ⟨rfl, rfl⟩; exact hP)
theorem rsum_lit (p : Option Addr) (c : Nat) (l : List Int) (w : World) (hr : Rd eI w p c l) (n : Nat) (hn : l.length = n) (hm : n ≤ 9223372036854775807) (v : Int) (hv : (sumv seed l : Int) = v) (P : Ending → World → Prop) (hP : P (.returned (.int .u32 v)) w) :
    Calls Try.prog 9 #[.slice p n c] w P := by
  subst hv
  exact (rsum_any p c l w hr n hn hm _ rfl).mono (by rintro e w' ⟨rfl, rfl⟩; exact hP)
theorem s0 : (sumv seed [] : Int) = 2166136261 := by decide +kernel
theorem s1 : (sumv seed [1] : Int) = 480101769 := by decide +kernel
theorem s2 : (sumv seed [2] : Int) = 480101777 := by decide +kernel
theorem sum_nil (w : World) : Calls Try.prog 8 #[.slice none 0 0] w fun e w' => e = .returned (.int .u32 2166136261) ∧ w' = w :=
  sum_lit none 0 [] w (Rd.nil w) 0 rfl (by decide) _ s0 _ ⟨rfl, rfl⟩
/-- The sum of numbers that lie in a block. -/
theorem sum_block (L : List Int) (w : World) (g : Nat) (cs : Array Value) (h : w.heap.size = g) (hcs : cs.toList = L.map (Value.int .i64)) (n : Nat) (hn : L.length = n) (hm : n ≤ 9223372036854775807) (v : Int) (hv : (sumv seed L : Int) = v) :
    Calls Try.prog 8 #[.slice (some ⟨g, 0, none⟩) n n] (w.alloc (.cells cs 2)) fun e w' => e = .returned (.int .u32 v) ∧ w' = w.alloc (.cells cs 2) :=
  sum_lit _ n L _ (rd_block (heap_at h) n hn (by rw [flI]; exact hcs)) n hn hm _ hv _ ⟨rfl, rfl⟩
theorem rsum_block (L : List Int) (w : World) (g : Nat) (cs : Array Value) (h : w.heap.size = g) (hcs : cs.toList = L.map (Value.int .i64)) (n : Nat) (hn : L.length = n) (hm : n ≤ 9223372036854775807) (v : Int) (hv : (sumv seed L : Int) = v) :
    Calls Try.prog 9 #[.slice (some ⟨g, 0, none⟩) n n] (w.alloc (.cells cs 2)) fun e w' => e = .returned (.int .u32 v) ∧ w' = w.alloc (.cells cs 2) :=
  rsum_lit _ n L _ (rd_block (heap_at h) n hn (by rw [flI]; exact hcs)) n hn hm _ hv _ ⟨rfl, rfl⟩
theorem begun_any (w : World) : Calls Try.prog 7 #[] w fun e w' => e = .returned (.bool true) ∧ Below w.heap.size w w' := by
  go_enter Try.func7, Try.ntmps7
  go_wp2_with (first
    | (go_at_call 8; (with_reducible (refine (sum_nil _).mono ?_)); (rintro e w' ⟨rfl, rfl⟩))
    | (go_at_call 8; (with_reducible (refine (sum_block [1] _ _ _ ?h1 ?h2 1 ?h3 ?h4 _ s1).mono ?_)); (case h1 => first | rfl | (simp; done)); (case h2 => rfl); (case h3 => rfl); (case h4 => decide); (rintro e w' ⟨rfl, rfl⟩))
    | (go_at_call 8; (with_reducible (refine (sum_block [2] _ _ _ ?h1 ?h2 1 ?h3 ?h4 _ s2).mono ?_)); (case h1 => first | rfl | (simp; done)); (case h2 => rfl); (case h3 => rfl); (case h4 => decide); (rintro e w' ⟨rfl, rfl⟩))
    | (go_at_call 9; (with_reducible (refine (rsum_block [1] _ _ _ ?h1 ?h2 1 ?h3 ?h4 _ s1).mono ?_)); (case h1 => first | rfl | (simp; done)); (case h2 => rfl); (case h3 => rfl); (case h4 => decide); (rintro e w' ⟨rfl, rfl⟩)))
  go_ret
  exact ⟨rfl, ((((Below.refl _ _).alloc (Nat.le_refl _) _).alloc (by simp) _).alloc (by simp; omega) _).alloc (by simp; omega) _⟩
theorem f1 : (sumv seed [0] : Int) = 480101761 := by decide +kernel
theorem f2 : (sumv seed [0, 0] : Int) = 2646966556 := by decide +kernel
theorem f3 : (sumv seed [0, 0, 0, 0] : Int) = 2166136261 := by decide +kernel
theorem f4 : (sumv seed [72057594037927936] : Int) = 480101760 := by decide +kernel
theorem f5 : (sumv seed [-9223372036854775808] : Int) = 480101633 := by decide +kernel
theorem forms_walk (w : World) : Calls Try.prog 5 #[] w fun e w' => e = .returned (.bool true) ∧ Below w.heap.size w w' := by
  go_enter Try.func5, Try.ntmps5
  go_wp2_with (first
    | (go_at_call 7; refine (begun_any _).mono ?_; rintro e w1 ⟨rfl, b1⟩; have z1 := b1.size)
    | (go_at_call 8; (with_reducible (refine (sum_block [0] _ _ _ ?h1 ?h2 1 ?h3 ?h4 _ f1).mono ?_)); (case h1 => first | rfl | (simp; done)); (case h2 => rfl); (case h3 => rfl); (case h4 => decide); (rintro e w' ⟨rfl, rfl⟩))
    | (go_at_call 8; (with_reducible (refine (sum_block [0, 0] _ _ _ ?h1 ?h2 2 ?h3 ?h4 _ f2).mono ?_)); (case h1 => first | rfl | (simp; done)); (case h2 => rfl); (case h3 => rfl); (case h4 => decide); (rintro e w' ⟨rfl, rfl⟩))
    | (go_at_call 8; (with_reducible (refine (sum_block [0, 0, 0, 0] _ _ _ ?h1 ?h2 4 ?h3 ?h4 _ f3).mono ?_)); (case h1 => first | rfl | (simp; done)); (case h2 => rfl); (case h3 => rfl); (case h4 => decide); (rintro e w' ⟨rfl, rfl⟩))
    | (go_at_call 8; (with_reducible (refine (sum_block [72057594037927936] _ _ _ ?h1 ?h2 1 ?h3 ?h4 _ f4).mono ?_)); (case h1 => first | rfl | (simp; done)); (case h2 => rfl); (case h3 => rfl); (case h4 => decide); (rintro e w' ⟨rfl, rfl⟩))
    | (go_at_call 8; (with_reducible (refine (sum_block [-9223372036854775808] _ _ _ ?h1 ?h2 1 ?h3 ?h4 _ f5).mono ?_)); (case h1 => first | rfl | (simp; done)); (case h2 => rfl); (case h3 => rfl); (case h4 => decide); (rintro e w' ⟨rfl, rfl⟩)))
  go_ret
  exact ⟨rfl, ((((b1.alloc z1 _).alloc (by simp; omega) _).alloc (by simp; omega) _).alloc (by simp; omega) _).alloc (by simp; omega) _⟩
theorem all_walk (p : Option Addr) (c : Nat) (l : List Int) (w : World) (hr : Rd eI w p c l) (n : Nat) (hn : l.length = n) (hm : n ≤ 9223372036854775807) :
    Calls Try.prog 3 #[.slice p n c] w fun e w' => e = .returned (.bool true) ∧ Below w.heap.size w w' := by
  have HN : Hid (l.length = n) := hn
  clear hn
  by_cases h : 30 < n
  · have d1 : decide ((30 : Int) < (n : Int)) = true := by simp; omega
    go_enter Try.func3, Try.ntmps3
    go_wp2_with (go_at_call 7; refine (begun_any _).mono ?_; rintro e w1 ⟨rfl, b1⟩)
    go_ret
    exact ⟨rfl, b1⟩
  · have d1 : decide ((30 : Int) < (n : Int)) = false := by simp; omega
    go_enter Try.func3, Try.ntmps3
    go_wp2_with (first
      | (go_at_call 7; refine (begun_any _).mono ?_; rintro e w1 ⟨rfl, b1⟩; have hr1 := hr.below b1)
      | (go_at_call 8; refine (sum_any p c l _ hr1 n HN.out hm _ rfl).mono ?_; rintro e w' ⟨rfl, rfl⟩)
      | (go_at_call 9; refine (rsum_any p c l _ hr1 n HN.out hm _ rfl).mono ?_; rintro e w' ⟨rfl, rfl⟩))
    go_ret
    exact ⟨rfl, b1⟩
end Go.Proofs.Ytbejpacdlabebaa
