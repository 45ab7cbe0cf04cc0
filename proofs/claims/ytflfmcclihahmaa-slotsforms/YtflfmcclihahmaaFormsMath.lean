/-
  Sixty-four places, taken one by one: what Take, Free and Len come to there, reckoned.
-/
import Derived.Test.YtflfmcclihahmaaBegun
namespace Go.Proofs.Ytflfmcclihahmaa
open Go.ChangeShapes Go.WideShapes Go.ChangeAt Go.RowKit Go.Maps
attribute [local go_sem ↓] Go.wp_at_zero Go.wp_at_succ

/-- 64 places behind k takes. -/
def fg (k : Nat) : List Int := List.replicate k 1 ++ List.replicate (64 - k) 0
def ft (k : Nat) : List Bool := List.replicate k true ++ List.replicate (64 - k) false
theorem fill_g : ∀ k, k < 64 → tg (fg k) (ft k) = fg (k + 1) := by decide +kernel
theorem fill_b : ∀ k, k < 64 → tb (fg k) (ft k) = ft (k + 1) := by decide +kernel
theorem fill_at : ∀ k, k < 64 → tAt (fg k) (ft k) = k := by decide +kernel
theorem fill_gen : ∀ k, k < 64 → tGen (fg k) (ft k) = 1 := by decide +kernel
theorem fill_ok : ∀ k, k < 64 → tOk (fg k) (ft k) = true := by decide +kernel
theorem small_fg (k : Nat) : Small (fg k) := by
  intro x hx
  unfold fg at hx
  rw [List.mem_append, List.mem_replicate, List.mem_replicate] at hx
  omega
def ug : List Int := (fg 64).set 5 2
def ub : List Bool := (ft 64).set 5 false
theorem small_ug : Small ug := by
  intro x hx
  rcases List.mem_or_eq_of_mem_set hx with h | h
  · exact small_fg 64 x h
  · omega
theorem full_g : tg (fg 64) (ft 64) = fg 64 := by decide +kernel
theorem full_b : tb (fg 64) (ft 64) = ft 64 := by decide +kernel
theorem full_at : tAt (fg 64) (ft 64) = 0 := by decide +kernel
theorem full_gen : tGen (fg 64) (ft 64) = 0 := by decide +kernel
theorem full_ok : tOk (fg 64) (ft 64) = false := by decide +kernel
theorem full_len : lenM (fg 64) (ft 64) = 64 := by decide +kernel
theorem fr_1 : fb (fg 64) (ft 64) 5 1 = ub := by decide +kernel
theorem fr_1o : hasM (fg 64) (ft 64) 5 1 = true := by decide +kernel
theorem fr_2 : fb (fg 64) ub 5 1 = ub := by decide +kernel
theorem fr_2o : hasM (fg 64) ub 5 1 = false := by decide +kernel
theorem fr_3 : fb (fg 64) (ft 64) 64 1 = ft 64 := by decide +kernel
theorem fr_3o : hasM (fg 64) (ft 64) 64 1 = false := by decide +kernel
theorem fr_4 : fb (fg 64) (ft 64) (-1) 1 = ft 64 := by decide +kernel
theorem fr_4o : hasM (fg 64) (ft 64) (-1) 1 = false := by decide +kernel
theorem fr_5 : fb (fg 64) (ft 64) 5 0 = ft 64 := by decide +kernel
theorem fr_5o : hasM (fg 64) (ft 64) 5 0 = false := by decide +kernel
theorem re_g : tg (fg 64) ub = ug := by decide +kernel
theorem re_b : tb (fg 64) ub = ft 64 := by decide +kernel
theorem re_at : tAt (fg 64) ub = 5 := by decide +kernel
theorem re_gen : tGen (fg 64) ub = 2 := by decide +kernel
theorem re_ok : tOk (fg 64) ub = true := by decide +kernel
theorem re_len : lenM ug (ft 64) = 64 := by decide +kernel

end Go.Proofs.Ytflfmcclihahmaa
