/-
  What Drop of package delta does with a row of timers that may be: a new row without that one, the others as they come, or the row as it was, and no.
-/
import Derived.Test.YtannkdnjbacbdaaAdd
import Derived.Test.YtannkdnjbacbdaaDeletes
import Derived.Deep.RegionWith
namespace Go.Proofs.Ytannkdnjbacbdaa
open Go.ChangeShapes Go.WideShapes Go.ChangeAt Go.RowKit
attribute [local go_sem ↓] Go.wp_at_zero Go.wp_at_succ

theorem look_some : ∀ (l : List Tm) (a s k x y : Int), lookE (entT a s l) k = some (x, y) → ∃ A, ∃ h : A < l.length, l[A].2 = k ∧ x = a + A ∧ y = s + sumA (l.take (A + 1))
  | [], a, s, k, x, y, h => by simp [entT, lookE] at h
  | z :: r, a, s, k, x, y, h => by
    simp only [entT, lookE] at h
    split at h
    · rename_i e
      simp at h
      exact ⟨0, by simp, e.symm, by simp [h.1], by simp [sumA, h.2]⟩
    · obtain ⟨A, hA, h1, h2, h3⟩ := look_some r (a + 1) (s + z.1) k x y h
      refine ⟨A + 1, by simpa using hA, by simpa using h1, by simp; omega, ?_⟩
      rw [List.take_succ_cons]
      simp only [sumA]; omega

/-- l without the one at place a, for which the next one waits too. -/
def dropI (l : List Tm) (a : Nat) : List Tm := cutT (subAt l (a + 1) (-(l[a]?.getD (0, 0)).1)) a (a + 1)
def resDrop (l : List Tm) (k : Int) : List Tm := if hasT l k then dropI l (placeT l k).toNat else l

theorem place_of (l : List Tm) (k : Int) (h : hasT l k = true) : ∃ A, ∃ hA : A < l.length, l[A].2 = k ∧ placeT l k = A ∧ leftT l k = sumA (l.take (A + 1)) := by
  unfold hasT at h
  obtain ⟨⟨x, y⟩, hx⟩ := Option.isSome_iff_exists.1 h
  obtain ⟨A, hA, h1, h2, h3⟩ := look_some l 0 0 k x y hx
  exact ⟨A, hA, h1, by simp [placeT, hx, h2], by simp [leftT, hx, h3]⟩

theorem drop_no (p : Option Addr) (c : Nat) (l : List Tm) (w : World) (hr : Rd w p c l) (hl : l.length ≤ 100) (hB : Bd l) (k : Int) (hno : hasT l k = false) :
    Calls Try.prog 10 #[.slice p l.length c, .int .i64 k] w fun e w' => Told w w' e l false := by
  go_enter Try.func10, Try.ntmps10
  go_wp2_with (first
    | (go_at_call 16; refine (clone_any _ _ _ _ hr hl).mono ?_; rintro e w1 ⟨p1, c1, rfl, ho1, hb1⟩)
    | (go_at_call 21; refine (spots_any _ _ _ _ (hr.below hb1) hl hB).mono ?_; rintro e w3 ⟨b, rfl, hm, hb3⟩)
    | (at_lookup; refine wpList_look _ rfl _ _ rfl b (entT 0 0 l) rfl hm k rfl (placeT l k) (leftT l k) (hasT l k) rfl rfl ?_))
  go_ret2
  have hbw := bel_call hb1 (Nat.le_refl _) hb3
  exact ⟨_, _, rfl, (own_rd ho1).below (hb3.alloc hb3.size _), hbw.alloc hbw.size _⟩

set_option maxHeartbeats 2000000 in
theorem drop_last (p : Option Addr) (c : Nat) (l : List Tm) (w : World) (hr : Rd w p c l) (hl : l.length ≤ 100) (hB : Bd l) (k : Int) (hyes : hasT l k = true) (A : Nat) (hA : A < l.length) (hp : placeT l k = A) (hlast : ¬ A + 1 < l.length) :
    Calls Try.prog 10 #[.slice p l.length c, .int .i64 k] w fun e w' => Told w w' e (dropI l A) true := by
  have hdr : dropI l A = cutT l A (A + 1) := by
    unfold dropI
    congr 1
    apply List.ext_getElem (by simp [subAt])
    intro i h1 h2
    simp only [subAt, List.getElem_modify]
    rw [if_neg (by omega)]
  rw [hdr]
  have h1 : decide ((A : Int) + 1 < (l.length : Int)) = false := by simp; omega
  clear hdr
  go_enter Try.func10, Try.ntmps10
  go_wp2_with (first
    | (go_at_call 16; refine (clone_any _ _ _ _ hr hl).mono ?_; rintro e w1 ⟨p1, c1, rfl, ho1, hb1⟩)
    | (go_at_call 21; refine (spots_any _ _ _ _ (hr.below hb1) hl hB).mono ?_; rintro e w3 ⟨b, rfl, hm, hb3⟩; have ho3 := own_below ho1 hb3; have hbw := bel_call hb1 (Nat.le_refl _) hb3)
    | (at_lookup; refine wpList_look _ rfl _ _ rfl b (entT 0 0 l) rfl hm k rfl (placeT l k) (leftT l k) (hasT l k) rfl rfl ?_)
    | (go_at_call 23; refine (delete_any _ _ l w.heap.size _ (own_below ho3 ((Below.refl _ _).alloc (Nat.le_refl _) _)) hl A (A + 1) (by omega) (by omega)).mono ?_; rintro e w5 ⟨rfl, ho6, hb6⟩))
  go_ret2
  exact ⟨_, _, rfl, own_rd ho6, (hbw.alloc hbw.size _).trans hb6⟩

theorem delete_n (p : Option Addr) (c : Nat) (l : List Tm) (base : Nat) (w : World) (N : Nat) (hN : l.length = N) (hown : Own w base 50 p c l) (hl : N ≤ 100) (i j : Nat) (hij : i ≤ j) (hj : j ≤ N) :
    Calls Try.prog 23 #[.slice p N c, .int .i64 i, .int .i64 j] w fun e w' => e = .returned (.slice p (cutT l i j).length c) ∧ Own w' base 50 p c (cutT l i j) ∧ Below base w w' := by
  subst hN; exact delete_any p c l base w hown hl i j hij hj
end Go.Proofs.Ytannkdnjbacbdaa
