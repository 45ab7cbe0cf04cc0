/-
  Add, Left and Tick of package delta in the forms in which the statements call them; that the package does something.
-/
import Derived.Test.YtannkdnjbacbdaaTick
namespace Go.Proofs.Ytannkdnjbacbdaa
open Go.ChangeShapes Go.WideShapes Go.ChangeAt Go.RowKit
attribute [local go_sem ↓] Go.wp_at_zero Go.wp_at_succ

theorem add_c (p : Option Addr) (c : Nat) (l : List Tm) (w : World) (N : Nat) (l' : List Tm) (N' : Nat) (b : Bool) (n k : Int) (hN : l.length = N) (hl' : resAdd l n k = l') (hN' : l'.length = N') (hb : okAdd l n k = b) (hr : Rd w p c l) (hl : N ≤ 100) (hB : Bd l) (n0 : -9223372036854775808 ≤ n) (n1 : n ≤ 9223372036854775807) :
    Calls Try.prog 8 #[.slice p N c, .int .i64 n, .int .i64 k] w fun e w' => ∃ p' c', e = .returned (.tuple #[.slice p' N' c', .bool b]) ∧ Rd w' p' c' l' ∧ Below w.heap.size w w' := by
  subst hN hN' hl' hb
  exact delta_add p c l w hr hl hB n k n0 n1
theorem tick_c (p : Option Addr) (c : Nat) (l : List Tm) (w : World) (N : Nat) (l' : List Tm) (N' : Nat) (ks : List Int) (M : Nat) (hN : l.length = N) (hl' : restT l = l') (hN' : l'.length = N') (hks : (l.take (dueT l)).map (·.2) = ks) (hM : ks.length = M) (hr : Rd w p c l) (hl : N ≤ 100) (hB : Bd l) :
    Calls Try.prog 12 #[.slice p N c] w fun e w' => ∃ p' c' q d, e = .returned (.tuple #[.slice p' N' c', .slice q M d]) ∧ Rd w' p' c' l' ∧ RdI w' q d ks ∧ Below w.heap.size w w' := by
  subst hN hN' hl' hks hM
  exact delta_tick p c l w hr hl hB
theorem left_c (p : Option Addr) (c : Nat) (l : List Tm) (w : World) (N : Nat) (k x : Int) (b : Bool) (hN : l.length = N) (hx : leftT l k = x) (hb : hasT l k = b) (hr : Rd w p c l) (hl : N ≤ 100) (hB : Bd l) :
    Calls Try.prog 15 #[.slice p N c, .int .i64 k] w fun e w' => e = .returned (.tuple #[.int .i64 x, .bool b]) ∧ Below w.heap.size w w' := by
  subst hN hx hb
  exact left_any p c l w hr hl hB k

theorem bd1 : Bd [(2, 7)] := ⟨by simp, by decide, by decide⟩
theorem bd2 : Bd [(1, 8), (1, 7)] := ⟨by simp, by decide, by decide⟩
theorem bd3 : Bd [(1, 7)] := ⟨by simp, by decide, by decide⟩

set_option maxHeartbeats 1000000 in
theorem begun_any (w : World) : Calls Try.prog 7 #[] w fun e w' => e = .returned (.bool true) ∧ Below w.heap.size w w' := by
  have a1 := fun (w : World) => add_c none 0 [] w 0 [(2, 7)] 1 true 2 7 rfl (by decide) rfl (by decide) (Rd.nil w) (by omega) Bd.nil (by omega) (by omega)
  have a2 := fun (p : Option Addr) (c : Nat) (w : World) (hr : Rd w p c [(2, 7)]) => add_c p c [(2, 7)] w 1 [(1, 8), (1, 7)] 2 true 1 8 rfl (by decide) rfl (by decide) hr (by omega) bd1 (by omega) (by omega)
  have a3 := fun (p : Option Addr) (c : Nat) (w : World) (hr : Rd w p c [(1, 8), (1, 7)]) => add_c p c [(1, 8), (1, 7)] w 2 [(1, 8), (1, 7)] 2 false 1 8 rfl (by decide) rfl (by decide) hr (by omega) bd2 (by omega) (by omega)
  have t1 := fun (p : Option Addr) (c : Nat) (w : World) (hr : Rd w p c [(1, 8), (1, 7)]) => tick_c p c [(1, 8), (1, 7)] w 2 [(1, 7)] 1 [8] 1 rfl (by decide) rfl (by decide) rfl hr (by omega) bd2
  have t2 := fun (p : Option Addr) (c : Nat) (w : World) (hr : Rd w p c [(1, 7)]) => tick_c p c [(1, 7)] w 1 [] 0 [7] 1 rfl (by decide) rfl (by decide) rfl hr (by omega) bd3
  have l1 := fun (p : Option Addr) (c : Nat) (w : World) (hr : Rd w p c [(1, 8), (1, 7)]) => left_c p c [(1, 8), (1, 7)] w 2 7 2 true rfl (by decide) (by decide) hr (by omega) bd2
  go_enter Try.func7, Try.ntmps7
  go_wp2_with (first
    | (go_at_call 8; with_reducible (refine (a1 _).mono ?_); rintro e w1 ⟨p1, c1, rfl, h1, b1⟩)
    | (go_at_call 8; with_reducible (refine (a2 _ _ _ h1).mono ?_); rintro e w2 ⟨p2, c2, rfl, h2, b2⟩; have B2 := bel_call b1 (Nat.le_refl _) b2)
    | (go_at_call 15; with_reducible (refine (l1 _ _ _ h2).mono ?_); rintro e w3 ⟨rfl, b3⟩; have B3 := bel_call B2 (Nat.le_refl _) b3; have h3 := h2.below b3)
    | (go_at_call 12; with_reducible (refine (t1 _ _ _ h3).mono ?_); rintro e w4 ⟨p4, c4, q4, d4, rfl, h4, i4, b4⟩; have B4 := bel_call B3 (Nat.le_refl _) b4; have k4 := h3.below b4; obtain ⟨ib, io, rfl, iz, ic⟩ := i4.cell 0 (by simp))
    | (go_at_call 12; with_reducible (refine (t2 _ _ _ h4).mono ?_); rintro e w5 ⟨p5, c5, q5, d5, rfl, h5, i5, b5⟩; have B5 := bel_call B4 (Nat.le_refl _) b5; have k5 := k4.below b5; obtain ⟨jb, jo, rfl, jz, jc⟩ := i5.cell 0 (by simp))
    | (go_at_call 8; with_reducible (refine (a3 _ _ _ k5).mono ?_); rintro e w6 ⟨p6, c6, rfl, h6, b6⟩; have B6 := bel_call B5 (Nat.le_refl _) b6; have jc6 := (b6.cell (p := ⟨jb, jo + 0, none⟩) jz).trans jc; have ic6 := (b6.cell (p := ⟨ib, io + 0, none⟩) (Nat.lt_of_lt_of_le iz b5.size)).trans ((b5.cell (p := ⟨ib, io + 0, none⟩) iz).trans ic); simp at jc6 ic6))
  go_ret
  exact ⟨rfl, B6⟩
end Go.Proofs.Ytannkdnjbacbdaa
