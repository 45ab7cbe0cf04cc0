/-
  The law DeltaForms, walked.
-/
import Derived.Test.YtannkdnjbacbdaaArgs
import Derived.Test.YtannkdnjbacbdaaDropMid
namespace Go.Proofs.Ytannkdnjbacbdaa
open Go.ChangeShapes Go.WideShapes Go.ChangeAt Go.RowKit
attribute [local go_sem ↓] Go.wp_at_zero Go.wp_at_succ

theorem bel_drewN {B : Nat} {w w' : World} (h : Below B w w') (n : Nat) : Below B w (w'.drewN n) := ⟨h.os, h.tape, h.output, h.size, h.block⟩

theorem drop_f (p : Option Addr) (c : Nat) (l : List Tm) (w : World) (N : Nat) (l' : List Tm) (N' : Nat) (b : Bool) (k : Int) (hN : l.length = N) (hl' : resDrop l k = l') (hN' : l'.length = N') (hb : hasT l k = b) (hr : Rd w p c l) (hl : N ≤ 100) (hB : Bd l) :
    Calls Try.prog 10 #[.slice p N c, .int .i64 k] w fun e w' => ∃ p' c', e = .returned (.tuple #[.slice p' N' c', .bool b]) ∧ Rd w' p' c' l' ∧ Below w.heap.size w w' := by
  subst hN hN' hl' hb
  exact delta_drop p c l w hr hl hB k

theorem fb0 : Bd [] := ⟨by simp, by decide, by decide⟩
theorem fb1 : Bd [(3, 1)] := ⟨by simp, by decide, by decide⟩
theorem fb2 : Bd [(0, 2), (3, 1)] := ⟨by simp, by decide, by decide⟩
theorem fb3 : Bd [(0, 2), (1, 3), (2, 1)] := ⟨by simp, by decide, by decide⟩
theorem fb4 : Bd [(0, 2), (1, 3), (2, 1), (0, 4)] := ⟨by simp, by decide, by decide⟩
theorem fb5 : Bd [(0, 2), (1, 3), (2, 1), (0, 4), (2, 5)] := ⟨by simp, by decide, by decide⟩
theorem fr0 : Bd [(0, 2), (1, 3), (2, 4), (2, 5)] := ⟨by simp, by decide, by decide⟩
theorem fr1 : Bd [(2, 4), (2, 5)] := ⟨by simp, by decide, by decide⟩
theorem fr2 : Bd [(1, 4), (2, 5)] := ⟨by simp, by decide, by decide⟩
theorem fr3 : Bd [(2, 5)] := ⟨by simp, by decide, by decide⟩
theorem fr4 : Bd [(1, 5)] := ⟨by simp, by decide, by decide⟩
theorem fr5 : Bd [] := ⟨by simp, by decide, by decide⟩
theorem fr6 : Bd [] := ⟨by simp, by decide, by decide⟩
theorem fa0 (p : Option Addr) (c : Nat) (w : World) (hr : Rd w p c []) : Calls Try.prog 8 #[.slice p 0 c, .int .i64 (3), .int .i64 1] w fun e w' => ∃ p' c', e = .returned (.tuple #[.slice p' 1 c', .bool true]) ∧ Rd w' p' c' [(3, 1)] ∧ Below w.heap.size w w' :=
  add_c p c [] w 0 [(3, 1)] 1 true (3) 1 rfl (by decide) rfl (by decide) hr (by omega) fb0 (by omega) (by omega)
theorem fa1 (p : Option Addr) (c : Nat) (w : World) (hr : Rd w p c [(3, 1)]) : Calls Try.prog 8 #[.slice p 1 c, .int .i64 (0), .int .i64 2] w fun e w' => ∃ p' c', e = .returned (.tuple #[.slice p' 2 c', .bool true]) ∧ Rd w' p' c' [(0, 2), (3, 1)] ∧ Below w.heap.size w w' :=
  add_c p c [(3, 1)] w 1 [(0, 2), (3, 1)] 2 true (0) 2 rfl (by decide) rfl (by decide) hr (by omega) fb1 (by omega) (by omega)
theorem fa2 (p : Option Addr) (c : Nat) (w : World) (hr : Rd w p c [(0, 2), (3, 1)]) : Calls Try.prog 8 #[.slice p 2 c, .int .i64 (1), .int .i64 3] w fun e w' => ∃ p' c', e = .returned (.tuple #[.slice p' 3 c', .bool true]) ∧ Rd w' p' c' [(0, 2), (1, 3), (2, 1)] ∧ Below w.heap.size w w' :=
  add_c p c [(0, 2), (3, 1)] w 2 [(0, 2), (1, 3), (2, 1)] 3 true (1) 3 rfl (by decide) rfl (by decide) hr (by omega) fb2 (by omega) (by omega)
theorem fa3 (p : Option Addr) (c : Nat) (w : World) (hr : Rd w p c [(0, 2), (1, 3), (2, 1)]) : Calls Try.prog 8 #[.slice p 3 c, .int .i64 (3), .int .i64 4] w fun e w' => ∃ p' c', e = .returned (.tuple #[.slice p' 4 c', .bool true]) ∧ Rd w' p' c' [(0, 2), (1, 3), (2, 1), (0, 4)] ∧ Below w.heap.size w w' :=
  add_c p c [(0, 2), (1, 3), (2, 1)] w 3 [(0, 2), (1, 3), (2, 1), (0, 4)] 4 true (3) 4 rfl (by decide) rfl (by decide) hr (by omega) fb3 (by omega) (by omega)
theorem fa4 (p : Option Addr) (c : Nat) (w : World) (hr : Rd w p c [(0, 2), (1, 3), (2, 1), (0, 4)]) : Calls Try.prog 8 #[.slice p 4 c, .int .i64 (5), .int .i64 5] w fun e w' => ∃ p' c', e = .returned (.tuple #[.slice p' 5 c', .bool true]) ∧ Rd w' p' c' [(0, 2), (1, 3), (2, 1), (0, 4), (2, 5)] ∧ Below w.heap.size w w' :=
  add_c p c [(0, 2), (1, 3), (2, 1), (0, 4)] w 4 [(0, 2), (1, 3), (2, 1), (0, 4), (2, 5)] 5 true (5) 5 rfl (by decide) rfl (by decide) hr (by omega) fb4 (by omega) (by omega)
theorem fn1 (p : Option Addr) (c : Nat) (w : World) (hr : Rd w p c [(0, 2), (1, 3), (2, 1), (0, 4), (2, 5)]) : Calls Try.prog 8 #[.slice p 5 c, .int .i64 (-1), .int .i64 9] w fun e w' => ∃ p' c', e = .returned (.tuple #[.slice p' 5 c', .bool false]) ∧ Rd w' p' c' [(0, 2), (1, 3), (2, 1), (0, 4), (2, 5)] ∧ Below w.heap.size w w' :=
  add_c p c [(0, 2), (1, 3), (2, 1), (0, 4), (2, 5)] w 5 [(0, 2), (1, 3), (2, 1), (0, 4), (2, 5)] 5 false (-1) 9 rfl (by decide) rfl (by decide) hr (by omega) fb5 (by omega) (by omega)
theorem fn2 (p : Option Addr) (c : Nat) (w : World) (hr : Rd w p c [(0, 2), (1, 3), (2, 1), (0, 4), (2, 5)]) : Calls Try.prog 8 #[.slice p 5 c, .int .i64 (4611686018427387905), .int .i64 9] w fun e w' => ∃ p' c', e = .returned (.tuple #[.slice p' 5 c', .bool false]) ∧ Rd w' p' c' [(0, 2), (1, 3), (2, 1), (0, 4), (2, 5)] ∧ Below w.heap.size w w' :=
  add_c p c [(0, 2), (1, 3), (2, 1), (0, 4), (2, 5)] w 5 [(0, 2), (1, 3), (2, 1), (0, 4), (2, 5)] 5 false (4611686018427387905) 9 rfl (by decide) rfl (by decide) hr (by omega) fb5 (by omega) (by omega)
theorem fn3 (p : Option Addr) (c : Nat) (w : World) (hr : Rd w p c [(0, 2), (1, 3), (2, 1), (0, 4), (2, 5)]) : Calls Try.prog 8 #[.slice p 5 c, .int .i64 (1), .int .i64 5] w fun e w' => ∃ p' c', e = .returned (.tuple #[.slice p' 5 c', .bool false]) ∧ Rd w' p' c' [(0, 2), (1, 3), (2, 1), (0, 4), (2, 5)] ∧ Below w.heap.size w w' :=
  add_c p c [(0, 2), (1, 3), (2, 1), (0, 4), (2, 5)] w 5 [(0, 2), (1, 3), (2, 1), (0, 4), (2, 5)] 5 false (1) 5 rfl (by decide) rfl (by decide) hr (by omega) fb5 (by omega) (by omega)
theorem fd1 (p : Option Addr) (c : Nat) (w : World) (hr : Rd w p c [(0, 2), (1, 3), (2, 1), (0, 4), (2, 5)]) : Calls Try.prog 10 #[.slice p 5 c, .int .i64 1] w fun e w' => ∃ p' c', e = .returned (.tuple #[.slice p' 4 c', .bool true]) ∧ Rd w' p' c' [(0, 2), (1, 3), (2, 4), (2, 5)] ∧ Below w.heap.size w w' :=
  drop_f p c [(0, 2), (1, 3), (2, 1), (0, 4), (2, 5)] w 5 [(0, 2), (1, 3), (2, 4), (2, 5)] 4 true 1 rfl (by decide) rfl (by decide) hr (by omega) fb5
theorem fd2 (p : Option Addr) (c : Nat) (w : World) (hr : Rd w p c [(0, 2), (1, 3), (2, 4), (2, 5)]) : Calls Try.prog 10 #[.slice p 4 c, .int .i64 1] w fun e w' => ∃ p' c', e = .returned (.tuple #[.slice p' 4 c', .bool false]) ∧ Rd w' p' c' [(0, 2), (1, 3), (2, 4), (2, 5)] ∧ Below w.heap.size w w' :=
  drop_f p c [(0, 2), (1, 3), (2, 4), (2, 5)] w 4 [(0, 2), (1, 3), (2, 4), (2, 5)] 4 false 1 rfl (by decide) rfl (by decide) hr (by omega) fr0
theorem ft0 (p : Option Addr) (c : Nat) (w : World) (hr : Rd w p c [(0, 2), (1, 3), (2, 4), (2, 5)]) : Calls Try.prog 12 #[.slice p 4 c] w fun e w' => ∃ p' c' q d, e = .returned (.tuple #[.slice p' 2 c', .slice q 2 d]) ∧ Rd w' p' c' [(2, 4), (2, 5)] ∧ RdI w' q d [2, 3] ∧ Below w.heap.size w w' :=
  tick_c p c [(0, 2), (1, 3), (2, 4), (2, 5)] w 4 [(2, 4), (2, 5)] 2 [2, 3] 2 rfl (by decide) rfl (by decide) rfl hr (by omega) fr0
theorem ft1 (p : Option Addr) (c : Nat) (w : World) (hr : Rd w p c [(2, 4), (2, 5)]) : Calls Try.prog 12 #[.slice p 2 c] w fun e w' => ∃ p' c' q d, e = .returned (.tuple #[.slice p' 2 c', .slice q 0 d]) ∧ Rd w' p' c' [(1, 4), (2, 5)] ∧ RdI w' q d [] ∧ Below w.heap.size w w' :=
  tick_c p c [(2, 4), (2, 5)] w 2 [(1, 4), (2, 5)] 2 [] 0 rfl (by decide) rfl (by decide) rfl hr (by omega) fr1
theorem ft2 (p : Option Addr) (c : Nat) (w : World) (hr : Rd w p c [(1, 4), (2, 5)]) : Calls Try.prog 12 #[.slice p 2 c] w fun e w' => ∃ p' c' q d, e = .returned (.tuple #[.slice p' 1 c', .slice q 1 d]) ∧ Rd w' p' c' [(2, 5)] ∧ RdI w' q d [4] ∧ Below w.heap.size w w' :=
  tick_c p c [(1, 4), (2, 5)] w 2 [(2, 5)] 1 [4] 1 rfl (by decide) rfl (by decide) rfl hr (by omega) fr2
theorem ft3 (p : Option Addr) (c : Nat) (w : World) (hr : Rd w p c [(2, 5)]) : Calls Try.prog 12 #[.slice p 1 c] w fun e w' => ∃ p' c' q d, e = .returned (.tuple #[.slice p' 1 c', .slice q 0 d]) ∧ Rd w' p' c' [(1, 5)] ∧ RdI w' q d [] ∧ Below w.heap.size w w' :=
  tick_c p c [(2, 5)] w 1 [(1, 5)] 1 [] 0 rfl (by decide) rfl (by decide) rfl hr (by omega) fr3
theorem ft4 (p : Option Addr) (c : Nat) (w : World) (hr : Rd w p c [(1, 5)]) : Calls Try.prog 12 #[.slice p 1 c] w fun e w' => ∃ p' c' q d, e = .returned (.tuple #[.slice p' 0 c', .slice q 1 d]) ∧ Rd w' p' c' [] ∧ RdI w' q d [5] ∧ Below w.heap.size w w' :=
  tick_c p c [(1, 5)] w 1 [] 0 [5] 1 rfl (by decide) rfl (by decide) rfl hr (by omega) fr4
theorem ft5 (p : Option Addr) (c : Nat) (w : World) (hr : Rd w p c []) : Calls Try.prog 12 #[.slice p 0 c] w fun e w' => ∃ p' c' q d, e = .returned (.tuple #[.slice p' 0 c', .slice q 0 d]) ∧ Rd w' p' c' [] ∧ RdI w' q d [] ∧ Below w.heap.size w w' :=
  tick_c p c [] w 0 [] 0 [] 0 rfl (by decide) rfl (by decide) rfl hr (by omega) fr5

set_option maxRecDepth 100000 in
set_option maxHeartbeats 4000000 in
theorem forms_walk (w : World) : Calls Try.prog 5 #[] w fun e w' => e = .returned (.bool true) ∧ Below w.heap.size w w' := by
  go_enter Try.func5, Try.ntmps5
  go_wp2_with (go_at_call 7; refine (begun_any _).mono ?_; rintro e w1 ⟨rfl, hb1⟩)
  have hI : ∀ j, j < 5 → ((w1.alloc (Obj.cells #[Value.int IntKind.i64 3, Value.int IntKind.i64 0, Value.int IntKind.i64 1, Value.int IntKind.i64 3, Value.int IntKind.i64 5] 2)).alloc (Obj.cells #[Value.int IntKind.i64 1, Value.int IntKind.i64 2, Value.int IntKind.i64 3, Value.int IntKind.i64 4, Value.int IntKind.i64 5] 3)).cell? ⟨w1.heap.size, j, none⟩ = [Value.int .i64 3, .int .i64 0, .int .i64 1, .int .i64 3, .int .i64 5][j]? := by
    intro j hj
    rw [World.cell?_of_block (w := w1.alloc (Obj.cells #[Value.int IntKind.i64 3, Value.int IntKind.i64 0, Value.int IntKind.i64 1, Value.int IntKind.i64 3, Value.int IntKind.i64 5] 2)) (Below.heap_alloc _ _ _ (by simp)), cell_of_row _ w1.heap.size j _ 2 (0, 0) (heap_alloc_new w1 _)]
    simp
  have hJ : ∀ j, j < 5 → ((w1.alloc (Obj.cells #[Value.int IntKind.i64 3, Value.int IntKind.i64 0, Value.int IntKind.i64 1, Value.int IntKind.i64 3, Value.int IntKind.i64 5] 2)).alloc (Obj.cells #[Value.int IntKind.i64 1, Value.int IntKind.i64 2, Value.int IntKind.i64 3, Value.int IntKind.i64 4, Value.int IntKind.i64 5] 3)).cell? ⟨w1.heap.size + 1, j, none⟩ = [Value.int .i64 1, .int .i64 2, .int .i64 3, .int .i64 4, .int .i64 5][j]? := by
    intro j hj
    rw [cell_of_row _ (w1.heap.size + 1) j _ 3 (0, 0) (heap_two _ _ _)]
    simp
  have hz1 : w1.heap.size + 1 < ((w1.alloc (Obj.cells #[Value.int IntKind.i64 3, Value.int IntKind.i64 0, Value.int IntKind.i64 1, Value.int IntKind.i64 3, Value.int IntKind.i64 5] 2)).alloc (Obj.cells #[Value.int IntKind.i64 1, Value.int IntKind.i64 2, Value.int IntKind.i64 3, Value.int IntKind.i64 4, Value.int IntKind.i64 5] 3)).heap.size := by simp
  have hB := (hb1.alloc hb1.size (Obj.cells #[Value.int IntKind.i64 3, Value.int IntKind.i64 0, Value.int IntKind.i64 1, Value.int IntKind.i64 3, Value.int IntKind.i64 5] 2)).alloc (by simp; have := hb1.size; omega) (Obj.cells #[Value.int IntKind.i64 1, Value.int IntKind.i64 2, Value.int IntKind.i64 3, Value.int IntKind.i64 4, Value.int IntKind.i64 5] 3)
  generalize ((w1.alloc (Obj.cells #[Value.int IntKind.i64 3, Value.int IntKind.i64 0, Value.int IntKind.i64 1, Value.int IntKind.i64 3, Value.int IntKind.i64 5] 2)).alloc (Obj.cells #[Value.int IntKind.i64 1, Value.int IntKind.i64 2, Value.int IntKind.i64 3, Value.int IntKind.i64 4, Value.int IntKind.i64 5] 3)) = W at *
  clear hb1
  generalize w1.heap.size = I at *
  go_loopw [1, 4] (fun a i wr => Below W.heap.size W wr ∧ ∃ p c, (i = .int .i64 0 ∧ a = .slice p 0 c ∧ Rd wr p c []) ∨ (i = .int .i64 1 ∧ a = .slice p 1 c ∧ Rd wr p c [(3, 1)]) ∨ (i = .int .i64 2 ∧ a = .slice p 2 c ∧ Rd wr p c [(0, 2), (3, 1)]) ∨ (i = .int .i64 3 ∧ a = .slice p 3 c ∧ Rd wr p c [(0, 2), (1, 3), (2, 1)]) ∨ (i = .int .i64 4 ∧ a = .slice p 4 c ∧ Rd wr p c [(0, 2), (1, 3), (2, 1), (0, 4)]) ∨ (i = .int .i64 5 ∧ a = .slice p 5 c ∧ Rd wr p c [(0, 2), (1, 3), (2, 1), (0, 4), (2, 5)])) (fun _ i _ => 5 - (intOf i).toNat)
  case atStart => exact ⟨Below.refl _ _, none, 0, .inl ⟨rfl, rfl, Rd.nil _⟩⟩
  case round =>
    obtain ⟨hbw, p, c, hrel⟩ := hrel
    rcases hrel with ⟨rfl, rfl, hr⟩ | ⟨rfl, rfl, hr⟩ | ⟨rfl, rfl, hr⟩ | ⟨rfl, rfl, hr⟩ | ⟨rfl, rfl, hr⟩ | ⟨rfl, rfl, hr⟩
    · have ci : wr.cell? ⟨I, 0, none⟩ = some (.int .i64 3) := (hbw.cell (p := ⟨I, 0, none⟩) (by show I < _; omega)).trans (hI 0 (by omega))
      have cj : wr.cell? ⟨I + 1, 0, none⟩ = some (.int .i64 1) := (hbw.cell (p := ⟨I + 1, 0, none⟩) (by show I + 1 < _; omega)).trans (hJ 0 (by omega))
      go_wp2
      go_region_with ((go_at_call 8; with_reducible (refine (fa0 _ _ _ (hr.below (Below.refl _ _).drew)).mono ?_); rintro e w2 ⟨p2, c2, rfl, h2, b2⟩))
      all_goals
        go_wp2
        go_roundw
        case rel => exact ⟨bel_call hbw.drew (Nat.le_refl _) b2, p2, c2, .inr (.inl ⟨rfl, rfl, h2⟩)⟩
        case measure => simp [intOf]
    · have ci : wr.cell? ⟨I, 1, none⟩ = some (.int .i64 0) := (hbw.cell (p := ⟨I, 1, none⟩) (by show I < _; omega)).trans (hI 1 (by omega))
      have cj : wr.cell? ⟨I + 1, 1, none⟩ = some (.int .i64 2) := (hbw.cell (p := ⟨I + 1, 1, none⟩) (by show I + 1 < _; omega)).trans (hJ 1 (by omega))
      go_wp2
      go_region_with ((go_at_call 8; with_reducible (refine (fa1 _ _ _ (hr.below (Below.refl _ _).drew)).mono ?_); rintro e w2 ⟨p2, c2, rfl, h2, b2⟩))
      all_goals
        go_wp2
        go_roundw
        case rel => exact ⟨bel_call hbw.drew (Nat.le_refl _) b2, p2, c2, .inr (.inr (.inl ⟨rfl, rfl, h2⟩))⟩
        case measure => simp [intOf]
    · have ci : wr.cell? ⟨I, 2, none⟩ = some (.int .i64 1) := (hbw.cell (p := ⟨I, 2, none⟩) (by show I < _; omega)).trans (hI 2 (by omega))
      have cj : wr.cell? ⟨I + 1, 2, none⟩ = some (.int .i64 3) := (hbw.cell (p := ⟨I + 1, 2, none⟩) (by show I + 1 < _; omega)).trans (hJ 2 (by omega))
      go_wp2
      go_region_with ((go_at_call 8; with_reducible (refine (fa2 _ _ _ (hr.below (Below.refl _ _).drew)).mono ?_); rintro e w2 ⟨p2, c2, rfl, h2, b2⟩))
      all_goals
        go_wp2
        go_roundw
        case rel => exact ⟨bel_call hbw.drew (Nat.le_refl _) b2, p2, c2, .inr (.inr (.inr (.inl ⟨rfl, rfl, h2⟩)))⟩
        case measure => simp [intOf]
    · have ci : wr.cell? ⟨I, 3, none⟩ = some (.int .i64 3) := (hbw.cell (p := ⟨I, 3, none⟩) (by show I < _; omega)).trans (hI 3 (by omega))
      have cj : wr.cell? ⟨I + 1, 3, none⟩ = some (.int .i64 4) := (hbw.cell (p := ⟨I + 1, 3, none⟩) (by show I + 1 < _; omega)).trans (hJ 3 (by omega))
      go_wp2
      go_region_with ((go_at_call 8; with_reducible (refine (fa3 _ _ _ (hr.below (Below.refl _ _).drew)).mono ?_); rintro e w2 ⟨p2, c2, rfl, h2, b2⟩))
      all_goals
        go_wp2
        go_roundw
        case rel => exact ⟨bel_call hbw.drew (Nat.le_refl _) b2, p2, c2, .inr (.inr (.inr (.inr (.inl ⟨rfl, rfl, h2⟩))))⟩
        case measure => simp [intOf]
    · have ci : wr.cell? ⟨I, 4, none⟩ = some (.int .i64 5) := (hbw.cell (p := ⟨I, 4, none⟩) (by show I < _; omega)).trans (hI 4 (by omega))
      have cj : wr.cell? ⟨I + 1, 4, none⟩ = some (.int .i64 5) := (hbw.cell (p := ⟨I + 1, 4, none⟩) (by show I + 1 < _; omega)).trans (hJ 4 (by omega))
      go_wp2
      go_region_with ((go_at_call 8; with_reducible (refine (fa4 _ _ _ (hr.below (Below.refl _ _).drew)).mono ?_); rintro e w2 ⟨p2, c2, rfl, h2, b2⟩))
      all_goals
        go_wp2
        go_roundw
        case rel => exact ⟨bel_call hbw.drew (Nat.le_refl _) b2, p2, c2, .inr (.inr (.inr (.inr (.inr (⟨rfl, rfl, h2⟩)))))⟩
        case measure => simp [intOf]
    · clear hI hJ
      have hbW : Below w.heap.size w wr := bel_call hB (Nat.le_refl _) hbw
      clear hbw hB
      go_wp2_with (first
        | (go_at_call 8; with_reducible (refine (fn1 _ _ _ hr).mono ?_); rintro e w2 ⟨p2, c2, rfl, h2, b2⟩; have hr2 := hr.below b2; have hb2 := bel_call hbW (Nat.le_refl _) b2)
        | (go_at_call 8; with_reducible (refine (fn2 _ _ _ hr2).mono ?_); rintro e w3 ⟨p3, c3, rfl, h3, b3⟩; have hr3 := hr2.below b3; have hb3 := bel_call hb2 (Nat.le_refl _) b3)
        | (go_at_call 8; with_reducible (refine (fn3 _ _ _ hr3).mono ?_); rintro e w4 ⟨p4, c4, rfl, h4, b4⟩; have hr4 := hr3.below b4; have hb4 := bel_call hb3 (Nat.le_refl _) b4)
        | (go_at_call 10; with_reducible (refine (fd1 _ _ _ hr4).mono ?_); rintro e w5 ⟨p5, c5, rfl, h5, b5⟩; have hb5 := bel_call hb4 (Nat.le_refl _) b5)
        | (go_at_call 10; with_reducible (refine (fd2 _ _ _ h5).mono ?_); rintro e w6 ⟨p6, c6, rfl, h6, b6⟩; have hr6 := h5.below b6; have hb6 := bel_call hb5 (Nat.le_refl _) b6))
      have cw0 : ((((w6.alloc (Obj.cells #[Value.int IntKind.i64 2, Value.int IntKind.i64 3] 3)).alloc (Obj.cells #[Value.int IntKind.i64 4] 3)).alloc (Obj.cells #[Value.int IntKind.i64 5] 3)).alloc (Obj.cells #[Value.slice (some { block := w6.heap.size, off := 0 }) 2 2, Value.slice none 0 0, Value.slice (some { block := w6.heap.size + 1, off := 0 }) 1 1, Value.slice none 0 0, Value.slice (some { block := w6.heap.size + 1 + 1, off := 0 }) 1 1, Value.slice none 0 0] 33)).cell? ⟨w6.heap.size + 1 + 1 + 1, 0, none⟩ = some (.slice (some ⟨w6.heap.size, 0, none⟩) 2 2) := by simp [go_sem]
      have cw1 : ((((w6.alloc (Obj.cells #[Value.int IntKind.i64 2, Value.int IntKind.i64 3] 3)).alloc (Obj.cells #[Value.int IntKind.i64 4] 3)).alloc (Obj.cells #[Value.int IntKind.i64 5] 3)).alloc (Obj.cells #[Value.slice (some { block := w6.heap.size, off := 0 }) 2 2, Value.slice none 0 0, Value.slice (some { block := w6.heap.size + 1, off := 0 }) 1 1, Value.slice none 0 0, Value.slice (some { block := w6.heap.size + 1 + 1, off := 0 }) 1 1, Value.slice none 0 0] 33)).cell? ⟨w6.heap.size + 1 + 1 + 1, 1, none⟩ = some (.slice none 0 0) := by simp [go_sem]
      have cw2 : ((((w6.alloc (Obj.cells #[Value.int IntKind.i64 2, Value.int IntKind.i64 3] 3)).alloc (Obj.cells #[Value.int IntKind.i64 4] 3)).alloc (Obj.cells #[Value.int IntKind.i64 5] 3)).alloc (Obj.cells #[Value.slice (some { block := w6.heap.size, off := 0 }) 2 2, Value.slice none 0 0, Value.slice (some { block := w6.heap.size + 1, off := 0 }) 1 1, Value.slice none 0 0, Value.slice (some { block := w6.heap.size + 1 + 1, off := 0 }) 1 1, Value.slice none 0 0] 33)).cell? ⟨w6.heap.size + 1 + 1 + 1, 2, none⟩ = some (.slice (some ⟨w6.heap.size + 1, 0, none⟩) 1 1) := by simp [go_sem]
      have cw3 : ((((w6.alloc (Obj.cells #[Value.int IntKind.i64 2, Value.int IntKind.i64 3] 3)).alloc (Obj.cells #[Value.int IntKind.i64 4] 3)).alloc (Obj.cells #[Value.int IntKind.i64 5] 3)).alloc (Obj.cells #[Value.slice (some { block := w6.heap.size, off := 0 }) 2 2, Value.slice none 0 0, Value.slice (some { block := w6.heap.size + 1, off := 0 }) 1 1, Value.slice none 0 0, Value.slice (some { block := w6.heap.size + 1 + 1, off := 0 }) 1 1, Value.slice none 0 0] 33)).cell? ⟨w6.heap.size + 1 + 1 + 1, 3, none⟩ = some (.slice none 0 0) := by simp [go_sem]
      have cw4 : ((((w6.alloc (Obj.cells #[Value.int IntKind.i64 2, Value.int IntKind.i64 3] 3)).alloc (Obj.cells #[Value.int IntKind.i64 4] 3)).alloc (Obj.cells #[Value.int IntKind.i64 5] 3)).alloc (Obj.cells #[Value.slice (some { block := w6.heap.size, off := 0 }) 2 2, Value.slice none 0 0, Value.slice (some { block := w6.heap.size + 1, off := 0 }) 1 1, Value.slice none 0 0, Value.slice (some { block := w6.heap.size + 1 + 1, off := 0 }) 1 1, Value.slice none 0 0] 33)).cell? ⟨w6.heap.size + 1 + 1 + 1, 4, none⟩ = some (.slice (some ⟨w6.heap.size + 1 + 1, 0, none⟩) 1 1) := by simp [go_sem]
      have cw5 : ((((w6.alloc (Obj.cells #[Value.int IntKind.i64 2, Value.int IntKind.i64 3] 3)).alloc (Obj.cells #[Value.int IntKind.i64 4] 3)).alloc (Obj.cells #[Value.int IntKind.i64 5] 3)).alloc (Obj.cells #[Value.slice (some { block := w6.heap.size, off := 0 }) 2 2, Value.slice none 0 0, Value.slice (some { block := w6.heap.size + 1, off := 0 }) 1 1, Value.slice none 0 0, Value.slice (some { block := w6.heap.size + 1 + 1, off := 0 }) 1 1, Value.slice none 0 0] 33)).cell? ⟨w6.heap.size + 1 + 1 + 1, 5, none⟩ = some (.slice none 0 0) := by simp [go_sem]
      have ce0 : ((((w6.alloc (Obj.cells #[Value.int IntKind.i64 2, Value.int IntKind.i64 3] 3)).alloc (Obj.cells #[Value.int IntKind.i64 4] 3)).alloc (Obj.cells #[Value.int IntKind.i64 5] 3)).alloc (Obj.cells #[Value.slice (some { block := w6.heap.size, off := 0 }) 2 2, Value.slice none 0 0, Value.slice (some { block := w6.heap.size + 1, off := 0 }) 1 1, Value.slice none 0 0, Value.slice (some { block := w6.heap.size + 1 + 1, off := 0 }) 1 1, Value.slice none 0 0] 33)).cell? ⟨w6.heap.size, 0, none⟩ = some (.int .i64 2) := by simp [go_sem]
      have ce1 : ((((w6.alloc (Obj.cells #[Value.int IntKind.i64 2, Value.int IntKind.i64 3] 3)).alloc (Obj.cells #[Value.int IntKind.i64 4] 3)).alloc (Obj.cells #[Value.int IntKind.i64 5] 3)).alloc (Obj.cells #[Value.slice (some { block := w6.heap.size, off := 0 }) 2 2, Value.slice none 0 0, Value.slice (some { block := w6.heap.size + 1, off := 0 }) 1 1, Value.slice none 0 0, Value.slice (some { block := w6.heap.size + 1 + 1, off := 0 }) 1 1, Value.slice none 0 0] 33)).cell? ⟨w6.heap.size, 1, none⟩ = some (.int .i64 3) := by simp [go_sem]
      have ce2 : ((((w6.alloc (Obj.cells #[Value.int IntKind.i64 2, Value.int IntKind.i64 3] 3)).alloc (Obj.cells #[Value.int IntKind.i64 4] 3)).alloc (Obj.cells #[Value.int IntKind.i64 5] 3)).alloc (Obj.cells #[Value.slice (some { block := w6.heap.size, off := 0 }) 2 2, Value.slice none 0 0, Value.slice (some { block := w6.heap.size + 1, off := 0 }) 1 1, Value.slice none 0 0, Value.slice (some { block := w6.heap.size + 1 + 1, off := 0 }) 1 1, Value.slice none 0 0] 33)).cell? ⟨w6.heap.size + 1, 0, none⟩ = some (.int .i64 4) := by simp [go_sem]
      have ce4 : ((((w6.alloc (Obj.cells #[Value.int IntKind.i64 2, Value.int IntKind.i64 3] 3)).alloc (Obj.cells #[Value.int IntKind.i64 4] 3)).alloc (Obj.cells #[Value.int IntKind.i64 5] 3)).alloc (Obj.cells #[Value.slice (some { block := w6.heap.size, off := 0 }) 2 2, Value.slice none 0 0, Value.slice (some { block := w6.heap.size + 1, off := 0 }) 1 1, Value.slice none 0 0, Value.slice (some { block := w6.heap.size + 1 + 1, off := 0 }) 1 1, Value.slice none 0 0] 33)).cell? ⟨w6.heap.size + 1 + 1, 0, none⟩ = some (.int .i64 5) := by simp [go_sem]
      have hz6 : w6.heap.size + 1 + 1 + 1 < ((((w6.alloc (Obj.cells #[Value.int IntKind.i64 2, Value.int IntKind.i64 3] 3)).alloc (Obj.cells #[Value.int IntKind.i64 4] 3)).alloc (Obj.cells #[Value.int IntKind.i64 5] 3)).alloc (Obj.cells #[Value.slice (some { block := w6.heap.size, off := 0 }) 2 2, Value.slice none 0 0, Value.slice (some { block := w6.heap.size + 1, off := 0 }) 1 1, Value.slice none 0 0, Value.slice (some { block := w6.heap.size + 1 + 1, off := 0 }) 1 1, Value.slice none 0 0] 33)).heap.size := by simp
      have hbV : Below w6.heap.size w6 ((((w6.alloc (Obj.cells #[Value.int IntKind.i64 2, Value.int IntKind.i64 3] 3)).alloc (Obj.cells #[Value.int IntKind.i64 4] 3)).alloc (Obj.cells #[Value.int IntKind.i64 5] 3)).alloc (Obj.cells #[Value.slice (some { block := w6.heap.size, off := 0 }) 2 2, Value.slice none 0 0, Value.slice (some { block := w6.heap.size + 1, off := 0 }) 1 1, Value.slice none 0 0, Value.slice (some { block := w6.heap.size + 1 + 1, off := 0 }) 1 1, Value.slice none 0 0] 33)) := ((((Below.refl _ _).alloc (Nat.le_refl _) _).alloc (by simp) _).alloc (by simp; omega) _).alloc (by simp; omega) _
      have hrV := hr6.below hbV
      have hbV2 := bel_call hb6 (Nat.le_refl _) hbV
      generalize ((((w6.alloc (Obj.cells #[Value.int IntKind.i64 2, Value.int IntKind.i64 3] 3)).alloc (Obj.cells #[Value.int IntKind.i64 4] 3)).alloc (Obj.cells #[Value.int IntKind.i64 5] 3)).alloc (Obj.cells #[Value.slice (some { block := w6.heap.size, off := 0 }) 2 2, Value.slice none 0 0, Value.slice (some { block := w6.heap.size + 1, off := 0 }) 1 1, Value.slice none 0 0, Value.slice (some { block := w6.heap.size + 1 + 1, off := 0 }) 1 1, Value.slice none 0 0] 33)) = V at *
      generalize w6.heap.size = G at *
      clear hb6 hr6 hbV hb5 hb4 hb3 hb2 hr2 hr3 hr4 h2 h3 h4 h5 h6 b2 b3 b4 b5 b6 hr hbW
      go_loopw [1, 17] (fun a i wr => Below V.heap.size V wr ∧ ∃ p c, (i = .int .i64 0 ∧ a = .slice p 4 c ∧ Rd wr p c [(0, 2), (1, 3), (2, 4), (2, 5)]) ∨ (i = .int .i64 1 ∧ a = .slice p 2 c ∧ Rd wr p c [(2, 4), (2, 5)]) ∨ (i = .int .i64 2 ∧ a = .slice p 2 c ∧ Rd wr p c [(1, 4), (2, 5)]) ∨ (i = .int .i64 3 ∧ a = .slice p 1 c ∧ Rd wr p c [(2, 5)]) ∨ (i = .int .i64 4 ∧ a = .slice p 1 c ∧ Rd wr p c [(1, 5)]) ∨ (i = .int .i64 5 ∧ a = .slice p 0 c ∧ Rd wr p c []) ∨ (i = .int .i64 6 ∧ a = .slice p 0 c ∧ Rd wr p c [])) (fun _ i _ => 6 - (intOf i).toNat)
      case atStart => exact ⟨Below.refl _ _, _, _, .inl ⟨rfl, rfl, hrV⟩⟩
      case round =>
        obtain ⟨hbw, p, c, hrel⟩ := hrel
        clear hrV
        rcases hrel with ⟨rfl, rfl, hr⟩ | ⟨rfl, rfl, hr⟩ | ⟨rfl, rfl, hr⟩ | ⟨rfl, rfl, hr⟩ | ⟨rfl, rfl, hr⟩ | ⟨rfl, rfl, hr⟩ | ⟨rfl, rfl, hr⟩
        · go_wp2_with (go_at_call 12; with_reducible (refine (ft0 _ _ _ hr).mono ?_); rintro e w7 ⟨p7, c7, q7, d7, rfl, h7, i7, b7⟩; have hb7 := bel_call hbw (Nat.le_refl _) b7; have cw := ((b7.cell (p := ⟨G + 1 + 1 + 1, 0, none⟩) (by show G + 1 + 1 + 1 < _; have := hbw.size; omega)).trans (hbw.cell (p := ⟨G + 1 + 1 + 1, 0, none⟩) hz6)).trans cw0)
          have cw' := (hbw.cell (p := ⟨G + 1 + 1 + 1, 0, none⟩) hz6).trans cw0
          obtain ⟨ib, io, rfl, iz, ic0⟩ := i7.cell 0 (by simp)
          simp at ic0
          have ck0 := (hb7.cell (p := ⟨G, 0, none⟩) (by show G < _; omega)).trans ce0
          obtain ⟨ib1, io1, e1, _, ic1⟩ := i7.cell 1 (by simp)
          simp only [Option.some.injEq, Addr.mk.injEq, and_true] at e1
          obtain ⟨rfl, rfl⟩ := e1
          simp at ic1
          have ck1 := (hb7.cell (p := ⟨G, 1, none⟩) (by show G < _; omega)).trans ce1
          go_loopw [20] (fun k wx => Below w7.heap.size w7 wx ∧ (k = .int .i64 0 ∨ k = .int .i64 1 ∨ k = .int .i64 2)) (fun k _ => 2 - (intOf k).toNat)
          case atStart => exact ⟨Below.refl _ _, .inl rfl⟩
          case round =>
            obtain ⟨hbx, hk⟩ := hrel
            have hbV7 := bel_call hb7 (Nat.le_refl _) hbx
            have hw7 : G + 1 + 1 + 1 < w7.heap.size := by have := hb7.size; omega
            have cwx := (hbx.cell (p := ⟨G + 1 + 1 + 1, 0, none⟩) hw7).trans cw
            rcases hk with rfl | rfl | rfl
            · have icx := (hbx.cell (p := ⟨ib, io, none⟩) iz).trans ic0
              have ckx := (hbx.cell (p := ⟨G, 0, none⟩) (by show G < _; omega)).trans ck0
              go_wp2
              go_quiet (fail)
              go_wp2
              go_roundw
              case rel => exact ⟨bel_drewN hbx _, .inr (.inl rfl)⟩
              case measure => simp [intOf]
            · have icx := (hbx.cell (p := ⟨ib, io + 1, none⟩) iz).trans ic1
              have ckx := (hbx.cell (p := ⟨G, 1, none⟩) (by show G < _; omega)).trans ck1
              go_wp2
              go_quiet (fail)
              go_wp2
              go_roundw
              case rel => exact ⟨bel_drewN hbx _, .inr (.inr (rfl))⟩
              case measure => simp [intOf]
            · go_wp2
              go_roundw
              case rel => exact ⟨hbV7, p7, c7, .inr (.inl ⟨rfl, rfl, h7.below hbx⟩)⟩
              case measure => simp [intOf]
        · go_wp2_with (go_at_call 12; with_reducible (refine (ft1 _ _ _ hr).mono ?_); rintro e w7 ⟨p7, c7, q7, d7, rfl, h7, i7, b7⟩; have hb7 := bel_call hbw (Nat.le_refl _) b7; have cw := ((b7.cell (p := ⟨G + 1 + 1 + 1, 1, none⟩) (by show G + 1 + 1 + 1 < _; have := hbw.size; omega)).trans (hbw.cell (p := ⟨G + 1 + 1 + 1, 1, none⟩) hz6)).trans cw1)
          have cw' := (hbw.cell (p := ⟨G + 1 + 1 + 1, 1, none⟩) hz6).trans cw1
          go_loopw [20] (fun k wx => Below w7.heap.size w7 wx ∧ (k = .int .i64 0)) (fun k _ => 0 - (intOf k).toNat)
          case atStart => exact ⟨Below.refl _ _, rfl⟩
          case round =>
            obtain ⟨hbx, hk⟩ := hrel
            have hbV7 := bel_call hb7 (Nat.le_refl _) hbx
            have hw7 : G + 1 + 1 + 1 < w7.heap.size := by have := hb7.size; omega
            have cwx := (hbx.cell (p := ⟨G + 1 + 1 + 1, 1, none⟩) hw7).trans cw
            rcases hk with rfl
            · go_wp2
              go_roundw
              case rel => exact ⟨hbV7, p7, c7, .inr (.inr (.inl ⟨rfl, rfl, h7.below hbx⟩))⟩
              case measure => simp [intOf]
        · go_wp2_with (go_at_call 12; with_reducible (refine (ft2 _ _ _ hr).mono ?_); rintro e w7 ⟨p7, c7, q7, d7, rfl, h7, i7, b7⟩; have hb7 := bel_call hbw (Nat.le_refl _) b7; have cw := ((b7.cell (p := ⟨G + 1 + 1 + 1, 2, none⟩) (by show G + 1 + 1 + 1 < _; have := hbw.size; omega)).trans (hbw.cell (p := ⟨G + 1 + 1 + 1, 2, none⟩) hz6)).trans cw2)
          have cw' := (hbw.cell (p := ⟨G + 1 + 1 + 1, 2, none⟩) hz6).trans cw2
          obtain ⟨ib, io, rfl, iz, ic0⟩ := i7.cell 0 (by simp)
          simp at ic0
          have ck0 := (hb7.cell (p := ⟨G + 1, 0, none⟩) (by show G + 1 < _; omega)).trans ce2
          go_loopw [20] (fun k wx => Below w7.heap.size w7 wx ∧ (k = .int .i64 0 ∨ k = .int .i64 1)) (fun k _ => 1 - (intOf k).toNat)
          case atStart => exact ⟨Below.refl _ _, .inl rfl⟩
          case round =>
            obtain ⟨hbx, hk⟩ := hrel
            have hbV7 := bel_call hb7 (Nat.le_refl _) hbx
            have hw7 : G + 1 + 1 + 1 < w7.heap.size := by have := hb7.size; omega
            have cwx := (hbx.cell (p := ⟨G + 1 + 1 + 1, 2, none⟩) hw7).trans cw
            rcases hk with rfl | rfl
            · have icx := (hbx.cell (p := ⟨ib, io, none⟩) iz).trans ic0
              have ckx := (hbx.cell (p := ⟨G + 1, 0, none⟩) (by show G + 1 < _; omega)).trans ck0
              go_wp2
              go_quiet (fail)
              go_wp2
              go_roundw
              case rel => exact ⟨bel_drewN hbx _, .inr (rfl)⟩
              case measure => simp [intOf]
            · go_wp2
              go_roundw
              case rel => exact ⟨hbV7, p7, c7, .inr (.inr (.inr (.inl ⟨rfl, rfl, h7.below hbx⟩)))⟩
              case measure => simp [intOf]
        · go_wp2_with (go_at_call 12; with_reducible (refine (ft3 _ _ _ hr).mono ?_); rintro e w7 ⟨p7, c7, q7, d7, rfl, h7, i7, b7⟩; have hb7 := bel_call hbw (Nat.le_refl _) b7; have cw := ((b7.cell (p := ⟨G + 1 + 1 + 1, 3, none⟩) (by show G + 1 + 1 + 1 < _; have := hbw.size; omega)).trans (hbw.cell (p := ⟨G + 1 + 1 + 1, 3, none⟩) hz6)).trans cw3)
          have cw' := (hbw.cell (p := ⟨G + 1 + 1 + 1, 3, none⟩) hz6).trans cw3
          go_loopw [20] (fun k wx => Below w7.heap.size w7 wx ∧ (k = .int .i64 0)) (fun k _ => 0 - (intOf k).toNat)
          case atStart => exact ⟨Below.refl _ _, rfl⟩
          case round =>
            obtain ⟨hbx, hk⟩ := hrel
            have hbV7 := bel_call hb7 (Nat.le_refl _) hbx
            have hw7 : G + 1 + 1 + 1 < w7.heap.size := by have := hb7.size; omega
            have cwx := (hbx.cell (p := ⟨G + 1 + 1 + 1, 3, none⟩) hw7).trans cw
            rcases hk with rfl
            · go_wp2
              go_roundw
              case rel => exact ⟨hbV7, p7, c7, .inr (.inr (.inr (.inr (.inl ⟨rfl, rfl, h7.below hbx⟩))))⟩
              case measure => simp [intOf]
        · go_wp2_with (go_at_call 12; with_reducible (refine (ft4 _ _ _ hr).mono ?_); rintro e w7 ⟨p7, c7, q7, d7, rfl, h7, i7, b7⟩; have hb7 := bel_call hbw (Nat.le_refl _) b7; have cw := ((b7.cell (p := ⟨G + 1 + 1 + 1, 4, none⟩) (by show G + 1 + 1 + 1 < _; have := hbw.size; omega)).trans (hbw.cell (p := ⟨G + 1 + 1 + 1, 4, none⟩) hz6)).trans cw4)
          have cw' := (hbw.cell (p := ⟨G + 1 + 1 + 1, 4, none⟩) hz6).trans cw4
          obtain ⟨ib, io, rfl, iz, ic0⟩ := i7.cell 0 (by simp)
          simp at ic0
          have ck0 := (hb7.cell (p := ⟨G + 1 + 1, 0, none⟩) (by show G + 1 + 1 < _; omega)).trans ce4
          go_loopw [20] (fun k wx => Below w7.heap.size w7 wx ∧ (k = .int .i64 0 ∨ k = .int .i64 1)) (fun k _ => 1 - (intOf k).toNat)
          case atStart => exact ⟨Below.refl _ _, .inl rfl⟩
          case round =>
            obtain ⟨hbx, hk⟩ := hrel
            have hbV7 := bel_call hb7 (Nat.le_refl _) hbx
            have hw7 : G + 1 + 1 + 1 < w7.heap.size := by have := hb7.size; omega
            have cwx := (hbx.cell (p := ⟨G + 1 + 1 + 1, 4, none⟩) hw7).trans cw
            rcases hk with rfl | rfl
            · have icx := (hbx.cell (p := ⟨ib, io, none⟩) iz).trans ic0
              have ckx := (hbx.cell (p := ⟨G + 1 + 1, 0, none⟩) (by show G + 1 + 1 < _; omega)).trans ck0
              go_wp2
              go_quiet (fail)
              go_wp2
              go_roundw
              case rel => exact ⟨bel_drewN hbx _, .inr (rfl)⟩
              case measure => simp [intOf]
            · go_wp2
              go_roundw
              case rel => exact ⟨hbV7, p7, c7, .inr (.inr (.inr (.inr (.inr (.inl ⟨rfl, rfl, h7.below hbx⟩)))))⟩
              case measure => simp [intOf]
        · go_wp2_with (go_at_call 12; with_reducible (refine (ft5 _ _ _ hr).mono ?_); rintro e w7 ⟨p7, c7, q7, d7, rfl, h7, i7, b7⟩; have hb7 := bel_call hbw (Nat.le_refl _) b7; have cw := ((b7.cell (p := ⟨G + 1 + 1 + 1, 5, none⟩) (by show G + 1 + 1 + 1 < _; have := hbw.size; omega)).trans (hbw.cell (p := ⟨G + 1 + 1 + 1, 5, none⟩) hz6)).trans cw5)
          have cw' := (hbw.cell (p := ⟨G + 1 + 1 + 1, 5, none⟩) hz6).trans cw5
          go_loopw [20] (fun k wx => Below w7.heap.size w7 wx ∧ (k = .int .i64 0)) (fun k _ => 0 - (intOf k).toNat)
          case atStart => exact ⟨Below.refl _ _, rfl⟩
          case round =>
            obtain ⟨hbx, hk⟩ := hrel
            have hbV7 := bel_call hb7 (Nat.le_refl _) hbx
            have hw7 : G + 1 + 1 + 1 < w7.heap.size := by have := hb7.size; omega
            have cwx := (hbx.cell (p := ⟨G + 1 + 1 + 1, 5, none⟩) hw7).trans cw
            rcases hk with rfl
            · go_wp2
              go_roundw
              case rel => exact ⟨hbV7, p7, c7, .inr (.inr (.inr (.inr (.inr (.inr (⟨rfl, rfl, h7.below hbx⟩))))))⟩
              case measure => simp [intOf]
        · go_wp2
          go_ret
          exact ⟨rfl, bel_call hbV2 (Nat.le_refl _) hbw⟩
end Go.Proofs.Ytannkdnjbacbdaa
