/-
  Has vm begun; a step at literals.
-/
import Derived.Test.YtboffjabffcddaaVsame
import Derived.WalkSpells
namespace Go.Proofs.Ytboffjabffcddaa
open Go.ChangeShapes Go.WideShapes Go.ChangeAt Go.RowKit
attribute [local go_sem ↓] Go.wp_at_zero Go.wp_at_succ

theorem vstep_c (p : Option Addr) (c : Nat) (l : List In) (w : World) (hr : Rd eIn w p c l) (n : Nat) (hN : l.length = n) (hn : n ≤ 1000) (pc m0 m1 m2 m3 m4 m5 m6 m7 : Int) (hMb : ∀ v ∈ [m0, m1, m2, m3, m4, m5, m6, m7], -9223372036854775808 ≤ v ∧ v ≤ 9223372036854775807) (q : Option Addr) (d k : Nat) (R : List Rp) (hR : Rd eRp w q d R) (hk : R.length = k) (hk3 : k ≤ 1000) (hRb : ∀ r ∈ R, -9223372036854775808 ≤ r.2.2 ∧ r.2.2 ≤ 9223372036854775807) (ov : Bool)
    (pcF a0 a1 a2 a3 a4 a5 a6 a7 : Int) (RF : List Rp) (ovF : Bool) (xo xa xb xn : Int) (ok : Bool) (kF : Nat) (hF : stepF l pc [m0, m1, m2, m3, m4, m5, m6, m7] R ov = (pcF, [a0, a1, a2, a3, a4, a5, a6, a7], RF, ovF, (xo, xa, xb, xn), ok)) (hkF : RF.length = kF) :
    Calls Try.prog 24 #[.slice p n c, .agg #[.int .i64 pc, .int .i64 m0, .int .i64 m1, .int .i64 m2, .int .i64 m3, .int .i64 m4, .int .i64 m5, .int .i64 m6, .int .i64 m7, .slice q k d, .bool ov]] w fun e w' => (∃ (q9 : Option Addr) (d9 : Nat), e = .returned (.tuple #[.agg #[.int .i64 pcF, .int .i64 a0, .int .i64 a1, .int .i64 a2, .int .i64 a3, .int .i64 a4, .int .i64 a5, .int .i64 a6, .int .i64 a7, .slice q9 kF d9, .bool ovF], .agg #[.int .i64 xo, .int .i64 xa, .int .i64 xb, .int .i64 xn], .bool ok]) ∧ Own eRp w' (w.heap.size + 3) 73 q9 d9 RF) ∧ Below w.heap.size w w' := by
  refine (vstep_any p c l w hr n hN hn pc [m0, m1, m2, m3, m4, m5, m6, m7] rfl hMb q d k R hR hk hk3 hRb ov).mono ?_
  rintro e w' ⟨⟨pcG, memG, q9, d9, kG, RG, ovG, x, okG, rfl, h1, h2, _, h3, h4⟩, h5⟩
  rw [hF] at h4
  simp only [Prod.mk.injEq] at h4
  obtain ⟨rfl, rfl, rfl, rfl, rfl, rfl⟩ := h4
  subst hkF
  subst h2
  exact ⟨⟨q9, d9, rfl, h3⟩, h5⟩

theorem rstep_c (p : Option Addr) (c : Nat) (l : List In) (w : World) (hr : Rd eIn w p c l) (n : Nat) (hN : l.length = n) (hn : n ≤ 1000) (pc m0 m1 m2 m3 m4 m5 m6 m7 : Int) (hMb : ∀ v ∈ [m0, m1, m2, m3, m4, m5, m6, m7], -9223372036854775808 ≤ v ∧ v ≤ 9223372036854775807) (q : Option Addr) (d k : Nat) (R : List Rp) (hR : Rd eRp w q d R) (hk : R.length = k) (hk3 : k ≤ 1000) (hRb : ∀ r ∈ R, -9223372036854775808 ≤ r.2.2 ∧ r.2.2 ≤ 9223372036854775807) (ov : Bool)
    (pcF a0 a1 a2 a3 a4 a5 a6 a7 : Int) (RF : List Rp) (ovF : Bool) (xo xa xb xn : Int) (ok : Bool) (kF : Nat) (hF : stepF l pc [m0, m1, m2, m3, m4, m5, m6, m7] R ov = (pcF, [a0, a1, a2, a3, a4, a5, a6, a7], RF, ovF, (xo, xa, xb, xn), ok)) (hkF : RF.length = kF) :
    Calls Try.prog 25 #[.slice p n c, .agg #[.int .i64 pc, .int .i64 m0, .int .i64 m1, .int .i64 m2, .int .i64 m3, .int .i64 m4, .int .i64 m5, .int .i64 m6, .int .i64 m7, .slice q k d, .bool ov]] w fun e w' => (∃ (q9 : Option Addr) (d9 : Nat), e = .returned (.tuple #[.agg #[.int .i64 pcF, .int .i64 a0, .int .i64 a1, .int .i64 a2, .int .i64 a3, .int .i64 a4, .int .i64 a5, .int .i64 a6, .int .i64 a7, .slice q9 kF d9, .bool ovF], .agg #[.int .i64 xo, .int .i64 xa, .int .i64 xb, .int .i64 xn], .bool ok]) ∧ Own eRp w' (w.heap.size + 3) 73 q9 d9 RF) ∧ Below w.heap.size w w' := by
  refine (rstep_any p c l w hr n hN hn pc [m0, m1, m2, m3, m4, m5, m6, m7] rfl hMb q d k R hR hk hk3 hRb ov).mono ?_
  rintro e w' ⟨⟨pcG, memG, q9, d9, kG, RG, ovG, x, okG, rfl, h1, h2, _, h3, h4⟩, h5⟩
  rw [hF] at h4
  simp only [Prod.mk.injEq] at h4
  obtain ⟨rfl, rfl, rfl, rfl, rfl, rfl⟩ := h4
  subst hkF
  subst h2
  exact ⟨⟨q9, d9, rfl, h3⟩, h5⟩

theorem rd_ins {w : World} {b : Nat} {cs : Array Value} {t : TypeId} {l : List In} (h : w.heap[b]? = some (.cells cs t (0, 0))) (n : Nat) (hn : l.length = n) (hl : cs.toList = fl eIn l) : Rd eIn w (some ⟨b, 0, none⟩) n l := rd_block h n hn hl
theorem narrow_b (w : World) : Calls Try.prog 17 #[.int .i64 255, .int .i64 8] w fun e w' => e = .returned (.int .i64 (-1)) ∧ w' = w := vnarrow 255 8 w (by decide) (by decide)
theorem shift_b (w : World) : Calls Try.prog 19 #[.int .i64 (-5), .int .i64 (-1)] w fun e w' => e = .returned (.int .i64 (-3)) ∧ w' = w := vshift (-5) (-1) w (by decide) (by decide)
theorem rd_nil (w : World) : Rd eRp w none 0 [] := ⟨Nat.le_refl _, .inl ⟨rfl, rfl, rfl⟩⟩
theorem up1 {w : World} {g : Nat} {o x : Obj} (h : w.heap[g]? = some o) : (w.alloc x).heap[g]? = some o := (Below.heap_alloc _ _ _ (lt_of_block h)).trans h
theorem keepc {w w' : World} {g : Nat} {o : Obj} (b : Below w.heap.size w w') (h : w.heap[g]? = some o) : w'.heap[g]? = some o := (b.block g (lt_of_block h)).trans h
theorem bstep1 (w : World) (b : Nat) (h : w.heap[b]? = some (.cells #[.int .i64 1, .int .i64 1, .int .i64 0, .int .i64 5, .int .i64 0, .int .i64 0, .int .i64 0, .int .i64 0] 34 (0, 0))) : Calls Try.prog 24 #[.slice (some ⟨b, 0, none⟩) 2 2, .agg #[.int .i64 0, .int .i64 7, .int .i64 0, .int .i64 0, .int .i64 0, .int .i64 0, .int .i64 0, .int .i64 0, .int .i64 0, .slice none 0 0, .bool false]] w fun e w' => (∃ (q9 : Option Addr) (d9 : Nat), e = .returned (.tuple #[.agg #[.int .i64 1, .int .i64 7, .int .i64 5, .int .i64 0, .int .i64 0, .int .i64 0, .int .i64 0, .int .i64 0, .int .i64 0, .slice q9 0 d9, .bool false], .agg #[.int .i64 1, .int .i64 1, .int .i64 0, .int .i64 5], .bool true]) ∧ Own eRp w' (w.heap.size + 3) 73 q9 d9 []) ∧ Below w.heap.size w w' :=
  vstep_c _ 2 [(1, 1, 0, 5), (0, 0, 0, 0)] w (rd_ins h 2 rfl rfl) 2 rfl (by decide) 0 7 0 0 0 0 0 0 0 (by decide) none 0 0 [] (rd_nil _) rfl (by decide) (by decide) false 1 7 5 0 0 0 0 0 0 [] false 1 1 0 5 true 0 rfl rfl
theorem bstep2 (w : World) (b : Nat) (h : w.heap[b]? = some (.cells #[.int .i64 1, .int .i64 1, .int .i64 0, .int .i64 5, .int .i64 0, .int .i64 0, .int .i64 0, .int .i64 0] 34 (0, 0))) (q : Option Addr) (d : Nat) (hR : Rd eRp w q d []) : Calls Try.prog 24 #[.slice (some ⟨b, 0, none⟩) 2 2, .agg #[.int .i64 1, .int .i64 7, .int .i64 5, .int .i64 0, .int .i64 0, .int .i64 0, .int .i64 0, .int .i64 0, .int .i64 0, .slice q 0 d, .bool false]] w fun e w' => (∃ (q9 : Option Addr) (d9 : Nat), e = .returned (.tuple #[.agg #[.int .i64 1, .int .i64 7, .int .i64 5, .int .i64 0, .int .i64 0, .int .i64 0, .int .i64 0, .int .i64 0, .int .i64 0, .slice q9 0 d9, .bool true], .agg #[.int .i64 0, .int .i64 0, .int .i64 0, .int .i64 0], .bool true]) ∧ Own eRp w' (w.heap.size + 3) 73 q9 d9 []) ∧ Below w.heap.size w w' :=
  vstep_c _ 2 [(1, 1, 0, 5), (0, 0, 0, 0)] w (rd_ins h 2 rfl rfl) 2 rfl (by decide) 1 7 5 0 0 0 0 0 0 (by decide) q d 0 [] hR rfl (by decide) (by decide) false 1 7 5 0 0 0 0 0 0 [] true 0 0 0 0 true 0 rfl rfl
theorem bstep3 (w : World) (b : Nat) (h : w.heap[b]? = some (.cells #[.int .i64 0, .int .i64 0, .int .i64 0, .int .i64 0] 34 (0, 0))) (q : Option Addr) (d : Nat) (hR : Rd eRp w q d []) : Calls Try.prog 24 #[.slice (some ⟨b, 0, none⟩) 1 1, .agg #[.int .i64 1, .int .i64 7, .int .i64 5, .int .i64 0, .int .i64 0, .int .i64 0, .int .i64 0, .int .i64 0, .int .i64 0, .slice q 0 d, .bool true]] w fun e w' => (∃ (q9 : Option Addr) (d9 : Nat), e = .returned (.tuple #[.agg #[.int .i64 1, .int .i64 7, .int .i64 5, .int .i64 0, .int .i64 0, .int .i64 0, .int .i64 0, .int .i64 0, .int .i64 0, .slice q9 0 d9, .bool true], .agg #[.int .i64 0, .int .i64 0, .int .i64 0, .int .i64 0], .bool false]) ∧ Own eRp w' (w.heap.size + 3) 73 q9 d9 []) ∧ Below w.heap.size w w' :=
  vstep_c _ 1 [(0, 0, 0, 0)] w (rd_ins h 1 rfl rfl) 1 rfl (by decide) 1 7 5 0 0 0 0 0 0 (by decide) q d 0 [] hR rfl (by decide) (by decide) true 1 7 5 0 0 0 0 0 0 [] true 0 0 0 0 false 0 rfl rfl
set_option maxRecDepth 100000 in
set_option maxHeartbeats 8000000 in
theorem begun_any (w : World) : Calls Try.prog 16 #[] w fun e w' => e = .returned (.bool true) ∧ Below w.heap.size w w' := by
  go_enter Try.func16, Try.ntmps16
  go_wp2_with (first
    | (go_at_call 22; refine (vnew_any _ _).mono ?_; rintro e w1 ⟨rfl, b1⟩)
    | (go_at_call 24; (with_reducible (refine (bstep1 _ _ (heap_at (by simp))).mono ?_)); rintro e w2 ⟨⟨q2, d2, rfl, o2⟩, b2⟩
       have H1 := keepc b2 (up1 (heap_at rfl))
       have B2 := ((by repeat (first | exact Below.refl _ _ | refine Below.alloc ?_ (by simp <;> omega) _ | refine Below.setCell ?_ (by simp <;> omega) _)) : Below w1.heap.size w1 _).trans (b2.mono (by simp <;> omega)))
    | (go_at_call 24; (with_reducible (refine (bstep2 _ _ ?h1 q2 d2 ?h2).mono ?_)); (case h1 => exact heap_at (by simp)); (case h2 => exact (own_rd o2).below (by repeat (first | exact Below.refl _ _ | refine Below.alloc ?_ (by simp <;> omega) _ | refine Below.setCell ?_ (by simp <;> omega) _))); rintro e w3 ⟨⟨q3, d3, rfl, o3⟩, b3⟩
       have H2 := keepc b3 (up1 (up1 (up1 H1)))
       have H3 := keepc b3 (up1 (up1 (heap_at (w := w2) rfl)))
       have H4 := keepc b3 (up1 (heap_at (w := w2.alloc _) (k := w2.heap.size + 1) (by simp)))
       have B3 := ((by repeat (first | exact Below.refl _ _ | refine Below.alloc ?_ (by simp <;> omega) _ | refine Below.setCell ?_ (by simp <;> omega) _)) : Below w2.heap.size w2 _).trans (b3.mono (by simp <;> omega)))
    | (go_at_call 24; (with_reducible (refine (bstep3 _ _ ?h1 q3 d3 ?h2).mono ?_)); (case h1 => exact heap_at (by simp)); (case h2 => exact (own_rd o3).below (by repeat (first | exact Below.refl _ _ | refine Below.alloc ?_ (by simp <;> omega) _ | refine Below.setCell ?_ (by simp <;> omega) _))); rintro e w4 ⟨⟨q4, d4, rfl, o4⟩, b4⟩
       have H5 := keepc b4 (up1 (up1 (up1 H2)))
       have H6 := keepc b4 (up1 (up1 (up1 H3)))
       have H7 := keepc b4 (up1 (up1 (up1 H4)))
       have H8 := keepc b4 (up1 (up1 (heap_at (w := w3) rfl)))
       have H9 := keepc b4 (up1 (heap_at (w := w3.alloc _) (k := w3.heap.size + 1) (by simp)))
       have B4 := ((by repeat (first | exact Below.refl _ _ | refine Below.alloc ?_ (by simp <;> omega) _ | refine Below.setCell ?_ (by simp <;> omega) _)) : Below w3.heap.size w3 _).trans (b4.mono (by simp <;> omega))
       have L5 := lt_of_block H5
       have L6 := lt_of_block H6
       have L7 := lt_of_block H7
       have L8 := lt_of_block H8
       have L9 := lt_of_block H9
       have k1 : w4.cell? ⟨w1.heap.size, 1, none⟩ = some (.int .i64 7) := by rw [cell_of_row _ _ _ _ _ _ H5]; rfl
       have k2 : w4.cell? ⟨w2.heap.size, 0, none⟩ = some (.int .i64 1) := by rw [cell_of_row _ _ _ _ _ _ H6]; rfl
       have k3 : w4.cell? ⟨w2.heap.size, 2, none⟩ = some (.int .i64 5) := by rw [cell_of_row _ _ _ _ _ _ H6]; rfl
       have k4 : w4.cell? ⟨w2.heap.size + 1, 0, none⟩ = some (.int .i64 1) := by rw [cell_of_row _ _ _ _ _ _ H7]; rfl
       have k5 : w4.cell? ⟨w3.heap.size, 10, none⟩ = some (.bool true) := by rw [cell_of_row _ _ _ _ _ _ H8]; rfl
       have k6 : w4.cell? ⟨w3.heap.size + 1, 0, none⟩ = some (.int .i64 0) := by rw [cell_of_row _ _ _ _ _ _ H9]; rfl
       clear H5 H6 H7 H8 H9 H1 H2 H3 H4)
    | (go_at_call 17; refine (narrow_b _).mono ?_; rintro e w5 ⟨rfl, rfl⟩)
    | (go_at_call 19; refine (shift_b _).mono ?_; rintro e w6 ⟨rfl, rfl⟩))
  go_ret
  refine ⟨rfl, ?_⟩
  have z2 := B2.size
  have z3 := B3.size
  have z4 := B4.size
  have z1 := b1.size
  exact (b1.trans ((B2.mono (by omega)).trans ((B3.mono (by omega)).trans (B4.mono (by omega))))).trans (((by repeat (first | exact Below.refl _ _ | refine Below.alloc ?_ (by simp <;> omega) _ | refine Below.setCell ?_ (by simp <;> omega) _)) : Below w4.heap.size w4 _).mono (by omega))
end Go.Proofs.Ytboffjabffcddaa
