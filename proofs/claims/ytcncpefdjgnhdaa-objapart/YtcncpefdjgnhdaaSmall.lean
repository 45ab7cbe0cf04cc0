/-
  What sealed, turn, turned, copied, waiting of package obj hand back.
-/
import Derived.Test.YtcncpefdjgnhdaaStore
namespace Go.Proofs.Ytcncpefdjgnhdaa
open Go.ChangeShapes Go.WideShapes Go.ChangeAt Go.RowKit
attribute [local go_sem ↓] Go.wp_at_zero Go.wp_at_succ

theorem xor_ones {s : Nat} (h : s < 4294967296) : 4294967295 ^^^ s = comp s := by
  refine Nat.eq_of_testBit_eq fun i => ?_
  have h1 := Nat.testBit_two_pow_sub_one 32 i
  have h2 := Nat.testBit_two_pow_sub_succ (n := 32) h i
  rw [Nat.testBit_xor, show (4294967295 : Nat) = 2 ^ 32 - 1 from rfl, h1, show comp s = 2 ^ 32 - (s + 1) by unfold comp; omega, h2]
  by_cases hi : i < 32
  · simp [hi]
  · have : s.testBit i = false := Nat.testBit_lt_two_pow (Nat.lt_of_lt_of_le h (Nat.pow_le_pow_right (n := 2) (i := 32) (by decide) (by omega)))
    simp [hi, this]
theorem not32 {s S : Nat} (h : s < 4294967296) (hS : comp s = S) : bits BinOp.xor IntKind.u32 IntKind.u32.max (s : Int) = (S : Int) := by
  rw [show IntKind.u32.max = ((4294967295 : Nat) : Int) from rfl, u32_xor_nat _ _ (by omega) h, xor_ones h, hS]
theorem ret_eq {a b : Value} (h : a = b) : Ending.returned a = .returned b := by rw [h]
set_option maxHeartbeats 1000000 in
theorem turn_any (x : Tc) (w : World) (hs : x.s < 4294967296) (S : Nat) (hS : comp x.s = S) :
    Calls Try.prog 45 #[.agg #[.int .i64 x.k, .int .i64 x.a, .int .i64 x.g, .int .i64 x.c, .int .i64 x.h, .slice x.lp x.ln x.lc, .slice x.wp x.wn x.wc, .int .u32 (x.b : Int), .slice x.fp x.fn x.fc, .int .u32 (x.s : Int)]] w fun e w' => e = .returned (.agg #[.int .i64 x.k, .int .i64 x.a, .int .i64 x.g, .int .i64 x.c, .int .i64 x.h, .slice x.lp x.ln x.lc, .slice x.wp x.wn x.wc, .int .u32 (x.b : Int), .slice x.fp x.fn x.fc, .int .u32 (S : Int)]) ∧ Below w.heap.size w w' := by
  have hx := not32 hs hS
  clear hS
  go_enter Try.func45, Try.ntmps45
  go_wp2
  all_goals
    refine bodyPost_ret (v := .agg #[.int .i64 x.k, .int .i64 x.a, .int .i64 x.g, .int .i64 x.c, .int .i64 x.h, .slice x.lp x.ln x.lc, .slice x.wp x.wn x.wc, .int .u32 (x.b : Int), .slice x.fp x.fn x.fc, .int .u32 (S : Int)]) (by simp [results, Try.results45, go_sem]) rfl ⟨rfl, ((Below.refl _ _).alloc (Nat.le_refl _) _).alloc (by simp) _⟩
set_option maxHeartbeats 1000000 in
theorem thing_any (x : Tc) (w : World) :
    Calls Try.prog 57 #[.agg #[.int .i64 x.k, .int .i64 x.a, .int .i64 x.g, .int .i64 x.c, .int .i64 x.h, .slice x.lp x.ln x.lc, .slice x.wp x.wn x.wc, .int .u32 (x.b : Int), .slice x.fp x.fn x.fc, .int .u32 (x.s : Int)]] w fun e w' => e = .returned (.agg #[.int .i64 x.k, .int .i64 x.a, .int .i64 x.g, .int .i64 x.c, .int .i64 x.h, .slice x.lp x.ln x.lc, .slice x.wp x.wn x.wc, .int .u32 (x.b : Int), .slice x.fp x.fn x.fc, .int .u32 (x.s : Int)]) ∧ Below w.heap.size w w' := by
  go_enter Try.func57, Try.ntmps57
  go_wp2
  refine bodyPost_ret (v := .agg #[.int .i64 x.k, .int .i64 x.a, .int .i64 x.g, .int .i64 x.c, .int .i64 x.h, .slice x.lp x.ln x.lc, .slice x.wp x.wn x.wc, .int .u32 (x.b : Int), .slice x.fp x.fn x.fc, .int .u32 (x.s : Int)]) (by simp [results, Try.results57, go_sem]) rfl ⟨rfl, ((Below.refl _ _).alloc (Nat.le_refl _) _).alloc (by simp) _⟩
set_option maxHeartbeats 1000000 in
theorem back_any (x : Tc) (w : World) :
    Calls Try.prog 15 #[.agg #[.int .i64 x.k, .int .i64 x.a, .int .i64 x.g, .int .i64 x.c, .int .i64 x.h, .slice x.lp x.ln x.lc, .slice x.wp x.wn x.wc, .int .u32 (x.b : Int), .slice x.fp x.fn x.fc, .int .u32 (x.s : Int)]] w fun e w' => e = .returned (.agg #[.int .i64 x.k, .int .i64 x.a, .int .i64 x.g, .int .i64 x.c, .int .i64 x.h, .slice x.lp x.ln x.lc, .slice x.wp x.wn x.wc, .int .u32 (x.b : Int), .slice x.fp x.fn x.fc, .int .u32 (x.s : Int)]) ∧ Below w.heap.size w w' := by
  go_enter Try.func15, Try.ntmps15
  go_wp2
  refine bodyPost_ret (v := .agg #[.int .i64 x.k, .int .i64 x.a, .int .i64 x.g, .int .i64 x.c, .int .i64 x.h, .slice x.lp x.ln x.lc, .slice x.wp x.wn x.wc, .int .u32 (x.b : Int), .slice x.fp x.fn x.fc, .int .u32 (x.s : Int)]) (by simp [results, Try.results15, go_sem]) rfl ⟨rfl, ((Below.refl _ _).alloc (Nat.le_refl _) _).alloc (by simp) _⟩
set_option maxHeartbeats 1000000 in
theorem sealed_any (x : Tc) (t : Th) (w : World) (ho : Ok w x t) (S : Nat) (hS : sealOf t = S) :
    Calls Try.prog 42 #[.agg #[.int .i64 x.k, .int .i64 x.a, .int .i64 x.g, .int .i64 x.c, .int .i64 x.h, .slice x.lp x.ln x.lc, .slice x.wp x.wn x.wc, .int .u32 (x.b : Int), .slice x.fp x.fn x.fc, .int .u32 (x.s : Int)]] w fun e w' => e = .returned (.agg #[.int .i64 x.k, .int .i64 x.a, .int .i64 x.g, .int .i64 x.c, .int .i64 x.h, .slice x.lp x.ln x.lc, .slice x.wp x.wn x.wc, .int .u32 (x.b : Int), .slice x.fp x.fn x.fc, .int .u32 (S : Int)]) ∧ Below w.heap.size w w' := by
  obtain ⟨W, hW⟩ : ∃ W, W = (w.alloc (.cells #[.int .i64 x.k, .int .i64 x.a, .int .i64 x.g, .int .i64 x.c, .int .i64 x.h, .slice x.lp x.ln x.lc, .slice x.wp x.wn x.wc, .int .u32 (x.b : Int), .slice x.fp x.fn x.fc, .int .u32 (x.s : Int)] 58)).alloc (.cells #[.int .i64 0, .int .i64 0, .int .i64 0, .int .i64 0, .int .i64 0, .slice none 0 0, .slice none 0 0, .int .u32 0, .slice none 0 0, .int .u32 0] 58) := ⟨_, rfl⟩
  have bW : Below w.heap.size w W := by rw [hW]; exact ((Below.refl _ _).alloc (Nat.le_refl _) _).alloc (by simp) _
  have hV : Vt W w.heap.size x 58 := by rw [hW]; exact (Vt.new _ _ _).below (bel_self _ _)
  have hR : Lv W (w.heap.size + 1) #[.int .i64 0, .int .i64 0, .int .i64 0, .int .i64 0, .int .i64 0, .slice none 0 0, .slice none 0 0, .int .u32 0, .slice none 0 0, .int .u32 0] 58 := by rw [hW]; exact heap_at (by simp)
  go_enter Try.func42, Try.ntmps42
  go_wp2_with (first
    | (go_at_call 68; rw [← hW]; refine (sum_any x t _ (ho.below bW) S hS).mono ?_; rintro e w1 ⟨rfl, b1⟩; have V1 := hV.below b1; have R1 := hR.below b1; obtain ⟨d0, d1, d2, d3, d4, d5, d6, d7, d8, d9⟩ := V1.at; have z9 := V1.z 9)
    | (refine wpList_stV (E := eT) rfl 58 (.tmp 2) (.tmp 6) rfl size58 (w.heap.size + 1) _ (R1.far (a := ⟨w.heap.size, 9, none⟩) (by simp) _) rfl { x with s := S } rfl rfl ?_; intro w2 L2 k2))
  have e9 := load58 L2
  refine bodyPost_ret (v := .agg #[.int .i64 x.k, .int .i64 x.a, .int .i64 x.g, .int .i64 x.c, .int .i64 x.h, .slice x.lp x.ln x.lc, .slice x.wp x.wn x.wc, .int .u32 (x.b : Int), .slice x.fp x.fn x.fc, .int .u32 (S : Int)]) (by simp [results, Try.results42, asAddr, Act.put, e9]) rfl ⟨rfl, ?_⟩
  refine bel_kp (Below.setCell (bel_call bW (Nat.le_refl _) b1) (p := ⟨w.heap.size, 9, none⟩) (Nat.le_refl _) (.int .u32 (S : Int))) k2 (Nat.le_succ _) ?_
  have := b1.size
  have := bW.size
  simp [World.setCell]
  omega
end Go.Proofs.Ytcncpefdjgnhdaa
