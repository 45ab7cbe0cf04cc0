/-
  Deeds at fixed rows; that the package does something.
-/
import Derived.Test.YtfankdhkcjknaaaRefs
namespace Go.Proofs.Ytfankdhkcjknaaa
open Go.ChangeShapes Go.WideShapes Go.ChangeAt Go.RowKit
attribute [local go_sem ↓] Go.wp_at_zero Go.wp_at_succ

theorem take_c (p : Option Addr) (c : Nat) (l : List Sm) (w : World) (hr : Rd eS w p c l) (n : Nat) (hn : l.length = n) (hm : n ≤ 1000) (s t H : Int) (h0 : 0 ≤ t) (h1 : t ≤ 4611686018427387904) (hH : t + 1 = H) (B : Bool) (hB : takeB l s = B) (L : List Sm) (hL : takeS l s H = L) :
    Calls Try.prog 8 #[.slice p n c, .int .i64 s, .int .i64 t] w fun e w' => ∃ (q : Option Addr) (d : Nat), e = .returned (.tuple #[.slice q n d, .bool B]) ∧ Own eS w' w.heap.size 36 q d L ∧ Below w.heap.size w w' := by
  subst hB hL
  exact take_any p c l w hr n hn hm s t H h0 h1 hH
theorem let_c (p : Option Addr) (c : Nat) (l : List Sm) (w : World) (hr : Rd eS w p c l) (n : Nat) (hn : l.length = n) (hm : n ≤ 1000) (s t H : Int) (h0 : 0 ≤ t) (h1 : t ≤ 4611686018427387904) (hH : t + 1 = H) (B : Bool) (hB : letB l s H = B) (L : List Sm) (hL : letS l s H = L) :
    Calls Try.prog 10 #[.slice p n c, .int .i64 s, .int .i64 t] w fun e w' => ∃ (q : Option Addr) (d : Nat), e = .returned (.tuple #[.slice q n d, .bool B]) ∧ Own eS w' w.heap.size 36 q d L ∧ Below w.heap.size w w' := by
  subst hB hL
  exact let_any p c l w hr n hn hm s t H h0 h1 hH
theorem all_c (p : Option Addr) (c : Nat) (l : List Sm) (w : World) (hr : Rd eS w p c l) (n : Nat) (hn : l.length = n) (hm : n ≤ 1000) (t H : Int) (h0 : 0 ≤ t) (h1 : t ≤ 4611686018427387904) (hH : t + 1 = H) (L : List Sm) (hL : allS l H = L) :
    Calls Try.prog 15 #[.slice p n c, .int .i64 t] w fun e w' => ∃ (q : Option Addr) (d : Nat), e = .returned (.slice q n d) ∧ Own eS w' w.heap.size 36 q d L ∧ Below w.heap.size w w' := by
  subst hL
  exact all_any p c l w hr n hn hm t H h0 h1 hH
theorem low_c (p : Option Addr) (c : Nat) (l : List Sm) (w : World) (hr : Rd eS w p c l) (n : Nat) (hn : l.length = n) (hm : n ≤ 1000) (hp : Option Addr) (hc : Nat) (hl : List Int) (hh : Rd eI w hp hc hl) (m : Nat) (hhn : hl.length = m) (hhm : m ≤ 1000) (t H : Int) (h0 : 0 ≤ t) (h1 : t ≤ 4611686018427387904) (hH : t + 1 = H)
    (v : Int) (hv : (lowS l hl H).getD 0 = v) (B : Bool) (hB : (lowS l hl H).isSome = B) :
    Calls Try.prog 13 #[.slice p n c, .slice hp m hc, .int .i64 t] w fun e w' => e = .returned (.tuple #[.int .i64 v, .bool B]) ∧ Below w.heap.size w w' := by
  subst hv hB
  exact low_any p c l w hr n hn hm hp hc hl hh m hhn hhm t H h0 h1 hH
/-- Low of a row of places that was just laid. -/
theorem low_b (p : Option Addr) (c : Nat) (l : List Sm) (w : World) (cs : Array Value) (hr : Rd eS w p c l) (n : Nat) (hn : l.length = n) (hm : n ≤ 1000) (g : Nat) (hg : w.heap.size = g) (hl : List Int) (hcs : cs.toList = hl.map (Value.int .i64)) (m : Nat) (hhn : hl.length = m) (hhm : m ≤ 1000) (t H : Int) (h0 : 0 ≤ t) (h1 : t ≤ 4611686018427387904) (hH : t + 1 = H)
    (v : Int) (hv : (lowS l hl H).getD 0 = v) (B : Bool) (hB : (lowS l hl H).isSome = B) :
    Calls Try.prog 13 #[.slice p n c, .slice (some ⟨g, 0, none⟩) m m, .int .i64 t] (w.alloc (.cells cs 3)) fun e w' => e = .returned (.tuple #[.int .i64 v, .bool B]) ∧ Below w.heap.size w w' :=
  (low_c p c l _ (hr.below ((Below.refl _ _).alloc (Nat.le_refl _) _)) n hn hm _ m hl (rd_block (heap_at hg) m hhn (by rw [flI]; exact hcs)) m hhn hhm t H h0 h1 hH v hv B hB).mono (by rintro e w' ⟨rfl, hb⟩; exact ⟨rfl, bel_call ((Below.refl _ _).alloc (Nat.le_refl _) _) (Nat.le_refl _) hb⟩)

theorem begun_any (w : World) : Calls Try.prog 7 #[] w fun e w' => e = .returned (.bool true) ∧ Below w.heap.size w w' := by
  have B0 := Below.refl w.heap.size w
  go_enter Try.func7, Try.ntmps7
  go_wp2_with (first
    | (go_at_call 8; (with_reducible (refine (take_c _ _ [(2, 0)] _ ?hr 1 rfl (by decide) 0 3 4 (by decide) (by decide) ?h1 true ?h2 [(2, 4)] ?h3).mono ?_)); (case hr => exact rd_block (heap_at (by first | rfl | (simp; done))) 1 rfl rfl); (case h1 => rfl); (case h2 => rfl); (case h3 => rfl); (rintro e w1 ⟨q1, d1, rfl, o1, b1⟩; have B1 := bel_call (B0.alloc B0.size _) (Nat.le_refl _) b1; have rA_0 := own_rd o1))
    | (go_at_call 8; (with_reducible (refine (take_c _ _ [(2, 4)] _ rA_0 1 rfl (by decide) 0 4 5 (by decide) (by decide) ?h1 false ?h2 [(2, 4)] ?h3).mono ?_)); (case h1 => rfl); (case h2 => rfl); (case h3 => rfl); (rintro e w2 ⟨q2, d2, rfl, o2, b2⟩; have B2 := bel_call B1 (Nat.le_refl _) b2; have rA_1 := rA_0.below b2))
    | (go_at_call 13; (with_reducible (refine (low_b _ _ [(2, 4)] _ _ rA_1 1 rfl (by decide) _ ?h0 [0] ?h4 1 rfl (by decide) 3 4 (by decide) (by decide) ?h1 2 ?h2 true ?h3).mono ?_)); (case h0 => first | rfl | (simp; done)); (case h4 => rfl); (case h1 => rfl); (case h2 => rfl); (case h3 => rfl); (rintro e w3 ⟨rfl, b3⟩; have B3 := bel_call B2 (Nat.le_refl _) b3; have rA_2 := rA_1.below b3))
    | (go_at_call 10; (with_reducible (refine (let_c _ _ [(2, 4)] _ rA_2 1 rfl (by decide) 0 3 4 (by decide) (by decide) ?h1 true ?h2 [(2, 0)] ?h3).mono ?_)); (case h1 => rfl); (case h2 => rfl); (case h3 => rfl); (rintro e w4 ⟨q4, d4, rfl, o4, b4⟩; have B4 := bel_call B3 (Nat.le_refl _) b4; have rA_3 := rA_2.below b4; have rB_0 := own_rd o4; obtain ⟨x4, y4, rfl, xb4, -, xc4⟩ := rB_0.sem 0 (by decide); obtain ⟨x1, y1, rfl, xb1, -, xc1⟩ := rA_3.sem 0 (by decide)))
    | (go_at_call 15; (with_reducible (refine (all_c _ _ [(2, 4)] _ rA_3 1 rfl (by decide) 3 4 (by decide) (by decide) ?h1 [(2, 0)] ?h2).mono ?_)); (case h1 => rfl); (case h2 => rfl); (rintro e w5 ⟨q5, d5, rfl, o5, b5⟩; have B5 := bel_call B4 (Nat.le_refl _) b5; have rA_4 := rA_3.below b5; have rB_1 := rB_0.below b5)))
  go_ret
  exact ⟨rfl, B5⟩
set_option maxHeartbeats 2000000 in
theorem forms_walk (w : World) : Calls Try.prog 5 #[] w fun e w' => e = .returned (.bool true) ∧ Below w.heap.size w w' := by
  go_enter Try.func5, Try.ntmps5
  simp only [List.append]
  go_wp2_with (first
    | (go_at_call 7; refine (begun_any _).mono ?_; rintro e w0 ⟨rfl, B0⟩)
    | (go_at_call 8; (with_reducible (refine (take_c _ _ [(4, 0), (2, 0), (7, 0)] _ ?hr 3 rfl (by decide) 0 0 1 (by decide) (by decide) ?h1 true ?h2 [(4, 1), (2, 0), (7, 0)] ?h3).mono ?_)); (case hr => exact rd_block (heap_at (by first | rfl | (simp; done))) 3 rfl rfl); (case h1 => rfl); (case h2 => rfl); (case h3 => rfl); (rintro e w1 ⟨q1, d1, rfl, o1, b1⟩; have B1 := bel_call (B0.alloc B0.size _) (Nat.le_refl _) b1; have rA_0 := own_rd o1))
    | (go_at_call 8; (with_reducible (refine (take_c _ _ [(4, 1), (2, 0), (7, 0)] _ rA_0 3 rfl (by decide) 1 0 1 (by decide) (by decide) ?h1 true ?h2 [(4, 1), (2, 1), (7, 0)] ?h3).mono ?_)); (case h1 => rfl); (case h2 => rfl); (case h3 => rfl); (rintro e w2 ⟨q2, d2, rfl, o2, b2⟩; have B2 := bel_call B1 (Nat.le_refl _) b2; have rA_1 := rA_0.below b2; have rB_0 := own_rd o2))
    | (go_at_call 8; (with_reducible (refine (take_c _ _ [(4, 1), (2, 1), (7, 0)] _ rB_0 3 rfl (by decide) 2 5 6 (by decide) (by decide) ?h1 true ?h2 [(4, 1), (2, 1), (7, 6)] ?h3).mono ?_)); (case h1 => rfl); (case h2 => rfl); (case h3 => rfl); (rintro e w3 ⟨q3, d3, rfl, o3, b3⟩; have B3 := bel_call B2 (Nat.le_refl _) b3; have rA_2 := rA_1.below b3; have rB_1 := rB_0.below b3; have rC_0 := own_rd o3))
    | (go_at_call 8; (with_reducible (refine (take_c _ _ [(4, 1), (2, 1), (7, 6)] _ rC_0 3 rfl (by decide) 3 0 1 (by decide) (by decide) ?h1 false ?h2 [(4, 1), (2, 1), (7, 6)] ?h3).mono ?_)); (case h1 => rfl); (case h2 => rfl); (case h3 => rfl); (rintro e w4 ⟨q4, d4, rfl, o4, b4⟩; have B4 := bel_call B3 (Nat.le_refl _) b4; have rA_3 := rA_2.below b4; have rB_2 := rB_1.below b4; have rC_1 := rC_0.below b4))
    | (go_at_call 8; (with_reducible (refine (take_c _ _ [(4, 1), (2, 1), (7, 6)] _ rC_1 3 rfl (by decide) (-1) 0 1 (by decide) (by decide) ?h1 false ?h2 [(4, 1), (2, 1), (7, 6)] ?h3).mono ?_)); (case h1 => rfl); (case h2 => rfl); (case h3 => rfl); (rintro e w5 ⟨q5, d5, rfl, o5, b5⟩; have B5 := bel_call B4 (Nat.le_refl _) b5; have rA_4 := rA_3.below b5; have rB_3 := rB_2.below b5; have rC_2 := rC_1.below b5))
    | (go_at_call 10; (with_reducible (refine (let_c _ _ [(4, 1), (2, 1), (7, 6)] _ rC_2 3 rfl (by decide) 2 0 1 (by decide) (by decide) ?h1 false ?h2 [(4, 1), (2, 1), (7, 6)] ?h3).mono ?_)); (case h1 => rfl); (case h2 => rfl); (case h3 => rfl); (rintro e w6 ⟨q6, d6, rfl, o6, b6⟩; have B6 := bel_call B5 (Nat.le_refl _) b6; have rA_5 := rA_4.below b6; have rB_4 := rB_3.below b6; have rC_3 := rC_2.below b6))
    | (go_at_call 13; (with_reducible (refine (low_b _ _ [(4, 1), (2, 1), (7, 6)] _ _ rC_3 3 rfl (by decide) _ ?h0 [0, 2] ?h4 2 rfl (by decide) 0 1 (by decide) (by decide) ?h1 4 ?h2 true ?h3).mono ?_)); (case h0 => first | rfl | (simp; done)); (case h4 => rfl); (case h1 => rfl); (case h2 => rfl); (case h3 => rfl); (rintro e w7 ⟨rfl, b7⟩; have B7 := bel_call B6 (Nat.le_refl _) b7; have rA_6 := rA_5.below b7; have rB_5 := rB_4.below b7; have rC_4 := rC_3.below b7))
    | (go_at_call 13; (with_reducible (refine (low_b _ _ [(4, 1), (2, 1), (7, 6)] _ _ rC_4 3 rfl (by decide) _ ?h0 [1, 0] ?h4 2 rfl (by decide) 0 1 (by decide) (by decide) ?h1 2 ?h2 true ?h3).mono ?_)); (case h0 => first | rfl | (simp; done)); (case h4 => rfl); (case h1 => rfl); (case h2 => rfl); (case h3 => rfl); (rintro e w8 ⟨rfl, b8⟩; have B8 := bel_call B7 (Nat.le_refl _) b8; have rA_7 := rA_6.below b8; have rB_6 := rB_5.below b8; have rC_5 := rC_4.below b8))
    | (go_at_call 13; (with_reducible (refine (low_c _ _ [(4, 1), (2, 1), (7, 6)] _ rC_5 3 rfl (by decide) none 0 [] (Rd.nil _) 0 rfl (by decide) 0 1 (by decide) (by decide) ?h1 0 ?h2 false ?h3).mono ?_)); (case h1 => rfl); (case h2 => rfl); (case h3 => rfl); (rintro e w9 ⟨rfl, b9⟩; have B9 := bel_call B8 (Nat.le_refl _) b9; have rA_8 := rA_7.below b9; have rB_7 := rB_6.below b9; have rC_6 := rC_5.below b9))
    | (go_at_call 13; (with_reducible (refine (low_b _ _ [(4, 1), (2, 1), (7, 6)] _ _ rC_6 3 rfl (by decide) _ ?h0 [0, 1, 9] ?h4 3 rfl (by decide) 5 6 (by decide) (by decide) ?h1 0 ?h2 false ?h3).mono ?_)); (case h0 => first | rfl | (simp; done)); (case h4 => rfl); (case h1 => rfl); (case h2 => rfl); (case h3 => rfl); (rintro e w10 ⟨rfl, b10⟩; have B10 := bel_call B9 (Nat.le_refl _) b10; have rA_9 := rA_8.below b10; have rB_8 := rB_7.below b10; have rC_7 := rC_6.below b10))
    | (go_at_call 15; (with_reducible (refine (all_c _ _ [(4, 1), (2, 1), (7, 6)] _ rC_7 3 rfl (by decide) 0 1 (by decide) (by decide) ?h1 [(4, 0), (2, 0), (7, 6)] ?h2).mono ?_)); (case h1 => rfl); (case h2 => rfl); (rintro e w11 ⟨q11, d11, rfl, o11, b11⟩; have B11 := bel_call B10 (Nat.le_refl _) b11; have rA_10 := rA_9.below b11; have rB_9 := rB_8.below b11; have rC_8 := rC_7.below b11; have rE_0 := own_rd o11; obtain ⟨x0, y0, rfl, xb0, xa0, xc0⟩ := rE_0.sem 0 (by decide); obtain ⟨x1, y1, e1, xb1, xa1, xc1⟩ := rE_0.sem 1 (by decide); cases e1; obtain ⟨x2, y2, e2, xb2, xa2, xc2⟩ := rE_0.sem 2 (by decide); cases e2; simp at xa0 xc0 xa1 xc1 xa2 xc2)))
  go_ret
  exact ⟨rfl, B11⟩
end Go.Proofs.Ytfankdhkcjknaaa
