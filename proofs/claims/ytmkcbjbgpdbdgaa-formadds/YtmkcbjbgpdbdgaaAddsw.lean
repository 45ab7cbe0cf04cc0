/-
  The law FormAdds, walked.
-/
import Derived.Test.YtmkcbjbgpdbdgaaMayc
import Derived.Test.YtmkcbjbgpdbdgaaCodes
namespace Go.Proofs.Ytmkcbjbgpdbdgaa
open Go.ChangeShapes Go.WideShapes Go.ChangeAt Go.RowKit
attribute [local go_sem ↓] Go.wp_at_zero Go.wp_at_succ

theorem ok_row {l : List In} (h : rowB l = false) : okB l = false := by unfold okB; rw [h]; rfl
theorem ok_cut {l : List In} (h : Gd l) : okB l = false := by
  apply ok_row
  rw [Bool.eq_false_iff]
  intro hr
  obtain ⟨h1, _, h3⟩ := row_iff.1 hr
  have := (h3 (l.length - 1) (by omega)).2.2 (by omega)
  exact h.fin _ (by omega) this
theorem ok_twice (l : List In) : okB ((l ++ [E0]) ++ [E0]) = false := by
  apply ok_row
  rw [Bool.eq_false_iff]
  intro hr
  obtain ⟨_, _, h3⟩ := row_iff.1 hr
  have h4 := (h3 l.length (by simp)).2.1 (by rw [gt_left (by simp), gt_end]; rfl)
  simp at h4
theorem gd_more {l : List In} (h : Gd l) : Gd ([(1, 1, 0, 3)] ++ l) := gd_app (gd_of0 (gd0_plain (by decide))) h

theorem wpList_app_w {α : Type} {P : Program} {E : Elt α} {t e : TypeId} (T : Ty P E t e) (w : World) {ops : Array Oper} {rest : List Oper} {o : Oper} {a : Act} {Q : Exit → Act → World → Prop} (hw : Region.wanted o (yielded ops a.tmps) = true) (s x : Operand)
    (ho : o.op = .call { callee := .builtin .append, args := #[s, x], argTypes := #[t, t] }) (base : Nat) (p : Option Addr) (c : Nat) (l : List α) (N : Nat) (hN : l.length = N) (hs : a.eval s = .slice p N c) (hown : Own E w base e p c l)
    (q : Option Addr) (d : Nat) (m : List α) (M : Nat) (hM : m.length = M) (hx : a.eval x = .slice q M d) (hr : Rd E w q d m) (hlen : N + M ≤ 2000) (hbase : base ≤ w.heap.size) (R : Nat) (hR : N + M = R)
    (h : ∀ p' c' w', Own E w' base e p' c' (l ++ m) → Below base w w' → Stays w w' p → wpList P ops Q rest (a.put o.dst (.slice p' R c')) w') : wpList P ops Q (o :: rest) a w := by
  subst hN hM hR
  obtain ⟨p', c', w', hrun, h1, h2, h3⟩ := run_app T w o.type base p c l hown q d m hr hlen hbase
  refine wpList_step fun K hK => ?_
  rw [if_pos hw]
  unfold Oper.wp
  simp [execOp, ho, resolve, invoke, builtin, hs, hx, hrun, Result.andThen]
  exact hK _ _ (h p' c' w' h1 h2 h3)

set_option maxRecDepth 100000 in
set_option maxHeartbeats 8000000 in
theorem adds_walk (p : Option Addr) (c : Nat) (n : Nat) (zs : List Int) (w : World) (hp : Rd eBy w p c zs) (hn : zs.length = n) (hbz : ∀ x ∈ zs, 0 ≤ x ∧ x ≤ 255) (hm1 : n ≤ 9223372036854775807) :
    Calls Try.prog 7 #[.slice p n c] w fun e w' => e = .returned (.bool true) ∧ Below w.heap.size w w' := by
  have HN : Hid (zs.length = n) := hn
  clear hn
  by_cases c1 : 80 < n
  · have d1 : decide ((80 : Int) < (n : Int)) = true := by simp; omega
    go_enter Try.func7, Try.ntmps7
    go_wp2_with (go_at_call 8; refine (begun_any _).mono ?_; rintro e w1 ⟨rfl, hb1⟩)
    go_ret
    exact ⟨rfl, hb1⟩
  · have d1 : decide ((80 : Int) < (n : Int)) = false := by simp; omega
    have h1000 : n ≤ 1000 := by omega
    go_enter Try.func7, Try.ntmps7
    go_wp2_with (first
      | (go_at_call 8; refine (begun_any _).mono ?_; rintro e w1 ⟨rfl, hb1⟩; have hp1 := hp.below hb1)
      | (go_at_call 9; (with_reducible (refine (made_any p c zs _ n HN.out h1000 hp1 hbz).mono ?_)); rintro e w2 ⟨rfl, pk2, hb2, hs2⟩; have hB2 := bel_call hb1 (Nat.le_refl _) hb2)
      | (go_at_call 10; (with_reducible (refine (code_any w1.heap.size _ pk2).mono ?_)); (rintro e w3 ⟨p3, n3, c3, l3, rfl, ⟨o3, a3, e3, pk3, kp3⟩, g3, g3', l0, hl0, hG⟩); have hB3 := hB2.trans (kp3.below (B := w.heap.size) (by have := hb1.size; omega) (by have := hB2.size; omega))
         have hlen0 : l0.length + 1 = n3 := by rw [← e3, hl0]; simp
         have k1 : okB l3 = true := by rw [hl0]; exact gd_may hG (by omega)
         have k2 : okB ([(1, 1, 0, 3)] ++ l3) = true := by rw [hl0, ← List.append_assoc]; exact gd_may (gd_more hG) (by simp; omega)
         have k3 : okB (l3.take l0.length) = false := by rw [hl0]; simp only [List.take_left']; exact ok_cut hG
         have k4 : okB (([] ++ l3) ++ [E0]) = false := by rw [hl0]; exact ok_twice l0
         have r3 := own_rd o3
         have hcap := own_cap o3
         rw [e3] at hcap
         obtain ⟨n4, hn4⟩ : ∃ n4, l0.length = n4 := ⟨_, rfl⟩
         rw [hn4] at k3 hlen0
         have HE : Hid (l3.length = n3) := e3
         have HN4 : Hid (n4 + 1 = n3) := hlen0
         have q1 : (n3 : Int) - 1 = (n4 : Int) := by omega
         have q2 : (n4 : Int) ≤ (c3 : Int) := by omega
         have q3 : n4 ≤ c3 := by omega
         have d24 : decide ((1 : Int) + (n3 : Int) ≤ 24) = true := by simp; omega
         have K1 := fun w' (hb : Below w3.heap.size w3 w') => shape_c p3 c3 l3 w' n3 true e3 k1 (r3.below hb) (by omega)
         have K2 := fun p' c' w' (hr : Rd eIn w' p' c' ([(1, 1, 0, 3)] ++ l3)) => shape_c p' c' ([(1, 1, 0, 3)] ++ l3) w' (1 + n3) true (by simp [HE.out]; omega) k2 hr (by omega)
         have K3 := fun w' (hb : Below w3.heap.size w3 w') => shape_c p3 c3 (l3.take n4) w' n4 false (by rw [List.length_take, HE.out]; omega) k3 ((r3.below hb).take n4) (by omega)
         have K4 := fun p' c' w' (hr : Rd eIn w' p' c' (([] ++ l3) ++ [E0])) => shape_c p' c' (([] ++ l3) ++ [E0]) w' (n3 + 1) false (by simp [HE.out]) k4 hr (by omega)
         clear hl0 hG k1 k2 k3 k4 hlen0 hn4 e3 o3 pk3 kp3 pk2 hb2 hs2 hB2 hp1)
      | (at_builtin; (refine wpList_app tIn _ rfl _ _ rfl w3.heap.size _ _ [(1, 1, 0, 3)] 1 rfl rfl own_one p3 c3 l3 n3 HE.out rfl (r3.below ((Below.refl _ _).alloc (Nat.le_refl _) _)) (by omega) (by simp) (1 + n3) rfl ?_); intro p5 c5 w5 o5 b5 st5; have B5 := ((Below.refl _ w3).alloc (Nat.le_refl _) _).trans b5)
      | (go_at_call 13; (with_reducible (refine (K1 _ B5).mono ?_)); rintro e w6 ⟨rfl, b6⟩; have o6 := own_below o5 b6; have B6 := bel_call B5 (Nat.le_refl _) b6)
      | (go_at_call 13; (with_reducible (refine (K2 p5 c5 _ (own_rd o6)).mono ?_)); rintro e w7 ⟨rfl, b7⟩; have B7 := bel_call B6 (Nat.le_refl _) b7)
      | (go_at_call 13; (with_reducible (refine (K3 _ B7).mono ?_)); rintro e w8 ⟨rfl, b8⟩; have B8 := bel_call B7 (Nat.le_refl _) b8)
      | (at_builtin; refine wpList_app_w tIn _ rfl _ _ rfl w8.heap.size _ _ [] 0 rfl rfl (own_block (Nat.le_refl _) rfl 0 rfl (by decide)) p3 c3 l3 n3 HE.out rfl (r3.below (bel_call B8 (Nat.le_refl _) ((Below.refl _ _).alloc (Nat.le_refl _) _))) (by omega) (by simp) n3 (by omega) ?_; intro p9 c9 w9 o9 b9 st9; have hz9 := b9.size; simp at hz9; have B9 := bel_call B8 (Nat.le_refl _) (((Below.refl _ _).alloc (Nat.le_refl _) _).trans b9))
      | (at_builtin; refine wpList_app_w tIn _ rfl _ _ rfl w8.heap.size p9 c9 ([] ++ l3) n3 HE.out rfl (own_below o9 ((Below.refl _ _).alloc (Nat.le_refl _) _)) _ _ [E0] 1 rfl rfl (rd_one (heap_at (by first | rfl | simp))) (by omega) (by simp; omega) (n3 + 1) rfl ?_; intro p10 c10 w10 o10 b10 st10; have B10 : Below w3.heap.size w3 w10 := B9.trans (((Below.refl _ _).alloc (by have := B9.size; omega) _).trans (b10.mono (by have := B8.size; omega))))
      | (go_at_call 13; (with_reducible (refine (K4 p10 c10 _ (own_rd o10)).mono ?_)); rintro e w11 ⟨rfl, b11⟩; have B11 := bel_call B10 (Nat.le_refl _) b11))
    go_ret
    exact ⟨rfl, bel_call hB3 (Nat.le_refl _) B11⟩
end Go.Proofs.Ytmkcbjbgpdbdgaa
