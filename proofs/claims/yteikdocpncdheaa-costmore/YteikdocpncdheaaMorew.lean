/-
  The law CostMore, walked.
-/
import Derived.Test.YteikdocpncdheaaOf
import Derived.Test.YteikdocpncdheaaCodes
import Derived.Test.YteikdocpncdheaaCostc
namespace Go.Proofs.Yteikdocpncdheaa
open Go.ChangeShapes Go.WideShapes Go.ChangeAt Go.RowKit
attribute [local go_sem ↓] Go.wp_at_zero Go.wp_at_succ

theorem lt_alloc (w : World) (X : Obj) : w.heap.size < (w.alloc X).heap.size := by simp
theorem alloc2 {w w' : World} {X Y : Obj} (b : Below (w.heap.size + 1) ((w.alloc X).alloc Y) w') : w'.heap[w.heap.size]? = some X := (b.block _ (by omega)).trans ((Below.heap_alloc _ _ _ (lt_alloc w X)).trans (heap_alloc_new w X))
theorem alloc2K {w w' : World} {X Y : Obj} (b : Below (w.heap.size + 1) ((w.alloc X).alloc Y) w') {k : Nat} (hk : k < w.heap.size) : w'.heap[k]? = w.heap[k]? := (b.block _ (by omega)).trans ((Below.heap_alloc _ _ _ (Nat.lt_trans hk (lt_alloc w X))).trans (Below.heap_alloc _ _ _ hk))
theorem alloc2B {n : Nat} {w0 w w' : World} {X Y : Obj} (h : Below n w0 w) (hn : n ≤ w0.heap.size) (b : Below (w.heap.size + 1) ((w.alloc X).alloc Y) w') : Below n w0 w' := by
  have hs := h.size
  have hl := lt_alloc w X
  exact ((h.alloc (by omega) X).alloc (by omega) Y).trans (b.mono (by omega))
theorem own_two {w : World} {X : Obj} {A B C D : Int} : Own eIn ((w.alloc X).alloc (.cells #[.int .i64 A, .int .i64 B, .int .i64 C, .int .i64 D] 45)) (w.heap.size + 1) 45 (some ⟨w.heap.size + 1, 0, none⟩) 1 [(A, B, C, D)] := by
  have h : (w.alloc X).heap.size = w.heap.size + 1 := by simp
  have := own_one (w := w.alloc X) (A := A) (B := B) (C := C) (D := D)
  rw [h] at this
  exact this
theorem more_set {l3 l0 : List In} {n3 T G sn : Nat} (hl0 : l3 = l0 ++ [E0]) (hG : Gd l0) (h23 : n3 ≤ 23) (hn : l3.length = n3) (hT : tk l3 = T) (hg : lgs l3 n3 = G) (hs : (spL l3 n3).length = sn) :
    ∃ G2 SP2, okB ([(1, 0, 0, 0)] ++ l3) = true ∧ tk ([(1, 0, 0, 0)] ++ l3) = T + 1 ∧ lgs ([(1, 0, 0, 0)] ++ l3) (1 + n3) = G2 ∧ spL ([(1, 0, 0, 0)] ++ l3) (1 + n3) = SP2 ∧ SP2.length = sn ∧ G ≤ G2 ∧ G2 ≤ G + 1 := by
  have hl : l0.length + 1 = n3 := by rw [← hn, hl0]; simp
  have hc := set_cons (x := (1, 0, 0, 0)) (l := l3) rfl n3
  rw [Nat.add_comm 1 n3]
  refine ⟨_, _, ?_, ?_, rfl, rfl, ?_, ?_, ?_⟩
  · rw [hl0, ← List.append_assoc]
    exact gd_may (gd_app (gd_of0 (gd0_plain (by decide))) hG) (by simp; omega)
  · show tk ((1, 0, 0, 0) :: l3) = _
    rw [tk_cons (by decide), hT]
  · exact (spL_cons (by decide) n3).trans hs
  · rw [← hg]; exact hc.2.1
  · rw [← hg]; exact hc.2.2
theorem more_mark {l3 l0 : List In} {n3 T G sn : Nat} (hl0 : l3 = l0 ++ [E0]) (hG : Gd l0) (h23 : n3 ≤ 23) (hn : l3.length = n3) (hT : tk l3 = T) (hg : lgs l3 n3 = G) (h1 : 1 ≤ G) (hs : (spL l3 n3).length = sn) :
    ∃ SP2, okB ([(11, 0, 0, 0)] ++ l3) = true ∧ tk ([(11, 0, 0, 0)] ++ l3) = T + 1 ∧ lgs ([(11, 0, 0, 0)] ++ l3) (1 + n3) = G ∧ spL ([(11, 0, 0, 0)] ++ l3) (1 + n3) = SP2 ∧ SP2.length = sn := by
  have hl : l0.length + 1 = n3 := by rw [← hn, hl0]; simp
  have hc := (mark_cons (x := (11, 0, 0, 0)) (l := l3) rfl n3).2
  rw [Nat.add_comm 1 n3]
  refine ⟨_, ?_, ?_, ?_, rfl, ?_⟩
  · rw [hl0, ← List.append_assoc]
    exact gd_may (gd_app gd_mark hG) (by simp; omega)
  · show tk ((11, 0, 0, 0) :: l3) = _
    rw [tk_cons (by decide), hT]
  · show lgs ((11, 0, 0, 0) :: l3) (n3 + 1) = _
    rw [hc, hg]
    omega
  · exact (spL_cons (by decide) n3).trans hs

set_option maxRecDepth 100000 in
set_option maxHeartbeats 8000000 in
theorem more_walk (p : Option Addr) (c : Nat) (n : Nat) (zs : List Int) (w : World) (hp : Rd eBy w p c zs) (hn : zs.length = n) (hbz : ∀ x ∈ zs, 0 ≤ x ∧ x ≤ 255) (hm1 : n ≤ 9223372036854775807) :
    Calls Try.prog 7 #[.slice p n c] w fun e w' => e = .returned (.bool true) ∧ Below w.heap.size w w' := by
  have HN : Hid (zs.length = n) := hn
  clear hn
  by_cases c1 : 80 < n
  · have d1 : decide ((80 : Int) < (n : Int)) = true := by simp; omega
    go_enter Try.func7, Try.ntmps7
    go_wp2_with (go_at_call 9; refine (begun7 _).mono ?_; rintro e w1 ⟨rfl, hb1⟩)
    go_ret
    exact ⟨rfl, hb1⟩
  · have d1 : decide ((80 : Int) < (n : Int)) = false := by simp; omega
    have h1000 : n ≤ 1000 := by omega
    go_enter Try.func7, Try.ntmps7
    go_wp2_with (first
      | (go_at_call 9; refine (begun7 _).mono ?_; rintro e w1 ⟨rfl, hb1⟩; have hp1 := hp.below hb1)
      | (go_at_call 10; (with_reducible (refine (made_any p c zs _ n HN.out h1000 hp1 hbz).mono ?_)); rintro e w2 ⟨rfl, pk2, hb2, hs2⟩; have hB2 := bel_call hb1 (Nat.le_refl _) hb2)
      | (go_at_call 11; (with_reducible (refine (code_any w1.heap.size _ pk2).mono ?_)); (rintro e w3 ⟨p3, n3, c3, l3, rfl, ⟨o3, a3, e3, pk3, kp3⟩, g3, g3', l0, hl0, hG⟩); have hB3 := hB2.trans (kp3.below (B := w.heap.size) (by have := hb1.size; omega) (by have := hB2.size; omega))
         have r3 := own_rd o3
         have hlen0 : l0.length + 1 = n3 := by rw [← e3, hl0]; simp
         have k1 : okB l3 = true := by rw [hl0]; exact gd_may hG (by omega)
         have hP := prg_of k1
         have t1 := (tk_of hP).tk_le
         have t2 := lgs_bd hP (k := n3) (by omega)
         have tp := lgs_pos hP
         rw [e3] at tp
         have K1 := fun w' (hb : Below w3.heap.size w3 w') => of_c p3 c3 l3 w' (r3.below hb) n3 e3 k1 _ _ _ rfl rfl _ rfl rfl
         obtain ⟨T, hT⟩ : ∃ T, tk l3 = T := ⟨_, rfl⟩
         obtain ⟨G, hG'⟩ : ∃ G, lgs l3 n3 = G := ⟨_, rfl⟩
         obtain ⟨sn, hsn⟩ : ∃ sn, (spL l3 n3).length = sn := ⟨_, rfl⟩
         rw [hG'] at tp
         obtain ⟨G2, SP2, y1, y2, y3, y4, y5, y6, y7⟩ := more_set hl0 hG g3' e3 hT hG' hsn
         obtain ⟨SP3, x1, x2, x3, x4, x5⟩ := more_mark hl0 hG g3' e3 hT hG' tp hsn
         have hnl : 1 + l3.length = 1 + n3 := by rw [e3]
         have K2 := fun p' c' w' (hr : Rd eIn w' p' c' ([(1, 0, 0, 0)] ++ l3)) => of_c p' c' _ w' hr (1 + n3) (by rw [List.length_append]; exact hnl) y1 _ _ _ y2 y3 _ y4 y5
         have K3 := fun p' c' w' (hr : Rd eIn w' p' c' ([(11, 0, 0, 0)] ++ l3)) => of_c p' c' _ w' hr (1 + n3) (by rw [List.length_append]; exact hnl) x1 _ _ _ x2 x3 _ x4 x5
         rw [hT, hG', hsn] at K1
         rw [hT] at t1
         rw [hG'] at t2
         have HE : Hid (l3.length = n3) := e3
         have d24 : decide ((24 : Int) ≤ (n3 : Int)) = false := by simp; omega
         have dg1 : decide ((G : Int) ≤ (G2 : Int)) = true := by simp; omega
         have dg2 : decide ((G2 : Int) ≤ (G : Int) + 1) = true := by simp; omega
         clear y1 y2 y3 y4 y5 x1 x2 x3 x4 x5 hT hG' hsn hl0 hG hlen0 e3 hP k1 a3 pk3 kp3 pk2 hb2 hs2 hB2 hp1 hnl)
      | (go_at_call 13; (with_reducible (refine (K1 _ (Below.refl _ _)).mono ?_)); rintro e w4 ⟨⟨q4, d4, rfl, o4⟩, b4⟩; have R4 := (r3.below b4).below ((Below.refl _ _).alloc (Nat.le_refl _) (.cells #[.int .i64 (T : Int), .int .i64 (G : Int), .slice q4 sn d4] 32)); clear o4)
      | (at_builtin; (refine wpList_app tIn _ rfl _ _ rfl (w4.heap.size + 1) _ _ [(1, 0, 0, 0)] 1 rfl rfl ?ho p3 c3 l3 n3 HE.out rfl (R4.below ((Below.refl _ _).alloc (Nat.le_refl _) _)) (by omega) ?hz (1 + n3) rfl ?_); (case ho => exact own_two); (case hz => exact Nat.le_of_lt (Nat.lt_of_le_of_lt (lt_alloc _ _) (lt_alloc _ _))); intro p5 c5 w5 o5 b5 st5
         have g5 := alloc2 b5
         have B5 := alloc2B b4 (Nat.le_refl _) b5
         have R5 := r3.below B5
         clear R4 b5 st5)
      | (go_at_call 13; (with_reducible (refine (K2 p5 c5 _ (own_rd o5)).mono ?_)); rintro e w6 ⟨⟨q6, d6, rfl, o6⟩, b6⟩; have g6 := (b6.block _ (lt_of_block g5)).trans g5; have B6 := bel_call B5 (Nat.le_refl _) b6
         have R6 := (R5.below b6).below ((Below.refl _ _).alloc (Nat.le_refl _) (.cells #[.int .i64 (T + 1 : Nat), .int .i64 (G2 : Int), .slice q6 sn d6] 32)); clear o5 o6 g5 R5)
      | (at_builtin; (refine wpList_app tIn _ rfl _ _ rfl (w6.heap.size + 1) _ _ [(11, 0, 0, 0)] 1 rfl rfl ?ho p3 c3 l3 n3 HE.out rfl (R6.below ((Below.refl _ _).alloc (Nat.le_refl _) _)) (by omega) ?hz (1 + n3) rfl ?_); (case ho => exact own_two); (case hz => exact Nat.le_of_lt (Nat.lt_of_le_of_lt (lt_alloc _ _) (lt_alloc _ _))); intro p7 c7 w7 o7 b7 st7
         have h7 := alloc2 b7
         have g7 := (alloc2K b7 (lt_of_block g6)).trans g6
         have B7 := alloc2B B6 (Nat.le_refl _) b7
         clear R6 b7 st7 g6)
      | (go_at_call 13; (with_reducible (refine (K3 p7 c7 _ (own_rd o7)).mono ?_)); rintro e w8 ⟨⟨q8, d8, rfl, o8⟩, b8⟩; have g8 := (b8.block _ (lt_of_block g7)).trans g7; have h8 := (b8.block _ (lt_of_block h7)).trans h7; have B8 := bel_call B7 (Nat.le_refl _) b8
         obtain ⟨⟨k0, k1, k2⟩, z0, z1, z2⟩ := cellT g8
         obtain ⟨⟨j0, j1, j2⟩, v0, v1, v2⟩ := cellT h8
         have y4 := lt_of_block g8
         have y6 := lt_of_block h8
         clear o7 o8 g7 h7 g8 h8))
    go_ret
    exact ⟨rfl, bel_call hB3 (Nat.le_refl _) (bel_call B8 (Nat.le_refl _) ((Below.refl _ _).alloc (Nat.le_refl _) _))⟩
end Go.Proofs.Yteikdocpncdheaa
