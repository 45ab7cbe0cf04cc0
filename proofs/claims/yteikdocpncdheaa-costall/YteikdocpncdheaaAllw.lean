/-
  The law CostAll, walked.
-/
import Derived.Test.YteikdocpncdheaaCrefy
import Derived.Test.YteikdocpncdheaaCodes
import Derived.Test.YteikdocpncdheaaWild
import Derived.Test.YteikdocpncdheaaLots
namespace Go.Proofs.Yteikdocpncdheaa
open Go.ChangeShapes Go.WideShapes Go.ChangeAt Go.RowKit
attribute [local go_sem ↓] Go.wp_at_zero Go.wp_at_succ

theorem refCost_c (p : Option Addr) (c : Nat) (l : List In) (w : World) (hr : Rd eIn w p c l) (n : Nat) (hN : l.length = n) (hk : okB l = true) (T G m : Nat) (hT : tk l = T) (hG : lgs l n = G) (SP : List (Int × Int)) (hS : spL l n = SP) (hm : SP.length = m) :
    Calls Try.prog 14 #[.slice p n c] w fun e w' => (∃ q d, e = .returned (.tuple #[.agg #[.int .i64 (T : Int), .int .i64 (G : Int), .slice q m d], .bool true]) ∧ Own eSp w' w.heap.size 36 q d SP) ∧ Below w.heap.size w w' := by
  subst hT hG hS hm
  refine (refCost_yes p c l w hr n hN hk).mono ?_
  rintro e w' ⟨⟨q, d, m, rfl, rfl, ho⟩, hb⟩
  exact ⟨⟨q, d, rfl, ho⟩, hb⟩
theorem rd_own {α : Type} {E : Elt α} {w : World} {p : Option Addr} {c : Nat} {l : List α} (h : Rd E w p c l) : ∀ b o, p = some ⟨b, o, none⟩ → l ≠ [] → b < w.heap.size := fun b o e hne => by
  obtain ⟨b', o', e', hlt, _⟩ := h.pos (List.length_pos_iff.2 hne)
  rw [e] at e'
  cases e'
  exact hlt

set_option maxRecDepth 100000 in
set_option maxHeartbeats 8000000 in
theorem all_walk (pl : Option Addr) (cl nl : Nat) (l0 : List In) (p : Option Addr) (c : Nat) (n : Nat) (zs : List Int) (w : World) (hl0 : Rd eIn w pl cl l0) (hnl : l0.length = nl) (hp : Rd eBy w p c zs) (hn : zs.length = n) (hbz : ∀ x ∈ zs, 0 ≤ x ∧ x ≤ 255) (hm1 : n ≤ 9223372036854775807) (hm2 : nl ≤ 9223372036854775807) :
    Calls Try.prog 3 #[.slice pl nl cl, .slice p n c] w fun e w' => e = .returned (.bool true) ∧ Below w.heap.size w w' := by
  have HN : Hid (zs.length = n) := hn
  have HL : Hid (l0.length = nl) := hnl
  clear hn hnl
  by_cases c0 : 30 < nl
  · have d1 : decide ((30 : Int) < (nl : Int)) = true := by simp; omega
    go_enter Try.func3, Try.ntmps3
    go_wp2_with (go_at_call 9; refine (begun7 _).mono ?_; rintro e w1 ⟨rfl, hb1⟩)
    go_ret
    exact ⟨rfl, hb1⟩
  have d0 : decide ((30 : Int) < (nl : Int)) = false := by simp; omega
  by_cases c1 : 80 < n
  · have d1 : decide ((80 : Int) < (n : Int)) = true := by simp; omega
    go_enter Try.func3, Try.ntmps3
    go_wp2_with (go_at_call 9; refine (begun7 _).mono ?_; rintro e w1 ⟨rfl, hb1⟩)
    go_ret
    exact ⟨rfl, hb1⟩
  · have d1 : decide ((80 : Int) < (n : Int)) = false := by simp; omega
    have h1000 : n ≤ 1000 := by omega
    go_enter Try.func3, Try.ntmps3
    go_wp2_with (first
      | (go_at_call 9; refine (begun7 _).mono ?_; rintro e w1 ⟨rfl, hb1⟩; have hp1 := hp.below hb1)
      | (go_at_call 10; (with_reducible (refine (made_any p c zs _ n HN.out h1000 hp1 hbz).mono ?_)); rintro e w2 ⟨rfl, pk2, hb2, hs2⟩; have hB2 := bel_call hb1 (Nat.le_refl _) hb2)
      | (go_at_call 11; (with_reducible (refine (code_any w1.heap.size _ pk2).mono ?_)); (rintro e w3 ⟨p3, n3, c3, l3, rfl, ⟨o3, a3, e3, pk3, kp3⟩, g3, g3', k3⟩); have hB3 := hB2.trans (kp3.below (B := w.heap.size) (by have := hb1.size; omega) (by have := hB2.size; omega)); have hp3 := rd_under hp hB3 (rd_own hp))
      | (go_at_call 10; (with_reducible (refine (made_any p c zs _ n HN.out h1000 hp3 hbz).mono ?_)); rintro e w4 ⟨rfl, pk4, hb4, hs4⟩; have hB4 := bel_call hB3 (Nat.le_refl _) hb4; have o34 := own_below o3 hb4)
      | (go_at_call 12; (with_reducible (refine (wild_any w3.heap.size _ pk4).mono ?_)); (rintro e w5 ⟨p5, n5, c5, l5, rfl, ⟨o5, a5, e5, pk5, kp5⟩, g5, g5', _⟩); have hB5 := hB4.trans (kp5.below (B := w.heap.size) (by have := hB3.size; omega) (by have := hB4.size; omega)); have hrd3 := rd_kp (own_rd o34) kp5 (fun b o e hne => (by subst e; obtain ⟨b', o', e', hlt, _⟩ := (own_rd o3).pos (List.length_pos_iff.2 hne); cases e'; omega))))
    have hal : Below w5.heap.size w5 (w5.alloc (Obj.cells #[Value.slice pl nl cl, Value.slice p3 n3 c3, Value.slice p5 n5 c5] 22)) := (Below.refl _ _).alloc (Nat.le_refl _) _
    have hRw : Rws (w5.alloc (Obj.cells #[Value.slice pl nl cl, Value.slice p3 n3 c3, Value.slice p5 n5 c5] 22)) w5.heap.size [l0, l3, l5] :=
      Rws.three (heap_alloc_new _ _) ((rd_under hl0 hB5 (rd_own hl0)).below hal) HL.out (hrd3.below hal) e3 ((own_rd o5).below hal) e5
    have hBw : Below w.heap.size w (w5.alloc (Obj.cells #[Value.slice pl nl cl, Value.slice p3 n3 c3, Value.slice p5 n5 c5] 22)) := hB5.alloc hB5.size _
    have hAll : ∀ l ∈ [l0, l3, l5], l.length ≤ 30 := by
      intro l hl
      simp at hl
      rcases hl with rfl | rfl | rfl
      · rw [HL.out]; omega
      · omega
      · omega
    have hP3 : [l0, l3, l5].length = 3 := rfl
    generalize [l0, l3, l5] = P at *
    generalize (w5.alloc (Obj.cells #[Value.slice pl nl cl, Value.slice p3 n3 c3, Value.slice p5 n5 c5] 22)) = w6 at *
    generalize w5.heap.size = b6 at *
    clear hrd3 o5 pk5 kp5 hB5 o34 pk4 hb4 hs4 hB4 hp3 o3 pk3 kp3 hB3 pk2 hb2 hs2 hB2 hp1 hb1 a3 e3 a5 e5 g3 g5 g5' k3 hal
    go_loopw [6] (fun i wr => ∃ k : Nat, k ≤ 3 ∧ i = .int .i64 k ∧ Below w6.heap.size w6 wr) (fun i _ => 3 - (intOf i).toNat)
    case atStart => exact ⟨0, by omega, rfl, Below.refl _ _⟩
    case round =>
      obtain ⟨kk, hkk, rfl, hbw⟩ := hrel
      by_cases hlt : kk < 3
      · have hkP : kk < P.length := by omega
        obtain ⟨q, d, hcell, hrd⟩ := (hRw.below hbw).2 kk hkP
        have hbb := (hRw.below hbw).1
        have hl30 := hAll _ (List.getElem_mem hkP)
        generalize P[kk] = l at *
        obtain ⟨m, hm⟩ : ∃ m, l.length = m := ⟨_, rfl⟩
        have HM : Hid (l.length = m) := hm
        rw [hm] at hcell hl30
        clear hm
        by_cases hok : okB l = true
        · have K1 := fun w' (hb' : Below wr.heap.size wr w') => of_c q d l w' (hrd.below hb') m HM.out hok _ _ _ rfl rfl _ rfl rfl
          have K2 := fun w' (hb' : Below wr.heap.size wr w') => refCost_c q d l w' (hrd.below hb') m HM.out hok _ _ _ rfl rfl _ rfl rfl
          obtain ⟨sn, hsn⟩ : ∃ sn, (spL l m).length = sn := ⟨_, rfl⟩
          rw [hsn] at K1 K2
          have hsb : sn ≤ 30 := by rw [← hsn]; exact Nat.le_trans (spL_len l m) hl30
          have HSN : Hid ((spL l m).length = sn) := hsn
          clear hsn hok
          generalize spL l m = SP at *
          generalize tk l = T at *
          generalize lgs l m = G at *
          clear hrd
          go_wp2_with (first
            | (go_at_call 13; (with_reducible (refine (K1 _ (Below.refl _ _)).mono ?_)); rintro e w7 ⟨⟨q7, d7, rfl, o7⟩, hb7⟩; have B7 := hb7.alloc hb7.size (.cells #[.int .i64 (T : Int), .int .i64 (G : Int), .slice q7 sn d7] 32); have c7 := (B7.cell (p := ⟨b6, kk, none⟩) hbb).trans hcell; have z7 := B7.size; have y7 := hb7.size; have x7 : b6 < w7.heap.size := (by omega); have c7' := (hb7.cell (p := ⟨b6, kk, none⟩) hbb).trans hcell)
            | (go_at_call 14; (with_reducible (refine (K2 _ B7).mono ?_)); rintro e w8 ⟨⟨q8, d8, rfl, o8⟩, hb8⟩
               have hB8 := bel_call B7 (Nat.le_refl _) hb8
               have g8 : w8.heap[w7.heap.size]? = _ := (hb8.block w7.heap.size (by simp)).trans (heap_alloc_new w7 _)
               obtain ⟨⟨k0, k1, k2⟩, v0, v1, v2⟩ := cellT g8
               have y8 := lt_of_block g8
               have r7 := ((own_rd o7).below ((Below.refl _ _).alloc (Nat.le_refl _) _)).below hb8
               have r8 := own_rd o8
               clear c7 z7 y7 c7'))
          have B9 : Below w6.heap.size w6 (w8.alloc (Obj.cells #[.int .i64 (T : Int), .int .i64 (G : Int), .slice q8 sn d8] 32)) := bel_call hbw (Nat.le_refl _) (hB8.alloc hB8.size _)
          have gy := heap_alloc_new w8 (Obj.cells #[.int .i64 (T : Int), .int .i64 (G : Int), .slice q8 sn d8] 32)
          have gx := (Below.heap_alloc w8 (Obj.cells #[.int .i64 (T : Int), .int .i64 (G : Int), .slice q8 sn d8] 32) _ y8).trans g8
          have r79 := r7.below ((Below.refl _ _).alloc (Nat.le_refl _) (Obj.cells #[.int .i64 (T : Int), .int .i64 (G : Int), .slice q8 sn d8] 32))
          have r89 := r8.below ((Below.refl _ _).alloc (Nat.le_refl _) (Obj.cells #[.int .i64 (T : Int), .int .i64 (G : Int), .slice q8 sn d8] 32))
          generalize w8.alloc (Obj.cells #[.int .i64 (T : Int), .int .i64 (G : Int), .slice q8 sn d8] 32) = w9 at *
          clear k0 k1 k2 v0 v1 v2 g8 r7 r8 o7 o8 hb8 hB8 hb7 B7 x7
          generalize w7.heap.size = bx at *
          generalize w8.heap.size = by8 at *
          go_loopw [11] (fun t wr => ∃ i : Nat, i ≤ sn ∧ t = .int .i64 i ∧ Below w9.heap.size w9 wr) (fun t _ => sn - (intOf t).toNat)
          case atStart => exact ⟨0, Nat.zero_le _, rfl, Below.refl _ _⟩
          case round =>
            obtain ⟨i, hi, rfl, hbi⟩ := hrel
            have fx := (hbi.block _ (lt_of_block gx)).trans gx
            have fy := (hbi.block _ (lt_of_block gy)).trans gy
            obtain ⟨⟨k0, k1, k2⟩, _⟩ := cellT fx
            obtain ⟨⟨j0, j1, j2⟩, _⟩ := cellT fy
            have zx := lt_of_block fx
            have zy := lt_of_block fy
            clear fx fy
            by_cases hlt2 : i < sn
            · have hiu : i < SP.length := by rw [HSN.out]; exact hlt2
              obtain ⟨b1, f1, rfl, hbz1, u1, u2⟩ := (r79.below hbi).span i hiu
              obtain ⟨b2, f2, rfl, hbz2, u3, u4⟩ := (r89.below hbi).span i hiu
              generalize SP[i] = y at *
              obtain ⟨s1, s2⟩ := y
              simp only at u1 u2 u3 u4
              have z1 : (0 : Int) ≤ (i : Int) := by omega
              have z2 : (i : Int) < (sn : Int) := by omega
              have dt2 : decide ((i : Int) < (sn : Int)) = true := by simpa using hlt2
              go_wp2
              go_quiet (fail)
              go_wp2
              go_roundw
              case rel => exact ⟨i + 1, by omega, by go_num, bel_draws hbi _⟩
              case measure => simp [intOf]; omega
            · have t2 : decide ((i : Int) < (sn : Int)) = false := by simpa using hlt2
              go_wp2
              go_roundw
              case rel => exact ⟨kk + 1, by omega, by go_num, bel_call B9 (Nat.le_refl _) hbi⟩
              case measure => simp [intOf]; omega
        · have hok' : okB l = false := by simpa using hok
          have K1 := fun w' (hb' : Below wr.heap.size wr w') => of_no q d l w' (hrd.below hb') m HM.out (by omega) hok'
          have K2 := fun w' (hb' : Below wr.heap.size wr w') => refCost_no q d l w' (hrd.below hb') m HM.out (by omega) hok'
          clear hok hok' hrd
          go_wp2_with (first
            | (go_at_call 13; (with_reducible (refine (K1 _ (Below.refl _ _)).mono ?_)); rintro e w7 ⟨rfl, hb7⟩; have B7 := hb7.alloc hb7.size (.cells #[.int .i64 0, .int .i64 0, .slice none 0 0] 32); have y7 := hb7.size; have x7 : b6 < w7.heap.size := (by omega); have c7' := (hb7.cell (p := ⟨b6, kk, none⟩) hbb).trans hcell)
            | (go_at_call 14; (with_reducible (refine (K2 _ B7).mono ?_)); rintro e w8 ⟨rfl, hb8⟩
               have hB8 := bel_call B7 (Nat.le_refl _) hb8
               have g8 : w8.heap[w7.heap.size]? = _ := (hb8.block w7.heap.size (by simp)).trans (heap_alloc_new w7 _)
               obtain ⟨⟨k0, k1, k2⟩, v0, v1, v2⟩ := cellT g8
               have y8 := lt_of_block g8
               clear y7 c7'))
          have B9 : Below w6.heap.size w6 (w8.alloc (Obj.cells #[.int .i64 0, .int .i64 0, .slice none 0 0] 32)) := bel_call hbw (Nat.le_refl _) (hB8.alloc hB8.size _)
          have gy := heap_alloc_new w8 (Obj.cells #[.int .i64 0, .int .i64 0, .slice none 0 0] 32)
          generalize w8.alloc (Obj.cells #[.int .i64 0, .int .i64 0, .slice none 0 0] 32) = w9 at *
          clear k0 k1 k2 v0 v1 v2 g8 hb8 hB8 hb7 B7 x7
          generalize w7.heap.size = bx at *
          generalize w8.heap.size = by8 at *
          go_loopw [11] (fun t wr => t = .int .i64 0 ∧ Below w9.heap.size w9 wr) (fun t _ => 0)
          case atStart => exact ⟨rfl, Below.refl _ _⟩
          case round =>
            obtain ⟨rfl, hbi⟩ := hrel
            have fy := (hbi.block _ (lt_of_block gy)).trans gy
            obtain ⟨⟨j0, j1, j2⟩, _⟩ := cellT fy
            have zy := lt_of_block fy
            clear fy
            go_wp2
            go_roundw
            case rel => exact ⟨kk + 1, by omega, by go_num, bel_call B9 (Nat.le_refl _) hbi⟩
            case measure => simp [intOf]; omega
      · have t1 : decide ((kk : Int) < 3) = false := decide_eq_false (by omega)
        go_wp2
        go_ret
        exact ⟨rfl, bel_call hBw (Nat.le_refl _) hbw⟩
end Go.Proofs.Yteikdocpncdheaa
