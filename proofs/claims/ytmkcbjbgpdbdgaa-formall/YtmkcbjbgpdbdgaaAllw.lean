/-
  The law FormAll, walked.
-/
import Derived.Test.YtmkcbjbgpdbdgaaRefc
import Derived.Test.YtmkcbjbgpdbdgaaCodes
import Derived.Test.YtmkcbjbgpdbdgaaWild
import Derived.Test.YtmkcbjbgpdbdgaaLots
namespace Go.Proofs.Ytmkcbjbgpdbdgaa
open Go.ChangeShapes Go.WideShapes Go.ChangeAt Go.RowKit
attribute [local go_sem ↓] Go.wp_at_zero Go.wp_at_succ

theorem refPairs_yes (p : Option Addr) (c : Nat) (l : List In) (w : World) (n : Nat) (u : List Int) (hN : l.length = n) (hk : okP l = true) (hu : pairL l = u) (hr : Rd eIn w p c l) (hn : n ≤ 24) (hal : l.all mayB = true) (h1 : 1 ≤ n) :
    Calls Try.prog 15 #[.slice p n c] w fun e w' => ∃ q d, e = .returned (.tuple #[.slice q n d, .bool true]) ∧ Own eI w' w.heap.size 3 q d u ∧ Below w.heap.size w w' := by
  subst hu
  refine (refPairs_any p c l w hr n hN hn hal h1).mono ?_
  rintro e w' ⟨⟨q, d, m, k, rfl, e4, f4⟩, hb⟩
  rw [hk] at e4
  subst e4
  obtain ⟨rfl, ho⟩ := f4 rfl
  exact ⟨q, d, rfl, ho, hb⟩
theorem mayCode_c (p : Option Addr) (c : Nat) (l : List In) (w : World) (n : Nat) (k : Bool) (hN : l.length = n) (hk : okB l = k) (hr : Rd eIn w p c l) (hl : n ≤ 1000) :
    Calls Try.prog 12 #[.slice p n c] w fun e w' => e = .returned (.bool k) ∧ Below w.heap.size w w' := by
  subst hk
  exact mayCode_any p c l w hr n hN hl
theorem rd_own {α : Type} {E : Elt α} {w : World} {p : Option Addr} {c : Nat} {l : List α} (h : Rd E w p c l) : ∀ b o, p = some ⟨b, o, none⟩ → l ≠ [] → b < w.heap.size := fun b o e hne => by
  obtain ⟨b', o', e', hlt, _⟩ := h.pos (List.length_pos_iff.2 hne)
  rw [e] at e'
  cases e'
  exact hlt

set_option maxRecDepth 100000 in
set_option maxHeartbeats 8000000 in
theorem all_walk (pl : Option Addr) (cl nl : Nat) (l0 : List In) (p : Option Addr) (c : Nat) (n : Nat) (zs : List Int) (w : World) (hl0 : Rd eIn w pl cl l0) (hnl : l0.length = nl) (hp : Rd eBy w p c zs) (hn : zs.length = n) (hbz : ∀ x ∈ zs, 0 ≤ x ∧ x ≤ 255) (hm1 : n ≤ 9223372036854775807) (hm2 : nl ≤ 9223372036854775807) :
    Calls Try.prog 3 #[.slice pl nl cl, .slice p n c] w fun e w' => e = .returned (.bool true) ∧ Below w.heap.size w w' := by
  have HN : Hid (zs.length = n) := hn
  have HL : Hid (l0.length = nl) := hnl
  clear hn hnl
  by_cases c0 : 30 < nl
  · have d1 : decide ((30 : Int) < (nl : Int)) = true := by simp; omega
    go_enter Try.func3, Try.ntmps3
    go_wp2_with (go_at_call 8; refine (begun_any _).mono ?_; rintro e w1 ⟨rfl, hb1⟩)
    go_ret
    exact ⟨rfl, hb1⟩
  have d0 : decide ((30 : Int) < (nl : Int)) = false := by simp; omega
  by_cases c1 : 80 < n
  · have d1 : decide ((80 : Int) < (n : Int)) = true := by simp; omega
    go_enter Try.func3, Try.ntmps3
    go_wp2_with (go_at_call 8; refine (begun_any _).mono ?_; rintro e w1 ⟨rfl, hb1⟩)
    go_ret
    exact ⟨rfl, hb1⟩
  · have d1 : decide ((80 : Int) < (n : Int)) = false := by simp; omega
    have h1000 : n ≤ 1000 := by omega
    go_enter Try.func3, Try.ntmps3
    go_wp2_with (first
      | (go_at_call 8; refine (begun_any _).mono ?_; rintro e w1 ⟨rfl, hb1⟩; have hp1 := hp.below hb1)
      | (go_at_call 9; (with_reducible (refine (made_any p c zs _ n HN.out h1000 hp1 hbz).mono ?_)); rintro e w2 ⟨rfl, pk2, hb2, hs2⟩; have hB2 := bel_call hb1 (Nat.le_refl _) hb2)
      | (go_at_call 10; (with_reducible (refine (code_any w1.heap.size _ pk2).mono ?_)); (rintro e w3 ⟨p3, n3, c3, l3, rfl, ⟨o3, a3, e3, pk3, kp3⟩, g3, g3', k3⟩); have hB3 := hB2.trans (kp3.below (B := w.heap.size) (by have := hb1.size; omega) (by have := hB2.size; omega)); have hp3 := rd_under hp hB3 (rd_own hp))
      | (go_at_call 9; (with_reducible (refine (made_any p c zs _ n HN.out h1000 hp3 hbz).mono ?_)); rintro e w4 ⟨rfl, pk4, hb4, hs4⟩; have hB4 := bel_call hB3 (Nat.le_refl _) hb4; have o34 := own_below o3 hb4)
      | (go_at_call 11; (with_reducible (refine (wild_any w3.heap.size _ pk4).mono ?_)); (rintro e w5 ⟨p5, n5, c5, l5, rfl, ⟨o5, a5, e5, pk5, kp5⟩, g5, g5', _⟩); have hB5 := hB4.trans (kp5.below (B := w.heap.size) (by have := hB3.size; omega) (by have := hB4.size; omega)); have hrd3 := rd_kp (own_rd o34) kp5 (fun b o e hne => (by subst e; obtain ⟨b', o', e', hlt, _⟩ := (own_rd o3).pos (List.length_pos_iff.2 hne); cases e'; omega))))
    have k3' : okB l3 = true := by
      obtain ⟨x, rfl, hG⟩ := k3
      exact gd_may hG (by have := e3; simp at this; omega)
    have hal : Below w5.heap.size w5 (w5.alloc (Obj.cells #[Value.slice pl nl cl, Value.slice p3 n3 c3, Value.slice p5 n5 c5] 22)) := (Below.refl _ _).alloc (Nat.le_refl _) _
    have hRw : Rws (w5.alloc (Obj.cells #[Value.slice pl nl cl, Value.slice p3 n3 c3, Value.slice p5 n5 c5] 22)) w5.heap.size [l0, l3, l5] :=
      Rws.three (heap_alloc_new _ _) ((rd_under hl0 hB5 (rd_own hl0)).below hal) HL.out (hrd3.below hal) e3 ((own_rd o5).below hal) e5
    have hrd3' := hrd3.below hal
    have hBw : Below w.heap.size w (w5.alloc (Obj.cells #[Value.slice pl nl cl, Value.slice p3 n3 c3, Value.slice p5 n5 c5] 22)) := hB5.alloc hB5.size _
    have hAll : ∀ l ∈ [l0, l3, l5], l.length ≤ 30 := by
      intro l hl
      simp at hl
      rcases hl with rfl | rfl | rfl
      · rw [HL.out]; omega
      · omega
      · omega
    have hP3 : [l0, l3, l5].length = 3 := rfl
    have HE3 : Hid (l3.length = n3) := e3
    generalize [l0, l3, l5] = P at *
    generalize (w5.alloc (Obj.cells #[Value.slice pl nl cl, Value.slice p3 n3 c3, Value.slice p5 n5 c5] 22)) = w6 at *
    generalize w5.heap.size = b6 at *
    clear hrd3 o5 pk5 kp5 hB5 o34 pk4 hb4 hs4 hB4 hp3 o3 pk3 kp3 hB3 pk2 hb2 hs2 hB2 hp1 hb1 a3 e3 a5 e5 g3 g5 g5' k3 hal
    go_loopw [8] (fun i wr => ∃ k : Nat, k ≤ 3 ∧ i = .int .i64 k ∧ Below w6.heap.size w6 wr) (fun i _ => 3 - (intOf i).toNat)
    case atStart => exact ⟨0, by omega, rfl, Below.refl _ _⟩
    case round =>
      obtain ⟨kk, hkk, rfl, hbw⟩ := hrel
      by_cases hlt : kk < 3
      · have hkP : kk < P.length := by omega
        obtain ⟨q, d, hcell, hrd⟩ := (hRw.below hbw).2 kk hkP
        have hbb := (hRw.below hbw).1
        have hl30 := hAll _ (List.getElem_mem hkP)
        generalize P[kk] = l at *
        obtain ⟨m, hm⟩ : ∃ m, l.length = m := ⟨_, rfl⟩
        have HM : Hid (l.length = m) := hm
        rw [hm] at hcell hl30
        have hmc := mayCode_c q d l wr m (okB l) hm rfl hrd (by omega)
        have hsh := fun w' (hb' : Below wr.heap.size wr w') => shape_c q d l w' m (okB l) hm rfl (hrd.below hb') (by omega)
        clear hm
        by_cases hok : okB l = true
        · have hokP : okP l = true := by unfold okB at hok; simp at hok; exact hok.1.2
          have hrow : rowB l = true := by unfold okB at hok; simp at hok; exact hok.1.1.1.1
          obtain ⟨k1, k2, _⟩ := row_iff.1 hrow
          rw [HM.out] at k1 k2
          have hallB := row_all hrow
          rw [hok] at hsh hmc
          have hpy := fun w' (hb' : Below wr.heap.size wr w') => pairs_yes q d l w' m (pairL l) HM.out hokP rfl (hrd.below hb') k2 hallB k1
          have hpr := fun w' (hb' : Below wr.heap.size wr w') => refPairs_yes q d l w' m (pairL l) HM.out hokP rfl (hrd.below hb') k2 hallB k1
          have HU : Hid ((pairL l).length = m) := by show _ = _; rw [← HM.out]; exact outO_len l _
          generalize pairL l = U at *
          clear hok hokP hrow hallB
          go_wp2_with (first
            | (go_at_call 12; (with_reducible (refine hmc.mono ?_)); rintro e w7 ⟨rfl, hb7⟩; have c7 := (hb7.cell (p := ⟨b6, kk, none⟩) hbb).trans hcell; have z7 := hb7.size)
            | (go_at_call 13; (with_reducible (refine (hsh _ hb7).mono ?_)); rintro e w8 ⟨rfl, hb8⟩; have hB8 := bel_call hb7 (Nat.le_refl _) hb8; have c8 := (hB8.cell (p := ⟨b6, kk, none⟩) hbb).trans hcell; have z8 := hB8.size)
            | (go_at_call 14; (with_reducible (refine (hpy _ hB8).mono ?_)); rintro e w9 ⟨q9, d9, rfl, hown9, hb9⟩; have hB9 := bel_call hB8 (Nat.le_refl _) hb9; have c9 := (hB9.cell (p := ⟨b6, kk, none⟩) hbb).trans hcell; have z9 := hB9.size)
            | (go_at_call 15; (with_reducible (refine (hpr _ hB9).mono ?_)); rintro e w10 ⟨q10, d10, rfl, hown10, hb10⟩; have hB10 := bel_call hB9 (Nat.le_refl _) hb10))
          have hr9 := (own_rd hown9).below hb10
          have hr10 := own_rd hown10
          have hBf : Below w6.heap.size w6 w10 := bel_call hbw (Nat.le_refl _) hB10
          clear hpy hpr hsh hmc hown9 hown10 hb7 c7 z7 hb8 hB8 c8 z8 hb9 hB9 c9 z9 hb10 hB10 hrd hcell hbb hbw
          go_loopw [14] (fun t wr => ∃ i : Nat, i ≤ m ∧ t = .int .i64 i ∧ Below w10.heap.size w10 wr) (fun t _ => m - (intOf t).toNat)
          case atStart => exact ⟨0, Nat.zero_le _, rfl, Below.refl _ _⟩
          case round =>
            obtain ⟨i, hi, rfl, hbi⟩ := hrel
            by_cases hlt2 : i < m
            · have hiu : i < U.length := by rw [HU.out]; exact hlt2
              obtain ⟨b1, f1, rfl, hbz1, u1⟩ := (hr9.below hbi).num i hiu
              obtain ⟨b2, f2, rfl, hbz2, u2⟩ := (hr10.below hbi).num i hiu
              generalize U[i] = y at *
              have z1 : (0 : Int) ≤ (i : Int) := by omega
              have z2 : (i : Int) < (m : Int) := by omega
              go_wp2
              go_quiet (fail)
              go_wp2
              go_roundw
              case rel => exact ⟨i + 1, by omega, by go_num, bel_draws hbi _⟩
              case measure => simp [intOf]; omega
            · have t2 : decide ((i : Int) < (m : Int)) = false := by simpa using hlt2
              go_wp2
              go_roundw
              case rel => exact ⟨kk + 1, by omega, by go_num, bel_call hBf (Nat.le_refl _) hbi⟩
              case measure => simp [intOf]; omega
        · have hok' : okB l = false := by simpa using hok
          rw [hok'] at hsh hmc
          clear hok hok'
          go_wp2_with (first
            | (go_at_call 12; (with_reducible (refine hmc.mono ?_)); rintro e w7 ⟨rfl, hb7⟩; have c7 := (hb7.cell (p := ⟨b6, kk, none⟩) hbb).trans hcell; have z7 := hb7.size)
            | (go_at_call 13; (with_reducible (refine (hsh _ hb7).mono ?_)); rintro e w8 ⟨rfl, hb8⟩; have hB8 := bel_call hb7 (Nat.le_refl _) hb8))
          go_roundw
          case rel => exact ⟨kk + 1, by omega, by go_num, bel_call hbw (Nat.le_refl _) hB8⟩
          case measure => simp [intOf]; omega
      · have t1 : decide ((kk : Int) < 3) = false := decide_eq_false (by omega)
        have hsh := shape_c p3 c3 l3 wr n3 true HE3.out k3' (hrd3'.below hbw) (by omega)
        go_wp2_with (go_at_call 13; refine hsh.mono ?_; rintro e w7 ⟨rfl, hb7⟩)
        go_ret
        exact ⟨rfl, bel_call (bel_call hBw (Nat.le_refl _) hbw) (Nat.le_refl _) hb7⟩
end Go.Proofs.Ytmkcbjbgpdbdgaa
