/-
  The law FormPairs, walked.
-/
import Derived.Test.YtmkcbjbgpdbdgaaMayc
import Derived.Test.YtmkcbjbgpdbdgaaPairm
import Derived.Test.YtmkcbjbgpdbdgaaCodes
import Derived.Test.YtmkcbjbgpdbdgaaWild
import Derived.Test.YtmkcbjbgpdbdgaaLots
namespace Go.Proofs.Ytmkcbjbgpdbdgaa
open Go.ChangeShapes Go.WideShapes Go.ChangeAt Go.RowKit
attribute [local go_sem ↓] Go.wp_at_zero Go.wp_at_succ

set_option maxRecDepth 100000 in
set_option maxHeartbeats 8000000 in
theorem pairs_walk (p : Option Addr) (c : Nat) (n : Nat) (zs : List Int) (w : World) (hp : Rd eBy w p c zs) (hn : zs.length = n) (hbz : ∀ x ∈ zs, 0 ≤ x ∧ x ≤ 255) (hm1 : n ≤ 9223372036854775807) :
    Calls Try.prog 6 #[.slice p n c] w fun e w' => e = .returned (.bool true) ∧ Below w.heap.size w w' := by
  have HN : Hid (zs.length = n) := hn
  clear hn
  by_cases c1 : 80 < n
  · have d1 : decide ((80 : Int) < (n : Int)) = true := by simp; omega
    go_enter Try.func6, Try.ntmps6
    go_wp2_with (go_at_call 8; refine (begun_any _).mono ?_; rintro e w1 ⟨rfl, hb1⟩)
    go_ret
    exact ⟨rfl, hb1⟩
  · have d1 : decide ((80 : Int) < (n : Int)) = false := by simp; omega
    have h1000 : n ≤ 1000 := by omega
    go_enter Try.func6, Try.ntmps6
    go_wp2_with (first
      | (go_at_call 8; refine (begun_any _).mono ?_; rintro e w1 ⟨rfl, hb1⟩; have hp1 := hp.below hb1)
      | (go_at_call 9; (with_reducible (refine (made_any p c zs _ n HN.out h1000 hp1 hbz).mono ?_)); rintro e w2 ⟨rfl, pk2, hb2, hs2⟩; have hB2 := bel_call hb1 (Nat.le_refl _) hb2)
      | (go_at_call 10; (with_reducible (refine (code_any w1.heap.size _ pk2).mono ?_)); (rintro e w3 ⟨p3, n3, c3, l3, rfl, ⟨o3, a3, e3, pk3, kp3⟩, g3, g3', _⟩); have hB3 := hB2.trans (kp3.below (B := w.heap.size) (by have := hb1.size; omega) (by have := hB2.size; omega)); have hp3 := rd_under hp hB3 (fun b o e hne => (by obtain ⟨b', o', e', hlt, _⟩ := hp.pos (List.length_pos_iff.2 hne); rw [e] at e'; cases e'; exact hlt)))
      | (go_at_call 9; (with_reducible (refine (made_any p c zs _ n HN.out h1000 hp3 hbz).mono ?_)); rintro e w4 ⟨rfl, pk4, hb4, hs4⟩; have hB4 := bel_call hB3 (Nat.le_refl _) hb4; have o34 := own_below o3 hb4)
      | (go_at_call 11; (with_reducible (refine (wild_any w3.heap.size _ pk4).mono ?_)); (rintro e w5 ⟨p5, n5, c5, l5, rfl, ⟨o5, a5, e5, pk5, kp5⟩, g5, g5', _⟩); have hB5 := hB4.trans (kp5.below (B := w.heap.size) (by have := hB3.size; omega) (by have := hB4.size; omega)); have hrd3 := rd_kp (own_rd o34) kp5 (fun b o e hne => (by subst e; obtain ⟨b', o', e', hlt, _⟩ := (own_rd o3).pos (List.length_pos_iff.2 hne); cases e'; omega))))
    have hRw : Rws (w5.alloc (Obj.cells #[Value.slice p3 n3 c3, Value.slice p5 n5 c5] 22)) w5.heap.size [l3, l5] :=
      Rws.two (heap_alloc_new _ _) (hrd3.below ((Below.refl _ _).alloc (Nat.le_refl _) _)) e3 ((own_rd o5).below ((Below.refl _ _).alloc (Nat.le_refl _) _)) e5
    have hBw : Below w.heap.size w (w5.alloc (Obj.cells #[Value.slice p3 n3 c3, Value.slice p5 n5 c5] 22)) := hB5.alloc hB5.size _
    have hAll : ∀ l ∈ [l3, l5], l.all mayW = true ∧ 1 ≤ l.length ∧ l.length ≤ 23 := by
      intro l hl
      simp at hl
      rcases hl with rfl | rfl
      · exact ⟨a3, by omega, by omega⟩
      · exact ⟨a5, by omega, by omega⟩
    have hP2 : [l3, l5].length = 2 := rfl
    generalize [l3, l5] = P at *
    generalize (w5.alloc (Obj.cells #[Value.slice p3 n3 c3, Value.slice p5 n5 c5] 22)) = w6 at *
    generalize w5.heap.size = b6 at *
    clear hrd3 o5 pk5 kp5 hB5 o34 pk4 hb4 hs4 hB4 hp3 o3 pk3 kp3 hB3 pk2 hb2 hs2 hB2 hp1 hb1 a3 e3 a5 e5 g3 g3' g5 g5'
    go_loopw [4] (fun i wr => ∃ k : Nat, k ≤ 2 ∧ i = .int .i64 k ∧ Below w6.heap.size w6 wr) (fun i _ => 2 - (intOf i).toNat)
    case atStart => exact ⟨0, by omega, rfl, Below.refl _ _⟩
    case round =>
      obtain ⟨kk, hkk, rfl, hbw⟩ := hrel
      by_cases hlt : kk < 2
      · have hkP : kk < P.length := by omega
        obtain ⟨q, d, hcell, hrd⟩ := (hRw.below hbw).2 kk hkP
        have hbb := (hRw.below hbw).1
        obtain ⟨hall, hl1, hl2⟩ := hAll _ (List.getElem_mem hkP)
        generalize P[kk] = l at *
        have hallB := allW_B hall
        obtain ⟨m, hm⟩ : ∃ m, l.length = m := ⟨_, rfl⟩
        have HM : Hid (l.length = m) := hm
        rw [hm] at hcell hl1 hl2
        have hsh := shape_c q d l wr m (okB l) hm rfl hrd (by omega)
        clear hm
        have hB0 := bel_call hBw (Nat.le_refl _) (show Below w6.heap.size w6 wr from hbw)
        by_cases hok : okB l = true
        · have hokP : okP l = true := by unfold okB at hok; simp at hok; exact hok.1.2
          have hPr := prs_of hokP
          rw [hok] at hsh
          have hpy := fun w' (hb' : Below wr.heap.size wr w') => pairs_yes q d l w' m (pairL l) HM.out hokP rfl (hrd.below hb') (by omega) hallB (by omega)
          clear hok
          go_wp2_with (first
            | (go_at_call 13; refine hsh.mono ?_; rintro e w7 ⟨rfl, hb7⟩)
            | (go_at_call 14; refine (hpy _ hb7).mono ?_; rintro e w8 ⟨qu, du, rfl, hown8, hb8⟩))
          have hB8 : Below wr.heap.size wr w8 := bel_call hb7 (Nat.le_refl _) hb8
          have hru := own_rd hown8
          have hrl := hrd.below hB8
          have hBf : Below w6.heap.size w6 w8 := bel_call hbw (Nat.le_refl _) hB8
          generalize pairL l = U at *
          clear hpy hsh hown8 hb7 hb8 hrd hcell hB8 hB0
          clear hbw hbb
          go_loopw [8, 9] (fun t i wr => ∃ k : Nat, k ≤ m ∧ i = .int .i64 k ∧ t = .int .i64 ((cntN k (fun i => (gt l i).1 == 10) : Nat) - (cntN k (fun i => (gt l i).1 == 9) : Nat) : Int) ∧ Below w8.heap.size w8 wr) (fun _ i _ => m - (intOf i).toNat)
          case atStart => exact ⟨0, Nat.zero_le _, rfl, rfl, Below.refl _ _⟩
          case round =>
            obtain ⟨i, hi, rfl, rfl, hbi⟩ := hrel
            have hc1 := cntN_le i (fun i => (gt l i).1 == 10)
            have hc2 := cntN_le i (fun i => (gt l i).1 == 9)
            by_cases hlt2 : i < m
            · have hil : i < l.length := by rw [HM.out]; exact hlt2
              have hrl' := hrl.below hbi
              have hru' := hru.below hbi
              obtain ⟨b, f, rfl, hbz', f0, f1, f2, f3⟩ := hrl'.inst i hil
              obtain ⟨bu, fu, rfl, hbu, u0⟩ := hru'.num i (by rw [hPr.len]; exact hil)
              have HG : Hid (gt l i = l[i]) := gt_eq hil
              have HU : Hid (U.getD i 0 = U[i]'(by rw [hPr.len]; exact hil)) := getD_at _
              generalize l[i] = x at *
              generalize U[i]'(by rw [hPr.len]; exact hil) = y at *
              obtain ⟨xo, xa, xb, xn⟩ := x
              simp only at f0 f1 f2 f3
              obtain ⟨C10, hC10⟩ : ∃ C, cntN i (fun i => (gt l i).1 == 10) = C := ⟨_, rfl⟩
              obtain ⟨C9, hC9⟩ : ∃ C, cntN i (fun i => (gt l i).1 == 9) = C := ⟨_, rfl⟩
              rw [hC10] at hc1 ⊢
              rw [hC9] at hc2 ⊢
              have HC10 : Hid (cntN i (fun i => (gt l i).1 == 10) = C10) := hC10
              have HC9 : Hid (cntN i (fun i => (gt l i).1 == 9) = C9) := hC9
              clear hC10 hC9
              by_cases h10 : xo = 10
              · subst h10
                have HO : Hid ((gt l i).1 = 10) := by show _ = _; rw [HG.out]
                have hy : y = 0 := by rw [← HU.out]; exact hPr.none i (by rw [HO.out]; decide)
                subst hy
                have E10 : Hid (cntN (i + 1) (fun i => (gt l i).1 == 10) = C10 + 1) := by show _ = _; rw [cntN_yes (by rw [HO.out]; rfl), HC10.out]
                have E9 : Hid (cntN (i + 1) (fun i => (gt l i).1 == 9) = C9) := by show _ = _; rw [cntN_no (by rw [HO.out]; rfl), HC9.out]
                go_wp2
                go_roundw
                case rel => exact ⟨i + 1, by omega, by go_num, by rw [E10.out, E9.out]; go_num, hbi⟩
                case measure => simp [intOf]; omega
              · have d10 : (xo == 10) = false := by simpa using h10
                by_cases h9 : xo = 9
                · subst h9
                  have HO : Hid ((gt l i).1 = 9) := by show _ = _; rw [HG.out]
                  have E10 : Hid (cntN (i + 1) (fun i => (gt l i).1 == 10) = C10) := by show _ = _; rw [cntN_no (by rw [HO.out]; rfl), HC10.out]
                  have E9 : Hid (cntN (i + 1) (fun i => (gt l i).1 == 9) = C9 + 1) := by show _ = _; rw [cntN_yes (by rw [HO.out]; rfl), HC9.out]
                  obtain ⟨j, hj, hj1, hj2, hj3, hj4⟩ := hPr.some i hil HO.out
                  rw [HU.out] at hj
                  subst hj
                  rw [HM.out] at hj2
                  obtain ⟨b', f', e', hbz'', j0, j1, j2, j3⟩ := hrl'.inst j (by rw [HM.out]; exact hj2)
                  cases e'
                  rw [gt_eq (by rw [HM.out]; exact hj2)] at hj3 hj4
                  rw [hj3] at j0
                  rw [hj4, HG.out] at j1
                  simp only at j1
                  have e1 : decide ((j : Int) ≤ (i : Int)) = false := decide_eq_false (by omega)
                  have e2 : decide ((m : Int) ≤ (j : Int)) = false := decide_eq_false (by omega)
                  have z0 : (0 : Int) ≤ (i : Int) := by omega
                  have z1 : (i : Int) < (m : Int) := by omega
                  have z2 : (0 : Int) ≤ (j : Int) := by omega
                  have z3 : (j : Int) < (m : Int) := by omega
                  have HN2 : Hid (∀ k, k < i → (gt l k).1 = 9 → (i : Int) < U.getD k 0 → ¬ U.getD k 0 < (j : Int) ∧ (gt l k).2.1 ≠ xa) := fun k hk h9k hlt => by
                    have := hPr.nest k i hk hil h9k HO.out hlt
                    rw [HU.out, HG.out] at this
                    exact this
                  clear hj3 hj4 d10 h10 j2 j3
                  go_wp2
                  go_quiet (fail)
                  go_wp2
                  have hbi' : Below w8.heap.size w8 (wr.drewN nq) := bel_draws hbi _
                  have hrl2 := hrl.below hbi'
                  have hru2 := hru.below hbi'
                  generalize wr.drewN nq = wq at *
                  clear hbi hrl' hru'
                  go_loopw [10] (fun t wr => ∃ k : Nat, k ≤ i ∧ t = .int .i64 k ∧ Below w8.heap.size w8 wr) (fun t _ => i - (intOf t).toNat)
                  case atStart => exact ⟨0, Nat.zero_le _, rfl, hbi'⟩
                  case round =>
                    obtain ⟨k, hk, rfl, hbk⟩ := hrel
                    clear hbi' hrl2 hru2
                    by_cases hlt3 : k < i
                    · have hkl : k < l.length := by omega
                      have hrl3 := hrl.below hbk
                      have hru3 := hru.below hbk
                      obtain ⟨b1, f1', e1', hb1', k0, k1, k2, k3⟩ := hrl3.inst k hkl
                      cases e1'
                      obtain ⟨b2, f2', e2', hb2', v0⟩ := hru3.num k (by rw [hPr.len]; exact hkl)
                      cases e2'
                      obtain ⟨b3, f3', e3', hb3', i0, i1, i2, i3⟩ := hrl3.inst i hil
                      cases e3'
                      obtain ⟨b4, f4', e4', hb4', vi⟩ := hru3.num i (by rw [hPr.len]; exact hil)
                      cases e4'
                      rw [← gt_eq hil, HG.out] at i1
                      simp only at i1
                      rw [← getD_at, HU.out] at vi
                      have HK := HN2.out k hlt3
                      rw [gt_eq hkl, getD_at (by rw [hPr.len]; exact hkl)] at HK
                      have HKK : Hid (l[k].1 = 9 → (i : Int) < U[k]'(by rw [hPr.len]; exact hkl) → ¬ U[k]'(by rw [hPr.len]; exact hkl) < (j : Int) ∧ l[k].2.1 ≠ xa) := fun h1 h2 => ⟨by have := (HK h1 h2).1; omega, (HK h1 h2).2⟩
                      clear HK i0 i2 i3 k2 k3 f0 f1 f2 f3 u0 j0 j1
                      generalize U[k]'(by rw [hPr.len]; exact hkl) = Y at *
                      generalize l[k] = X at *
                      obtain ⟨Xo, Xa, Xb, Xn⟩ := X
                      simp only at k0 k1 HKK
                      have z4 : (0 : Int) ≤ (k : Int) := by omega
                      have z5 : (k : Int) < (m : Int) := by omega
                      clear HN2 hRw hAll hPr hrl hru hrl3 hru3
                      by_cases g9 : Xo = 9
                      · subst g9
                        by_cases gY : (i : Int) < Y
                        · obtain ⟨n1, n2⟩ := HKK.out rfl gY
                          have t1 : decide ((i : Int) < Y) = true := by simpa using gY
                          have t2 : decide (Y < (j : Int)) = false := by simpa using n1
                          have t3 : (Xa == xa) = false := by simpa using n2
                          clear n1 n2 gY HKK
                          go_wp2
                          go_quiet (fail)
                          go_wp2
                          go_roundw
                          case rel => exact ⟨k + 1, by omega, by go_num, bel_draws hbk _⟩
                          case measure => simp [intOf]; omega
                        · have t1 : decide ((i : Int) < Y) = false := by simpa using gY
                          clear gY HKK
                          go_wp2
                          go_quiet (fail)
                          go_wp2
                          go_roundw
                          case rel => exact ⟨k + 1, by omega, by go_num, bel_draws hbk _⟩
                          case measure => simp [intOf]; omega
                      · have t9 : (Xo == 9) = false := by simpa using g9
                        clear g9 HKK
                        go_wp2
                        go_quiet (fail)
                        go_wp2
                        go_roundw
                        case rel => exact ⟨k + 1, by omega, by go_num, bel_draws hbk _⟩
                        case measure => simp [intOf]; omega
                    · have t0 : decide ((k : Int) < (i : Int)) = false := by simpa using hlt3
                      go_wp2
                      go_roundw
                      case rel => exact ⟨i + 1, by omega, by go_num, by rw [E10.out, E9.out]; go_num, hbk⟩
                      case measure => simp [intOf]; omega
                · have d9 : (xo == 9) = false := by simpa using h9
                  have HO : Hid ((gt l i).1 = xo) := by show _ = _; rw [HG.out]
                  have hy : y = 0 := by rw [← HU.out]; exact hPr.none i (by rw [HO.out]; exact h9)
                  subst hy
                  have E10 : Hid (cntN (i + 1) (fun i => (gt l i).1 == 10) = C10) := by show _ = _; rw [cntN_no (by rw [HO.out]; exact d10), HC10.out]
                  have E9 : Hid (cntN (i + 1) (fun i => (gt l i).1 == 9) = C9) := by show _ = _; rw [cntN_no (by rw [HO.out]; exact d9), HC9.out]
                  go_wp2
                  go_roundw
                  case rel => exact ⟨i + 1, by omega, by go_num, by rw [E10.out, E9.out], hbi⟩
                  case measure => simp [intOf]; omega
            · obtain rfl : i = m := by omega
              have hcn := hPr.cnt
              rw [HM.out] at hcn
              rw [hcn]
              generalize cntN i (fun i => (gt l i).1 == 9) = C at *
              have hz : ((C : Nat) : Int) - ((C : Nat) : Int) = 0 := by omega
              rw [hz]
              clear hcn
              go_wp2
              go_roundw
              case rel => exact ⟨kk + 1, by omega, by go_num, bel_call hBf (Nat.le_refl _) hbi⟩
              case measure => simp [intOf]; omega
        · have hok' : okB l = false := by simpa using hok
          rw [hok'] at hsh
          clear hok hok'
          go_wp2_with (go_at_call 13; refine hsh.mono ?_; rintro e w7 ⟨rfl, hb7⟩)
          go_roundw
          case rel => exact ⟨kk + 1, by omega, by go_num, bel_call hbw (Nat.le_refl _) hb7⟩
          case measure => simp [intOf]; omega
      · go_wp2
        go_ret
        exact ⟨rfl, bel_call hBw (Nat.le_refl _) hbw⟩
end Go.Proofs.Ytmkcbjbgpdbdgaa
