/-
  The law FormEnds, walked.
-/
import Derived.Test.YtmkcbjbgpdbdgaaMayc
import Derived.Test.YtmkcbjbgpdbdgaaCodes
import Derived.Test.YtmkcbjbgpdbdgaaWild
import Derived.Test.YtmkcbjbgpdbdgaaLots
import Derived.Test.YtmkcbjbgpdbdgaaMid
import Derived.WalkSpells
namespace Go.Proofs.Ytmkcbjbgpdbdgaa
open Go.ChangeShapes Go.WideShapes Go.ChangeAt Go.RowKit
attribute [local go_sem ↓] Go.wp_at_zero Go.wp_at_succ

set_option maxRecDepth 100000 in
set_option maxHeartbeats 8000000 in
theorem ends_walk (p : Option Addr) (c : Nat) (n : Nat) (zs : List Int) (w : World) (hp : Rd eBy w p c zs) (hn : zs.length = n) (hbz : ∀ x ∈ zs, 0 ≤ x ∧ x ≤ 255) (hm1 : n ≤ 9223372036854775807) (sd : Int) :
    Calls Try.prog 4 #[.slice p n c, .int .i64 sd] w fun e w' => e = .returned (.bool true) ∧ Below w.heap.size w w' := by
  have HN : Hid (zs.length = n) := hn
  clear hn
  by_cases c1 : 80 < n
  · have d1 : decide ((80 : Int) < (n : Int)) = true := by simp; omega
    go_enter Try.func4, Try.ntmps4
    go_wp2_with (go_at_call 8; refine (begun_any _).mono ?_; rintro e w1 ⟨rfl, hb1⟩)
    go_ret
    exact ⟨rfl, hb1⟩
  · have d1 : decide ((80 : Int) < (n : Int)) = false := by simp; omega
    have h1000 : n ≤ 1000 := by omega
    go_enter Try.func4, Try.ntmps4
    go_wp2_with (first
      | (go_at_call 8; refine (begun_any _).mono ?_; rintro e w1 ⟨rfl, hb1⟩; have hp1 := hp.below hb1)
      | (go_at_call 9; (with_reducible (refine (made_any p c zs _ n HN.out h1000 hp1 hbz).mono ?_)); rintro e w2 ⟨rfl, pk2, hb2, hs2⟩; have hB2 := bel_call hb1 (Nat.le_refl _) hb2)
      | (go_at_call 10; (with_reducible (refine (code_any w1.heap.size _ pk2).mono ?_)); (rintro e w3 ⟨p3, n3, c3, l3, rfl, ⟨o3, a3, e3, pk3, kp3⟩, g3, g3', _⟩); have hB3 := hB2.trans (kp3.below (B := w.heap.size) (by have := hb1.size; omega) (by have := hB2.size; omega)); have hp3 := rd_under hp hB3 (fun b o e hne => (by obtain ⟨b', o', e', hlt, _⟩ := hp.pos (List.length_pos_iff.2 hne); rw [e] at e'; cases e'; exact hlt)))
      | (go_at_call 9; (with_reducible (refine (made_any p c zs _ n HN.out h1000 hp3 hbz).mono ?_)); rintro e w4 ⟨rfl, pk4, hb4, hs4⟩; have hB4 := bel_call hB3 (Nat.le_refl _) hb4; have o34 := own_below o3 hb4)
      | (go_at_call 11; (with_reducible (refine (wild_any w3.heap.size _ pk4).mono ?_)); (rintro e w5 ⟨p5, n5, c5, l5, rfl, ⟨o5, a5, e5, pk5, kp5⟩, g5, g5', _⟩); have hB5 := hB4.trans (kp5.below (B := w.heap.size) (by have := hB3.size; omega) (by have := hB4.size; omega)); have hrd3 := rd_kp (own_rd o34) kp5 (fun b o e hne => (by subst e; obtain ⟨b', o', e', hlt, _⟩ := (own_rd o3).pos (List.length_pos_iff.2 hne); cases e'; omega))))
    have hRw : Rws (w5.alloc (Obj.cells #[Value.slice p3 n3 c3, Value.slice p5 n5 c5] 22)) w5.heap.size [l3, l5] :=
      Rws.two (heap_alloc_new _ _) (hrd3.below ((Below.refl _ _).alloc (Nat.le_refl _) _)) e3 ((own_rd o5).below ((Below.refl _ _).alloc (Nat.le_refl _) _)) e5
    have hBw : Below w.heap.size w (w5.alloc (Obj.cells #[Value.slice p3 n3 c3, Value.slice p5 n5 c5] 22)) := hB5.alloc hB5.size _
    have hAll : ∀ l ∈ [l3, l5], l.all mayW = true ∧ 1 ≤ l.length ∧ l.length ≤ 23 := by
      intro l hl
      simp at hl
      rcases hl with rfl | rfl
      · exact ⟨a3, by omega, by omega⟩
      · exact ⟨a5, by omega, by omega⟩
    have hP2 : [l3, l5].length = 2 := rfl
    generalize [l3, l5] = P at *
    generalize (w5.alloc (Obj.cells #[Value.slice p3 n3 c3, Value.slice p5 n5 c5] 22)) = w6 at *
    generalize w5.heap.size = b6 at *
    clear hrd3 o5 pk5 kp5 hB5 o34 pk4 hb4 hs4 hB4 hp3 o3 pk3 kp3 hB3 pk2 hb2 hs2 hB2 hp1 hb1 a3 e3 a5 e5 g3 g3' g5 g5'
    go_loopw [6] (fun i wr => ∃ k : Nat, k ≤ 2 ∧ i = .int .i64 k ∧ Below w6.heap.size w6 wr) (fun i _ => 2 - (intOf i).toNat)
    case atStart => exact ⟨0, by omega, rfl, Below.refl _ _⟩
    case round =>
      obtain ⟨kk, hkk, rfl, hbw⟩ := hrel
      by_cases hlt : kk < 2
      · have hkP : kk < P.length := by omega
        obtain ⟨q, d, hcell, hrd⟩ := (hRw.below hbw).2 kk hkP
        have hbb := (hRw.below hbw).1
        obtain ⟨hall, hl1, hl2⟩ := hAll _ (List.getElem_mem hkP)
        generalize P[kk] = l at *
        have hallB := allW_B hall
        obtain ⟨m, hm⟩ : ∃ m, l.length = m := ⟨_, rfl⟩
        have HM : Hid (l.length = m) := hm
        rw [hm] at hcell hl1 hl2
        have hsh := shape_c q d l wr m (okB l) hm rfl hrd (by omega)
        clear hm
        by_cases hok : okB l = true
        · have HP : Hid (Prg l) := prg_of hok
          rw [hok] at hsh
          clear hok
          go_wp2_with (first
            | (go_at_call 13; refine hsh.mono ?_; rintro e w7 ⟨rfl, hb7⟩)
            | (go_at_call 16; refine (newm_any _ _).mono ?_; rintro e w8 ⟨rfl, hb8⟩))
          have hB8 : Below wr.heap.size wr w8 := bel_call hb7 (Nat.le_refl _) hb8
          have hrl : Rd eIn w8 q d l := hrd.below hB8
          have hBf : Below w6.heap.size w6 w8 := bel_call hbw (Nat.le_refl _) hB8
          have M0 : Mid l w8.heap.size w8 (w8.alloc (.cells #[.int .i64 0, .int .i64 sd, .int .i64 0, .int .i64 0, .int .i64 0, .int .i64 0, .int .i64 0, .int .i64 0, .int .i64 0, .slice none 0 0, .bool false] 38)) 0 sd 0 0 0 0 0 0 0 none 0 0 [] false 0 none 0 0 [] :=
            ⟨heap_at rfl, own_nil _ _ _, rfl, by omega, own_nil _ _ _, rfl, by omega, by omega, fun _ => ⟨0, rfl, by rw [HM.out]; omega, trivial, rfl, by show (0 : Int) + 9 * ((l.length : Int) - 0) ≤ 216; rw [HM.out]; omega⟩, (by repeat (first | exact Below.refl _ _ | refine Below.alloc ?_ (by simp <;> omega) _ | refine Below.setCell ?_ (by simp <;> omega) _))⟩
          clear hsh hb7 hb8 hrd hcell hB8 hbw hbb
          generalize hgm : w8.heap.size = gm at M0 ⊢
          generalize w8.alloc (.cells #[.int .i64 0, .int .i64 sd, .int .i64 0, .int .i64 0, .int .i64 0, .int .i64 0, .int .i64 0, .int .i64 0, .int .i64 0, .slice none 0 0, .bool false] 38) = wa at M0 ⊢
          go_loopw [9, 10] (fun h t wx => ∃ (pc : Int) (m0 m1 m2 m3 m4 m5 m6 m7 : Int) (qr : Option Addr) (k dr : Nat) (R : List Rp) (ov : Bool) (nn : Nat) (qh : Option Addr) (mh dh : Nat) (H : List Int), h = .slice qh mh dh ∧ t = .int .i64 nn ∧ Mid l gm w8 wx pc m0 m1 m2 m3 m4 m5 m6 m7 qr k dr R ov nn qh mh dh H) (fun _ t _ => 1000 - (intOf t).toNat)
          case atStart => exact ⟨_, _, _, _, _, _, _, _, _, _, _, _, _, _, _, _, _, _, _, rfl, rfl, M0⟩
          case round =>
            obtain ⟨pc, m0, m1, m2, m3, m4, m5, m6, m7, qr, k, dr, R, ov, nn, qh, mh, dh, H, rfl, rfl, hMid⟩ := hrel
            clear M0
            have hMid' := hMid
            obtain ⟨hrow, oR, HKR, hk2, oH, HH, hmh, hnn, hAt, hBx⟩ := hMid'
            have hgz := lt_of_block hrow
            have fr := fun j => frozen_of_row _ _ j _ _ hrow
            have n0 : wr.cell? ⟨gm, 0, none⟩ = some (.int .i64 pc) := by rw [cell_of_row _ _ _ _ _ _ hrow]; rfl
            have n1 : wr.cell? ⟨gm, 1, none⟩ = some (.int .i64 m0) := by rw [cell_of_row _ _ _ _ _ _ hrow]; rfl
            have n2 : wr.cell? ⟨gm, 2, none⟩ = some (.int .i64 m1) := by rw [cell_of_row _ _ _ _ _ _ hrow]; rfl
            have n3 : wr.cell? ⟨gm, 3, none⟩ = some (.int .i64 m2) := by rw [cell_of_row _ _ _ _ _ _ hrow]; rfl
            have n4 : wr.cell? ⟨gm, 4, none⟩ = some (.int .i64 m3) := by rw [cell_of_row _ _ _ _ _ _ hrow]; rfl
            have n5 : wr.cell? ⟨gm, 5, none⟩ = some (.int .i64 m4) := by rw [cell_of_row _ _ _ _ _ _ hrow]; rfl
            have n6 : wr.cell? ⟨gm, 6, none⟩ = some (.int .i64 m5) := by rw [cell_of_row _ _ _ _ _ _ hrow]; rfl
            have n7 : wr.cell? ⟨gm, 7, none⟩ = some (.int .i64 m6) := by rw [cell_of_row _ _ _ _ _ _ hrow]; rfl
            have n8 : wr.cell? ⟨gm, 8, none⟩ = some (.int .i64 m7) := by rw [cell_of_row _ _ _ _ _ _ hrow]; rfl
            have n9 : wr.cell? ⟨gm, 9, none⟩ = some (.slice qr k dr) := by rw [cell_of_row _ _ _ _ _ _ hrow]; rfl
            have n10 : wr.cell? ⟨gm, 10, none⟩ = some (.bool ov) := by rw [cell_of_row _ _ _ _ _ _ hrow]; rfl
            cases ov with
            | true =>
              go_wp2
              go_roundw
              case rel => exact ⟨kk + 1, by omega, by go_num, bel_call hBf (Nat.le_refl _) (by rw [hgm]; exact hBx)⟩
              case measure => simp [intOf]; omega
            | false =>
              obtain ⟨pp, rfl, hpc, hC, hHe, hphi⟩ := hAt rfl
              obtain ⟨⟨xo, xa, xb, xn⟩, hg⟩ : ∃ x, gt l pp = x := ⟨_, rfl⟩
              have HG : Hid (gt l pp = (xo, xa, xb, xn)) := hg
              have hpm : pp < m := by rw [← HM.out]; exact hpc
              have hrx : Rd eIn wr q d l := hrl.below (by rw [hgm]; exact hBx)
              have hstep := step_lit q d l wr hrx m HM.out (by omega) hallB pp hpm m0 m1 m2 m3 m4 m5 m6 m7 qr dr k R (own_rd oR) HKR (by omega) (fun r hr => ch_bd hC r (List.mem_reverse.2 hr)) xo xa xb xn hg
              have HHE : Hid (H = hA l pp) := hHe
              have HCH : Hid (Ch l pp pp R.reverse) := hC
              have HPC : Hid (pp < l.length) := hpc
              have d20 : decide ((20000 : Int) < (nn : Int)) = false := decide_eq_false (by omega)
              have d20' : decide (20000 < nn) = false := decide_eq_false (by omega)
              clear hg hHe hphi hAt hC hpc
              by_cases h9 : xo = 9
              · have e9 : (xo == 9) = true := by simpa using h9
                have hlk := hA_lock HP.out.pair HPC.out (by rw [HG.out]; exact h9)
                have HHN9 : Hid (H ++ [xa] = hA l (pp + 1)) := by show _ = _; rw [hlk.1, ← HHE.out, HG.out]
                have hcase : H = [] ∨ ∃ a, H = [a] ∧ a ≠ xa := by have h := hlk.2; rw [← HHE.out, HG.out] at h; exact h
                have HH9 : Hid ((H ++ [xa]).length = mh + 1) := by show _ = _; rw [List.length_append, HH]; rfl
                clear hlk h9
                rcases hcase with rfl | ⟨a, rfl, hne⟩
                · obtain rfl : mh = 0 := HH.symm
                  go_wp2_with (first
                    | (go_at_call 17; go_must (refine hstep.mono ?_; rintro e w9 ⟨⟨pcF, a0, a1, a2, a3, a4, a5, a6, a7, q9, d9, k9, RF, ov9, rfl, HK9, o9, hrel9⟩, b9⟩; have hz9 := b9.size; have hrow9 := (b9.block gm hgz).trans hrow; have hgz9 : gm < w9.heap.size := (by omega); have gn1 : ¬ gm = w9.heap.size := (by omega); have gn2 : ¬ gm = w9.heap.size + 1 := (by omega); have oH9 := own_below oH b9; have oR9 := own_mono o9 (show gm + 1 ≤ wr.heap.size + 3 by omega); skip)))
                  go_quiet (fail)
                  have oRd : Own eRp (((w9.alloc (.cells #[.int .i64 pcF, .int .i64 a0, .int .i64 a1, .int .i64 a2, .int .i64 a3, .int .i64 a4, .int .i64 a5, .int .i64 a6, .int .i64 a7, .slice q9 k9 d9, .bool ov9] 38)).alloc (.cells #[.int .i64 xo, .int .i64 xa, .int .i64 xb, .int .i64 xn] 41)).drewN nq) (gm + 1) 69 q9 d9 RF := own_below (own_al (own_al oR9 _) _) (bel_draws (Below.refl _ _) _)
                  have oHd := own_below (own_al (own_al oH9 (.cells #[.int .i64 pcF, .int .i64 a0, .int .i64 a1, .int .i64 a2, .int .i64 a3, .int .i64 a4, .int .i64 a5, .int .i64 a6, .int .i64 a7, .slice q9 k9 d9, .bool ov9] 38)) (.cells #[.int .i64 xo, .int .i64 xa, .int .i64 xb, .int .i64 xn] 41)) (bel_draws (Below.refl _ _) nq)
                  have hNd : (((w9.alloc (.cells #[.int .i64 pcF, .int .i64 a0, .int .i64 a1, .int .i64 a2, .int .i64 a3, .int .i64 a4, .int .i64 a5, .int .i64 a6, .int .i64 a7, .slice q9 k9 d9, .bool ov9] 38)).alloc (.cells #[.int .i64 xo, .int .i64 xa, .int .i64 xb, .int .i64 xn] 41)).drewN nq).heap[w9.heap.size]? = some (.cells #[.int .i64 pcF, .int .i64 a0, .int .i64 a1, .int .i64 a2, .int .i64 a3, .int .i64 a4, .int .i64 a5, .int .i64 a6, .int .i64 a7, .slice q9 k9 d9, .bool ov9] 38 (0, 0)) := (show ((w9.alloc (.cells #[.int .i64 pcF, .int .i64 a0, .int .i64 a1, .int .i64 a2, .int .i64 a3, .int .i64 a4, .int .i64 a5, .int .i64 a6, .int .i64 a7, .slice q9 k9 d9, .bool ov9] 38)).alloc (.cells #[.int .i64 xo, .int .i64 xa, .int .i64 xb, .int .i64 xn] 41)).heap[w9.heap.size]? = _ from (Below.heap_alloc _ _ _ (by simp)).trans (heap_at rfl))
                  have hId : (((w9.alloc (.cells #[.int .i64 pcF, .int .i64 a0, .int .i64 a1, .int .i64 a2, .int .i64 a3, .int .i64 a4, .int .i64 a5, .int .i64 a6, .int .i64 a7, .slice q9 k9 d9, .bool ov9] 38)).alloc (.cells #[.int .i64 xo, .int .i64 xa, .int .i64 xb, .int .i64 xn] 41)).drewN nq).heap[w9.heap.size + 1]? = some (.cells #[.int .i64 xo, .int .i64 xa, .int .i64 xb, .int .i64 xn] 41 (0, 0)) := (show ((w9.alloc (.cells #[.int .i64 pcF, .int .i64 a0, .int .i64 a1, .int .i64 a2, .int .i64 a3, .int .i64 a4, .int .i64 a5, .int .i64 a6, .int .i64 a7, .slice q9 k9 d9, .bool ov9] 38)).alloc (.cells #[.int .i64 xo, .int .i64 xa, .int .i64 xb, .int .i64 xn] 41)).heap[w9.heap.size + 1]? = _ from heap_at (by simp))
                  have bd : Below (gm + 1) w9 (((w9.alloc (.cells #[.int .i64 pcF, .int .i64 a0, .int .i64 a1, .int .i64 a2, .int .i64 a3, .int .i64 a4, .int .i64 a5, .int .i64 a6, .int .i64 a7, .slice q9 k9 d9, .bool ov9] 38)).alloc (.cells #[.int .i64 xo, .int .i64 xa, .int .i64 xb, .int .i64 xn] 41)).drewN nq) := bel_draws (by repeat (first | exact Below.refl _ _ | refine Below.alloc ?_ (by first | omega | (simp <;> omega)) _ | refine Below.setCell ?_ (by first | omega | (simp <;> omega)) _)) _
                  have hzd : w9.heap.size + 2 ≤ (((w9.alloc (.cells #[.int .i64 pcF, .int .i64 a0, .int .i64 a1, .int .i64 a2, .int .i64 a3, .int .i64 a4, .int .i64 a5, .int .i64 a6, .int .i64 a7, .slice q9 k9 d9, .bool ov9] 38)).alloc (.cells #[.int .i64 xo, .int .i64 xa, .int .i64 xb, .int .i64 xn] 41)).drewN nq).heap.size := by show _ ≤ ((w9.alloc (.cells #[.int .i64 pcF, .int .i64 a0, .int .i64 a1, .int .i64 a2, .int .i64 a3, .int .i64 a4, .int .i64 a5, .int .i64 a6, .int .i64 a7, .slice q9 k9 d9, .bool ov9] 38)).alloc (.cells #[.int .i64 xo, .int .i64 xa, .int .i64 xb, .int .i64 xn] 41)).heap.size; simp
                  generalize (((w9.alloc (.cells #[.int .i64 pcF, .int .i64 a0, .int .i64 a1, .int .i64 a2, .int .i64 a3, .int .i64 a4, .int .i64 a5, .int .i64 a6, .int .i64 a7, .slice q9 k9 d9, .bool ov9] 38)).alloc (.cells #[.int .i64 xo, .int .i64 xa, .int .i64 xb, .int .i64 xn] 41)).drewN nq) = wd at *
                  have x1 : wd.cell? ⟨w9.heap.size + 1, 1, none⟩ = some (.int .i64 xa) := by rw [cell_of_row _ _ _ _ _ _ hId]; rfl
                  have hgd : gm < wd.heap.size := by omega
                  have hd1 : w9.heap.size + 1 < wd.heap.size := by omega
                  go_wp2_with (first
                    | (at_builtin; go_must (refine wpList_app tI _ rfl _ _ rfl (gm + 1) _ _ [] 0 rfl rfl (own_al oHd _) _ 1 [xa] 1 rfl rfl (rd_int1 (heap_at (by first | rfl | simp))) (by omega) (by simp <;> omega) (0 + 1) rfl ?_); intro p10 c10 w10 o10 b10 st10; go_must (obtain ⟨oR10, hN10, b910⟩ := lock9 oRd oHd hNd hgd b10 st10); have nn0 : w10.cell? ⟨w9.heap.size, 0, none⟩ = some (.int .i64 pcF) := (by rw [cell_of_row _ _ _ _ _ _ hN10]; rfl); have nn1 : w10.cell? ⟨w9.heap.size, 1, none⟩ = some (.int .i64 a0) := (by rw [cell_of_row _ _ _ _ _ _ hN10]; rfl); have nn2 : w10.cell? ⟨w9.heap.size, 2, none⟩ = some (.int .i64 a1) := (by rw [cell_of_row _ _ _ _ _ _ hN10]; rfl); have nn3 : w10.cell? ⟨w9.heap.size, 3, none⟩ = some (.int .i64 a2) := (by rw [cell_of_row _ _ _ _ _ _ hN10]; rfl); have nn4 : w10.cell? ⟨w9.heap.size, 4, none⟩ = some (.int .i64 a3) := (by rw [cell_of_row _ _ _ _ _ _ hN10]; rfl); have nn5 : w10.cell? ⟨w9.heap.size, 5, none⟩ = some (.int .i64 a4) := (by rw [cell_of_row _ _ _ _ _ _ hN10]; rfl); have nn6 : w10.cell? ⟨w9.heap.size, 6, none⟩ = some (.int .i64 a5) := (by rw [cell_of_row _ _ _ _ _ _ hN10]; rfl); have nn7 : w10.cell? ⟨w9.heap.size, 7, none⟩ = some (.int .i64 a6) := (by rw [cell_of_row _ _ _ _ _ _ hN10]; rfl); have nn8 : w10.cell? ⟨w9.heap.size, 8, none⟩ = some (.int .i64 a7) := (by rw [cell_of_row _ _ _ _ _ _ hN10]; rfl); have nn9 : w10.cell? ⟨w9.heap.size, 9, none⟩ = some (.slice q9 k9 d9) := (by rw [cell_of_row _ _ _ _ _ _ hN10]; rfl); have nn10 : w10.cell? ⟨w9.heap.size, 10, none⟩ = some (.bool ov9) := (by rw [cell_of_row _ _ _ _ _ _ hN10]; rfl); have hz10 := b910.size)
                    | (refine wpList_store_row rfl 38 (.tmp 8) (.tmp 120) rfl gm #[.int .i64 pcF, .int .i64 a0, .int .i64 a1, .int .i64 a2, .int .i64 a3, .int .i64 a4, .int .i64 a5, .int .i64 a6, .int .i64 a7, .slice q9 k9 d9, .bool ov9] rfl rfl 38 #[.int .i64 (pp : Int), .int .i64 m0, .int .i64 m1, .int .i64 m2, .int .i64 m3, .int .i64 m4, .int .i64 m5, .int .i64 m6, .int .i64 m7, .slice qr k dr, .bool false] ((b910.block gm (by omega)).trans ((bd.block gm (by omega)).trans hrow9)) info38 rfl (ones11 _ _ _ _ _ _ _ _ _ _ _ _ _) ?_))
                  go_roundw
                  case rel => exact ⟨_, _, _, _, _, _, _, _, _, _, _, _, _, _, nn + 1, _, _, _, _, rfl, by go_num, mid_go HP.out hall hMid HG.out hrel9 b9 _ _ _ _ _ _ _ _ HK9 oR10 o10 HH9.out (by omega) (fun _ => HHN9.out) (bd.trans b910)⟩
                  case measure => simp [intOf]; omega
                · obtain rfl : mh = 1 := HH.symm
                  obtain ⟨bh, oh, rfl, hbh, v0⟩ := (own_rd oH).num 0 (by simp)
                  simp only [Nat.add_zero, List.getElem_cons_zero] at v0
                  have en : (a == xa) = false := by simpa using hne
                  clear hne
                  go_wp2_with (first
                    | (go_at_call 17; go_must (refine hstep.mono ?_; rintro e w9 ⟨⟨pcF, a0, a1, a2, a3, a4, a5, a6, a7, q9, d9, k9, RF, ov9, rfl, HK9, o9, hrel9⟩, b9⟩; have hz9 := b9.size; have hrow9 := (b9.block gm hgz).trans hrow; have hgz9 : gm < w9.heap.size := (by omega); have gn1 : ¬ gm = w9.heap.size := (by omega); have gn2 : ¬ gm = w9.heap.size + 1 := (by omega); have oH9 := own_below oH b9; have oR9 := own_mono o9 (show gm + 1 ≤ wr.heap.size + 3 by omega); have v9 := (b9.cell (p := ⟨bh, oh, none⟩) hbh).trans v0; have hbz9 : bh < w9.heap.size := (by omega))))
                  go_quiet (fail)
                  have oRd : Own eRp (((w9.alloc (.cells #[.int .i64 pcF, .int .i64 a0, .int .i64 a1, .int .i64 a2, .int .i64 a3, .int .i64 a4, .int .i64 a5, .int .i64 a6, .int .i64 a7, .slice q9 k9 d9, .bool ov9] 38)).alloc (.cells #[.int .i64 xo, .int .i64 xa, .int .i64 xb, .int .i64 xn] 41)).drewN nq) (gm + 1) 69 q9 d9 RF := own_below (own_al (own_al oR9 _) _) (bel_draws (Below.refl _ _) _)
                  have oHd := own_below (own_al (own_al oH9 (.cells #[.int .i64 pcF, .int .i64 a0, .int .i64 a1, .int .i64 a2, .int .i64 a3, .int .i64 a4, .int .i64 a5, .int .i64 a6, .int .i64 a7, .slice q9 k9 d9, .bool ov9] 38)) (.cells #[.int .i64 xo, .int .i64 xa, .int .i64 xb, .int .i64 xn] 41)) (bel_draws (Below.refl _ _) nq)
                  have hNd : (((w9.alloc (.cells #[.int .i64 pcF, .int .i64 a0, .int .i64 a1, .int .i64 a2, .int .i64 a3, .int .i64 a4, .int .i64 a5, .int .i64 a6, .int .i64 a7, .slice q9 k9 d9, .bool ov9] 38)).alloc (.cells #[.int .i64 xo, .int .i64 xa, .int .i64 xb, .int .i64 xn] 41)).drewN nq).heap[w9.heap.size]? = some (.cells #[.int .i64 pcF, .int .i64 a0, .int .i64 a1, .int .i64 a2, .int .i64 a3, .int .i64 a4, .int .i64 a5, .int .i64 a6, .int .i64 a7, .slice q9 k9 d9, .bool ov9] 38 (0, 0)) := (show ((w9.alloc (.cells #[.int .i64 pcF, .int .i64 a0, .int .i64 a1, .int .i64 a2, .int .i64 a3, .int .i64 a4, .int .i64 a5, .int .i64 a6, .int .i64 a7, .slice q9 k9 d9, .bool ov9] 38)).alloc (.cells #[.int .i64 xo, .int .i64 xa, .int .i64 xb, .int .i64 xn] 41)).heap[w9.heap.size]? = _ from (Below.heap_alloc _ _ _ (by simp)).trans (heap_at rfl))
                  have hId : (((w9.alloc (.cells #[.int .i64 pcF, .int .i64 a0, .int .i64 a1, .int .i64 a2, .int .i64 a3, .int .i64 a4, .int .i64 a5, .int .i64 a6, .int .i64 a7, .slice q9 k9 d9, .bool ov9] 38)).alloc (.cells #[.int .i64 xo, .int .i64 xa, .int .i64 xb, .int .i64 xn] 41)).drewN nq).heap[w9.heap.size + 1]? = some (.cells #[.int .i64 xo, .int .i64 xa, .int .i64 xb, .int .i64 xn] 41 (0, 0)) := (show ((w9.alloc (.cells #[.int .i64 pcF, .int .i64 a0, .int .i64 a1, .int .i64 a2, .int .i64 a3, .int .i64 a4, .int .i64 a5, .int .i64 a6, .int .i64 a7, .slice q9 k9 d9, .bool ov9] 38)).alloc (.cells #[.int .i64 xo, .int .i64 xa, .int .i64 xb, .int .i64 xn] 41)).heap[w9.heap.size + 1]? = _ from heap_at (by simp))
                  have bd : Below (gm + 1) w9 (((w9.alloc (.cells #[.int .i64 pcF, .int .i64 a0, .int .i64 a1, .int .i64 a2, .int .i64 a3, .int .i64 a4, .int .i64 a5, .int .i64 a6, .int .i64 a7, .slice q9 k9 d9, .bool ov9] 38)).alloc (.cells #[.int .i64 xo, .int .i64 xa, .int .i64 xb, .int .i64 xn] 41)).drewN nq) := bel_draws (by repeat (first | exact Below.refl _ _ | refine Below.alloc ?_ (by first | omega | (simp <;> omega)) _ | refine Below.setCell ?_ (by first | omega | (simp <;> omega)) _)) _
                  have hzd : w9.heap.size + 2 ≤ (((w9.alloc (.cells #[.int .i64 pcF, .int .i64 a0, .int .i64 a1, .int .i64 a2, .int .i64 a3, .int .i64 a4, .int .i64 a5, .int .i64 a6, .int .i64 a7, .slice q9 k9 d9, .bool ov9] 38)).alloc (.cells #[.int .i64 xo, .int .i64 xa, .int .i64 xb, .int .i64 xn] 41)).drewN nq).heap.size := by show _ ≤ ((w9.alloc (.cells #[.int .i64 pcF, .int .i64 a0, .int .i64 a1, .int .i64 a2, .int .i64 a3, .int .i64 a4, .int .i64 a5, .int .i64 a6, .int .i64 a7, .slice q9 k9 d9, .bool ov9] 38)).alloc (.cells #[.int .i64 xo, .int .i64 xa, .int .i64 xb, .int .i64 xn] 41)).heap.size; simp
                  generalize (((w9.alloc (.cells #[.int .i64 pcF, .int .i64 a0, .int .i64 a1, .int .i64 a2, .int .i64 a3, .int .i64 a4, .int .i64 a5, .int .i64 a6, .int .i64 a7, .slice q9 k9 d9, .bool ov9] 38)).alloc (.cells #[.int .i64 xo, .int .i64 xa, .int .i64 xb, .int .i64 xn] 41)).drewN nq) = wd at *
                  have x1 : wd.cell? ⟨w9.heap.size + 1, 1, none⟩ = some (.int .i64 xa) := by rw [cell_of_row _ _ _ _ _ _ hId]; rfl
                  have hgd : gm < wd.heap.size := by omega
                  have hd1 : w9.heap.size + 1 < wd.heap.size := by omega
                  go_wp2_with (first
                    | (at_builtin; go_must (refine wpList_app tI _ rfl _ _ rfl (gm + 1) _ _ [a] 1 rfl rfl (own_al oHd _) _ 1 [xa] 1 rfl rfl (rd_int1 (heap_at (by first | rfl | simp))) (by omega) (by simp <;> omega) (1 + 1) rfl ?_); intro p10 c10 w10 o10 b10 st10; go_must (obtain ⟨oR10, hN10, b910⟩ := lock9 oRd oHd hNd hgd b10 st10); have nn0 : w10.cell? ⟨w9.heap.size, 0, none⟩ = some (.int .i64 pcF) := (by rw [cell_of_row _ _ _ _ _ _ hN10]; rfl); have nn1 : w10.cell? ⟨w9.heap.size, 1, none⟩ = some (.int .i64 a0) := (by rw [cell_of_row _ _ _ _ _ _ hN10]; rfl); have nn2 : w10.cell? ⟨w9.heap.size, 2, none⟩ = some (.int .i64 a1) := (by rw [cell_of_row _ _ _ _ _ _ hN10]; rfl); have nn3 : w10.cell? ⟨w9.heap.size, 3, none⟩ = some (.int .i64 a2) := (by rw [cell_of_row _ _ _ _ _ _ hN10]; rfl); have nn4 : w10.cell? ⟨w9.heap.size, 4, none⟩ = some (.int .i64 a3) := (by rw [cell_of_row _ _ _ _ _ _ hN10]; rfl); have nn5 : w10.cell? ⟨w9.heap.size, 5, none⟩ = some (.int .i64 a4) := (by rw [cell_of_row _ _ _ _ _ _ hN10]; rfl); have nn6 : w10.cell? ⟨w9.heap.size, 6, none⟩ = some (.int .i64 a5) := (by rw [cell_of_row _ _ _ _ _ _ hN10]; rfl); have nn7 : w10.cell? ⟨w9.heap.size, 7, none⟩ = some (.int .i64 a6) := (by rw [cell_of_row _ _ _ _ _ _ hN10]; rfl); have nn8 : w10.cell? ⟨w9.heap.size, 8, none⟩ = some (.int .i64 a7) := (by rw [cell_of_row _ _ _ _ _ _ hN10]; rfl); have nn9 : w10.cell? ⟨w9.heap.size, 9, none⟩ = some (.slice q9 k9 d9) := (by rw [cell_of_row _ _ _ _ _ _ hN10]; rfl); have nn10 : w10.cell? ⟨w9.heap.size, 10, none⟩ = some (.bool ov9) := (by rw [cell_of_row _ _ _ _ _ _ hN10]; rfl); have hz10 := b910.size)
                    | (refine wpList_store_row rfl 38 (.tmp 8) (.tmp 120) rfl gm #[.int .i64 pcF, .int .i64 a0, .int .i64 a1, .int .i64 a2, .int .i64 a3, .int .i64 a4, .int .i64 a5, .int .i64 a6, .int .i64 a7, .slice q9 k9 d9, .bool ov9] rfl rfl 38 #[.int .i64 (pp : Int), .int .i64 m0, .int .i64 m1, .int .i64 m2, .int .i64 m3, .int .i64 m4, .int .i64 m5, .int .i64 m6, .int .i64 m7, .slice qr k dr, .bool false] ((b910.block gm (by omega)).trans ((bd.block gm (by omega)).trans hrow9)) info38 rfl (ones11 _ _ _ _ _ _ _ _ _ _ _ _ _) ?_))
                  go_roundw
                  case rel => exact ⟨_, _, _, _, _, _, _, _, _, _, _, _, _, _, nn + 1, _, _, _, _, rfl, by go_num, mid_go HP.out hall hMid HG.out hrel9 b9 _ _ _ _ _ _ _ _ HK9 oR10 o10 HH9.out (by omega) (fun _ => HHN9.out) (bd.trans b910)⟩
                  case measure => simp [intOf]; omega
              · have e9 : (xo == 9) = false := by simpa using h9
                by_cases h10 : xo = 10
                · have e10 : (xo == 10) = true := by simpa using h10
                  have hun := hA_un HP.out.pair HPC.out (by rw [HG.out]; exact h10)
                  obtain ⟨H1, hH1, hl1'⟩ : ∃ H1, H1 = hA l (pp + 1) ∧ H1.length ≤ 1 := ⟨_, rfl, hun.2⟩
                  obtain rfl : H = H1 ++ [xa] := by rw [HHE.out, hun.1, hH1, HG.out]
                  have HH1 : Hid (H1 = hA l (pp + 1)) := hH1
                  clear hun hH1
                  obtain ⟨u1, hu1⟩ : ∃ u1, H1.length = u1 := ⟨_, rfl⟩
                  have HH2 : Hid (H1.length = u1) := hu1
                  have hmm : mh = u1 + 1 := by rw [← HH, List.length_append, hu1]; rfl
                  have hcap := own_cap oH
                  rw [HH] at hcap
                  obtain ⟨bh, oh, rfl, hbh, v0⟩ := (own_rd oH).num u1 (by rw [HH]; omega)
                  have hx : (H1 ++ [xa])[u1]'(by rw [HH]; omega) = xa := by
                    rw [List.getElem_append_right (by rw [hu1]; exact Nat.le_refl _)]
                    simp [hu1]
                  rw [hx] at v0
                  rw [hu1] at hl1'
                  have y0 : ((mh : Int) == 0) = false := by simp; omega
                  have y0' : (mh == 0) = false := by simp; omega
                  have y1 : (mh : Int) - 1 = (u1 : Int) := by omega
                  have y2 : (0 : Int) ≤ (u1 : Int) := by omega
                  have y3 : (u1 : Int) < (mh : Int) := by omega
                  have y4 : (u1 : Int) ≤ (dh : Int) := by omega
                  have y5 : u1 ≤ dh := by omega
                  have HHm : Hid ((H1 ++ [xa]).length = mh) := HH
                  have HMM : Hid (mh = u1 + 1) := hmm
                  clear hx hu1 hmm hcap h9 h10 HH
                  go_wp2_with (first
                    | (go_at_call 17; go_must (refine hstep.mono ?_; rintro e w9 ⟨⟨pcF, a0, a1, a2, a3, a4, a5, a6, a7, q9, d9, k9, RF, ov9, rfl, HK9, o9, hrel9⟩, b9⟩; have hz9 := b9.size; have hrow9 := (b9.block gm hgz).trans hrow; have hgz9 : gm < w9.heap.size := (by omega); have gn1 : ¬ gm = w9.heap.size := (by omega); have gn2 : ¬ gm = w9.heap.size + 1 := (by omega); have oH9 := own_below oH b9; have oR9 := own_mono o9 (show gm + 1 ≤ wr.heap.size + 3 by omega); have v9 := (b9.cell (p := ⟨bh, oh + u1, none⟩) hbh).trans v0; have hbz9 : bh < w9.heap.size := (by omega); have oT9 : Own eI w9 (gm + 1) 3 (some ⟨bh, oh, none⟩) dh H1 := (by have h := own_takeE oH9 (by rw [HHm.out]; omega) u1 (by rw [HHm.out]; omega); rwa [List.take_left' HH2.out] at h)))
                    | (refine wpList_store_row rfl 38 (.tmp 8) (.tmp 120) rfl gm #[.int .i64 pcF, .int .i64 a0, .int .i64 a1, .int .i64 a2, .int .i64 a3, .int .i64 a4, .int .i64 a5, .int .i64 a6, .int .i64 a7, .slice q9 k9 d9, .bool ov9] rfl rfl 38 #[.int .i64 (pp : Int), .int .i64 m0, .int .i64 m1, .int .i64 m2, .int .i64 m3, .int .i64 m4, .int .i64 m5, .int .i64 m6, .int .i64 m7, .slice qr k dr, .bool false] ((by refine Eq.trans (show _ = ((w9.alloc (.cells #[.int .i64 pcF, .int .i64 a0, .int .i64 a1, .int .i64 a2, .int .i64 a3, .int .i64 a4, .int .i64 a5, .int .i64 a6, .int .i64 a7, .slice q9 k9 d9, .bool ov9] 38)).alloc (.cells #[.int .i64 xo, .int .i64 xa, .int .i64 xb, .int .i64 xn] 41)).heap[gm]? from rfl) ?_; refine Eq.trans ?_ hrow9; exact (Below.heap_alloc _ _ _ (by first | omega | (simp; omega))).trans (Below.heap_alloc _ _ _ (by first | omega | (simp; omega))))) info38 rfl (ones11 _ _ _ _ _ _ _ _ _ _ _ _ _) ?_))
                  go_quiet (fail)
                  go_wp2_with (first
                    | (refine wpList_store_row rfl 38 (.tmp 8) (.tmp 120) rfl gm #[.int .i64 pcF, .int .i64 a0, .int .i64 a1, .int .i64 a2, .int .i64 a3, .int .i64 a4, .int .i64 a5, .int .i64 a6, .int .i64 a7, .slice q9 k9 d9, .bool ov9] rfl rfl 38 #[.int .i64 (pp : Int), .int .i64 m0, .int .i64 m1, .int .i64 m2, .int .i64 m3, .int .i64 m4, .int .i64 m5, .int .i64 m6, .int .i64 m7, .slice qr k dr, .bool false] ((by refine Eq.trans (show _ = ((w9.alloc (.cells #[.int .i64 pcF, .int .i64 a0, .int .i64 a1, .int .i64 a2, .int .i64 a3, .int .i64 a4, .int .i64 a5, .int .i64 a6, .int .i64 a7, .slice q9 k9 d9, .bool ov9] 38)).alloc (.cells #[.int .i64 xo, .int .i64 xa, .int .i64 xb, .int .i64 xn] 41)).heap[gm]? from rfl) ?_; refine Eq.trans ?_ hrow9; exact (Below.heap_alloc _ _ _ (by first | omega | (simp; omega))).trans (Below.heap_alloc _ _ _ (by first | omega | (simp; omega))))) info38 rfl (ones11 _ _ _ _ _ _ _ _ _ _ _ _ _) ?_))
                  go_roundw
                  case rel => exact ⟨_, _, _, _, _, _, _, _, _, _, _, _, _, _, nn + 1, _, _, _, H1, rfl, by go_num, mid_go HP.out hall hMid HG.out hrel9 b9 _ _ _ _ _ _ _ _ HK9 (own_below (own_al (own_al oR9 _) _) (bel_draws (Below.refl _ _) _)) (own_below (own_al (own_al oT9 _) _) (bel_draws (Below.refl _ _) _)) (by first | exact HH | exact HH2.out) (by omega) (fun _ => HH1.out) (bel_draws (by repeat (first | exact Below.refl _ _ | refine Below.alloc ?_ (by first | omega | (simp <;> omega)) _ | refine Below.setCell ?_ (by first | omega | (simp <;> omega)) _)) _)⟩
                  case measure => simp [intOf]; omega
                · have e10 : (xo == 10) = false := by simpa using h10
                  have HHN : Hid (H = hA l (pp + 1)) := by show _ = _; rw [hA_other HP.out.pair HPC.out (by rw [HG.out]; exact h9) (by rw [HG.out]; exact h10)]; exact HHE.out
                  by_cases h11 : xo = 11
                  · have e11 : (xo == 11) = true := by simpa using h11
                    have e0 : (xo == 0) = false := by simp; omega
                    obtain rfl : H = [] := HHE.out.trans (hA_mark HP.out HPC.out (by rw [HG.out]; exact h11))
                    obtain rfl : mh = 0 := HH.symm
                    have HRR : Hid (R.reverse = []) := rep_mark HP.out HPC.out (by rw [HG.out]; exact h11) HCH.out
                    have H11 : Hid (xo = 11) := h11
                    clear h9 h10 h11
                    go_wp2_with (first
                      | (go_at_call 17; go_must (refine hstep.mono ?_; rintro e w9 ⟨⟨pcF, a0, a1, a2, a3, a4, a5, a6, a7, q9, d9, k9, RF, ov9, rfl, HK9, o9, hrel9⟩, b9⟩; have hz9 := b9.size; have hrow9 := (b9.block gm hgz).trans hrow; have hgz9 : gm < w9.heap.size := (by omega); have gn1 : ¬ gm = w9.heap.size := (by omega); have gn2 : ¬ gm = w9.heap.size + 1 := (by omega); have oH9 := own_below oH b9; have oR9 := own_mono o9 (show gm + 1 ≤ wr.heap.size + 3 by omega); have hk90 := (mark_rf HRR.out hrel9 HK9 (by rw [H11.out]; decide) (by rw [H11.out]; decide)).2; have z90 : decide ((0 : Int) < (k9 : Int)) = false := decide_eq_false (by omega); have z91 : decide (0 < k9) = false := decide_eq_false (by omega); clear hk90))
                      | (refine wpList_store_row rfl 38 (.tmp 8) (.tmp 120) rfl gm #[.int .i64 pcF, .int .i64 a0, .int .i64 a1, .int .i64 a2, .int .i64 a3, .int .i64 a4, .int .i64 a5, .int .i64 a6, .int .i64 a7, .slice q9 k9 d9, .bool ov9] rfl rfl 38 #[.int .i64 (pp : Int), .int .i64 m0, .int .i64 m1, .int .i64 m2, .int .i64 m3, .int .i64 m4, .int .i64 m5, .int .i64 m6, .int .i64 m7, .slice qr k dr, .bool false] ((by refine Eq.trans (show _ = ((w9.alloc (.cells #[.int .i64 pcF, .int .i64 a0, .int .i64 a1, .int .i64 a2, .int .i64 a3, .int .i64 a4, .int .i64 a5, .int .i64 a6, .int .i64 a7, .slice q9 k9 d9, .bool ov9] 38)).alloc (.cells #[.int .i64 xo, .int .i64 xa, .int .i64 xb, .int .i64 xn] 41)).heap[gm]? from rfl) ?_; refine Eq.trans ?_ hrow9; exact (Below.heap_alloc _ _ _ (by first | omega | (simp; omega))).trans (Below.heap_alloc _ _ _ (by first | omega | (simp; omega))))) info38 rfl (ones11 _ _ _ _ _ _ _ _ _ _ _ _ _) ?_))
                    go_roundw
                    case rel => exact ⟨_, _, _, _, _, _, _, _, _, _, _, _, _, _, nn + 1, _, _, _, [], rfl, by go_num, mid_go HP.out hall hMid HG.out hrel9 b9 _ _ _ _ _ _ _ _ HK9 (own_al (own_al oR9 _) _) (own_al (own_al oH9 _) _) (by first | exact HH | exact HH2.out) (by omega) (fun _ => HHN.out) (by repeat (first | exact Below.refl _ _ | refine Below.alloc ?_ (by first | omega | (simp <;> omega)) _ | refine Below.setCell ?_ (by first | omega | (simp <;> omega)) _))⟩
                    case measure => simp [intOf]; omega
                  · have e11 : (xo == 11) = false := by simpa using h11
                    by_cases h0 : xo = 0
                    · have e0 : (xo == 0) = true := by simpa using h0
                      obtain rfl : H = [] := HHE.out.trans (hA_end HP.out HPC.out (by rw [HG.out]; exact h0))
                      obtain rfl : mh = 0 := HH.symm
                      have H0 : Hid (xo = 0) := h0
                      clear h9 h10 h11 h0
                      go_wp2_with (first
                        | (go_at_call 17; go_must (refine hstep.mono ?_; rintro e w9 ⟨⟨pcF, a0, a1, a2, a3, a4, a5, a6, a7, q9, d9, k9, RF, ov9, rfl, HK9, o9, hrel9⟩, b9⟩; have hz9 := b9.size; have hrow9 := (b9.block gm hgz).trans hrow; have hgz9 : gm < w9.heap.size := (by omega); have gn1 : ¬ gm = w9.heap.size := (by omega); have gn2 : ¬ gm = w9.heap.size + 1 := (by omega); have oH9 := own_below oH b9; have oR9 := own_mono o9 (show gm + 1 ≤ wr.heap.size + 3 by omega); skip))
                        | (refine wpList_store_row rfl 38 (.tmp 8) (.tmp 120) rfl gm #[.int .i64 pcF, .int .i64 a0, .int .i64 a1, .int .i64 a2, .int .i64 a3, .int .i64 a4, .int .i64 a5, .int .i64 a6, .int .i64 a7, .slice q9 k9 d9, .bool ov9] rfl rfl 38 #[.int .i64 (pp : Int), .int .i64 m0, .int .i64 m1, .int .i64 m2, .int .i64 m3, .int .i64 m4, .int .i64 m5, .int .i64 m6, .int .i64 m7, .slice qr k dr, .bool false] ((by refine Eq.trans (show _ = ((w9.alloc (.cells #[.int .i64 pcF, .int .i64 a0, .int .i64 a1, .int .i64 a2, .int .i64 a3, .int .i64 a4, .int .i64 a5, .int .i64 a6, .int .i64 a7, .slice q9 k9 d9, .bool ov9] 38)).alloc (.cells #[.int .i64 xo, .int .i64 xa, .int .i64 xb, .int .i64 xn] 41)).heap[gm]? from rfl) ?_; refine Eq.trans ?_ hrow9; exact (Below.heap_alloc _ _ _ (by first | omega | (simp; omega))).trans (Below.heap_alloc _ _ _ (by first | omega | (simp; omega))))) info38 rfl (ones11 _ _ _ _ _ _ _ _ _ _ _ _ _) ?_))
                      go_roundw
                      case rel => exact ⟨_, _, _, _, _, _, _, _, _, _, _, _, _, _, nn + 1, _, _, _, [], rfl, by go_num, mid_go HP.out hall hMid HG.out hrel9 b9 _ _ _ _ _ _ _ _ HK9 (own_al (own_al oR9 _) _) (own_al (own_al oH9 _) _) (by first | exact HH | exact HH2.out) (by omega) (fun h => absurd H0.out h) (by repeat (first | exact Below.refl _ _ | refine Below.alloc ?_ (by first | omega | (simp <;> omega)) _ | refine Below.setCell ?_ (by first | omega | (simp <;> omega)) _))⟩
                      case measure => simp [intOf]; omega
                    · have e0 : (xo == 0) = false := by simpa using h0
                      clear h9 h10 h11
                      go_wp2_with (first
                        | (go_at_call 17; go_must (refine hstep.mono ?_; rintro e w9 ⟨⟨pcF, a0, a1, a2, a3, a4, a5, a6, a7, q9, d9, k9, RF, ov9, rfl, HK9, o9, hrel9⟩, b9⟩; have hz9 := b9.size; have hrow9 := (b9.block gm hgz).trans hrow; have hgz9 : gm < w9.heap.size := (by omega); have gn1 : ¬ gm = w9.heap.size := (by omega); have gn2 : ¬ gm = w9.heap.size + 1 := (by omega); have oH9 := own_below oH b9; have oR9 := own_mono o9 (show gm + 1 ≤ wr.heap.size + 3 by omega); skip))
                        | (refine wpList_store_row rfl 38 (.tmp 8) (.tmp 120) rfl gm #[.int .i64 pcF, .int .i64 a0, .int .i64 a1, .int .i64 a2, .int .i64 a3, .int .i64 a4, .int .i64 a5, .int .i64 a6, .int .i64 a7, .slice q9 k9 d9, .bool ov9] rfl rfl 38 #[.int .i64 (pp : Int), .int .i64 m0, .int .i64 m1, .int .i64 m2, .int .i64 m3, .int .i64 m4, .int .i64 m5, .int .i64 m6, .int .i64 m7, .slice qr k dr, .bool false] ((by refine Eq.trans (show _ = ((w9.alloc (.cells #[.int .i64 pcF, .int .i64 a0, .int .i64 a1, .int .i64 a2, .int .i64 a3, .int .i64 a4, .int .i64 a5, .int .i64 a6, .int .i64 a7, .slice q9 k9 d9, .bool ov9] 38)).alloc (.cells #[.int .i64 xo, .int .i64 xa, .int .i64 xb, .int .i64 xn] 41)).heap[gm]? from rfl) ?_; refine Eq.trans ?_ hrow9; exact (Below.heap_alloc _ _ _ (by first | omega | (simp; omega))).trans (Below.heap_alloc _ _ _ (by first | omega | (simp; omega))))) info38 rfl (ones11 _ _ _ _ _ _ _ _ _ _ _ _ _) ?_))
                      go_roundw
                      case rel => exact ⟨_, _, _, _, _, _, _, _, _, _, _, _, _, _, nn + 1, _, _, _, H, rfl, by go_num, mid_go HP.out hall hMid HG.out hrel9 b9 _ _ _ _ _ _ _ _ HK9 (own_al (own_al oR9 _) _) (own_al (own_al oH9 _) _) (by first | exact HH | exact HH2.out) (by omega) (fun _ => HHN.out) (by repeat (first | exact Below.refl _ _ | refine Below.alloc ?_ (by first | omega | (simp <;> omega)) _ | refine Below.setCell ?_ (by first | omega | (simp <;> omega)) _))⟩
                      case measure => simp [intOf]; omega
        · have hok' : okB l = false := by simpa using hok
          rw [hok'] at hsh
          clear hok hok'
          go_wp2_with (go_at_call 13; refine hsh.mono ?_; rintro e w7 ⟨rfl, hb7⟩)
          go_roundw
          case rel => exact ⟨kk + 1, by omega, by go_num, bel_call hbw (Nat.le_refl _) hb7⟩
          case measure => simp [intOf]; omega
      · go_wp2
        go_ret
        exact ⟨rfl, bel_call hBw (Nat.le_refl _) hbw⟩
end Go.Proofs.Ytmkcbjbgpdbdgaa
