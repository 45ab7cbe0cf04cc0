/-
  The law CostStraight, walked.
-/
import Derived.Test.YteikdocpncdheaaStraightm
namespace Go.Proofs.Yteikdocpncdheaa
open Go.ChangeShapes Go.WideShapes Go.ChangeAt Go.RowKit
attribute [local go_sem ↓] Go.wp_at_zero Go.wp_at_succ

set_option maxRecDepth 100000 in
set_option maxHeartbeats 8000000 in
theorem straight_walk (p : Option Addr) (c : Nat) (n : Nat) (zs : List Int) (w : World) (hp : Rd eBy w p c zs) (hn : zs.length = n) (hbz : ∀ x ∈ zs, 0 ≤ x ∧ x ≤ 255) (hm1 : n ≤ 9223372036854775807) (x : Int) :
    Calls Try.prog 5 #[.slice p n c, .int .i64 x] w fun e w' => e = .returned (.bool true) ∧ Below w.heap.size w w' := by
  have HN : Hid (zs.length = n) := hn
  clear hn
  by_cases c1 : 80 < n
  · have d1 : decide ((80 : Int) < (n : Int)) = true := by simp; omega
    go_enter Try.func5, Try.ntmps5
    go_wp2_with (go_at_call 9; refine (begun7 _).mono ?_; rintro e w1 ⟨rfl, hb1⟩)
    go_ret
    exact ⟨rfl, hb1⟩
  · have d1 : decide ((80 : Int) < (n : Int)) = false := by simp; omega
    have h1000 : n ≤ 1000 := by omega
    go_enter Try.func5, Try.ntmps5
    go_wp2_with (first
      | (go_at_call 9; refine (begun7 _).mono ?_; rintro e w1 ⟨rfl, hb1⟩; have hp1 := hp.below hb1)
      | (go_at_call 10; (with_reducible (refine (made_any p c zs _ n HN.out h1000 hp1 hbz).mono ?_)); rintro e w2 ⟨rfl, pk2, hb2, hs2⟩; have hB2 := bel_call hb1 (Nat.le_refl _) hb2)
      | (go_at_call 11; (with_reducible (refine (code_any w1.heap.size _ pk2).mono ?_)); (rintro e w3 ⟨p3, n3, c3, l3, rfl, ⟨o3, a3, e3, pk3, kp3⟩, g3, g3', l0, hl0, hG⟩); have hB3 := hB2.trans (kp3.below (B := w.heap.size) (by have := hb1.size; omega) (by have := hB2.size; omega))))
    have hbs : w.heap.size ≤ w2.heap.size := hB2.size
    have HL0 : Hid (l3 = l0 ++ [E0]) := hl0
    have HGd : Hid (Gd l0) := hG
    have HE : Hid (l3.length = n3) := e3
    have o3' : Own eIn w3 w2.heap.size 45 p3 c3 (mpK l3 0) := by rw [mpK_zero]; exact o3
    clear hl0 hG e3 a3 pk3 kp3 pk2 hb2 hs2 hB2 hp1 hb1 o3
    generalize w2.heap.size = base at *
    go_loopw [6] (fun i wr => ∃ k : Nat, k ≤ n3 ∧ i = .int .i64 k ∧ Own eIn wr base 45 p3 c3 (mpK l3 k) ∧ Below w.heap.size w wr) (fun i _ => n3 - (intOf i).toNat)
    case atStart => exact ⟨0, Nat.zero_le _, rfl, o3', hB3⟩
    case round =>
      clear o3' hB3
      obtain ⟨k, hk, rfl, hO, hbw⟩ := hrel
      by_cases hlt : k < n3
      · have hkl : k < l3.length := by rw [HE.out]; exact hlt
        have hkm : k < (mpK l3 k).length := by rw [mpK_len]; exact hkl
        obtain ⟨b, rfl, hb1, hb2, hfz, ⟨f0, f1, f2, f3⟩, hset⟩ := own_setIn hO k hkm
        rw [mpK_get hkl, if_neg (by omega)] at f0 f1 f2 f3
        have z0 := hfz (k * 4)
        have z1 := hfz (k * 4 + 1)
        have z2 := hfz (k * 4 + 2)
        have z3 := hfz (k * 4 + 3)
        have dk : decide ((k : Int) < (n3 : Int)) = true := by simpa using hlt
        obtain ⟨⟨xo, xa, xb, xn⟩, hg⟩ : ∃ x, gt l3 k = x := ⟨_, rfl⟩
        rw [hg] at f0 f1 f2 f3
        simp only at f0 f1 f2 f3
        by_cases h7 : xo = 7
        · subst h7
          have HS : Hid (mpK l3 (k + 1) = (mpK l3 k).set k (1, 2, 0, 0)) := by show _ = _; rw [mpK_next, hg, gS_yes rfl]
          obtain ⟨s1, s2⟩ := hset (1, 2, 0, 0)
          have s3 := s2 w.heap.size w hbs hbw
          clear hset hg s2 hfz
          go_wp2
          go_roundw
          case rel => exact ⟨k + 1, by omega, by go_num, by rw [HS.out]; exact s1, s3⟩
          case measure => simp [intOf]; omega
        · have d7 : (xo == 7) = false := by simpa using h7
          have HS : Hid (mpK l3 (k + 1) = mpK l3 k) := mpK_stay (by rw [hg]; exact gS_no h7)
          clear hset hg hfz
          go_wp2
          go_roundw
          case rel => exact ⟨k + 1, by omega, by go_num, by rw [HS.out]; exact hO, hbw⟩
          case measure => simp [intOf]; omega
      · obtain rfl : k = n3 := by omega
        have dk : decide ((k : Int) < (k : Int)) = false := by simp
        have hlm : mpK l3 k = l3.map gS := by rw [← mpK_all, HE.out]
        rw [hlm] at hO
        have hr := own_rd hO
        have hlen : (l3.map gS).length = k := by rw [List.length_map]; exact HE.out
        have hl0 : l0.length + 1 = k := by rw [← HE.out, HL0.out]; simp
        have hmap : l3.map gS = l0.map gS ++ [E0] := by rw [HL0.out, List.map_append]; rfl
        have hok : okB (l3.map gS) = true := by rw [hmap]; exact gd_may (gd_map HGd.out) (by rw [List.length_map]; omega)
        have hWW : (l3.map gS).all mayW = true := by rw [hmap]; exact allW_app (gd_map HGd.out).may (by decide)
        have hno : ∀ i, (gt (l3.map gS) i).1 ≠ 7 := fun i => by rw [gt_map]; exact (gS_op _).1
        have hP := prg_of hok
        have t1 := (tk_of hP).tk_le
        have t2 := lgs_pos hP
        have t3 : lgs (l3.map gS) (l3.map gS).length ≤ tk (l3.map gS) := lgs_tk (Nat.le_refl _)
        rw [hlen] at t2 t3
        have K1 := fun w' (hb : Below wr.heap.size wr w') => of_c p3 c3 _ w' (hr.below hb) k hlen hok _ _ _ rfl rfl _ rfl rfl
        have K2 := fun w' (hb : Below wr.heap.size wr w') => run_any p3 c3 _ w' (hr.below hb) k hlen hok hWW hno x
        generalize (spL (l3.map gS) k).length = sn at *
        generalize spL (l3.map gS) k = SP at *
        generalize tk (l3.map gS) = T at *
        generalize lgs (l3.map gS) k = G at *
        have dg1 : decide ((G : Int) ≤ (T : Int)) = true := by simp; omega
        have dg2 : decide ((1 : Int) ≤ (G : Int)) = true := by simp; omega
        clear hlm hr hlen hl0 hmap hok hWW hno hP HL0 HGd HE hO
        go_wp2_with (first
          | (go_at_call 13; (with_reducible (refine (K1 _ (Below.refl _ _)).mono ?_)); rintro e w4 ⟨⟨q4, d4, rfl, o4⟩, b4⟩; have B4 := b4.alloc b4.size (.cells #[.int .i64 (T : Int), .int .i64 (G : Int), .slice q4 sn d4] 32))
          | (go_at_call 17; (with_reducible (refine (K2 _ B4).mono ?_)); rintro e w5 ⟨⟨v5, rfl⟩, b5⟩
             have g5 : w5.heap[w4.heap.size]? = _ := (b5.block w4.heap.size (by simp)).trans (heap_alloc_new w4 _)
             obtain ⟨⟨k0, k1, k2⟩, _⟩ := cellT g5
             have y5 := lt_of_block g5
             have B5 := bel_call B4 (Nat.le_refl _) b5))
        go_ret
        exact ⟨rfl, bel_call hbw (Nat.le_refl _) B5⟩
end Go.Proofs.Yteikdocpncdheaa
