/-
  The law PureMarks, walked.
-/
import Derived.Test.YtboffjabffcddaaPrun
import Derived.Test.YtboffjabffcddaaMadel
import Derived.Test.YtboffjabffcddaaSetin
import Derived.Test.YtboffjabffcddaaCosty
import Derived.WalkSpells
namespace Go.Proofs.Ytboffjabffcddaa
open Go.ChangeShapes Go.WideShapes Go.ChangeAt Go.RowKit
attribute [local go_sem ↓] Go.wp_at_zero Go.wp_at_succ

theorem own_none {w : World} : Own eIn (w.alloc (.cells #[] 34)) w.heap.size 34 (some ⟨w.heap.size, 0, none⟩) 0 [] := own_block (Nat.le_refl _) rfl 0 rfl (by decide)
set_option maxRecDepth 100000 in
set_option maxHeartbeats 8000000 in
theorem marks_walk (p : Option Addr) (c : Nat) (n : Nat) (zs : List Int) (w : World) (hp : Rd eBy w p c zs) (hn : zs.length = n) (hbz : ∀ x ∈ zs, 0 ≤ x ∧ x ≤ 255) (hm1 : n ≤ 9223372036854775807) (x : Int) (hx0 : -9223372036854775808 ≤ x) (hx1 : x ≤ 9223372036854775807) :
    Calls Try.prog 4 #[.slice p n c, .int .i64 x] w fun e w' => e = .returned (.bool true) ∧ Below w.heap.size w w' := by
  have HN : Hid (zs.length = n) := hn
  clear hn
  by_cases c1 : 80 < n
  · have d1 : decide ((80 : Int) < (n : Int)) = true := by simp; omega
    go_enter Try.func4, Try.ntmps4
    go_wp2_with (go_at_call 9; refine (begun9 _).mono ?_; rintro e w1 ⟨rfl, hb1⟩)
    go_ret
    exact ⟨rfl, hb1⟩
  · have d1 : decide ((80 : Int) < (n : Int)) = false := by simp; omega
    have h1000 : n ≤ 1000 := by omega
    go_enter Try.func4, Try.ntmps4
    go_wp2_with (first
      | (go_at_call 9; refine (begun9 _).mono ?_; rintro e w1 ⟨rfl, hb1⟩; have hp1 := hp.below hb1)
      | (go_at_call 10; (with_reducible (refine (made_any p c zs _ n HN.out h1000 hp1 hbz).mono ?_)); rintro e w2 ⟨rfl, pk2, hb2, hs2⟩; have hB2 := bel_call hb1 (Nat.le_refl _) hb2)
      | (go_at_call 11; (with_reducible (refine (code_l w1.heap.size _ pk2).mono ?_)); (rintro e w3 ⟨p3, n3, c3, l3, rfl, ⟨o3, a3, e3, pk3, kp3⟩, g3, g3', l0, hl0, hG⟩); have hB3 := hB2.trans (kp3.below (B := w.heap.size) (by have := hb1.size; omega) (by have := hB2.size; omega))
         have HE : Hid (l3.length = n3) := e3
         have HL0 : Hid (l3 = l0 ++ [E0]) := hl0
         have HG : Hid (GdL l0) := hG
         have hr3 := own_rd o3
         clear e3 hl0 hG a3)
      | (at_builtin; (refine wpList_app tIn _ rfl _ _ rfl w3.heap.size (some ⟨w3.heap.size, 0, none⟩) 0 [] 0 rfl rfl own_none p3 c3 l3 n3 HE.out rfl (own_rd (own_below o3 ((Below.refl _ _).alloc (Nat.le_refl _) _))) (by omega) (by simp) n3 (by omega) ?_); intro p5 c5 w5 ho5 hb5 hst5
         have hB5 : Below w3.heap.size w3 w5 := ((Below.refl _ _).alloc (Nat.le_refl _) _).trans hb5
         have hx5 := hB5.size))
    have hbs : w.heap.size ≤ w3.heap.size := hB3.size
    have o5 : Own eIn w5 w3.heap.size 34 p5 c5 (mpM l3 0) := by rw [mpM_zero]; exact ho5
    have B5 : Below w.heap.size w w5 := hB3.trans (hB5.mono hbs)
    have hz5 := hB5.size
    clear ho5 hst5 hb5 hx5 pk3 kp3 hB3 pk2 hb2 hs2 hB2 hp1 hb1 o3
    generalize hbe : w3.heap.size = base at *
    have HBE : Hid (w3.heap.size = base) := hbe
    clear hbe
    go_loopw [7] (fun i wr => ∃ k : Nat, k ≤ n3 ∧ i = .int .i64 k ∧ Own eIn wr base 34 p5 c5 (mpM l3 k) ∧ Below base w5 wr) (fun i _ => n3 - (intOf i).toNat)
    case atStart => exact ⟨0, Nat.zero_le _, rfl, o5, Below.refl _ _⟩
    case round =>
      clear o5
      obtain ⟨k, hk, rfl, hO, hbw⟩ := hrel
      by_cases hlt : k < n3
      · have hkl : k < l3.length := by rw [HE.out]; exact hlt
        have hkm : k < (mpM l3 k).length := by rw [mpM_len]; exact hkl
        obtain ⟨b, rfl, hb1, hb2, hfz, ⟨f0, f1, f2, f3⟩, hset⟩ := own_setIn hO k hkm
        rw [mpM_get hkl, if_neg (by omega)] at f0 f1 f2 f3
        have z0 := hfz (k * 4)
        have z1 := hfz (k * 4 + 1)
        have z2 := hfz (k * 4 + 2)
        have z3 := hfz (k * 4 + 3)
        have dk : decide ((k : Int) < (n3 : Int)) = true := by simpa using hlt
        obtain ⟨⟨xo, xa, xb, xn⟩, hg⟩ : ∃ x, gt l3 k = x := ⟨_, rfl⟩
        rw [hg] at f0 f1 f2 f3
        simp only at f0 f1 f2 f3
        by_cases h7 : xo = 11 ∨ xo = 9 ∨ xo = 10
        · have HS : Hid (mpM l3 (k + 1) = (mpM l3 k).set k (2, 7, 7, 0)) := by show _ = _; rw [mpM_next, hg, gM_yes h7]
          obtain ⟨s1, s2⟩ := hset (2, 7, 7, 0)
          have s3 := s2 base w5 (Nat.le_refl _) hbw
          clear hset hg s2 hfz
          rcases h7 with rfl | rfl | rfl
          all_goals
            go_wp2
            go_roundw
            case rel => exact ⟨k + 1, by omega, by go_num, by rw [HS.out]; exact s1, s3⟩
            case measure => simp [intOf]; omega
        · have d7 : (xo == 11) = false := by simp; omega
          have d8 : (xo == 9) = false := by simp; omega
          have d9 : (xo == 10) = false := by simp; omega
          have HS : Hid (mpM l3 (k + 1) = mpM l3 k) := mpM_stay (by rw [hg]; exact gM_no h7)
          clear hset hg hfz h7
          go_wp2
          go_roundw
          case rel => exact ⟨k + 1, by omega, by go_num, by rw [HS.out]; exact hO, hbw⟩
          case measure => simp [intOf]; omega
      · obtain rfl : k = n3 := by omega
        have dk : decide ((k : Int) < (k : Int)) = false := by simp
        have hlm : mpM l3 k = l3.map gM := by rw [← mpM_all, HE.out]
        rw [hlm] at hO
        have hr := own_rd hO
        have hr3' := hr3.below (show Below w3.heap.size w3 wr by rw [HBE.out]; exact hB5.trans hbw)
        have hlen : (l3.map gM).length = k := by rw [List.length_map]; exact HE.out
        have hl0 : l0.length + 1 = k := by rw [← HE.out, HL0.out]; simp
        have hmap : l3.map gM = l0.map gM ++ [E0] := by rw [HL0.out, List.map_append]; rfl
        have hok : okB l3 = true := by rw [HL0.out]; exact gd_may HG.out.1 (by omega)
        have hokm : okB (l3.map gM) = true := by rw [hmap]; exact gd_may (gd_mapM HG.out.1) (by rw [List.length_map]; omega)
        have hLw : Lw l3 := by rw [HL0.out]; exact HG.out.2.app (Lw.other (by decide))
        obtain ⟨N, v, hEn, hNT⟩ := ends_ex hok hx0 hx1
        have hEm := ends_mapM (prg_of hok) hLw hx0 hx1 hEn
        have hN1 : 1 ≤ N := by
          rcases Nat.eq_zero_or_pos N with rfl | h
          · have := hEn.1; cases this
          · exact h
        have K1 := fun w' (hb : Below wr.heap.size wr w') => prun_yes p3 c3 l3 w' (hr3'.below hb) k HE.out (by omega) hok x hx0 hx1 N v hEn
        have K2 := fun w' (hb : Below wr.heap.size wr w') => prun_yes p5 c5 _ w' (hr.below hb) k hlen (by omega) hokm x hx0 hx1 N v hEm
        have K3 := fun w' (hb : Below wr.heap.size wr w') => refCost_yes p3 c3 l3 w' (hr3'.below hb) k HE.out hok
        have hP := prg_of hok
        have t1 := (tk_of hP).tk_le
        generalize tk l3 = T at *
        generalize lgs l3 k = G at *
        have dg1 : decide ((N : Int) ≤ (T : Int)) = true := by simp; omega
        have dg2 : decide ((1 : Int) ≤ (N : Int)) = true := by simp; omega
        clear hlm hr hr3 hr3' hlen hl0 hmap hok hokm hLw hP HL0 HG HE hO hEn hEm
        go_wp2_with (first
          | (go_at_call 13; (with_reducible (refine (K1 _ (Below.refl _ _)).mono ?_)); rintro e w6 ⟨rfl, b6⟩)
          | (go_at_call 13; (with_reducible (refine (K2 _ b6).mono ?_)); rintro e w7 ⟨rfl, b7⟩; have B7 := b6.trans (b7.mono b6.size))
          | (go_at_call 15; (with_reducible (refine (K3 _ B7).mono ?_)); rintro e w8 ⟨⟨q8, d8, m8, rfl, e8, _⟩, b8⟩; clear e8; have B8 := B7.trans (b8.mono B7.size)))
        go_ret
        have z6 := hbw.size
        have z7 := B8.size
        exact ⟨rfl, ((B5.trans (hbw.mono hbs)).trans (B8.mono (by omega))).alloc (by omega) _⟩
end Go.Proofs.Ytboffjabffcddaa
