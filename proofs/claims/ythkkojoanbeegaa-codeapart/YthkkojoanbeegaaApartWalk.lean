/-
  The law CodeApart, walked.
-/
import Derived.Test.YthkkojoanbeegaaUse
import Derived.Test.YthkkojoanbeegaaWild
import Derived.Deep.RegionWith
import Derived.Laws.StructEq
namespace Go.Proofs.Ythkkojoanbeegaa
open Go.ChangeShapes Go.WideShapes Go.ChangeAt Go.RowKit
attribute [local go_sem ↓] Go.wp_at_zero Go.wp_at_succ

set_option maxHeartbeats 400000 in
theorem apart_walk (p : Option Addr) (c : Nat) (n : Nat) (zs : List Int) (q : Option Addr) (d : Nat) (m : Nat) (ys : List Int) (w : World) (hp : Rd eBy w p c zs) (hn : zs.length = n) (hbz : ∀ x ∈ zs, 0 ≤ x ∧ x ≤ 255) (hm1 : n ≤ 9223372036854775807) (hq : Rd eBy w q d ys) (hm : ys.length = m) (hby : ∀ x ∈ ys, 0 ≤ x ∧ x ≤ 255) (hm2 : m ≤ 9223372036854775807) :
    Calls Try.prog 7 #[.slice p n c, .slice q m d] w fun e w' => e = .returned (.bool true) ∧ Below w.heap.size w w' := by
  have HN : Hid (zs.length = n) := hn
  have HM : Hid (ys.length = m) := hm
  clear hn hm
  by_cases c1 : 80 < n
  · have d1 : decide ((80 : Int) < (n : Int)) = true := by simp; omega
    go_enter Try.func7, Try.ntmps7
    go_wp2_with (go_at_call 8; refine (begun_any _).mono ?_; rintro e w1 ⟨rfl, hb1⟩)
    go_ret
    exact ⟨rfl, hb1⟩
  · have d1 : decide ((80 : Int) < (n : Int)) = false := by simp; omega
    by_cases c2 : 80 < m
    · have d2 : decide ((80 : Int) < (m : Int)) = true := by simp; omega
      go_enter Try.func7, Try.ntmps7
      go_wp2_with (go_at_call 8; refine (begun_any _).mono ?_; rintro e w1 ⟨rfl, hb1⟩)
      go_ret
      exact ⟨rfl, hb1⟩
    · have d2 : decide ((80 : Int) < (m : Int)) = false := by simp; omega
      have h1000 : n ≤ 1000 := by omega
      have h1001 : m ≤ 1000 := by omega
      go_enter Try.func7, Try.ntmps7
      go_wp2_with (first
        | (go_at_call 8; refine (begun_any _).mono ?_; rintro e w1 ⟨rfl, hb1⟩; have hp1 := hp.below hb1; have hq1 := hq.below hb1)
        | (go_at_call 9; with_reducible (refine (made_any p c zs _ n HN.out h1000 hp1 hbz).mono ?_); rintro e w2 ⟨rfl, pk2, hb2, hs2⟩; have hB2 := bel_call hb1 (Nat.le_refl _) hb2; have hq2 := hq1.below hb2)
        | (go_at_call 11; (with_reducible (refine (wild_any w1.heap.size _ pk2).mono ?_)); (rintro e w3 ⟨p3, n3, c3, l3, rfl, ⟨o3, a3, e3, pk3, kp3⟩, g3, g3'⟩); (have hB3 := hB2.trans (kp3.below (B := w.heap.size) (by have := hb1.size; omega) (by have := hB2.size; omega))); (have hq3 := hq1.below (hb2.trans (kp3.below (Nat.le_refl _) (by omega)))); clear pk3)
        | (go_at_call 9; with_reducible (refine (made_any q d ys _ m HM.out h1001 hq3 hby).mono ?_); rintro e w4 ⟨rfl, pk4, hb4, hs4⟩; have hB4 := bel_call hB3 (Nat.le_refl _) hb4; have o4 := own_below o3 hb4)
        | (go_at_call 11; (with_reducible (refine (wild_any w3.heap.size _ pk4).mono ?_)); (rintro e w5 ⟨p5, n5, c5, l5, rfl, ⟨o5, a5, e5, pk5, kp5⟩, g5, g5'⟩)))
      have hB5 : Below w.heap.size w w5 := hB4.trans (kp5.below (B := w.heap.size) (by have := hB3.size; omega) (by have := hB4.size; omega))
      have hr3 : Rd eIn w5 p3 c3 l3 := (own_rd o3).below (hb4.trans (kp5.below (B := w3.heap.size) (Nat.le_refl _) (by omega)))
      have hr5 : Rd eIn w5 p5 c5 l5 := own_rd o5
      have hE : (decide (putL l3 = putL l5) == sameB l3 l5) = true := by
        have : decide (putL l3 = putL l5) = sameB l3 l5 := decide_eq_decide.2 (put_inj (by omega) a3 (by omega) a5)
        rw [this]
        simp
      have hS := str_beq (putL_bd l3) (putL_bd l5)
      rw [← hS] at hE
      clear hS hp hq hp1 hq1 hq3 o3 o5 o4 kp3 kp5 pk2 pk4 pk5 hB2 hB3 hB4 hb1 hb2 hb4 hs2 hs4 hbz hby HN HM
      obtain ⟨M3, h3⟩ : ∃ M, (putL l3).length = M := ⟨_, rfl⟩
      obtain ⟨M5, h5⟩ : ∃ M, (putL l5).length = M := ⟨_, rfl⟩
      obtain ⟨P3, hP3⟩ : ∃ M, putL l3 = M := ⟨_, rfl⟩
      obtain ⟨P5, hP5⟩ : ∃ M, putL l5 = M := ⟨_, rfl⟩
      rw [hP3] at h3 hE
      rw [hP5] at h5 hE
      have A3 : ∀ w', Below w5.heap.size w5 w' → Calls Try.prog 16 #[.slice p3 n3 c3] w' fun e w'' => ∃ p' c', e = .returned (.slice p' M3 c') ∧ Own eBy w'' w'.heap.size 5 p' c' P3 ∧ Below w'.heap.size w' w'' := fun w' hb => put_c p3 c3 l3 w' n3 P3 M3 e3 hP3 h3 (hr3.below hb) (by omega)
      have A5 : ∀ w', Below w5.heap.size w5 w' → Calls Try.prog 16 #[.slice p5 n5 c5] w' fun e w'' => ∃ p' c', e = .returned (.slice p' M5 c') ∧ Own eBy w'' w'.heap.size 5 p' c' P5 ∧ Below w'.heap.size w' w'' := fun w' hb => put_c p5 c5 l5 w' n5 P5 M5 e5 hP5 h5 (hr5.below hb) (by omega)
      have AS : ∀ w', Below w5.heap.size w5 w' → Calls Try.prog 18 #[.slice p3 n3 c3, .slice p5 n5 c5] w' fun e w'' => e = .returned (.bool (sameB l3 l5)) ∧ Below w'.heap.size w' w'' := fun w' hb => same_any p3 c3 l3 p5 c5 l5 w' (hr3.below hb) (hr5.below hb) n3 n5 e3 e5 (by omega) (by omega)
      obtain ⟨sb, hsb⟩ : ∃ b, sameB l3 l5 = b := ⟨_, rfl⟩
      rw [hsb] at hE AS
      clear hsb hr3 hr5 hP3 hP5 e3 e5 a3 a5
      have hL : ((strOfNums P3).toList == (strOfNums P5).toList) = sb := by
        rw [← beq_toListBytes]
        simpa using hE
      have H3 : Hid (P3.length = M3) := h3
      have H5 : Hid (P5.length = M5) := h5
      clear hE h3 h5
      cases sb
      all_goals
        go_region_with ((first
          | (go_at_call 16; (with_reducible (refine (A3 _ (Below.refl _ _).drew).mono ?_)); (rintro e w6 ⟨p6, c6, rfl, o6, b6⟩); have B6 : Below w5.heap.size w5 w6 := (Below.refl _ _).drew.trans b6; have hs6 := str_run (own_rd o6) M3 H3.out)
          | (go_at_call 16; (with_reducible (refine (A5 _ B6).mono ?_)); (rintro e w7 ⟨p7, c7, rfl, o7, b7⟩); have B7 := bel_call B6 (Nat.le_refl _) b7; have o67 := own_below o6 b7; have hs67 := str_run (own_rd o67) M3 H3.out; have hs7 := str_run (own_rd o7) M5 H5.out)
          | (go_at_call 18; (with_reducible (refine (AS _ B7).mono ?_)); (rintro e w8 ⟨rfl, b8⟩); have B8 := bel_call B7 (Nat.le_refl _) b8; have hs68 := str_run (own_rd (own_below o67 b8)) M3 H3.out; have hs78 := str_run (own_rd (own_below o7 b8)) M5 H5.out)))
        all_goals
          go_wp2
          go_ret
          exact ⟨rfl, hB5.trans (B8.mono hB5.size)⟩
end Go.Proofs.Ythkkojoanbeegaa
