/-
  The law TaskHolds, walked.
-/
import Derived.Test.YtonholadabebbaaTholm
import Derived.Test.YtonholadabebbaaTtask
import Derived.Test.YtonholadabebbaaRrung
namespace Go.Proofs.Ytonholadabebbaa
open Go.ChangeShapes Go.WideShapes Go.ChangeAt Go.RowKit
attribute [local go_sem ↓] Go.wp_at_zero Go.wp_at_succ

theorem rd_own {α : Type} {E : Elt α} {w : World} {p : Option Addr} {c : Nat} {l : List α} (h : Rd E w p c l) : ∀ b o, p = some ⟨b, o, none⟩ → l ≠ [] → b < w.heap.size := fun b o e hne => by
  obtain ⟨b', o', e', hlt, _⟩ := h.pos (List.length_pos_iff.2 hne)
  rw [e] at e'
  cases e'
  exact hlt
/-- what a run comes to, whatever l is -/
theorem run_is (l : List In) (x : Int) (hx0 : -9223372036854775808 ≤ x) (hx1 : x ≤ 9223372036854775807) : ∃ (v : Int) (N : Nat) (ok : Bool), (ok = false → v = 0 ∧ N = 0) ∧ ok = okB l ∧ (ok = true → EndsAt l x N v) ∧ (ok = true → N ≤ tk l) := by
  cases h : okB l with
  | false => exact ⟨0, 0, false, fun _ => ⟨rfl, rfl⟩, rfl, (fun h => by cases h), fun h => by cases h⟩
  | true =>
    obtain ⟨N, v, hE, hN⟩ := ends_ex h hx0 hx1
    exact ⟨v, N, true, (fun h => by cases h), rfl, fun _ => hE, fun _ => hN⟩
theorem rrun_c (p : Option Addr) (c : Nat) (l : List In) (w : World) (hr : Rd eIn w p c l) (n : Nat) (hN : l.length = n) (hn : n ≤ 1000) (x : Int) (hx0 : -9223372036854775808 ≤ x) (hx1 : x ≤ 9223372036854775807) (N : Nat) (v : Int) (ok : Bool) (h0 : ok = false → v = 0 ∧ N = 0) (h1 : ok = okB l) (h2 : ok = true → EndsAt l x N v) :
    Calls Try.prog 15 #[.slice p n c, .int .i64 x] w fun e w' => e = .returned (.tuple #[.int .i64 v, .int .i64 (N : Int), .bool ok]) ∧ Below w.heap.size w w' := by
  cases ok with
  | true => exact rrun_yes p c l w hr n hN h1.symm x hx0 hx1 N v (h2 rfl)
  | false => obtain ⟨rfl, rfl⟩ := h0 rfl; exact rrun_no p c l w hr n hN hn h1.symm x
set_option maxRecDepth 100000 in
set_option maxHeartbeats 4000000 in
theorem tholds_walk (p : Option Addr) (c : Nat) (n : Nat) (zs : List Int) (w : World) (hp : Rd eBy w p c zs) (hn : zs.length = n) (hbz : ∀ x ∈ zs, 0 ≤ x ∧ x ≤ 255) (x : Int) (hx0 : -9223372036854775808 ≤ x) (hx1 : x ≤ 9223372036854775807) :
    Calls Try.prog 5 #[.slice p n c, .int .i64 x] w fun e w' => e = .returned (.bool true) ∧ Below w.heap.size w w' := by
  have HN : Hid (zs.length = n) := hn
  clear hn
  by_cases c1 : 150 < n
  · have d1 : decide ((150 : Int) < (n : Int)) = true := by simp; omega
    go_enter Try.func5, Try.ntmps5
    go_wp2_with (go_at_call 6; refine (begun_any _).mono ?_; rintro e w1 ⟨rfl, hb1⟩)
    go_ret
    exact ⟨rfl, hb1⟩
  · have d1 : decide ((150 : Int) < (n : Int)) = false := by simp; omega
    have h1000 : n ≤ 1000 := by omega
    go_enter Try.func5, Try.ntmps5
    go_upto_region 6 with (first
      | (go_at_call 6; refine (begun_any _).mono ?_; rintro e w1 ⟨rfl, hb1⟩; have hp1 := hp.below hb1)
      | (go_at_call 8; (with_reducible (refine (made_any p c zs _ n HN.out h1000 hp1 hbz).mono ?_)); rintro e w2 ⟨rfl, pk2, hb2, hs2⟩; have hB2 := bel_call hb1 (Nat.le_refl _) hb2)
      | (go_at_call 9; (with_reducible (refine (task_any w1.heap.size 2 _ pk2).mono ?_)); rintro e w3 ⟨pp, pe, mp, mn, mc, wp, wn, wc, op, on, oc, M, W, O, rfl, t3, pk3, kp3, bd3, _⟩; have hB3 := hB2.trans (kp3.below (B := w.heap.size) (by have := hb1.size; omega) (by have := hB2.size; omega))))
    have s4 := bel_self w3 (.cells #[.int .i64 2, .int .i64 pp, .int .i64 pe, .slice mp mn mc, .slice wp wn wc, .slice op on oc] 24)
    have T4 := Lv.new w3 #[.int .i64 2, .int .i64 pp, .int .i64 pe, .slice mp mn mc, .slice wp wn wc, .slice op on oc] 24
    have k4 := t3.below s4
    have hB4 := bel_call hB3 (Nat.le_refl _) s4
    obtain ⟨gk, hgt⟩ : ∃ gk, gk = w3.heap.size := ⟨_, rfl⟩
    rw [← hgt] at T4
    simp only [← hgt]
    generalize w3.alloc (.cells #[.int .i64 2, .int .i64 pp, .int .i64 pe, .slice mp mn mc, .slice wp wn wc, .slice op on oc] 24) = W4 at *
    clear hgt s4 t3 pk3 kp3 hB3 hB2 hb2 pk2 hs2 hp1 hb1
    obtain ⟨b1, b2, b3, b4⟩ := bd3
    have i1 : I64 2 := by unfold I64; omega
    have i2 : I64 pp := by unfold I64; omega
    have i3 : I64 pe := by unfold I64; omega
    obtain ⟨E, hE⟩ : ∃ E, erT 2 pp pe M W O = E := ⟨_, rfl⟩
    have a0 := T4.c 0 rfl
    have a1 := T4.c 1 rfl
    have a2 := T4.c 2 rfl
    have a3 := T4.c 3 rfl
    have a4 := T4.c 4 rfl
    have a5 := T4.c 5 rfl
    by_cases h0 : E = 0
    · subst h0
      obtain ⟨kM, f1, f2, f3, f4, f5, f6, f7⟩ := task_facts hE
      obtain ⟨A, hA⟩ : ∃ A, cosT 0 M = A := ⟨_, rfl⟩
      obtain ⟨L, hL⟩ : ∃ L, losT 0 M W = L := ⟨_, rfl⟩
      obtain ⟨S, hS⟩ : ∃ S, spaT 0 M W = S := ⟨_, rfl⟩
      obtain ⟨m, hm⟩ : ∃ m, S.length = m := ⟨_, rfl⟩
      have m48 : m ≤ 48 := by rw [← hm, ← hS]; exact spaT_le hE
      have K1 := fun w' (hb : Below W4.heap.size W4 w') => tmay_any 2 pp pe mp mn mc wp wn wc op on oc M W O w' (k4.below hb) i1 i2 i3 0 hE
      have K2 := fun w' (hb : Below W4.heap.size W4 w') => costs_any 2 pp pe mp mn mc wp wn wc op on oc M W O w' (k4.below hb) i1 i2 i3 0 hE A L hA hL m (by rw [hS]; exact hm)
      rw [hS] at K2 f5 f6
      rw [hA] at f1 f3 f5 f7
      rw [hL] at f2 f3 f4
      obtain ⟨v1, N1, o1, q0, q1, q2, q3⟩ := run_is M x hx0 hx1
      obtain rfl : o1 = true := q1.trans kM
      obtain ⟨v2, N2, o2, r0, r1, r2, r3⟩ := run_is W x hx0 hx1
      have K3 := fun w' (hb : Below W4.heap.size W4 w') => rrun_c mp mc M w' (k4.below hb).rM mn k4.m k4.m9 x hx0 hx1 N1 v1 true q0 q1 q2
      have K4 := fun w' (hb : Below W4.heap.size W4 w') => rrun_c wp wc W w' (k4.below hb).rW wn k4.n k4.n9 x hx0 hx1 N2 v2 o2 r0 r1 r2
      have g1 : (N1 : Int) ≤ A := by have := q3 rfl; omega
      have G2 : Hid (o2 = true → (N2 : Int) ≤ L) := fun h => by have := r3 h; rw [f4 (r1.symm.trans h)]; omega
      have HM : Hid (M.length = mn) := k4.m
      have HS : Hid (S.length = m) := hm
      have F5 : Hid (∀ x ∈ S, 1 ≤ x.2 ∧ x.2 < A) := f5
      have f6 : lkN M mn ≤ m := by rw [← HM.out, ← HS.out]; exact f6
      have mnb := k4.m9
      have F6 : Hid (lkN M mn ≤ m) := f6
      have rM := k4.rM
      clear hE kM f4 f5 f6 f7 hA hL hS hm q0 q1 q2 q3 r0 r1 r2 r3 k4 i1 i2 i3 b1 b2 b3 b4
      go_wp2_with (first
        | (go_at_call 15; (with_reducible (refine (K4 _ B7).mono ?_)); rintro e w8 ⟨rfl, b8⟩; have B8 := bel_call B7 (Nat.le_refl _) b8; have T8 := T4.below B8; clear a0 a1 a2 a3 a4 a5; have a0 := T8.c 0 rfl; have a1 := T8.c 1 rfl; have a2 := T8.c 2 rfl; have a3 := T8.c 3 rfl; have a4 := T8.c 4 rfl; have a5 := T8.c 5 rfl)
        | (go_at_call 15; (with_reducible (refine (K3 _ B6).mono ?_)); rintro e w7 ⟨rfl, b7⟩; have B7 := bel_call B6 (Nat.le_refl _) b7; have T7 := T4.below B7; clear a0 a1 a2 a3 a4 a5; have a0 := T7.c 0 rfl; have a1 := T7.c 1 rfl; have a2 := T7.c 2 rfl; have a3 := T7.c 3 rfl; have a4 := T7.c 4 rfl; have a5 := T7.c 5 rfl)
        | (go_at_call 11; (with_reducible (refine (K2 _ b5).mono ?_)); rintro e w6 ⟨⟨q, d, rfl, own6⟩, b6⟩; have B6 := bel_call b5 (Nat.le_refl _) b6; have T6 := T4.below B6; clear a0 a1 a2 a3 a4 a5; have a0 := T6.c 0 rfl; have a1 := T6.c 1 rfl; have a2 := T6.c 2 rfl; have a3 := T6.c 3 rfl; have a4 := T6.c 4 rfl; have a5 := T6.c 5 rfl)
        | (go_at_call 13; (with_reducible (refine (K1 _ (Below.refl _ _)).mono ?_)); rintro e w5 ⟨rfl, b5⟩; have T5 := T4.below b5; clear a0 a1 a2 a3 a4 a5; have a0 := T5.c 0 rfl; have a1 := T5.c 1 rfl; have a2 := T5.c 2 rfl; have a3 := T5.c 3 rfl; have a4 := T5.c 4 rfl; have a5 := T5.c 5 rfl))
      have rS := ((own_rd own6).below b7).below b8
      have rM8 := rM.below B8
      have BW := bel_call hB4 (Nat.le_refl _) B8
      clear own6 b7 b8 B7 B6 b5 b6 K1 K2 K3 K4 rM T4 T5 T6 T7 T8 hB4 B8
      go_loop [15, 16] (fun c i => ∃ (k cn : Nat), k ≤ mn ∧ i = .int .i64 k ∧ c = .int .i64 cn ∧ lkN M k = cn) (fun _ i => mn - (intOf i).toNat)
      case atStart => exact ⟨0, 0, Nat.zero_le _, rfl, rfl, rfl⟩
      case round =>
        obtain ⟨k, cn, hk, rfl, rfl, hcn⟩ := hrel
        have HC : Hid (lkN M k = cn) := hcn
        have hc9 := lkN_le M k
        rw [hcn] at hc9
        clear hcn
        by_cases hlt : k < mn
        · have hkI : (k : Int) < (mn : Int) := by omega
          have dk : decide ((k : Int) < (mn : Int)) = true := decide_eq_true hkI
          obtain ⟨ib, io, ie, hib, y0, y1, y2, y3⟩ := rM8.inst k (by rw [HM.out]; exact hlt)
          subst ie
          clear y1 y2 y3
          rw [← gt_eq] at y0
          obtain ⟨⟨xo, xa, xb, xn⟩, hg⟩ : ∃ x, gt M k = x := ⟨_, rfl⟩
          rw [hg] at y0
          simp only at y0
          by_cases h9 : xo = 9
          · subst h9
            have HC2 : Hid (lkN M (k + 1) = cn + 1) := by show _ = _; rw [lkN_yes (by rw [hg]), HC.out]
            clear hg
            go_wp2
            go_round
            case rel => exact ⟨k + 1, cn + 1, by omega, by go_num, by go_num, HC2.out⟩
            case measure => simp [intOf]; omega
          · have d9 : (xo == 9) = false := by simpa using h9
            have HC2 : Hid (lkN M (k + 1) = cn) := by show _ = _; rw [lkN_no (by rw [hg]; exact h9), HC.out]
            clear hg h9
            go_wp2
            go_round
            case rel => exact ⟨k + 1, cn, by omega, by go_num, rfl, HC2.out⟩
            case measure => simp [intOf]; omega
        · obtain rfl : k = mn := by omega
          have dk : decide ((k : Int) < (k : Int)) = false := by simp
          have hcm : cn ≤ m := by rw [← HC.out]; exact F6.out
          clear hlt
          go_wp2
          go_loop [17] (fun i => ∃ j : Nat, j ≤ m ∧ i = .int .i64 j) (fun i => m - (intOf i).toNat)
          case atStart => exact ⟨0, Nat.zero_le _, rfl⟩
          case round =>
            obtain ⟨j, hj, rfl⟩ := hrel
            by_cases hjl : j < m
            · have hjI : (j : Int) < (m : Int) := by omega
              have dj : decide ((j : Int) < (m : Int)) = true := decide_eq_true hjI
              have hjS : j < S.length := by rw [HS.out]; exact hjl
              obtain ⟨sb, so, se, hsb, y0, y1⟩ := rS.span j hjS
              have hb5 := F5.out S[j] (List.getElem_mem hjS)
              subst se
              generalize S[j] = X at *
              obtain ⟨xs, xl⟩ := X
              dsimp only at y0 y1 hb5
              have e1 : decide (xl < 1) = false := by simp; omega
              have e2 : decide (A ≤ xl) = false := by simp; omega
              go_wp2
              go_round
              case rel => exact ⟨j + 1, by omega, by go_num⟩
              case measure => simp [intOf]; omega
            · have dj : decide ((j : Int) < (m : Int)) = false := decide_eq_false (by omega)
              have e1 : decide ((N1 : Int) ≤ A) = true := decide_eq_true g1
              have e2 : decide (A ≤ pe) = true := decide_eq_true f1
              have e3 : decide (1 ≤ L) = true := decide_eq_true f2
              have e4 : decide (L ≤ A) = true := decide_eq_true f3
              have e5 : decide ((cn : Int) ≤ (m : Int)) = true := decide_eq_true (by omega)
              cases o2 with
              | true =>
                have e6 : decide ((N2 : Int) ≤ L) = true := decide_eq_true (G2.out rfl)
                go_wp2
                go_ret
                exact ⟨rfl, BW⟩
              | false =>
                go_wp2
                go_ret
                exact ⟨rfl, BW⟩
    · have dE : (E == 0) = false := by simpa using h0
      have K1 := fun w' (hb : Below W4.heap.size W4 w') => tmay_any 2 pp pe mp mn mc wp wn wc op on oc M W O w' (k4.below hb) i1 i2 i3 E hE
      clear hE h0
      go_wp2_with (go_at_call 13; (with_reducible (refine (K1 _ (Below.refl _ _)).mono ?_)); rintro e w5 ⟨rfl, b5⟩)
      go_ret
      exact ⟨rfl, bel_call hB4 (Nat.le_refl _) b5⟩
end Go.Proofs.Ytonholadabebbaa
