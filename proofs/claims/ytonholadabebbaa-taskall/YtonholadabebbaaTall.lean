/-
  The law TaskAll, walked.
-/
import Derived.Test.YtonholadabebbaaTholds
import Derived.Test.YtonholadabebbaaTthree
import Derived.Test.YtonholadabebbaaTrcost
import Derived.Test.YtonholadabebbaaTlight
import Derived.Deep.CutBlock
import Derived.Deep.CutRange
namespace Go.Proofs.Ytonholadabebbaa
open Go.ChangeShapes Go.WideShapes Go.ChangeAt Go.RowKit
attribute [local go_sem ↓] Go.wp_at_zero Go.wp_at_succ

theorem Lv.kpne {w w' : World} {g k : Nat} {cs : Array Value} {t : TypeId} (h : Lv w g cs t) (hk : Kp k w w') (hn : g ≠ k) : Lv w' g cs t := Lv.kp h hk hn
theorem cut_fin {w w4 W5 : World} {g0 g9 g10 j : Nat} {v : Value} {tc m9 cs : Array Value} {x9 : Tv} {M3 Y3 O3 : List In} (L10 : Lv W5 g10 cs 24) (hcs : cs.setIfInBounds j v = (eTk.enc x9).toArray) (L9 : Lv W5 g9 m9 24) (L0 : Lv W5 g0 tc 24) (D4 : Below w4.heap.size w4 W5) (D : Below w.heap.size w W5) (h4 : w4.heap.size ≤ g10) (h0 : w.heap.size ≤ g10) (n9 : g9 ≠ g10) (n0 : g0 ≠ g10) (hG : Gt (W5.setCell ⟨g10, j, none⟩ v) x9 M3 Y3 O3) :
    ∃ (x9 : Tv) (M3 Y3 O3 : List In), Value.pointer (some ⟨g10, 0, none⟩) = .pointer (some ⟨g10, 0, none⟩) ∧ Lv (W5.setCell ⟨g10, j, none⟩ v) g10 (eTk.enc x9).toArray 24 ∧ Gt (W5.setCell ⟨g10, j, none⟩ v) x9 M3 Y3 O3 ∧ Lv (W5.setCell ⟨g10, j, none⟩ v) g9 m9 24 ∧ Lv (W5.setCell ⟨g10, j, none⟩ v) g0 tc 24 ∧ Below w4.heap.size w4 (W5.setCell ⟨g10, j, none⟩ v) ∧ Below w.heap.size w (W5.setCell ⟨g10, j, none⟩ v) :=
  have hk : Kp g10 W5 (W5.setCell ⟨g10, j, none⟩ v) := Kp.set rfl v
  ⟨x9, M3, Y3, O3, rfl, by have := Lv.set L10 j v; rw [hcs] at this; exact this, hG, Lv.kp L9 hk n9, Lv.kp L0 hk n0, D4.setCell h4 v, D.setCell h0 v⟩
theorem hcel_of {w : World} {p : Option Addr} {c : Nat} {l : List Tv} {X : Tv} (h : Rd eTk w p c l) (i : Nat) (hi : i < l.length) (hX : l[i] = X) :
    ∃ b o, p = some ⟨b, o, none⟩ ∧ b < w.heap.size ∧ ∀ w', Below w.heap.size w w' → w'.cell? ⟨b, o + i * 6, none⟩ = some (.int .i64 X.r) ∧ w'.cell? ⟨b, o + i * 6 + 1, none⟩ = some (.int .i64 X.p) ∧ w'.cell? ⟨b, o + i * 6 + 2, none⟩ = some (.int .i64 X.e) ∧ w'.cell? ⟨b, o + i * 6 + 3, none⟩ = some (.slice X.mp X.mn X.mc) ∧ w'.cell? ⟨b, o + i * 6 + 4, none⟩ = some (.slice X.wp X.wn X.wc) ∧ w'.cell? ⟨b, o + i * 6 + 5, none⟩ = some (.slice X.op X.on X.oc) := by
  subst hX
  obtain ⟨b, o, e, hb, _⟩ := h.task i hi
  refine ⟨b, o, e, hb, fun w' hw => ?_⟩
  obtain ⟨b', o', e', _, y0, y1, y2, y3, y4, y5⟩ := (h.below hw).task i hi
  obtain ⟨rfl, rfl⟩ : b' = b ∧ o' = o := by rw [e] at e'; simp at e'; exact ⟨e'.1.symm, e'.2.symm⟩
  exact ⟨y0, y1, y2, y3, y4, y5⟩
set_option maxRecDepth 100000 in
set_option maxHeartbeats 8000000 in
theorem tall_walk (r p e : Int) (mp : Option Addr) (mn mc : Nat) (wp : Option Addr) (wn wk : Nat) (op : Option Addr) (on oc : Nat) (M W O : List In) (w : World) (hM : Rd eIn w mp mc M) (hW : Rd eIn w wp wk W) (hO : Rd eIn w op oc O) (lM : M.length = mn) (lW : W.length = wn) (lO : O.length = on) (hr : I64 r) (hp : I64 p) (he : I64 e)
    (q : Option Addr) (c : Nat) (n : Nat) (zs : List Int) (hq : Rd eBy w q c zs) (hn : zs.length = n) (hbz : ∀ x ∈ zs, 0 ≤ x ∧ x ≤ 255) (a : Int) (ha0 : 0 ≤ a) (_ha1 : a ≤ 255) (x : Int) (hx0 : -9223372036854775808 ≤ x) (hx1 : x ≤ 9223372036854775807) :
    Calls Try.prog 3 #[.agg #[.int .i64 r, .int .i64 p, .int .i64 e, .slice mp mn mc, .slice wp wn wk, .slice op on oc], .slice q n c, .int .u8 a, .int .i64 x] w fun e w' => e = .returned (.bool true) ∧ Below w.heap.size w w' := by
  have HN : Hid (zs.length = n) := hn
  clear hn
  have s0 := bel_self w (.cells #[.int .i64 r, .int .i64 p, .int .i64 e, .slice mp mn mc, .slice wp wn wk, .slice op on oc] 24)
  have A0 := Lv.new w #[.int .i64 r, .int .i64 p, .int .i64 e, .slice mp mn mc, .slice wp wn wk, .slice op on oc] 24
  have a0 := A0.c 0 rfl
  have a1 := A0.c 1 rfl
  have a2 := A0.c 2 rfl
  have a3 := A0.c 3 rfl
  have a4 := A0.c 4 rfl
  have a5 := A0.c 5 rfl
  obtain ⟨B, hB⟩ : ∃ B, (decide (mn ≤ 30) && decide (wn ≤ 30) && decide (on ≤ 30)) = B := ⟨_, rfl⟩
  cases B with
  | false =>
    go_enter Try.func3, Try.ntmps3
    go_wp2_with (first
      | (go_at_call 7; refine (light_any r p e mp mn mc wp wn wk op on oc _ false hB).mono ?_; rintro e w2 ⟨rfl, hb2⟩)
      | (go_at_call 6; refine (begun_any _).mono ?_; rintro e w1 ⟨rfl, hb1⟩; have A1 := A0.below hb1; clear a0 a1 a2 a3 a4 a5; have a0 := A1.c 0 rfl; have a1 := A1.c 1 rfl; have a2 := A1.c 2 rfl; have a3 := A1.c 3 rfl; have a4 := A1.c 4 rfl; have a5 := A1.c 5 rfl))
    go_ret
    exact ⟨rfl, bel_call (bel_call s0 (Nat.le_refl _) hb1) (Nat.le_refl _) hb2⟩
  | true =>
  have HT : Hid (Tk3 w mp mn mc wp wn wk op on oc M W O) := by
    simp only [Bool.and_eq_true, decide_eq_true_eq] at hB
    exact ⟨hM, hW, hO, lM, lW, lO, by omega, by omega, by omega⟩
  by_cases c1 : 150 < n
  · have d1 : decide ((150 : Int) < (n : Int)) = true := by simp; omega
    go_enter Try.func3, Try.ntmps3
    go_wp2_with (first
      | (go_at_call 7; refine (light_any r p e mp mn mc wp wn wk op on oc _ true hB).mono ?_; rintro e w2 ⟨rfl, hb2⟩)
      | (go_at_call 6; refine (begun_any _).mono ?_; rintro e w1 ⟨rfl, hb1⟩; have A1 := A0.below hb1; clear a0 a1 a2 a3 a4 a5; have a0 := A1.c 0 rfl; have a1 := A1.c 1 rfl; have a2 := A1.c 2 rfl; have a3 := A1.c 3 rfl; have a4 := A1.c 4 rfl; have a5 := A1.c 5 rfl))
    go_ret
    exact ⟨rfl, bel_call (bel_call s0 (Nat.le_refl _) hb1) (Nat.le_refl _) hb2⟩
  · have d1 : decide ((150 : Int) < (n : Int)) = false := by simp; omega
    have h1000 : n ≤ 1000 := by omega
    clear c1
    obtain ⟨z, hz⟩ : ∃ z, a % 6 = z := ⟨_, rfl⟩
    have hz6 : 0 ≤ z ∧ z ≤ 5 := by omega
    have z1 : a.tmod 6 = z := by rw [Int.tmod_eq_emod_of_nonneg ha0]; exact hz
    have z2 : IntKind.u8.wrap z = z := by rw [IntKind.wrap_u8]; omega
    go_enter Try.func3, Try.ntmps3
    go_upto_block 0 with (first
      | (go_at_call 9; (with_reducible (refine (task_any w2.heap.size 5 _ pk3).mono ?_)); rintro e w4 ⟨pp, pe, mp2, mn2, mc2, wp2, wn2, wc2, op2, on2, oc2, M2, Y2, O2, rfl, t4, pk4, kp4, bd4, _⟩; have C4 := hB3.trans (kp4.below (B := (w.alloc (.cells #[.int .i64 r, .int .i64 p, .int .i64 e, .slice mp mn mc, .slice wp wn wk, .slice op on oc] 24)).heap.size) (by have := hB2.size; omega) (by have := hB3.size; omega)); have A4 := A0.below C4)
      | (go_at_call 8; (with_reducible (refine (made_any q c zs _ n HN.out h1000 hq2 hbz).mono ?_)); rintro e w3 ⟨rfl, pk3, hb3, hs3⟩; have hB3 := bel_call hB2 (Nat.le_refl _) hb3)
      | (go_at_call 7; refine (light_any r p e mp mn mc wp wn wk op on oc _ true hB).mono ?_; rintro e w2 ⟨rfl, hb2⟩; have hB2 := bel_call hb1 (Nat.le_refl _) hb2; have hq2 := hq.below (bel_call s0 (Nat.le_refl _) hB2))
      | (go_at_call 6; refine (begun_any _).mono ?_; rintro e w1 ⟨rfl, hb1⟩; have A1 := A0.below hb1; clear a0 a1 a2 a3 a4 a5; have a0 := A1.c 0 rfl; have a1 := A1.c 1 rfl; have a2 := A1.c 2 rfl; have a3 := A1.c 3 rfl; have a4 := A1.c 4 rfl; have a5 := A1.c 5 rfl))
    have L9 : Lv ((w4.alloc (.cells #[.int .i64 5, .int .i64 pp, .int .i64 pe, .slice mp2 mn2 mc2, .slice wp2 wn2 wc2, .slice op2 on2 oc2] 24)).alloc (.cells #[.int .i64 5, .int .i64 pp, .int .i64 pe, .slice mp2 mn2 mc2, .slice wp2 wn2 wc2, .slice op2 on2 oc2] 24)) w4.heap.size #[.int .i64 5, .int .i64 pp, .int .i64 pe, .slice mp2 mn2 mc2, .slice wp2 wn2 wc2, .slice op2 on2 oc2] 24 := (Lv.new w4 _ 24).below (bel_self _ _)
    have L10 : Lv ((w4.alloc (.cells #[.int .i64 5, .int .i64 pp, .int .i64 pe, .slice mp2 mn2 mc2, .slice wp2 wn2 wc2, .slice op2 on2 oc2] 24)).alloc (.cells #[.int .i64 5, .int .i64 pp, .int .i64 pe, .slice mp2 mn2 mc2, .slice wp2 wn2 wc2, .slice op2 on2 oc2] 24)) (w4.heap.size + 1) #[.int .i64 5, .int .i64 pp, .int .i64 pe, .slice mp2 mn2 mc2, .slice wp2 wn2 wc2, .slice op2 on2 oc2] 24 := heap_at (by simp)
    have D4 : Below w4.heap.size w4 ((w4.alloc (.cells #[.int .i64 5, .int .i64 pp, .int .i64 pe, .slice mp2 mn2 mc2, .slice wp2 wn2 wc2, .slice op2 on2 oc2] 24)).alloc (.cells #[.int .i64 5, .int .i64 pp, .int .i64 pe, .slice mp2 mn2 mc2, .slice wp2 wn2 wc2, .slice op2 on2 oc2] 24)) := (bel_self _ _).alloc (by simp) _
    have L0 := A4.below D4
    have D := bel_call s0 (Nat.le_refl _) (bel_call C4 (Nat.le_refl _) D4)
    have hz0 : w.heap.size < w4.heap.size := A4.lt
    have hz1 : w.heap.size ≤ w4.heap.size := by omega
    obtain ⟨g9, hg9⟩ : ∃ g9, g9 = w4.heap.size := ⟨_, rfl⟩
    rw [← hg9] at L9 L10
    simp only [← hg9]
    obtain ⟨g10, hg10⟩ : ∃ g, g = g9 + 1 := ⟨_, rfl⟩
    rw [← hg10] at L10
    simp only [← hg10]
    have n9 : g9 ≠ g10 := by omega
    have n0 : w.heap.size ≠ g10 := by omega
    have k4 : w4.heap.size ≤ g10 := by omega
    have k0 : w.heap.size ≤ g10 := by omega
    have HT4 : Hid (Tk3 w4 mp2 mn2 mc2 wp2 wn2 wc2 op2 on2 oc2 M2 Y2 O2) := t4
    obtain ⟨W5, hW5⟩ : ∃ W5, W5 = ((w4.alloc (.cells #[.int .i64 5, .int .i64 pp, .int .i64 pe, .slice mp2 mn2 mc2, .slice wp2 wn2 wc2, .slice op2 on2 oc2] 24)).alloc (.cells #[.int .i64 5, .int .i64 pp, .int .i64 pe, .slice mp2 mn2 mc2, .slice wp2 wn2 wc2, .slice op2 on2 oc2] 24)) := ⟨_, rfl⟩
    rw [← hW5] at L9 L10 D4 L0 D ⊢
    obtain ⟨e1, e2, e3, e4⟩ := bd4
    have i5 : I64 5 := by unfold I64; omega
    have ip : I64 pp := by unfold I64; omega
    have ie : I64 pe := by unfold I64; omega
    have ix : I64 x := ⟨hx0, hx1⟩
    have I9 : Hid (I64 5 ∧ I64 pp ∧ I64 pe ∧ I64 x) := ⟨i5, ip, ie, ix⟩
    have HK : Hid (n9 = n9 ∧ k4 = k4 ∧ k0 = k0) := ⟨rfl, rfl, rfl⟩
    have z5 := L10.lt
    clear HK hW5 hg9 hg10 t4 pk4 kp4 C4 A4 hB3 hb3 hs3 pk3 hB2 hb2 hq2 hb1 A1 a0 a1 a2 a3 a4 a5 A0 s0 hz0 hz1 e1 e2 e3 e4 i5 ip ie ix hB hx0 hx1
    go_cut [10] from 34 to 61 (fun nn wx => ∃ (x9 : Tv) (M3 Y3 O3 : List In), nn = .pointer (some ⟨g10, 0, none⟩) ∧ Lv wx g10 (eTk.enc x9).toArray 24 ∧ Gt wx x9 M3 Y3 O3 ∧ Lv wx g9 #[.int .i64 5, .int .i64 pp, .int .i64 pe, .slice mp2 mn2 mc2, .slice wp2 wn2 wc2, .slice op2 on2 oc2] 24 ∧ Lv wx w.heap.size #[.int .i64 r, .int .i64 p, .int .i64 e, .slice mp mn mc, .slice wp wn wk, .slice op on oc] 24 ∧ Below w4.heap.size w4 wx ∧ Below w.heap.size w wx)
    case first =>
      obtain ⟨i5, ip, ie, ix⟩ := I9.out
      rcases (by omega : z = 0 ∨ z = 1 ∨ z = 2 ∨ z = 3 ∨ z = 4 ∨ z = 5) with rfl | rfl | rfl | rfl | rfl | rfl
      · have t0 := L10.c 0 rfl
        have z0 := L10.fz 0
        go_wp2
        go_meet
        case rel => exact cut_fin (x9 := ⟨x, pp, pe, mp2, mn2, mc2, wp2, wn2, wc2, op2, on2, oc2⟩) L10 rfl L9 L0 D4 D k4 k0 n9 n0 ⟨HT4.out.below (D4.setCell k4 _), ix, ip, ie⟩
      · have t0 := L10.c 1 rfl
        have z0 := L10.fz 1
        go_wp2
        go_meet
        case rel => exact cut_fin (x9 := ⟨5, x, pe, mp2, mn2, mc2, wp2, wn2, wc2, op2, on2, oc2⟩) L10 rfl L9 L0 D4 D k4 k0 n9 n0 ⟨HT4.out.below (D4.setCell k4 _), i5, ix, ie⟩
      · have t0 := L10.c 2 rfl
        have z0 := L10.fz 2
        go_wp2
        go_meet
        case rel => exact cut_fin (x9 := ⟨5, pp, x, mp2, mn2, mc2, wp2, wn2, wc2, op2, on2, oc2⟩) L10 rfl L9 L0 D4 D k4 k0 n9 n0 ⟨HT4.out.below (D4.setCell k4 _), i5, ip, ix⟩
      · have hq5 := hq.below D
        go_wp2_with (first
          | (go_at_call 10; (with_reducible (refine (wild_any W5.heap.size _ pk6).mono ?_)); rintro e w7 ⟨p7, n7, c7, l7, rfl, ⟨o7, a7, e7, pk7, kp7⟩, lo7, hi7, _⟩; have B7 : Below W5.heap.size W5 w7 := hb6.trans (kp7.below (B := W5.heap.size) (Nat.le_refl _) hb6.size); have L7 := L10.below B7; have t3 := L7.c 3 rfl; have z3 := L7.fz 3)
          | (go_at_call 8; (with_reducible (refine (made_any q c zs _ n HN.out h1000 hq5 hbz).mono ?_)); rintro e w6 ⟨rfl, pk6, hb6, hs6⟩))
        go_meet
        case rel =>
          have o8 := own_in o7
          have D7 := bel_call D (Nat.le_refl _) B7
          have D47 := bel_call D4 (Nat.le_refl _) B7
          have hr7 : Rd eIn (w7.setCell ⟨g10, 3, none⟩ (.slice p7 n7 c7)) p7 c7 l7 := rd_kp (g := g10) (own_rd o7) (Kp.set rfl _) (fun b o e _ => by have q8 := (o8 b o e).1; have q9 := hb6.size; omega)
          have hn7 : n7 ≤ 1000 := by omega
          have ht7 := HT4.out.below (D47.setCell (show w4.heap.size ≤ (⟨g10, 3, none⟩ : Addr).block from k4) (.slice p7 n7 c7))
          exact cut_fin (x9 := ⟨5, pp, pe, p7, n7, c7, wp2, wn2, wc2, op2, on2, oc2⟩) L7 rfl (L9.below B7) (L0.below B7) D47 D7 k4 k0 n9 n0 ⟨⟨hr7, ht7.rW, ht7.rO, e7, ht7.n, ht7.o, hn7, ht7.n9, ht7.o9⟩, i5, ip, ie⟩
      · have t3 := L9.c 3 rfl
        have t0 := L10.c 4 rfl
        have z0 := L10.fz 4
        go_wp2
        go_meet
        case rel => exact cut_fin (x9 := ⟨5, pp, pe, mp2, mn2, mc2, mp2, mn2, mc2, op2, on2, oc2⟩) L10 rfl L9 L0 D4 D k4 k0 n9 n0 ⟨let h := HT4.out.below (D4.setCell k4 _); { h with rW := h.rM, n := h.m, n9 := h.m9 }, i5, ip, ie⟩
      · have t3 := L9.c 3 rfl
        have t0 := L10.c 5 rfl
        have z0 := L10.fz 5
        go_wp2
        go_meet
        case rel => exact cut_fin (x9 := ⟨5, pp, pe, mp2, mn2, mc2, wp2, wn2, wc2, mp2, mn2, mc2⟩) L10 rfl L9 L0 D4 D k4 k0 n9 n0 ⟨let h := HT4.out.below (D4.setCell k4 _); { h with rO := h.rM, o := h.m, o9 := h.m9 }, i5, ip, ie⟩
    case rest =>
      obtain ⟨X9, M3, Y3, O3, rfl, L10', G9, L9', L0', D4', D'⟩ := hcut
      clear L9 L10 L0 D4 D z1 z2 hz6 z5
      obtain ⟨i5, ip, ie, ix⟩ := I9.out
      obtain ⟨r9, p9, e9, mp9, mn9, mc9, wp9, wn9, wc9, op9, on9, oc9⟩ := X9
      have L10 : Lv wc g10 #[.int .i64 r9, .int .i64 p9, .int .i64 e9, .slice mp9 mn9 mc9, .slice wp9 wn9 wc9, .slice op9 on9 oc9] 24 := L10'
      have a0 := L0'.c 0 rfl
      have a1 := L0'.c 1 rfl
      have a2 := L0'.c 2 rfl
      have a3 := L0'.c 3 rfl
      have a4 := L0'.c 4 rfl
      have a5 := L0'.c 5 rfl
      have b0 := L9'.c 0 rfl
      have b1 := L9'.c 1 rfl
      have b2 := L9'.c 2 rfl
      have b3 := L9'.c 3 rfl
      have b4 := L9'.c 4 rfl
      have b5 := L9'.c 5 rfl
      have d0 := L10.c 0 rfl
      have d1 := L10.c 1 rfl
      have d2 := L10.c 2 rfl
      have d3 := L10.c 3 rfl
      have d4 := L10.c 4 rfl
      have d5 := L10.c 5 rfl
      go_upto_block 1 with fail
      have sX := bel_self wc (.cells #[.int .i64 r, .int .i64 p, .int .i64 e, .slice mp mn mc, .slice wp wn wk, .slice op on oc, .int .i64 5, .int .i64 pp, .int .i64 pe, .slice mp2 mn2 mc2, .slice wp2 wn2 wc2, .slice op2 on2 oc2, .int .i64 r9, .int .i64 p9, .int .i64 e9, .slice mp9 mn9 mc9, .slice wp9 wn9 wc9, .slice op9 on9 oc9] 24)
      have hR0 : Rd eTk (wc.alloc (.cells #[.int .i64 r, .int .i64 p, .int .i64 e, .slice mp mn mc, .slice wp wn wk, .slice op on oc, .int .i64 5, .int .i64 pp, .int .i64 pe, .slice mp2 mn2 mc2, .slice wp2 wn2 wc2, .slice op2 on2 oc2, .int .i64 r9, .int .i64 p9, .int .i64 e9, .slice mp9 mn9 mc9, .slice wp9 wn9 wc9, .slice op9 on9 oc9] 24)) (some ⟨wc.heap.size, 0, none⟩) 3 [⟨r, p, e, mp, mn, mc, wp, wn, wk, op, on, oc⟩, ⟨5, pp, pe, mp2, mn2, mc2, wp2, wn2, wc2, op2, on2, oc2⟩, ⟨r9, p9, e9, mp9, mn9, mc9, wp9, wn9, wc9, op9, on9, oc9⟩] := rd_block (E := eTk) (heap_alloc_new wc _) 3 rfl rfl
      have hBX := bel_call D' (Nat.le_refl _) sX
      have hB4X := bel_call D4' (Nat.le_refl _) sX
      have hGs0 : Gts (wc.alloc (.cells #[.int .i64 r, .int .i64 p, .int .i64 e, .slice mp mn mc, .slice wp wn wk, .slice op on oc, .int .i64 5, .int .i64 pp, .int .i64 pe, .slice mp2 mn2 mc2, .slice wp2 wn2 wc2, .slice op2 on2 oc2, .int .i64 r9, .int .i64 p9, .int .i64 e9, .slice mp9 mn9 mc9, .slice wp9 wn9 wc9, .slice op9 on9 oc9] 24)) [⟨r, p, e, mp, mn, mc, wp, wn, wk, op, on, oc⟩, ⟨5, pp, pe, mp2, mn2, mc2, wp2, wn2, wc2, op2, on2, oc2⟩, ⟨r9, p9, e9, mp9, mn9, mc9, wp9, wn9, wc9, op9, on9, oc9⟩] := by
        intro y hy
        simp only [List.mem_cons, List.not_mem_nil, or_false] at hy
        rcases hy with rfl | rfl | rfl
        · exact ⟨M, W, O, HT.out.below hBX, hr, hp, he⟩
        · exact ⟨M2, Y2, O2, HT4.out.below hB4X, i5, ip, ie⟩
        · exact ⟨M3, Y3, O3, G9.below sX⟩
      obtain ⟨P, hP⟩ : ∃ P : List Tv, P = [⟨r, p, e, mp, mn, mc, wp, wn, wk, op, on, oc⟩, ⟨5, pp, pe, mp2, mn2, mc2, wp2, wn2, wc2, op2, on2, oc2⟩, ⟨r9, p9, e9, mp9, mn9, mc9, wp9, wn9, wc9, op9, on9, oc9⟩] := ⟨_, rfl⟩
      rw [← hP] at hR0 hGs0
      have hP3 : P.length = 3 := by rw [hP]; rfl
      obtain ⟨W7, hW7⟩ : ∃ W7, W7 = wc.alloc (.cells #[.int .i64 r, .int .i64 p, .int .i64 e, .slice mp mn mc, .slice wp wn wk, .slice op on oc, .int .i64 5, .int .i64 pp, .int .i64 pe, .slice mp2 mn2 mc2, .slice wp2 wn2 wc2, .slice op2 on2 oc2, .int .i64 r9, .int .i64 p9, .int .i64 e9, .slice mp9 mn9 mc9, .slice wp9 wn9 wc9, .slice op9 on9 oc9] 24) := ⟨_, rfl⟩
      obtain ⟨pl, hpl⟩ : ∃ pl : Option Addr, pl = some ⟨wc.heap.size, 0, none⟩ := ⟨_, rfl⟩
      rw [← hW7] at hR0 hGs0 hBX ⊢
      rw [← hpl] at hR0 ⊢
      clear hP hW7 hpl sX hB4X D4' D' G9 L9' L0' L10 L10' a0 a1 a2 a3 a4 a5 b0 b1 b2 b3 b4 b5 d0 d1 d2 d3 d4 d5 i5 ip ie ix I9 HT4 HT
      go_wp2
      go_loopw [12] (fun i wr => ∃ k : Nat, k ≤ 3 ∧ i = .int .i64 k ∧ Below W7.heap.size W7 wr) (fun i _ => 3 - (intOf i).toNat)
      case atStart => exact ⟨0, Nat.zero_le _, rfl, Below.refl _ _⟩
      case round =>
        obtain ⟨kk, hkk, rfl, hbw⟩ := hrel
        obtain ⟨w0, hw0⟩ : ∃ w0 : World, w0 = wr := ⟨_, rfl⟩
        subst hw0
        by_cases hlt : kk < 3
        · have dk : decide ((kk : Int) < 3) = true := by simp; omega
          have hkI : (kk : Int) < 3 := by omega
          have hkP : kk < P.length := by omega
          obtain ⟨X, hX⟩ : ∃ X, P[kk] = X := ⟨_, rfl⟩
          obtain ⟨bb, bo, be, hbb, hcel⟩ := hcel_of (hR0.below hbw) kk hkP hX
          obtain ⟨M1, Y1, O1, hG⟩ := (hGs0.below hbw) X (by rw [← hX]; exact List.getElem_mem hkP)
          obtain ⟨hGk, hGr, hGp, hGe⟩ := hG
          clear hX hkP
          subst be
          obtain ⟨r1, p1, e1, mp1, mn1, mc1, wp1, wn1, wc1, op1, on1, oc1⟩ := X
          dsimp only at hcel hGk hGr hGp hGe
          obtain ⟨E, hE⟩ : ∃ E, erT r1 p1 e1 M1 Y1 O1 = E := ⟨_, rfl⟩
          obtain ⟨A, hA⟩ : ∃ A, cosT E M1 = A := ⟨_, rfl⟩
          obtain ⟨L, hL⟩ : ∃ L, losT E M1 Y1 = L := ⟨_, rfl⟩
          obtain ⟨S, hS⟩ : ∃ S, spaT E M1 Y1 = S := ⟨_, rfl⟩
          obtain ⟨m, hm⟩ : ∃ m, S.length = m := ⟨_, rfl⟩
          have m48 : m ≤ 48 := by rw [← hm, ← hS]; exact spaT_le hE
          have K1 := fun w' (hb : Below w0.heap.size w0 w') => costs_any r1 p1 e1 mp1 mn1 mc1 wp1 wn1 wc1 op1 on1 oc1 M1 Y1 O1 w' (hGk.below hb) hGr hGp hGe E hE A L hA hL m (by rw [hS]; exact hm)
          have K2 := fun w' (hb : Below w0.heap.size w0 w') => rcosts_any r1 p1 e1 mp1 mn1 mc1 wp1 wn1 wc1 op1 on1 oc1 M1 Y1 O1 w' (hGk.below hb) E hE A L hA hL m (by rw [hS]; exact hm)
          have K3 := fun w' (hb : Below w0.heap.size w0 w') => tmay_any r1 p1 e1 mp1 mn1 mc1 wp1 wn1 wc1 op1 on1 oc1 M1 Y1 O1 w' (hGk.below hb) hGr hGp hGe E hE
          have K4 := fun w' (hb : Below w0.heap.size w0 w') => rmay_any r1 p1 e1 mp1 mn1 mc1 wp1 wn1 wc1 op1 on1 oc1 M1 Y1 O1 w' (hGk.below hb) E hE
          rw [hS] at K1 K2
          have HS : Hid (S.length = m) := hm
          clear hE hA hL hS hm hGk hGr hGp hGe
          obtain ⟨y0, y1, y2, y3, y4, y5⟩ := hcel w0 (Below.refl _ _)
          go_upto_region 25 with (first
            | (go_at_call 12; (with_reducible (refine (K2 _ b8).mono ?_)); rintro e9 w9 ⟨⟨q2, dd2, rfl, o2⟩, b9⟩)
            | (go_at_call 11; (with_reducible (refine (K1 _ (Below.refl _ _)).mono ?_)); rintro e8 w8 ⟨⟨q1, dd1, rfl, o1⟩, b8⟩; clear y0 y1 y2 y3 y4 y5; obtain ⟨y0, y1, y2, y3, y4, y5⟩ := hcel w8 b8))
          have B9 := bel_call b8 (Nat.le_refl _) b9
          have rS1 := (own_rd o1).below b9
          have rS2 := own_rd o2
          obtain ⟨W1, hW1⟩ : ∃ W1, W1 = w9 := ⟨_, rfl⟩
          subst hW1
          have x1 : (E != E) = false := by simp
          have x2 : (A != A) = false := by simp
          have x3 : (L != L) = false := by simp
          have x4 : ((m : Int) != (m : Int)) = false := by simp
          have x5 : (E == E) = true := by simp
          have x6 : (A == A) = true := by simp
          have x7 : (L == L) = true := by simp
          have x8 : ((m : Int) == (m : Int)) = true := by simp
          clear y0 y1 y2 y3 y4 y5 o1 o2 K1 K2
          refine wp_region_held_drew (S := fun w' => Below W1.heap.size W1 w') (by kernel_rfl) (Below.refl _ _).drew (fun hHeld => ?_)
          refine wpAnyH_take (i := 0) (oi := _) (v := ?_) rfl (by kernel_rfl) (by kernel_rfl) (by kernel_rfl) (fun _ _ _ h => h) (Or.inl ⟨by rfl, ?_⟩) hHeld ?_
          rotate_left
          · intro w' hSw
            (go_simp <;> with_reducible rfl)
          try simp only [Act.put, List.getElem_toArray, List.getElem_cons_zero, List.setIfInBounds_toArray, List.set_cons_zero, List.set_cons_succ]
          refine wpAnyH_take (i := 1) (oi := _) (v := ?_) rfl (by kernel_rfl) (by kernel_rfl) (by kernel_rfl) (fun _ _ _ h => h) (Or.inl ⟨by rfl, ?_⟩) hHeld ?_
          rotate_left
          · intro w' hSw
            (go_simp <;> with_reducible rfl)
          try simp only [Act.put, List.getElem_toArray, List.getElem_cons_succ, List.getElem_cons_zero, List.setIfInBounds_toArray, List.set_cons_zero, List.set_cons_succ]
          refine wpAnyH_take (i := 2) (oi := _) (v := ?_) rfl (by kernel_rfl) (by kernel_rfl) (by kernel_rfl) (fun _ _ _ h => h) (Or.inl ⟨by rfl, ?_⟩) hHeld ?_
          rotate_left
          · intro w' hSw
            (go_simp <;> with_reducible rfl)
          try simp only [Act.put, List.getElem_toArray, List.getElem_cons_succ, List.getElem_cons_zero, List.setIfInBounds_toArray, List.set_cons_zero, List.set_cons_succ]
          refine wpAnyH_take (i := 3) (oi := _) (v := ?_) rfl (by kernel_rfl) (by kernel_rfl) (by kernel_rfl) (fun _ _ _ h => h) (Or.inl ⟨by rfl, ?_⟩) hHeld ?_
          rotate_left
          · intro w' hSw
            obtain ⟨y0, y1, y2, y3, y4, y5⟩ := hcel w' (bel_call B9 (Nat.le_refl _) hSw)
            (go_simp <;> with_reducible rfl)
          try simp only [Act.put, List.getElem_toArray, List.getElem_cons_succ, List.getElem_cons_zero, List.setIfInBounds_toArray, List.set_cons_zero, List.set_cons_succ]
          refine wpAnyH_take (i := 5) (oi := _) (v := ?_) rfl (by kernel_rfl) (by kernel_rfl) (by kernel_rfl) (fun _ _ _ h => h) (Or.inl ⟨by rfl, ?_⟩) hHeld ?_
          rotate_left
          · intro w' hSw
            (go_simp <;> with_reducible rfl)
          try simp only [Act.put, List.getElem_toArray, List.getElem_cons_succ, List.getElem_cons_zero, List.setIfInBounds_toArray, List.set_cons_zero, List.set_cons_succ]
          refine wpAnyH_take (i := 6) (oi := _) (v := ?_) rfl (by kernel_rfl) (by kernel_rfl) (by kernel_rfl) (fun _ _ _ h => h) (Or.inl ⟨by rfl, ?_⟩) hHeld ?_
          rotate_left
          · intro w' hSw
            (go_simp <;> with_reducible rfl)
          try simp only [Act.put, List.getElem_toArray, List.getElem_cons_succ, List.getElem_cons_zero, List.setIfInBounds_toArray, List.set_cons_zero, List.set_cons_succ]
          refine wpAnyH_take (i := 7) (oi := _) (v := ?_) rfl (by kernel_rfl) (by kernel_rfl) (by kernel_rfl) (fun _ _ _ h => h) (Or.inl ⟨by rfl, ?_⟩) hHeld ?_
          rotate_left
          · intro w' hSw
            (go_simp <;> with_reducible rfl)
          try simp only [Act.put, List.getElem_toArray, List.getElem_cons_succ, List.getElem_cons_zero, List.setIfInBounds_toArray, List.set_cons_zero, List.set_cons_succ]
          refine wpAnyH_take (i := 8) (oi := _) (v := ?_) rfl (by kernel_rfl) (by kernel_rfl) (by kernel_rfl) (fun _ _ _ h => h) (Or.inl ⟨by rfl, ?_⟩) hHeld ?_
          rotate_left
          · intro w' hSw
            obtain ⟨y0, y1, y2, y3, y4, y5⟩ := hcel w' (bel_call B9 (Nat.le_refl _) hSw)
            (go_simp <;> with_reducible rfl)
          try simp only [Act.put, List.getElem_toArray, List.getElem_cons_succ, List.getElem_cons_zero, List.setIfInBounds_toArray, List.set_cons_zero, List.set_cons_succ]
          refine wpAnyH_ready (rs := [4]) (by kernel_rfl) (by simp) ?_
          refine AllReadyH.cons (o := _) rfl (fun K hK => ?_) AllReadyH.nil
          go_simp
          go_at_call 13; (with_reducible (refine (K3 _ (bel_call B9 (Nat.le_refl _) hHeld)).mono ?_))
          rintro e9 w13 ⟨rfl, b13⟩
          have b13 := bel_call hHeld (Nat.le_refl _) b13
          refine hK.out _ _ b13 (fun _ => ?_)
          refine wpAnyH_weaken (S' := fun w' => Below w13.heap.size w13 w') (fun w' h => bel_call b13 (Nat.le_refl _) h) _ _ _ _ ?_
          clear hHeld hK K
          have hHeld : Below w13.heap.size w13 w13 := Below.refl _ _
          try simp only [Act.put, List.getElem_toArray, List.getElem_cons_succ, List.getElem_cons_zero, List.setIfInBounds_toArray, List.set_cons_zero, List.set_cons_succ]
          refine wpAnyH_ready (rs := [9]) (by kernel_rfl) (by simp) ?_
          refine AllReadyH.cons (o := _) rfl (fun K hK => ?_) AllReadyH.nil
          go_simp
          go_at_call 14; (with_reducible (refine (K4 _ (bel_call (bel_call B9 (Nat.le_refl _) b13) (Nat.le_refl _) hHeld)).mono ?_))
          rintro e8 w14 ⟨rfl, b14⟩
          have b14 := bel_call hHeld (Nat.le_refl _) b14
          refine hK.out _ _ b14 (fun _ => ?_)
          refine wpAnyH_weaken (S' := fun w' => Below w14.heap.size w14 w') (fun w' h => bel_call b14 (Nat.le_refl _) h) _ _ _ _ ?_
          clear hHeld hK K
          have hHeld : Below w14.heap.size w14 w14 := Below.refl _ _
          try simp only [Act.put, List.getElem_toArray, List.getElem_cons_succ, List.getElem_cons_zero, List.setIfInBounds_toArray, List.set_cons_zero, List.set_cons_succ]
          refine wpAnyH_take (i := 10) (oi := _) (v := ?_) rfl (by kernel_rfl) (by kernel_rfl) (by kernel_rfl) (fun _ _ _ h => h) (Or.inl ⟨by rfl, ?_⟩) hHeld ?_
          rotate_left
          · intro w' hSw
            (go_simp <;> with_reducible rfl)
          try simp only [Act.put, List.getElem_toArray, List.getElem_cons_succ, List.getElem_cons_zero, List.setIfInBounds_toArray, List.set_cons_zero, List.set_cons_succ]
          refine wpAnyH_take (i := 11) (oi := _) (v := ?_) rfl (by kernel_rfl) (by kernel_rfl) (by kernel_rfl) (fun _ _ _ h => h) (Or.inl ⟨by rfl, ?_⟩) hHeld ?_
          rotate_left
          · intro w' hSw
            (go_simp <;> with_reducible rfl)
          try simp only [Act.put, List.getElem_toArray, List.getElem_cons_succ, List.getElem_cons_zero, List.setIfInBounds_toArray, List.set_cons_zero, List.set_cons_succ]
          refine wpAnyH_take (i := 12) (oi := _) (v := ?_) rfl (by kernel_rfl) (by kernel_rfl) (by kernel_rfl) (fun _ _ _ h => h) (Or.inl ⟨by rfl, ?_⟩) hHeld ?_
          rotate_left
          · intro w' hSw
            (go_simp <;> with_reducible rfl)
          try simp only [Act.put, List.getElem_toArray, List.getElem_cons_succ, List.getElem_cons_zero, List.setIfInBounds_toArray, List.set_cons_zero, List.set_cons_succ]
          refine wpAnyH_take (i := 13) (oi := _) (v := ?_) rfl (by kernel_rfl) (by kernel_rfl) (by kernel_rfl) (fun _ _ _ h => h) (Or.inl ⟨by rfl, ?_⟩) hHeld ?_
          rotate_left
          · intro w' hSw
            (go_simp <;> with_reducible rfl)
          try simp only [Act.put, List.getElem_toArray, List.getElem_cons_succ, List.getElem_cons_zero, List.setIfInBounds_toArray, List.set_cons_zero, List.set_cons_succ]
          refine wpAnyH_take (i := 14) (oi := _) (v := ?_) rfl (by kernel_rfl) (by kernel_rfl) (by kernel_rfl) (fun _ _ _ h => h) (Or.inl ⟨by rfl, ?_⟩) hHeld ?_
          rotate_left
          · intro w' hSw
            (go_simp <;> with_reducible rfl)
          try simp only [Act.put, List.getElem_toArray, List.getElem_cons_succ, List.getElem_cons_zero, List.setIfInBounds_toArray, List.set_cons_zero, List.set_cons_succ]
          refine wpAnyH_take (i := 15) (oi := _) (v := ?_) rfl (by kernel_rfl) (by kernel_rfl) (by kernel_rfl) (fun _ _ _ h => h) (Or.inl ⟨by rfl, ?_⟩) hHeld ?_
          rotate_left
          · intro w' hSw
            (go_simp <;> with_reducible rfl)
          try simp only [Act.put, List.getElem_toArray, List.getElem_cons_succ, List.getElem_cons_zero, List.setIfInBounds_toArray, List.set_cons_zero, List.set_cons_succ]
          refine wpAnyH_take (i := 16) (oi := _) (v := ?_) rfl (by kernel_rfl) (by kernel_rfl) (by kernel_rfl) (fun _ _ _ h => h) (Or.inl ⟨by rfl, ?_⟩) hHeld ?_
          rotate_left
          · intro w' hSw
            (go_simp <;> with_reducible rfl)
          try simp only [Act.put, List.getElem_toArray, List.getElem_cons_succ, List.getElem_cons_zero, List.setIfInBounds_toArray, List.set_cons_zero, List.set_cons_succ]
          refine wpAnyH_take (i := 17) (oi := _) (v := ?_) rfl (by kernel_rfl) (by kernel_rfl) (by kernel_rfl) (fun _ _ _ h => h) (Or.inl ⟨by rfl, ?_⟩) hHeld ?_
          rotate_left
          · intro w' hSw
            (go_simp <;> with_reducible rfl)
          try simp only [Act.put, List.getElem_toArray, List.getElem_cons_succ, List.getElem_cons_zero, List.setIfInBounds_toArray, List.set_cons_zero, List.set_cons_succ]
          refine wpAnyH_take (i := 18) (oi := _) (v := ?_) rfl (by kernel_rfl) (by kernel_rfl) (by kernel_rfl) (fun _ _ _ h => h) (Or.inl ⟨by rfl, ?_⟩) hHeld ?_
          rotate_left
          · intro w' hSw
            (go_simp <;> with_reducible rfl)
          try simp only [Act.put, List.getElem_toArray, List.getElem_cons_succ, List.getElem_cons_zero, List.setIfInBounds_toArray, List.set_cons_zero, List.set_cons_succ]
          refine wpAnyH_take (i := 19) (oi := _) (v := ?_) rfl (by kernel_rfl) (by kernel_rfl) (by kernel_rfl) (fun _ _ _ h => h) (Or.inl ⟨by rfl, ?_⟩) hHeld ?_
          rotate_left
          · intro w' hSw
            (go_simp <;> with_reducible rfl)
          try simp only [Act.put, List.getElem_toArray, List.getElem_cons_succ, List.getElem_cons_zero, List.setIfInBounds_toArray, List.set_cons_zero, List.set_cons_succ]
          refine wpAnyH_take (i := 20) (oi := _) (v := ?_) rfl (by kernel_rfl) (by kernel_rfl) (by kernel_rfl) (fun _ _ _ h => h) (Or.inl ⟨by rfl, ?_⟩) hHeld ?_
          rotate_left
          · intro w' hSw
            (go_simp <;> with_reducible rfl)
          try simp only [Act.put, List.getElem_toArray, List.getElem_cons_succ, List.getElem_cons_zero, List.setIfInBounds_toArray, List.set_cons_zero, List.set_cons_succ]
          refine wpAnyH_take (i := 21) (oi := _) (v := ?_) rfl (by kernel_rfl) (by kernel_rfl) (by kernel_rfl) (fun _ _ _ h => h) (Or.inl ⟨by rfl, ?_⟩) hHeld ?_
          rotate_left
          · intro w' hSw
            (go_simp <;> with_reducible rfl)
          try simp only [Act.put, List.getElem_toArray, List.getElem_cons_succ, List.getElem_cons_zero, List.setIfInBounds_toArray, List.set_cons_zero, List.set_cons_succ]
          refine wpAnyH_take (i := 22) (oi := _) (v := ?_) rfl (by kernel_rfl) (by kernel_rfl) (by kernel_rfl) (fun _ _ _ h => h) (Or.inl ⟨by rfl, ?_⟩) hHeld ?_
          rotate_left
          · intro w' hSw
            (go_simp <;> with_reducible rfl)
          try simp only [Act.put, List.getElem_toArray, List.getElem_cons_succ, List.getElem_cons_zero, List.setIfInBounds_toArray, List.set_cons_zero, List.set_cons_succ]
          refine wpAnyH_take (i := 23) (oi := _) (v := ?_) rfl (by kernel_rfl) (by kernel_rfl) (by kernel_rfl) (fun _ _ _ h => h) (Or.inl ⟨by rfl, ?_⟩) hHeld ?_
          rotate_left
          · intro w' hSw
            (go_simp <;> with_reducible rfl)
          try simp only [Act.put, List.getElem_toArray, List.getElem_cons_succ, List.getElem_cons_zero, List.setIfInBounds_toArray, List.set_cons_zero, List.set_cons_succ]
          refine wpAnyH_take (i := 24) (oi := _) (v := ?_) rfl (by kernel_rfl) (by kernel_rfl) (by kernel_rfl) (fun _ _ _ h => h) (Or.inl ⟨by rfl, ?_⟩) hHeld ?_
          rotate_left
          · intro w' hSw
            (go_simp <;> with_reducible rfl)
          try simp only [Act.put, List.getElem_toArray, List.getElem_cons_succ, List.getElem_cons_zero, List.setIfInBounds_toArray, List.set_cons_zero, List.set_cons_succ]
          refine wpAnyH_take (i := 25) (oi := _) (v := ?_) rfl (by kernel_rfl) (by kernel_rfl) (by kernel_rfl) (fun _ _ _ h => h) (Or.inl ⟨by rfl, ?_⟩) hHeld ?_
          rotate_left
          · intro w' hSw
            (go_simp <;> with_reducible rfl)
          try simp only [Act.put, List.getElem_toArray, List.getElem_cons_succ, List.getElem_cons_zero, List.setIfInBounds_toArray, List.set_cons_zero, List.set_cons_succ]
          refine wpAnyH_take (i := 26) (oi := _) (v := ?_) rfl (by kernel_rfl) (by kernel_rfl) (by kernel_rfl) (fun _ _ _ h => h) (Or.inl ⟨by rfl, ?_⟩) hHeld ?_
          rotate_left
          · intro w' hSw
            (go_simp <;> with_reducible rfl)
          try simp only [Act.put, List.getElem_toArray, List.getElem_cons_succ, List.getElem_cons_zero, List.setIfInBounds_toArray, List.set_cons_zero, List.set_cons_succ]
          refine wpAnyH_take (i := 27) (oi := _) (v := ?_) rfl (by kernel_rfl) (by kernel_rfl) (by kernel_rfl) (fun _ _ _ h => h) (Or.inl ⟨by rfl, ?_⟩) hHeld ?_
          rotate_left
          · intro w' hSw
            (go_simp <;> with_reducible rfl)
          try simp only [Act.put, List.getElem_toArray, List.getElem_cons_succ, List.getElem_cons_zero, List.setIfInBounds_toArray, List.set_cons_zero, List.set_cons_succ]
          refine wpAnyH_done (by kernel_rfl) ?_ _
          have BE := bel_call b13 (Nat.le_refl _) b14
          have rS1 := rS1.below BE
          have rS2 := rS2.below BE
          have hbe := bel_call hbw (Nat.le_refl _) (bel_call B9 (Nat.le_refl _) BE)
          clear K3 K4 b13 b14 BE B9 b8 b9 hcel hHeld x1 x2 x3 x4 x5 x6 x7 x8
          go_wp2
          go_loopw [19] (fun i wx => ∃ j : Nat, j ≤ m ∧ i = .int .i64 j ∧ Below w14.heap.size w14 wx) (fun i _ => m - (intOf i).toNat)
          case atStart => exact ⟨0, Nat.zero_le _, rfl, Below.refl _ _⟩
          case round =>
            obtain ⟨j, hj, rfl, hbx⟩ := hrel
            by_cases hjl : j < m
            · have hjI : (j : Int) < (m : Int) := by omega
              have dj : decide ((j : Int) < (m : Int)) = true := decide_eq_true hjI
              have hjS : j < S.length := by rw [HS.out]; exact hjl
              obtain ⟨sb, so, se, hsb, u0, u1⟩ := (rS1.below hbx).span j hjS
              obtain ⟨tb, tto, te, htb, v0, v1⟩ := (rS2.below hbx).span j hjS
              generalize S[j] = X at *
              obtain ⟨xs, xl⟩ := X
              subst se te
              dsimp only at u0 u1 v0 v1
              have f1 : (xs == xs) = true := by simp
              have f2 : (xl == xl) = true := by simp
              have f3 : (xs != xs) = false := by simp
              have f4 : (xl != xl) = false := by simp
              go_upto_region 30 with fail
              go_wp2_with (go_quiet (fail))
              have bd := bel_draws hbx nq
              go_roundw
              case rel => exact ⟨j + 1, by omega, by go_num, bd⟩
              case measure => simp [intOf]; omega
            · have dj : decide ((j : Int) < (m : Int)) = false := decide_eq_false (by omega)
              go_wp2
              go_roundw
              case rel => exact ⟨kk + 1, by omega, by go_num, bel_call hbe (Nat.le_refl _) hbx⟩
              case measure => simp [intOf]; omega
        · obtain rfl : kk = 3 := by omega
          go_wp2
          go_ret
          exact ⟨rfl, bel_call hBX (Nat.le_refl _) hbw⟩
end Go.Proofs.Ytonholadabebbaa
