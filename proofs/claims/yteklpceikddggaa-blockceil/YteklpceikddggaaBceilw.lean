/-
  The law BlockCeil, walked.
-/
import Derived.Test.YteklpceikddggaaBall
import Derived.Deep.CutBlock
import Derived.Deep.CutRange
namespace Go.Proofs.Yteklpceikddggaa
open Go.ChangeShapes Go.WideShapes Go.ChangeAt Go.RowKit
attribute [local go_sem ↓] Go.wp_at_zero Go.wp_at_succ

theorem isS_step (S : Sn) (s : Int) (j : Nat) (hj : j < S.length) : isS (S.take (j + 1)) s = (isS (S.take j) s || S[j].1 == s) := by
  have e : S.take (j + 1) = S.take j ++ [S[j]] := by simp
  unfold isS
  rw [e, List.any_append]
  simp
set_option maxRecDepth 20000 in
set_option maxHeartbeats 4000000 in
theorem bceil_walk (q : Option Addr) (c n : Nat) (zs : List Int) (w : World) (hq : Rd eBy w q c zs) (hN : zs.length = n) (hb : ∀ x ∈ zs, 0 ≤ x ∧ x ≤ 255) (a : Int) (ha0 : 0 ≤ a) (_ha1 : a ≤ 255) :
    Calls Try.prog 5 #[.slice q n c, .int .u8 a] w fun e w' => e = .returned (.bool true) ∧ Below w.heap.size w w' := by
  have HN : Hid (zs.length = n) := hN
  clear hN
  by_cases c1 : 250 < n
  · have d1 : decide ((250 : Int) < (n : Int)) = true := by simp; omega
    go_enter Try.func5, Try.ntmps5
    go_wp2_with (go_at_call 8; refine (begun_any _).mono ?_; rintro e w1 ⟨rfl, hb1⟩)
    go_ret
    exact ⟨rfl, hb1⟩
  · have d1 : decide ((250 : Int) < (n : Int)) = false := by simp; omega
    have h1000 : n ≤ 1000 := by omega
    clear c1
    obtain ⟨s, hs⟩ : ∃ s, a % 4 = s := ⟨_, rfl⟩
    have hs4 : 0 ≤ s ∧ s ≤ 3 := by omega
    have z1 : a.tmod 4 = s := by rw [Int.tmod_eq_emod_of_nonneg ha0]; exact hs
    have z2 : IntKind.u8.wrap s = s := by rw [IntKind.wrap_u8]; omega
    have z3 : IntKind.i64.wrap s = s := by rw [IntKind.wrap_i64]; omega
    go_enter Try.func5, Try.ntmps5
    go_upto_region 6 with (first
      | (go_at_call 9; (with_reducible (refine (row_any q c n zs _ hq1 HN.out h1000 hb 5 (by omega) (by omega)).mono ?_)); rintro e w2 ⟨p, m, c', rfl, hm5, P, SP, hR⟩)
      | (go_at_call 8; refine (begun_any _).mono ?_; rintro e w1 ⟨rfl, hb1⟩; have hq1 := hq.below hb1))
    have RE := hR.e
    have hB2 := bel_call hb1 (Nat.le_refl _) hR.bel
    have hm : m ≤ 100 := by omega
    obtain ⟨C, hC⟩ : ∃ C, ceilv SP m s = C := ⟨_, rfl⟩
    have hCi := ceil_is SP m s
    rw [hC] at hCi
    have KC := ceil_any p c' m P SP w2 RE.d hm s C hCi
    have hCb := hCi.bd (by omega)
    have HC : Hid (IsCeil SP m s C) := hCi
    clear hR hq hq1 hb hb1 hC hCi
    go_wp2_with (go_at_call 12; (with_reducible (refine KC.mono ?_)); rintro e w3 ⟨rfl, b3⟩)
    have RE3 := RE.below b3
    have hB3 := bel_call hB2 (Nat.le_refl _) b3
    clear KC RE hB2
    go_loopw [7] (fun i wr => ∃ k : Nat, k ≤ m ∧ i = .int .i64 k ∧ Below w3.heap.size w3 wr) (fun i _ => m - (intOf i).toNat)
    case atStart => exact ⟨0, Nat.zero_le _, rfl, Below.refl _ _⟩
    case round =>
      obtain ⟨k, hk, rfl, hbw⟩ := hrel
      obtain ⟨W1, hW1⟩ : ∃ W1 : World, W1 = wr := ⟨_, rfl⟩
      subst hW1
      by_cases hlt : k < m
      · have hkI : (k : Int) < (m : Int) := by omega
        have dk : decide ((k : Int) < (m : Int)) = true := decide_eq_true hkI
        have hRw := RE3.below hbw
        have hkP : k < P.length := by rw [RE3.len]; exact hlt
        have hkS : k < SP.length := by rw [RE3.sl]; exact hlt
        obtain ⟨X, hX⟩ : ∃ X, P[k] = X := ⟨_, rfl⟩
        obtain ⟨bb, bo, be, hbb, hcel⟩ := hcel_of hRw.rd k hkP hX
        obtain ⟨M1, Y1, O1, hG, hE, hSk⟩ := hRw.tk k hkP hkS
        rw [hX] at hG hE
        obtain ⟨hGk, hGr, hGp, hGe⟩ := hG
        subst be
        obtain ⟨r1, p1, e1, mp1, mn1, mc1, wp1, wn1, wc1, op1, on1, oc1⟩ := X
        dsimp only at hcel hGk hGr hGp hGe hE
        have HS9 : Hid (SP.getD k [] = SP[k]) := by show _ = _; rw [List.getD_eq_getElem?_getD, List.getElem?_eq_getElem hkS]; rfl
        obtain ⟨S, hS⟩ : ∃ S, SP[k] = S := ⟨_, rfl⟩
        rw [hS] at hSk HS9
        obtain ⟨mm, hmm⟩ : ∃ mm, S.length = mm := ⟨_, rfl⟩
        have m48 : mm ≤ 48 := by rw [← hmm, ← hSk]; exact spaT_le hE
        have K1 := rcosts_any r1 p1 e1 mp1 mn1 mc1 wp1 wn1 wc1 op1 on1 oc1 M1 Y1 O1 W1 hGk 0 hE _ _ rfl rfl mm (by rw [hSk]; exact hmm)
        rw [hSk] at K1
        generalize cosT 0 M1 = A at K1
        generalize losT 0 M1 Y1 = L at K1
        have HS : Hid (S.length = mm) := hmm
        obtain ⟨y0, y1, y2, y3, y4, y5⟩ := hcel W1 (Below.refl _ _)
        clear hE hS hmm hGk hGr hGp hGe hX hRw hSk hkP hkS hcel
        go_upto_region 12 with (go_at_call 14; (with_reducible (refine K1.mono ?_)); rintro e8 w8 ⟨⟨q8, d8, rfl, o1⟩, b8⟩)
        have rS := own_rd o1
        have hb8 := bel_call hbw (Nat.le_refl _) b8
        clear y0 y1 y2 y3 y4 y5 K1 o1
        go_wp2
        go_loop [8, 12] (fun t i => ∃ (j : Nat) (B : Bool), j ≤ mm ∧ i = .int .i64 j ∧ t = .bool B ∧ Hid (isS (S.take j) s = B)) (fun _ i => mm - (intOf i).toNat)
        case atStart => exact ⟨0, false, Nat.zero_le _, rfl, rfl, rfl⟩
        case round =>
          obtain ⟨j, B, hj, rfl, rfl, HB⟩ := hrel
          by_cases hjl : j < mm
          · have hjI : (j : Int) < (mm : Int) := by omega
            have dj : decide ((j : Int) < (mm : Int)) = true := decide_eq_true hjI
            have hjS : j < S.length := by rw [HS.out]; exact hjl
            obtain ⟨sb, so, se, hsb, u0, u1⟩ := rS.span j hjS
            have HT := isS_step S s j hjS
            rw [HB.out] at HT
            generalize S[j] = X at *
            subst se
            obtain ⟨xs, xl⟩ := X
            dsimp only at u0 u1 HT
            cases B with
            | true =>
              have HB2 : Hid (isS (S.take (j + 1)) s = true) := by show _ = _; rw [HT]; rfl
              clear HT HB
              go_wp2
              go_round
              case rel => exact ⟨j + 1, true, by omega, by go_num, rfl, HB2⟩
              case measure => simp [intOf]; omega
            | false =>
              obtain ⟨B2, hB2⟩ : ∃ B2, (xs == s) = B2 := ⟨_, rfl⟩
              have HB2 : Hid (isS (S.take (j + 1)) s = B2) := by show _ = _; rw [HT, hB2]; rfl
              clear HT HB
              go_wp2
              go_round
              case rel => exact ⟨j + 1, B2, by omega, by go_num, rfl, HB2⟩
              case measure => simp [intOf]; omega
          · obtain rfl : j = mm := by omega
            have dj : decide ((j : Int) < (j : Int)) = false := by simp
            have hB9 : isS (SP.getD k []) s = B := by
              have e : S.take j = S := List.take_of_length_le (by rw [HS.out]; exact Nat.le_refl _)
              rw [HS9.out, ← HB.out, e]
            cases B with
            | true =>
              have e1 : decide ((k : Int) < C) = false := decide_eq_false (by
                rcases HC.out with ⟨_, h⟩ | ⟨k', hk', e, h2, h3⟩
                · rw [h k hlt] at hB9; cases hB9
                · intro hkc
                  have := h3 k (by omega)
                  rw [this] at hB9; cases hB9)
              clear hB9 HB
              go_wp2
              go_roundw
              case rel => exact ⟨k + 1, by omega, by go_num, hb8⟩
              case measure => simp [intOf]; omega
            | false =>
              have e1 : ((k : Int) == C) = false := by
                rw [beq_eq_false_iff_ne]
                intro e
                rcases HC.out with ⟨h8, _⟩ | ⟨k', hk', e', h2, h3⟩
                · omega
                · obtain rfl : k' = k := by omega
                  rw [h2] at hB9; cases hB9
              clear hB9 HB
              go_wp2
              go_roundw
              case rel => exact ⟨k + 1, by omega, by go_num, hb8⟩
              case measure => simp [intOf]; omega
      · have dk : decide ((k : Int) < (m : Int)) = false := decide_eq_false (by omega)
        have e0 : decide (0 ≤ C) = true := decide_eq_true hCb.1
        by_cases hCm : C < (m : Int)
        · have e1 : decide (C < (m : Int)) = true := decide_eq_true hCm
          go_wp2
          go_ret
          exact ⟨rfl, bel_call hB3 (Nat.le_refl _) hbw⟩
        · have e1 : decide (C < (m : Int)) = false := decide_eq_false hCm
          obtain rfl : C = 8 := by
            rcases HC.out with ⟨h8, _⟩ | ⟨k', hk', e', _, _⟩
            · exact h8
            · omega
          go_wp2
          go_ret
          exact ⟨rfl, bel_call hB3 (Nat.le_refl _) hbw⟩
end Go.Proofs.Yteklpceikddggaa
