/-
  The document's By.
-/
import Derived.Test.YteklpceikddggaaBrceil
namespace Go.Proofs.Yteklpceikddggaa
open Go.ChangeShapes Go.WideShapes Go.ChangeAt Go.RowKit
attribute [local go_sem ↓] Go.wp_at_zero Go.wp_at_succ

theorem rbS_snoc (SP : List Sn) (n : Nat) (i a : Int) (S : Sn) (x : Int × Int) : rbS SP n i a (S ++ [x]) = if ceilv SP n x.1 ≤ i then max (rbS SP n i a S) x.2 else rbS SP n i a S := by
  unfold rbS
  rw [List.foldl_append]
  rfl
set_option maxRecDepth 20000 in
set_option maxHeartbeats 4000000 in
theorem rby_any (p : Option Addr) (c n : Nat) (P : List Tv) (SP : List Sn) (w : World) (h : Rowe w p c n P SP) (hn : n ≤ 100) (i B : Int) (hB9 : rbN SP n i n = B) :
    Calls Try.prog 11 #[.slice p n c, .int .i64 i] w fun e w' => e = .returned (.int .i64 B) ∧ Below w.heap.size w w' := by
  have HB9 : Hid (rbN SP n i n = B) := hB9
  clear hB9
  go_enter Try.func11, Try.ntmps11
  go_wp2
  go_loopw [5, 6] (fun t i6 wr => ∃ (k : Nat) (M : Int), k ≤ n ∧ i6 = .int .i64 k ∧ t = .int .i64 M ∧ Hid (rbN SP n i k = M) ∧ Below w.heap.size w wr) (fun _ i6 _ => n - (intOf i6).toNat)
  case atStart => exact ⟨0, 0, Nat.zero_le _, rfl, rfl, rfl, Below.refl _ _⟩
  case round =>
    obtain ⟨k, M, hk, rfl, rfl, HM, hbw⟩ := hrel
    obtain ⟨W1, hW1⟩ : ∃ W1 : World, W1 = wr := ⟨_, rfl⟩
    subst hW1
    by_cases hlt : k < n
    · have hkI : (k : Int) < (n : Int) := by omega
      have dk : decide ((k : Int) < (n : Int)) = true := decide_eq_true hkI
      by_cases hi : (k : Int) = i
      · have HM2 : Hid (rbN SP n i (k + 1) = M) := by show _ = _; rw [rbN, if_pos hi]; exact HM.out
        have x1 : ((k : Int) == i) = true := by simpa using hi
        clear hi HM
        go_wp2
        go_roundw
        case rel => exact ⟨k + 1, M, by omega, by go_num, rfl, HM2, hbw⟩
        case measure => simp [intOf]; omega
      · have x1 : ((k : Int) == i) = false := by simpa using hi
        have hRw := h.below hbw
        have hkP : k < P.length := by rw [h.len]; exact hlt
        have hkS : k < SP.length := by rw [h.sl]; exact hlt
        obtain ⟨X, hX⟩ : ∃ X, P[k] = X := ⟨_, rfl⟩
        obtain ⟨bb, bo, be, hbb, hcel⟩ := hcel_of hRw.rd k hkP hX
        obtain ⟨M1, Y1, O1, hG, hE, hSk⟩ := hRw.tk k hkP hkS
        rw [hX] at hG hE
        obtain ⟨hGk, hGr, hGp, hGe⟩ := hG
        obtain ⟨pl, hpl⟩ : ∃ pl, pl = p := ⟨_, rfl⟩
        have hW := fun w' (hb : Below W1.heap.size W1 w') => hRw.below hb
        subst be
        obtain ⟨r1, p1, e1, mp1, mn1, mc1, wp1, wn1, wc1, op1, on1, oc1⟩ := X
        dsimp only at hcel hGk hGr hGp hGe hE
        have HS9 : Hid (SP.getD k [] = SP[k]) := by show _ = _; rw [List.getD_eq_getElem?_getD, List.getElem?_eq_getElem hkS]; rfl
        obtain ⟨S, hS⟩ : ∃ S, SP[k] = S := ⟨_, rfl⟩
        rw [hS] at hSk HS9
        obtain ⟨m, hm⟩ : ∃ m, S.length = m := ⟨_, rfl⟩
        have m48 : m ≤ 48 := by rw [← hm, ← hSk]; exact spaT_le hE
        have K1 := rcosts_any r1 p1 e1 mp1 mn1 mc1 wp1 wn1 wc1 op1 on1 oc1 M1 Y1 O1 W1 hGk 0 hE _ _ rfl rfl m (by rw [hSk]; exact hm)
        rw [hSk] at K1
        generalize cosT 0 M1 = A at K1
        generalize losT 0 M1 Y1 = L at K1
        have HS : Hid (S.length = m) := hm
        have HM2 : Hid (rbN SP n i (k + 1) = rbS SP n i M S) := by show _ = _; rw [rbN, if_neg hi, HM.out, HS9.out]
        obtain ⟨y0, y1, y2, y3, y4, y5⟩ := hcel W1 (Below.refl _ _)
        clear hE hS hm hGk hGr hGp hGe hX hRw hSk hkP hkS hcel hi HM HS9 hpl
        go_upto_region 7 with (go_at_call 14; (with_reducible (refine K1.mono ?_)); rintro e8 w8 ⟨⟨q, d, rfl, o1⟩, b8⟩)
        have rS := own_rd o1
        clear y0 y1 y2 y3 y4 y5 K1 o1
        go_wp2
        go_loopw [5, 10] (fun t i10 wx => ∃ (j : Nat) (A : Int), j ≤ m ∧ i10 = .int .i64 j ∧ t = .int .i64 A ∧ Hid (rbS SP n i M (S.take j) = A) ∧ Below w8.heap.size w8 wx) (fun _ i10 _ => m - (intOf i10).toNat)
        case atStart => exact ⟨0, M, Nat.zero_le _, rfl, rfl, rfl, Below.refl _ _⟩
        case round =>
          obtain ⟨j, A, hj, rfl, rfl, HA, hbx⟩ := hrel
          obtain ⟨W2, hW2⟩ : ∃ W2 : World, W2 = wr := ⟨_, rfl⟩
          subst hW2
          by_cases hjl : j < m
          · have hjI : (j : Int) < (m : Int) := by omega
            have dj : decide ((j : Int) < (m : Int)) = true := decide_eq_true hjI
            have hjS : j < S.length := by rw [HS.out]; exact hjl
            obtain ⟨sb, so, se, hsb, u0, u1⟩ := (rS.below hbx).span j hjS
            have HT : Hid (S.take (j + 1) = S.take j ++ [S[j]]) := by show _ = _; simp
            have hcl := fun w' (hb : Below W2.heap.size W2 w') => (rS.below (bel_call hbx (Nat.le_refl _) hb)).span j hjS
            generalize S[j] = X at *
            subst se
            obtain ⟨xs, xl⟩ := X
            dsimp only at u0 u1 hcl
            obtain ⟨C, hCe⟩ : ∃ C, ceilv SP n xs = C := ⟨_, rfl⟩
            have hC := ceil_is SP n xs
            rw [hCe] at hC
            have KC := rceil_any _ c n P SP W2 (hW W2 (bel_call b8 (Nat.le_refl _) hbx)) hn xs C hC
            by_cases hc : C ≤ i
            · have dc : decide (C ≤ i) = true := decide_eq_true hc
              have HA2 : Hid (rbS SP n i M (S.take (j + 1)) = if A < xl then xl else A) := by show _ = _; rw [HT.out, rbS_snoc, hCe, if_pos hc, HA.out, max_is]
              clear hc hCe hC HA
              go_upto_region 11 with (go_at_call 13; (with_reducible (refine KC.mono ?_)); rintro e9 w9 ⟨rfl, b9⟩)
              obtain ⟨sb2, so2, se2, hsb2, v0, v1⟩ := hcl w9 b9
              obtain ⟨rfl, rfl⟩ : sb2 = sb ∧ so2 = so := by simp at se2; exact ⟨se2.1.symm, se2.2.symm⟩
              clear u0 u1 hcl KC
              have b10 := bel_call hbx (Nat.le_refl _) b9
              go_wp2
              all_goals
                go_roundw
                case rel => first | exact ⟨j + 1, _, by omega, by go_num, rfl, HA2, b10⟩ | exact ⟨j + 1, xl, by omega, by go_num, rfl, by show _ = _; rw [HA2.out]; rw [if_pos (by assumption)], b10⟩ | exact ⟨j + 1, A, by omega, by go_num, rfl, by show _ = _; rw [HA2.out]; rw [if_neg (by assumption)], b10⟩
                case measure => simp [intOf]; omega
            · have dc : decide (C ≤ i) = false := decide_eq_false hc
              have HA2 : Hid (rbS SP n i M (S.take (j + 1)) = A) := by show _ = _; rw [HT.out, rbS_snoc, hCe, if_neg hc]; exact HA.out
              clear hc hCe hC HA hcl
              go_wp2_with (go_at_call 13; (with_reducible (refine KC.mono ?_)); rintro e9 w9 ⟨rfl, b9⟩)
              have b10 := bel_call hbx (Nat.le_refl _) b9
              go_roundw
              case rel => exact ⟨j + 1, A, by omega, by go_num, rfl, HA2, b10⟩
              case measure => simp [intOf]; omega
          · obtain rfl : j = m := by omega
            have dj : decide ((j : Int) < (j : Int)) = false := by simp
            have HM3 : Hid (rbN SP n i (k + 1) = A) := by
              have e : S.take j = S := List.take_of_length_le (by rw [HS.out]; exact Nat.le_refl _)
              show _ = _
              rw [HM2.out, ← HA.out, e]
            have b10 := bel_call (bel_call hbw (Nat.le_refl _) b8) (Nat.le_refl _) hbx
            clear HA HM2
            go_wp2
            go_roundw
            case rel => exact ⟨k + 1, A, by omega, by go_num, rfl, HM3, b10⟩
            case measure => simp [intOf]; omega
    · obtain rfl : k = n := by omega
      have dk : decide ((k : Int) < (k : Int)) = false := by simp
      obtain rfl := HM.out.symm.trans HB9.out
      go_wp2
      go_ret
      exact ⟨rfl, hbw⟩
end Go.Proofs.Yteklpceikddggaa
