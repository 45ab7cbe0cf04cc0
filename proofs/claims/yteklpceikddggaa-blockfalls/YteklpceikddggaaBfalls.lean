/-
  The law BlockFalls, walked.
-/
import Derived.Test.YteklpceikddggaaBall
import Derived.Test.YteklpceikddggaaBfmath
import Derived.Deep.CutBlock
import Derived.Deep.CutRange
namespace Go.Proofs.Yteklpceikddggaa
open Go.ChangeShapes Go.WideShapes Go.ChangeAt Go.RowKit
attribute [local go_sem ↓] Go.wp_at_zero Go.wp_at_succ

theorem end_e : erT 60 50 50 [E0] [] [] = 0 ∧ spaT 0 [E0] [] = [] := by decide +kernel
theorem Rowe.snoc {w : World} {p p' : Option Addr} {c c' m : Nat} {P : List Tv} {SP : List Sn} {x : Tv} {M W O : List In} {S : Sn} (h : Rowe w p c m P SP) (ho : Rd eTk w p' c' (P ++ [x])) (hx : Gt w x M W O) (hE : erT x.r x.p x.e M W O = 0) (hS : spaT 0 M W = S) : Rowe w p' c' (m + 1) (P ++ [x]) (SP ++ [S]) := by
  have hl1 := h.len
  have hl2 := h.sl
  refine ⟨ho, by rw [List.length_append, hl1]; rfl, by rw [List.length_append, hl2]; rfl, fun k h1 h2 => ?_⟩
  by_cases hk : k < m
  · have e1 : (P ++ [x])[k] = P[k]'(by omega) := List.getElem_append_left (by omega)
    have e2 : (SP ++ [S])[k] = SP[k]'(by omega) := List.getElem_append_left (by omega)
    obtain ⟨M, W, O, a1, a2, a3⟩ := h.tk k (by omega) (by omega)
    rw [e1, e2]
    exact ⟨M, W, O, a1, a2, a3⟩
  · have hk2 : k = m := by rw [List.length_append, hl1] at h1; simp at h1; omega
    have e1 : (P ++ [x])[k] = x := by
      rw [List.getElem_append_right (by omega)]; simp
    have e2 : (SP ++ [S])[k] = S := by
      rw [List.getElem_append_right (by omega)]; simp
    rw [e1, e2]
    exact ⟨M, W, O, hx, hE, hS⟩
set_option maxRecDepth 20000 in
set_option maxHeartbeats 4000000 in
theorem bfalls_walk (q : Option Addr) (c n : Nat) (zs : List Int) (w : World) (hq : Rd eBy w q c zs) (hN : zs.length = n) (hb : ∀ x ∈ zs, 0 ≤ x ∧ x ≤ 255) :
    Calls Try.prog 4 #[.slice q n c] w fun e w' => e = .returned (.bool true) ∧ Below w.heap.size w w' := by
  have HN : Hid (zs.length = n) := hN
  clear hN
  by_cases c1 : 250 < n
  · have d1 : decide ((250 : Int) < (n : Int)) = true := by simp; omega
    go_enter Try.func4, Try.ntmps4
    go_wp2_with (go_at_call 8; refine (begun_any _).mono ?_; rintro e w1 ⟨rfl, hb1⟩)
    go_ret
    exact ⟨rfl, hb1⟩
  · have d1 : decide ((250 : Int) < (n : Int)) = false := by simp; omega
    have h1000 : n ≤ 1000 := by omega
    clear c1
    go_enter Try.func4, Try.ntmps4
    go_upto_region 6 with (first
      | (go_at_call 9; (with_reducible (refine (row_any q c n zs _ hq1 HN.out h1000 hb 5 (by omega) (by omega)).mono ?_)); rintro e w2 ⟨p, m, c', rfl, hm5, P, SP, hR⟩)
      | (go_at_call 8; refine (begun_any _).mono ?_; rintro e w1 ⟨rfl, hb1⟩; have hq1 := hq.below hb1))
    have RE := hR.e
    have hB2 := bel_call hb1 (Nat.le_refl _) hR.bel
    have hm : m ≤ 99 := by omega
    have hlow := RE.low
    have HP : Hid (P.length = m) := RE.len
    have sA := bel_self w2 (.cells #[] 33)
    have lA : Own eTk (w2.alloc (.cells #[] 33)) w2.heap.size 33 (some ⟨w2.heap.size, 0, none⟩) 0 [] := ⟨by simp [fl], .inr ⟨w2.heap.size, 0, #[], rfl, Nat.le_refl _, Lv.new _ _ _, Nat.le_refl _, Nat.zero_le _, by simp, by simp [fl]⟩⟩
    have rdA := RE.rd.below sA
    clear hR hq hq1 hb hb1
    go_upto_region 7 with (first
      | (at_builtin; refine wpList_appG tTk _ rfl _ _ rfl w2.heap.size p4 c4 _ m (by rw [List.nil_append]; exact HP.out) rfl (own_below (own_below o4 (bel_self w4 (.cells #[.int .i64 0, .int .i64 0, .int .i64 0, .int .i64 0] 30))) (bel_self _ (.cells #[.int .i64 60, .int .i64 50, .int .i64 50, .slice (some ⟨w4.heap.size, 0, none⟩) 1 1, .slice none 0 0, .slice none 0 0] 33))) _ _ [(⟨60, 50, 50, some ⟨w4.heap.size, 0, none⟩, 1, 1, none, 0, 0, none, 0, 0⟩ : Tv)] 1 rfl rfl (rd_block (E := eTk) (heap_at (by simp)) 1 rfl rfl) (by omega) (by have := sA.size; have := b4.size; simp at *; omega) (m + 1) rfl ?_; intro p9 c9 w9 o9 b9 g9)
      | (at_builtin; refine wpList_app tTk _ rfl _ _ rfl w2.heap.size (some ⟨w2.heap.size, 0, none⟩) 0 [] 0 rfl rfl lA p c' P m HP.out rfl rdA (by omega) (by simp) m (Nat.zero_add _) ?_; intro p4 c4 w4 o4 b4 g4))
    have B4 : Below w2.heap.size w2 w4 := sA.trans b4
    have sE : Below w2.heap.size w4 ((w4.alloc (.cells #[.int .i64 0, .int .i64 0, .int .i64 0, .int .i64 0] 30)).alloc (.cells #[.int .i64 60, .int .i64 50, .int .i64 50, .slice (some ⟨w4.heap.size, 0, none⟩) 1 1, .slice none 0 0, .slice none 0 0] 33)) := ((Below.refl _ _).alloc B4.size _).alloc (by have := B4.size; simp; omega) _
    have B9 : Below w2.heap.size w2 w9 := (B4.trans sE).trans b9
    have rdE : Rd eIn ((w4.alloc (.cells #[.int .i64 0, .int .i64 0, .int .i64 0, .int .i64 0] 30)).alloc (.cells #[.int .i64 60, .int .i64 50, .int .i64 50, .slice (some ⟨w4.heap.size, 0, none⟩) 1 1, .slice none 0 0, .slice none 0 0] 33)) (some ⟨w4.heap.size, 0, none⟩) 1 [E0] := (rd_block (E := eIn) (heap_alloc_new w4 (.cells #[.int .i64 0, .int .i64 0, .int .i64 0, .int .i64 0] 30)) 1 rfl rfl).below (bel_self _ _)
    have i4 := own_in o4
    have rdE9 := rd_grew rdE g9 (fun _ b o e => by
      cases e
      intro b' o' e'
      have := (i4 b' o' e').2
      omega)
    have gE9 : Gt w9 ⟨60, 50, 50, some ⟨w4.heap.size, 0, none⟩, 1, 1, none, 0, 0, none, 0, 0⟩ [E0] [] [] :=
      ⟨⟨rdE9, rd_nilE _, rd_nilE _, rfl, rfl, rfl, (show 1 ≤ 1000 by decide), (show 0 ≤ 1000 by decide), (show 0 ≤ 1000 by decide)⟩, (show I64 60 by unfold I64; decide), (show I64 50 by unfold I64; decide), (show I64 50 by unfold I64; decide)⟩
    have RE9 := RE.below B9
    have o99 := own_rd o9
    rw [List.nil_append] at o99
    have RM := RE9.snoc o99 gE9 end_e.1 end_e.2
    have hB9 := bel_call hB2 (Nat.le_refl _) B9
    have hs1 := RE.sl
    have hbm : ∀ i : Int, i < (m : Int) → byv (SP ++ [[]]) (m + 1) i = byv SP m i := fun i hi => by_more hs1 hi
    have hbl := by_last hs1 hlow
    generalize P ++ [(⟨60, 50, 50, some ⟨w4.heap.size, 0, none⟩, 1, 1, none, 0, 0, none, 0, 0⟩ : Tv)] = PM at RM
    clear o9 b9 g9 o4 b4 g4 B4 sE B9 rdE i4 rdE9 gE9 o99 sA lA rdA RE hB2
    go_wp2
    go_loopw [5] (fun i wr => ∃ k : Nat, k ≤ m ∧ i = .int .i64 k ∧ Below w9.heap.size w9 wr) (fun i _ => m - (intOf i).toNat)
    case atStart => exact ⟨0, Nat.zero_le _, rfl, Below.refl _ _⟩
    case round =>
      obtain ⟨k, hk, rfl, hbw⟩ := hrel
      obtain ⟨W1, hW1⟩ : ∃ W1 : World, W1 = wr := ⟨_, rfl⟩
      subst hW1
      by_cases hlt : k < m
      · have hkI : (k : Int) < (m : Int) := by omega
        have dk : decide ((k : Int) < (m : Int)) = true := decide_eq_true hkI
        obtain ⟨B, hB⟩ : ∃ B, byv SP m (k : Int) = B := ⟨_, rfl⟩
        have hB2' : byv (SP ++ [[]]) (m + 1) (k : Int) = B := by rw [hbm _ hkI]; exact hB
        have hB0 : 0 ≤ B := by rw [← hB]; exact by_pos _ _ _
        have hB1 : m = 1 → B = 0 := fun h => by
          subst h
          obtain rfl : k = 0 := by omega
          rw [← hB]; exact by_one SP
        have KM := by_any p9 c9 (m + 1) PM (SP ++ [[]]) W1 (RM.below hbw).d (by omega) (k : Int) B hB2'
        have KL := fun w' (hb' : Below W1.heap.size W1 w') => by_any p c' m P SP w' ((RE9.below hbw).below hb').d (by omega) (k : Int) B hB
        have x1 : (B != B) = false := by simp
        have x2 : (B == B) = true := by simp
        have x3 : decide (B < 0) = false := decide_eq_false (by omega)
        clear hB hB2'
        by_cases h1 : m = 1
        · have x4 : ((m : Int) == 1) = true := by simp; omega
          have hz := hB1 h1
          have x5 : (B != 0) = false := by simpa using hz
          have x6 : (B == 0) = true := by simpa using hz
          clear h1 hz hB1 hB0
          go_wp2_with (first
            | (go_at_call 10; (with_reducible (refine (KL _ b5).mono ?_)); rintro e w6 ⟨rfl, b6⟩; have b6 := bel_call b5 (Nat.le_refl _) b6)
            | (go_at_call 10; (with_reducible (refine (KL _ b4).mono ?_)); rintro e w5 ⟨rfl, b5⟩; have b5 := bel_call b4 (Nat.le_refl _) b5)
            | (go_at_call 10; (with_reducible (refine (KL _ b3).mono ?_)); rintro e w4 ⟨rfl, b4⟩; have b4 := bel_call b3 (Nat.le_refl _) b4)
            | (go_at_call 10; (with_reducible (refine KM.mono ?_)); rintro e w3 ⟨rfl, b3⟩))
          go_roundw
          case rel => exact ⟨k + 1, by omega, by go_num, bel_call hbw (Nat.le_refl _) b6⟩
          case measure => simp [intOf]; omega
        · have x4 : ((m : Int) == 1) = false := by simp; omega
          clear h1 hB1 hB0
          go_wp2_with (first
            | (go_at_call 10; (with_reducible (refine (KL _ b4).mono ?_)); rintro e w5 ⟨rfl, b5⟩; have b5 := bel_call b4 (Nat.le_refl _) b5)
            | (go_at_call 10; (with_reducible (refine (KL _ b3).mono ?_)); rintro e w4 ⟨rfl, b4⟩; have b4 := bel_call b3 (Nat.le_refl _) b4)
            | (go_at_call 10; (with_reducible (refine KM.mono ?_)); rintro e w3 ⟨rfl, b3⟩))
          go_roundw
          case rel => exact ⟨k + 1, by omega, by go_num, bel_call hbw (Nat.le_refl _) b5⟩
          case measure => simp [intOf]; omega
      · have dk : decide ((k : Int) < (m : Int)) = false := decide_eq_false (by omega)
        have REa := RE9.below hbw
        have RMa := RM.below hbw
        have hBa := bel_call hB9 (Nat.le_refl _) hbw
        clear RE9 RM hbm hB9 hbw hlow
        go_wp2
        go_loopw [6, 7] (fun t i7 wr => ∃ (k : Nat) (A : Int), k ≤ m ∧ i7 = .int .i64 k ∧ t = .int .i64 A ∧ Hid (mosN SP k = A) ∧ Below W1.heap.size W1 wr) (fun _ i7 _ => m - (intOf i7).toNat)
        case atStart => exact ⟨0, 0, Nat.zero_le _, rfl, rfl, rfl, Below.refl _ _⟩
        case round =>
          clear hlt hk dk
          obtain ⟨k, A, hk, rfl, rfl, HA, hbw⟩ := hrel
          obtain ⟨W2, hW2⟩ : ∃ W2 : World, W2 = wr := ⟨_, rfl⟩
          subst hW2
          by_cases hlt : k < m
          · have hkI : (k : Int) < (m : Int) := by omega
            have dk : decide ((k : Int) < (m : Int)) = true := decide_eq_true hkI
            have hRw := REa.below hbw
            have hkP : k < P.length := by rw [REa.len]; exact hlt
            have hkS : k < SP.length := by rw [REa.sl]; exact hlt
            obtain ⟨X, hX⟩ : ∃ X, P[k] = X := ⟨_, rfl⟩
            obtain ⟨bb, bo, be, hbb, hcel⟩ := hcel_of hRw.rd k hkP hX
            obtain ⟨M1, Y1, O1, hG, hE, hSk⟩ := hRw.tk k hkP hkS
            rw [hX] at hG hE
            obtain ⟨hGk, hGr, hGp, hGe⟩ := hG
            subst be
            obtain ⟨r1, p1, e1, mp1, mn1, mc1, wp1, wn1, wc1, op1, on1, oc1⟩ := X
            dsimp only at hcel hGk hGr hGp hGe hE
            have HS9 : Hid (SP.getD k [] = SP[k]) := by show _ = _; rw [List.getD_eq_getElem?_getD, List.getElem?_eq_getElem hkS]; rfl
            obtain ⟨S, hS⟩ : ∃ S, SP[k] = S := ⟨_, rfl⟩
            rw [hS] at hSk HS9
            obtain ⟨mm, hmm⟩ : ∃ mm, S.length = mm := ⟨_, rfl⟩
            have m48 : mm ≤ 48 := by rw [← hmm, ← hSk]; exact spaT_le hE
            have K1 := rcosts_any r1 p1 e1 mp1 mn1 mc1 wp1 wn1 wc1 op1 on1 oc1 M1 Y1 O1 W2 hGk 0 hE _ _ rfl rfl mm (by rw [hSk]; exact hmm)
            rw [hSk] at K1
            generalize cosT 0 M1 = Ac at K1
            generalize losT 0 M1 Y1 = L at K1
            have HS : Hid (S.length = mm) := hmm
            have HA2 : Hid (mosN SP (k + 1) = mosS A S) := by show _ = _; rw [mosN, HA.out, HS9.out]
            obtain ⟨y0, y1, y2, y3, y4, y5⟩ := hcel W2 (Below.refl _ _)
            clear hE hS hmm hGk hGr hGp hGe hX hRw hSk hkP hkS hcel HA HS9
            go_upto_region 17 with (go_at_call 14; (with_reducible (refine K1.mono ?_)); rintro e8 w8 ⟨⟨q8, d8, rfl, o1⟩, b8⟩)
            have rS := own_rd o1
            have hb8 := bel_call hbw (Nat.le_refl _) b8
            clear y0 y1 y2 y3 y4 y5 K1 o1
            go_wp2
            go_loop [6, 11] (fun t i => ∃ (j : Nat) (D : Int), j ≤ mm ∧ i = .int .i64 j ∧ t = .int .i64 D ∧ Hid (mosS A (S.take j) = D)) (fun _ i => mm - (intOf i).toNat)
            case atStart => exact ⟨0, A, Nat.zero_le _, rfl, rfl, rfl⟩
            case round =>
              obtain ⟨j, D, hj, rfl, rfl, HD⟩ := hrel
              by_cases hjl : j < mm
              · have hjI : (j : Int) < (mm : Int) := by omega
                have dj : decide ((j : Int) < (mm : Int)) = true := decide_eq_true hjI
                have hjS : j < S.length := by rw [HS.out]; exact hjl
                obtain ⟨sb, so, se, hsb, u0, u1⟩ := rS.span j hjS
                have HT : S.take (j + 1) = S.take j ++ [S[j]] := by simp
                have HD1 : Hid (mosS A (S.take (j + 1)) = if D < S[j].2 then S[j].2 else D) := by show _ = _; rw [HT, mosS_snoc, HD.out, max_is]
                generalize S[j] = X at *
                subst se
                obtain ⟨xs, xl⟩ := X
                dsimp only at u0 u1 HD1
                clear HT HD
                go_wp2
                all_goals
                  go_round
                  case rel => first | exact ⟨j + 1, _, by omega, by go_num, rfl, HD1⟩ | exact ⟨j + 1, xl, by omega, by go_num, rfl, by show _ = _; rw [HD1.out]; dsimp only; rw [if_pos (by assumption)]⟩ | exact ⟨j + 1, D, by omega, by go_num, rfl, by show _ = _; rw [HD1.out]; dsimp only; rw [if_neg (by assumption)]⟩
                  case measure => simp [intOf]; omega
              · obtain rfl : j = mm := by omega
                have dj : decide ((j : Int) < (j : Int)) = false := by simp
                have HA3 : Hid (mosN SP (k + 1) = D) := by
                  have e : S.take j = S := List.take_of_length_le (by rw [HS.out]; exact Nat.le_refl _)
                  show _ = _
                  rw [HA2.out, ← HD.out, e]
                clear HD HA2
                go_wp2
                go_roundw
                case rel => exact ⟨k + 1, D, by omega, by go_num, rfl, HA3, hb8⟩
                case measure => simp [intOf]; omega
          · obtain rfl : k = m := by omega
            have dk : decide ((k : Int) < (k : Int)) = false := by simp
            have KM := by_any p9 c9 (k + 1) PM (SP ++ [[]]) W2 (RMa.below hbw).d (by omega) (k : Int) A (hbl.trans HA.out)
            have x2 : (A == A) = true := by simp
            clear hbl HA
            go_wp2_with (go_at_call 10; (with_reducible (refine KM.mono ?_)); rintro e w3 ⟨rfl, b3⟩)
            go_ret
            exact ⟨rfl, bel_call (bel_call hBa (Nat.le_refl _) hbw) (Nat.le_refl _) b3⟩
end Go.Proofs.Yteklpceikddggaa
