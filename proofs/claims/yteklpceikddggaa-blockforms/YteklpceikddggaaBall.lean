/-
  The law BlockAll, walked.
-/
import Derived.Test.YteklpceikddggaaBrow
import Derived.Test.YteklpceikddggaaBrby
import Derived.Test.YteklpceikddggaaBbegun
namespace Go.Proofs.Yteklpceikddggaa
open Go.ChangeShapes Go.WideShapes Go.ChangeAt Go.RowKit
attribute [local go_sem ↓] Go.wp_at_zero Go.wp_at_succ

theorem Rx.e {w wr : World} {g : Nat} {p : Option Addr} {m c : Nat} {P : List Tv} {SP : List Sn} (h : Rx w g wr p m c P SP) : Rowe wr p c m P SP :=
  ⟨own_rd h.own, h.len, h.sl, fun k h1 h2 => by
    obtain ⟨M, W, O, a1, a2, a3, _⟩ := h.tk k h1 h2
    exact ⟨M, W, O, a1, a2, a3⟩⟩
theorem rd_own {α : Type} {E : Elt α} {w : World} {p : Option Addr} {c : Nat} {l : List α} (h : Rd E w p c l) : ∀ b o, p = some ⟨b, o, none⟩ → l ≠ [] → b < w.heap.size := fun b o e hne => by
  obtain ⟨b', o', e', hlt, _⟩ := h.pos (List.length_pos_iff.2 hne)
  rw [e] at e'
  cases e'
  exact hlt
set_option maxRecDepth 20000 in
set_option maxHeartbeats 2000000 in
theorem ball_walk (q : Option Addr) (c n : Nat) (zs : List Int) (w : World) (hq : Rd eBy w q c zs) (hN : zs.length = n) (hb : ∀ x ∈ zs, 0 ≤ x ∧ x ≤ 255) :
    Calls Try.prog 3 #[.slice q n c] w fun e w' => e = .returned (.bool true) ∧ Below w.heap.size w w' := by
  have HN : Hid (zs.length = n) := hN
  clear hN
  by_cases c1 : 250 < n
  · have d1 : decide ((250 : Int) < (n : Int)) = true := by simp; omega
    go_enter Try.func3, Try.ntmps3
    go_wp2_with (go_at_call 8; refine (begun_any _).mono ?_; rintro e w1 ⟨rfl, hb1⟩)
    go_ret
    exact ⟨rfl, hb1⟩
  · have d1 : decide ((250 : Int) < (n : Int)) = false := by simp; omega
    have h1000 : n ≤ 1000 := by omega
    clear c1
    go_enter Try.func3, Try.ntmps3
    go_wp2_with (first
      | (go_at_call 9; (with_reducible (refine (row_any q c n zs _ hq1 HN.out h1000 hb 5 (by omega) (by omega)).mono ?_)); rintro e w2 ⟨p, m, c', rfl, hm5, P, SP, hR⟩)
      | (go_at_call 8; refine (begun_any _).mono ?_; rintro e w1 ⟨rfl, hb1⟩; have hq1 := hq.below hb1))
    have RE := hR.e
    have hB2 := bel_call hb1 (Nat.le_refl _) hR.bel
    have hm : m ≤ 100 := by omega
    have hlow := RE.low
    clear hR hq hq1 hb hb1
    go_loopw [4] (fun i wr => ∃ k : Nat, k ≤ m ∧ i = .int .i64 k ∧ Below w2.heap.size w2 wr) (fun i _ => m - (intOf i).toNat)
    case atStart => exact ⟨0, Nat.zero_le _, rfl, Below.refl _ _⟩
    case round =>
      obtain ⟨k, hk, rfl, hbw⟩ := hrel
      obtain ⟨W1, hW1⟩ : ∃ W1 : World, W1 = wr := ⟨_, rfl⟩
      subst hW1
      by_cases hlt : k < m
      · have hkI : (k : Int) < (m : Int) := by omega
        have dk : decide ((k : Int) < (m : Int)) = true := decide_eq_true hkI
        obtain ⟨B, hB⟩ : ∃ B, byv SP m (k : Int) = B := ⟨_, rfl⟩
        have hB2' : rbN SP m (k : Int) m = B := by rw [← hB]; unfold byv; rw [if_neg (by omega)]; exact (by_same hlow m _).symm
        have RW := RE.below hbw
        have KB := by_any p c' m P SP W1 RW.d hm (k : Int) B hB
        have KR := fun w' (hb' : Below W1.heap.size W1 w') => rby_any p c' m P SP w' (RW.below hb') hm (k : Int) B hB2'
        have x1 : (B != B) = false := by simp
        have x2 : (B == B) = true := by simp
        clear hB hB2' RW
        go_wp2_with (first
          | (go_at_call 11; (with_reducible (refine (KR _ b3).mono ?_)); rintro e w4 ⟨rfl, b4⟩)
          | (go_at_call 10; (with_reducible (refine KB.mono ?_)); rintro e w3 ⟨rfl, b3⟩))
        go_roundw
        case rel => exact ⟨k + 1, by omega, by go_num, bel_call hbw (Nat.le_refl _) (bel_call b3 (Nat.le_refl _) b4)⟩
        case measure => simp [intOf]; omega
      · have dk : decide ((k : Int) < (m : Int)) = false := decide_eq_false (by omega)
        have RE2 := RE.below hbw
        have hB3 := bel_call hB2 (Nat.le_refl _) hbw
        go_wp2
        go_loopw [5] (fun i wx => ∃ s : Int, -1 ≤ s ∧ s ≤ 5 ∧ i = .int .i64 s ∧ Below W1.heap.size W1 wx) (fun i _ => (5 - intOf i).toNat)
        case atStart => exact ⟨-1, by omega, by omega, rfl, Below.refl _ _⟩
        case round =>
          obtain ⟨s, hs0, hs5, rfl, hbx⟩ := hrel
          obtain ⟨W2, hW2⟩ : ∃ W2 : World, W2 = wr := ⟨_, rfl⟩
          subst hW2
          by_cases hs : s ≤ 4
          · have ds : decide (s ≤ 4) = true := decide_eq_true hs
            obtain ⟨C, hC⟩ : ∃ C, ceilv SP m s = C := ⟨_, rfl⟩
            have hCi := ceil_is SP m s
            rw [hC] at hCi
            have RW := RE2.below hbx
            have KB := ceil_any p c' m P SP W2 RW.d hm s C hCi
            have KR := fun w' (hb' : Below W2.heap.size W2 w') => rceil_any p c' m P SP w' (RW.below hb') hm s C hCi
            have x1 : (C != C) = false := by simp
            have x2 : (C == C) = true := by simp
            clear hC hCi RW
            go_wp2_with (first
              | (go_at_call 13; (with_reducible (refine (KR _ b3).mono ?_)); rintro e w4 ⟨rfl, b4⟩)
              | (go_at_call 12; (with_reducible (refine KB.mono ?_)); rintro e w3 ⟨rfl, b3⟩))
            go_roundw
            case rel => exact ⟨s + 1, by omega, by omega, by go_num, bel_call hbx (Nat.le_refl _) (bel_call b3 (Nat.le_refl _) b4)⟩
            case measure => simp [intOf]; omega
          · have ds : decide (s ≤ 4) = false := decide_eq_false hs
            go_wp2
            go_ret
            exact ⟨rfl, bel_call hB3 (Nat.le_refl _) hbx⟩
end Go.Proofs.Yteklpceikddggaa
