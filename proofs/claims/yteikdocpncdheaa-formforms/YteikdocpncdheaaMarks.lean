/-
  Whether Marks stand in nothing.
-/
import Derived.Test.YteikdocpncdheaaLows
namespace Go.Proofs.Yteikdocpncdheaa
open Go.ChangeShapes Go.WideShapes Go.ChangeAt Go.RowKit
attribute [local go_sem ↓] Go.wp_at_zero Go.wp_at_succ

theorem mark_no {l : List In} (k : Nat) (hk : k < l.length) (h : ((gt l k).1 == 11 && (decide (scL l k ≠ List.replicate 24 0) || betw (pairL l) k)) = true) : markB l = false := allN_no k hk (by simp only [h]; rfl)

set_option maxHeartbeats 2000000 in
set_option maxRecDepth 20000 in
theorem marks_any (p : Option Addr) (c : Nat) (l : List In) (w : World) (hr : Rd eIn w p c l) (n : Nat) (hN : l.length = n) (hl : n ≤ 24) (ha : l.all mayB = true) (q : Option Addr) (d : Nat) (hq : Rd eI w q d (pairL l)) :
    Calls Try.prog 38 #[.slice p n c, .slice q n d] w fun e w' => e = .returned (.bool (markB l)) ∧ Below w.heap.size w w' := by
  have HN : Hid (l.length = n) := hN
  have HP : Hid ((pairL l).length = n) := by show _ = _; rw [← hN]; exact outO_len l _
  clear hN
  go_enter Try.func38, Try.ntmps38
  go_wp2
  go_loopw [9] (fun i wr => ∃ k : Nat, k ≤ n ∧ i = .int .i64 k ∧ Hid (∀ j, j < k → ((gt l j).1 == 11 && (decide (scL l j ≠ List.replicate 24 0) || betw (pairL l) j)) = false) ∧ Below w.heap.size w wr) (fun i _ => n - (intOf i).toNat)
  case atStart => exact ⟨0, Nat.zero_le _, rfl, fun j hj => by omega, Below.refl _ _⟩
  case round =>
    obtain ⟨k, hk, rfl, HT, hbw⟩ := hrel
    by_cases hlt : k < n
    · have hkl : k < l.length := by rw [HN.out]; exact hlt
      obtain ⟨b, o, rfl, hb, f0, f1, f2, f3⟩ := (hr.below hbw).inst k hkl
      have HG : Hid (gt l k = l[k]) := gt_eq hkl
      have hsc := fun w' hb' => scope_any _ c l w' (hr.below (bel_call hbw (Nat.le_refl _) hb')) n HN.out hl ha k hlt
      have hbe := fun w' hb' => between_any q d (pairL l) w' (hq.below (bel_call hbw (Nat.le_refl _) hb')) n HP.out (by omega) k
      generalize l[k] = x at *
      obtain ⟨xo, xa, xb, xn⟩ := x
      simp only at f0 f1 f2 f3
      by_cases h11 : xo = 11
      · subst h11
        have HNX : Hid ((gt l k).1 = 11) := by show _ = _; rw [HG.out]
        have hneq := fun w' => neq75 (A := scL l k) (B := List.replicate 24 0) (scL_len l k) (by simp) w'
        by_cases hs : scL l k = List.replicate 24 0
        · have hneq' : ∀ w', (binOp .neq 94 (.agg (cI (scL l k))) (.agg #[.int .i64 0, .int .i64 0, .int .i64 0, .int .i64 0, .int .i64 0, .int .i64 0, .int .i64 0, .int .i64 0, .int .i64 0, .int .i64 0, .int .i64 0, .int .i64 0, .int .i64 0, .int .i64 0, .int .i64 0, .int .i64 0, .int .i64 0, .int .i64 0, .int .i64 0, .int .i64 0, .int .i64 0, .int .i64 0, .int .i64 0, .int .i64 0])).run Try.prog w' = .ok (.bool false) w' := fun w' => by have := hneq w'; rw [decide_eq_true hs] at this; exact this
          by_cases hbt : betw (pairL l) k = true
          · have HF : Hid (markB l = false) := mark_no k hkl (by rw [HNX.out, hbt]; simp)
            rw [hbt] at hbe
            clear hneq hs
            generalize cI (scL l k) = S at *
            go_wp2_with (first
              | (go_at_call 52; refine (hsc _ (by repeat (first | exact Below.refl _ _ | refine Below.alloc ?_ (by simp <;> omega) _ | refine Below.setCell ?_ (by simp <;> omega) _))).mono ?_; rintro e w4 ⟨rfl, hb4⟩
                 have hB4 : Below wr.heap.size wr w4 := bel_call (by repeat (first | exact Below.refl _ _ | refine Below.alloc ?_ (by simp <;> omega) _ | refine Below.setCell ?_ (by simp <;> omega) _)) (Nat.le_refl _) hb4)
              | (go_at_call 53; refine (hbe _ hB4).mono ?_; rintro e w5 ⟨rfl, hb5⟩))
            go_ret
            exact ⟨by rw [HF.out]; rfl, bel_call (bel_call hbw (Nat.le_refl _) hB4) (Nat.le_refl _) hb5⟩
          · have hbt' : betw (pairL l) k = false := by simpa using hbt
            have HK : Hid (((gt l k).1 == 11 && (decide (scL l k ≠ List.replicate 24 0) || betw (pairL l) k)) = false) := by show _ = _; rw [hbt', hs]; simp
            rw [hbt'] at hbe
            clear hneq hs
            generalize cI (scL l k) = S at *
            go_wp2_with (first
              | (go_at_call 52; refine (hsc _ (by repeat (first | exact Below.refl _ _ | refine Below.alloc ?_ (by simp <;> omega) _ | refine Below.setCell ?_ (by simp <;> omega) _))).mono ?_; rintro e w4 ⟨rfl, hb4⟩
                 have hB4 : Below wr.heap.size wr w4 := bel_call (by repeat (first | exact Below.refl _ _ | refine Below.alloc ?_ (by simp <;> omega) _ | refine Below.setCell ?_ (by simp <;> omega) _)) (Nat.le_refl _) hb4)
              | (go_at_call 53; refine (hbe _ hB4).mono ?_; rintro e w5 ⟨rfl, hb5⟩))
            go_roundw
            case rel => exact ⟨k + 1, by omega, by go_num, fun j hj => (if e : j = k then by subst e; exact HK.out else HT.out j (by omega)), bel_call (bel_call hbw (Nat.le_refl _) hB4) (Nat.le_refl _) hb5⟩
            case measure => simp [intOf]; omega
        · have hneq' : ∀ w', (binOp .neq 94 (.agg (cI (scL l k))) (.agg #[.int .i64 0, .int .i64 0, .int .i64 0, .int .i64 0, .int .i64 0, .int .i64 0, .int .i64 0, .int .i64 0, .int .i64 0, .int .i64 0, .int .i64 0, .int .i64 0, .int .i64 0, .int .i64 0, .int .i64 0, .int .i64 0, .int .i64 0, .int .i64 0, .int .i64 0, .int .i64 0, .int .i64 0, .int .i64 0, .int .i64 0, .int .i64 0])).run Try.prog w' = .ok (.bool true) w' := fun w' => by have := hneq w'; rw [decide_eq_false hs] at this; exact this
          have HF : Hid (markB l = false) := mark_no k hkl (by rw [HNX.out, decide_eq_true (p := scL l k ≠ List.replicate 24 0) hs]; rfl)
          clear hneq hs
          generalize cI (scL l k) = S at *
          go_wp2_with (first
            | (go_at_call 52; refine (hsc _ (by repeat (first | exact Below.refl _ _ | refine Below.alloc ?_ (by simp <;> omega) _ | refine Below.setCell ?_ (by simp <;> omega) _))).mono ?_; rintro e w4 ⟨rfl, hb4⟩
               have hB4 : Below wr.heap.size wr w4 := bel_call (by repeat (first | exact Below.refl _ _ | refine Below.alloc ?_ (by simp <;> omega) _ | refine Below.setCell ?_ (by simp <;> omega) _)) (Nat.le_refl _) hb4))
          go_ret
          exact ⟨by rw [HF.out]; rfl, bel_call hbw (Nat.le_refl _) hB4⟩
      · have d11 : (xo == 11) = false := by simpa using h11
        have HK : Hid (((gt l k).1 == 11 && (decide (scL l k ≠ List.replicate 24 0) || betw (pairL l) k)) = false) := by show _ = _; rw [HG.out, d11]; rfl
        clear hsc hbe
        go_wp2
        go_roundw
        case rel => exact ⟨k + 1, by omega, by go_num, fun j hj => (if e : j = k then by subst e; exact HK.out else HT.out j (by omega)), bel_call hbw (Nat.le_refl _) (by repeat (first | exact Below.refl _ _ | refine Below.alloc ?_ (by simp <;> omega) _ | refine Below.setCell ?_ (by simp <;> omega) _))⟩
        case measure => simp [intOf]; omega
    · have HF : Hid (markB l = true) := allN_iff.2 (fun i hi => by rw [HT.out i (by rw [HN.out] at hi; omega)]; rfl)
      go_wp2
      go_ret
      exact ⟨by rw [HF.out]; rfl, hbw⟩
end Go.Proofs.Yteikdocpncdheaa
