/-
  How long rows of instructions are, by package cost: its ticks and goes.
-/
import Derived.Test.YteikdocpncdheaaSats
import Derived.Test.YteikdocpncdheaaPlains
import Derived.Test.YteikdocpncdheaaLows
namespace Go.Proofs.Yteikdocpncdheaa
open Go.ChangeShapes Go.WideShapes Go.ChangeAt Go.RowKit
attribute [local go_sem ↓] Go.wp_at_zero Go.wp_at_succ

theorem fits_c {s : Int} (h0 : 0 ≤ s) (h1 : s ≤ 1000000000) : Sat.satv s = s ∧ Sat.fitsB s = true := by
  have h : Sat.fitsB s = true := (Sat.fits_iff _).2 ⟨by omega, by omega⟩
  exact ⟨Sat.satv_fits h, h⟩
theorem add_c (a b s : Int) (w : World) (h : a + b = s) (a0 : 0 ≤ a) (a1 : a ≤ 1000000) (b0 : 0 ≤ b) (b1 : b ≤ 1000000) :
    Calls Try.prog 41 #[.int .i64 a, .int .i64 b] w fun e w' => e = .returned (.tuple #[.int .i64 s, .bool true]) ∧ w' = w := by
  have hf := fits_c (s := s) (by omega) (by omega)
  refine (Sat.add_any a b w (by omega) (by omega) (by omega) (by omega)).mono ?_
  rw [h, hf.1, hf.2]
  exact fun e w' h => h
theorem mul_c (a b s : Int) (w : World) (h : a * b = s) (a0 : 0 ≤ a) (a1 : a ≤ 1000) (b0 : 0 ≤ b) (b1 : b ≤ 100000) :
    Calls Try.prog 59 #[.int .i64 a, .int .i64 b] w fun e w' => e = .returned (.tuple #[.int .i64 s, .bool true]) ∧ w' = w := by
  have k0 : 0 ≤ s := by rw [← h]; exact Int.mul_nonneg a0 b0
  have k1 : s ≤ 1000 * 100000 := by rw [← h]; exact Int.mul_le_mul a1 b1 b0 (by omega)
  have hf := fits_c (s := s) k0 (by omega)
  refine (Sat.mul_any a b w (by omega) (by omega) (by omega) (by omega)).mono ?_
  rw [h, hf.1, hf.2]
  exact fun e w' h => h
theorem goes_of (q : Option Addr) (r d : Nat) (T N M : Nat) (w : World) (hT : Calls Try.prog 26 #[.slice q r d] w fun e w' => e = .returned (.int .i64 (T : Int)) ∧ Below w.heap.size w w') (hN : N ≤ 20) (hM : T ≤ 9600) (hP : N * T = M) :
    Calls Try.prog 42 #[.slice q r d, .int .i64 (N : Int)] w fun e w' => e = .returned (.int .i64 (M : Int)) ∧ Below w.heap.size w w' := by
  have HP : Hid ((N : Int) * (T : Int) = (M : Int)) := by show _ = _; rw [← hP]; simp
  clear hP
  go_enter Try.func42, Try.ntmps42
  go_wp2_with (first
    | (go_at_call 26; refine hT.mono ?_; rintro e w1 ⟨rfl, b1⟩)
    | (go_at_call 59; refine (mul_c (N : Int) (T : Int) (M : Int) _ HP.out (by omega) (by omega) (by omega) (by omega)).mono ?_; rintro e w2 ⟨rfl, rfl⟩))
  go_ret
  exact ⟨rfl, b1⟩

set_option maxHeartbeats 2000000 in
set_option maxRecDepth 20000 in
theorem ticks_all : ∀ (m : Nat) (p : Option Addr) (c : Nat) (l : List In) (w : World) (_ : Rd eIn w p c l) (n : Nat) (_ : l.length = n) (_ : Tk l) (_ : n ≤ m),
    Calls Try.prog 26 #[.slice p n c] w fun e w' => e = .returned (.int .i64 ((tk l : Nat) : Int)) ∧ Below w.heap.size w w' := by
  intro m
  induction m with
  | zero =>
    intro p c l w hr n hN hT hnm
    obtain rfl : n = 0 := by omega
    have HF : Hid (tk l = 0) := by show _ = _; unfold tk; rw [hN, Sm_nil]
    rw [HF.out]
    have d0 : decide ((0 : Int) < ((0 : Nat) : Int)) = false := rfl
    clear hN hT hr
    go_enter Try.func26, Try.ntmps26
    go_wp2
    go_loopw [3, 4] (fun s i wr => s = .int .i64 0 ∧ i = .int .i64 0 ∧ Below w.heap.size w wr) (fun _ _ _ => 0)
    case atStart => exact ⟨rfl, rfl, Below.refl _ _⟩
    case round =>
      obtain ⟨rfl, rfl, hb⟩ := hrel
      go_wp2
      go_ret
      exact ⟨rfl, hb⟩
  | succ m ih =>
    intro p c l w hr n hN hT hnm
    have hcap := hr.cap
    have hbl := hT.len
    rw [hN] at hcap hbl
    have HN : Hid (l.length = n) := hN
    have HT : Hid (Tk l) := hT
    have HF : Hid (tk l = Sm l 0 0 n) := by show _ = _; unfold tk; rw [hN]
    rw [HF.out]
    clear hN hT
    go_enter Try.func26, Try.ntmps26
    go_wp2
    go_loopw [3, 4] (fun s i wr => ∃ k : Nat, k ≤ n ∧ i = .int .i64 k ∧ s = .int .i64 ((Sm l 0 0 k : Nat) : Int) ∧ Hid (Top l k) ∧ Below w.heap.size w wr) (fun _ i _ => n - (intOf i).toNat)
    case atStart => exact ⟨0, Nat.zero_le _, rfl, rfl, top_zero l, Below.refl _ _⟩
    case round =>
      obtain ⟨k, hk, rfl, rfl, HK, hbw⟩ := hrel
      by_cases hlt : k < n
      · have hkl : k < l.length := by rw [HN.out]; exact hlt
        obtain ⟨b, o, rfl, hb, f0, f1, f2, f3⟩ := (hr.below hbw).inst k hkl
        have HG : Hid (gt l k = l[k]) := gt_eq hkl
        have hmy := all_get HT.out.may hkl
        have hrc := rch_eq hmy
        have hsm := HT.out.sm_le (k := k) (by omega)
        generalize hS : Sm l 0 0 k = S at *
        generalize l[k] = x at *
        obtain ⟨xo, xa, xb, xn⟩ := x
        simp only at f0 f1 f2 f3
        by_cases h8 : xo = 8
        · subst h8
          have h8' : (gt l k).1 = 8 := by rw [HG.out]
          obtain ⟨hTs, hss⟩ := sm_rep HT.out hkl HK.out h8'
          have hcl := HT.out.cl k hkl h8'
          have hno := nOf_bd HT.out.may h8'
          have htop := top_rep HT.out hkl HK.out h8'
          have hsm2 := HT.out.sm_le (k := k + rch (gt l k) + 1) (by omega)
          rw [HN.out] at hcl
          have hxb : (rch (8, xa, xb, xn) : Int) = xb := hrc
          have hmay := may_iff.1 hmy
          have hR1 : 1 ≤ rch (8, xa, xb, xn) := by
            unfold mayP at hmay
            simp only at hmay
            omega
          rw [HG.out] at hTs hss hcl htop hsm2
          obtain ⟨R, hR⟩ : ∃ R, rch (8, xa, xb, xn) = R := ⟨_, rfl⟩
          rw [hR] at hTs hss hcl htop hxb hR1 hsm2
          subst hxb
          obtain ⟨hn1, hn2, hn3⟩ := hno
          rw [HG.out] at hn3
          simp only at hn3
          subst hn3
          generalize nOf l k = N at *
          have htl := hTs.tk_le
          have hln : (sub l (k + 1) R).length = R := sub_len (by rw [HN.out]; omega)
          have hX : ∀ w', Below wr.heap.size wr w' → Rd eIn w' (some ⟨b, o + (k + 1) * 4, none⟩) (c - (k + 1)) (sub l (k + 1) R) := fun w' hb' => by
            have := (((hr.below hbw).below hb').drop (k + 1) (by rw [HN.out]; omega)).take R
            rw [if_neg (by omega)] at this
            show Rd eIn _ _ _ ((l.drop (k + 1)).take R)
            simpa [Addr.add, eIn] using this
          have hXX := fun w' hb' => ih _ _ _ w' (hX w' hb') R hln hTs (by omega)
          clear hX ih
          generalize hTk : tk (sub l (k + 1) R) = T at *
          obtain ⟨M, hM⟩ : ∃ M, N * T = M := ⟨_, rfl⟩
          have hXG := fun w' hb' => goes_of _ _ _ T N M w' (hXX w' hb') hn2 htl hM
          have HSS : Hid (Sm l 0 0 (k + R + 1) = S + 1 + M) := by show _ = _; rw [hss, hS, hM]
          have HTOP : Hid (Top l (k + R + 1)) := htop
          have hMb : M ≤ 9600 := by rw [hss, hS, hM] at hsm2; omega
          have hk1 : k + R < n := hcl.1
          have g1 : (k : Int) + 1 ≤ (k : Int) + 1 + (R : Int) := by omega
          have g2 : (k : Int) + 1 + (R : Int) ≤ (c : Int) := by omega
          clear hXX hss htop hcl hTs hln hM hTk hS hmay hmy hrc h8' hsm2 HF hkl hR
          have A1 := fun w => add_c (S : Int) 1 ((S : Int) + 1) w rfl (by omega) (by omega) (by omega) (by omega)
          have A2 := fun w => add_c ((S : Int) + 1) (M : Int) ((S + 1 + M : Nat) : Int) w (by omega) (by omega) (by omega) (by omega) (by omega)
          go_wp2_with (first
            | (go_at_call 41; (with_reducible (refine (A1 _).mono ?_)); rintro e w3 ⟨rfl, rfl⟩)
            | (go_at_call 42; refine (hXG _ (by repeat (first | exact Below.refl _ _ | refine Below.alloc ?_ (by simp <;> omega) _ | refine Below.setCell ?_ (by simp <;> omega) _))).mono ?_; rintro e w4 ⟨rfl, hb4⟩
               have hB4 : Below w3.heap.size w3 w4 := bel_call (by repeat (first | exact Below.refl _ _ | refine Below.alloc ?_ (by simp <;> omega) _ | refine Below.setCell ?_ (by simp <;> omega) _)) (Nat.le_refl _) hb4)
            | (go_at_call 41; (with_reducible (refine (A2 _).mono ?_)); rintro e w5 ⟨rfl, rfl⟩))
          go_roundw
          case rel => exact ⟨k + R + 1, by omega, by go_num, by rw [HSS.out]; go_num, HTOP.out, bel_call hbw (Nat.le_refl _) hB4⟩
          case measure => simp [intOf]; omega
        · have d8 : (xo == 8) = false := by simpa using h8
          have HSS : Hid (Sm l 0 0 (k + 1) = S + 1) := by show _ = _; rw [sm_next HK.out, hS]
          have HTOP : Hid (Top l (k + 1)) := top_next HK.out (by rw [HG.out]; exact h8)
          clear ih hS hmy hrc HF hkl
          have A1 := fun w => add_c (S : Int) 1 ((S : Int) + 1) w rfl (by omega) (by omega) (by omega) (by omega)
          go_wp2_with (go_at_call 41; (with_reducible (refine (A1 _).mono ?_)); rintro e w3 ⟨rfl, rfl⟩)
          go_roundw
          case rel => exact ⟨k + 1, by omega, by go_num, by rw [HSS.out]; go_num, HTOP.out, bel_call hbw (Nat.le_refl _) (by repeat (first | exact Below.refl _ _ | refine Below.alloc ?_ (by simp <;> omega) _ | refine Below.setCell ?_ (by simp <;> omega) _))⟩
          case measure => simp [intOf]; omega
      · obtain rfl : k = n := by omega
        clear ih
        have d : decide ((k : Int) < (k : Int)) = false := by simp
        go_wp2
        go_ret
        exact ⟨rfl, hbw⟩
theorem ticks_any (p : Option Addr) (c : Nat) (l : List In) (w : World) (hr : Rd eIn w p c l) (n : Nat) (hN : l.length = n) (hT : Tk l) (t : Nat) (ht : tk l = t) :
    Calls Try.prog 26 #[.slice p n c] w fun e w' => e = .returned (.int .i64 (t : Int)) ∧ Below w.heap.size w w' := by
  subst ht
  exact ticks_all n p c l w hr n hN hT (Nat.le_refl _)
end Go.Proofs.Yteikdocpncdheaa
