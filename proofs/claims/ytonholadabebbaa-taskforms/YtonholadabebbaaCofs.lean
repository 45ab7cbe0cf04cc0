/-
  How long a program is, by packages sat and cost.
-/
import Derived.Test.YtonholadabebbaaCostx
import Derived.Test.YtonholadabebbaaCosty
import Derived.Test.YtonholadabebbaaPrun
import Derived.Test.YtonholadabebbaaShap
import Derived.Test.YtonholadabebbaaStepl
import Derived.WalkKit
import Derived.Laws.Bits64b
import Derived.ProofKit
import Derived.Outline
import Derived.WalkLawsBesides
namespace Go.Proofs.Ytonholadabebbaa.Sat
open Go.RowKit
open Go.ChangeShapes Go.WideShapes Go.ChangeAt Go.RowKit
theorem wrap64_bd (n : Int) : -9223372036854775808 ≤ wrap64 n ∧ wrap64 n ≤ 9223372036854775807 := by unfold wrap64; omega
theorem halves_any (v : Int) (w : World) :
    Calls Try.prog 68 #[.int .i64 v] w fun e w' => e = .returned (.tuple #[.int .i64 (v / 4294967296), .int .i64 (v % 4294967296)]) ∧ w' = w := by
  go_enter Try.func68, Try.ntmps68
  go_wp2
  go_ret2
  exact ⟨rfl, rfl⟩
theorem join_any (h l : Int) (w : World) (h0 : -17179869184 ≤ h) (h1 : h ≤ 17179869184) (l0 : -17179869184 ≤ l) (l1 : l ≤ 17179869184) :
    Calls Try.prog 69 #[.int .i64 h, .int .i64 l] w fun e w' => e = .returned (.tuple #[.int .i64 (satv (h * 4294967296 + l)), .bool (fitsB (h * 4294967296 + l))]) ∧ w' = w := by
  go_enter Try.func69, Try.ntmps69
  go_wp2
  all_goals go_ret2
  · exact ⟨ret_pair (join_yes ‹_›), rfl⟩
  · exact ⟨ret_pair (join_low ‹_› ‹_›), rfl⟩
  · exact ⟨ret_pair (join_top ‹_› ‹_›), rfl⟩
theorem add_any (a b : Int) (w : World) (a0 : -9223372036854775808 ≤ a) (a1 : a ≤ 9223372036854775807) (b0 : -9223372036854775808 ≤ b) (b1 : b ≤ 9223372036854775807) :
    Calls Try.prog 56 #[.int .i64 a, .int .i64 b] w fun e w' => e = .returned (.tuple #[.int .i64 (satv (a + b)), .bool (fitsB (a + b))]) ∧ w' = w := by
  have hs : a + b = (a / 4294967296 + b / 4294967296) * 4294967296 + (a % 4294967296 + b % 4294967296) := by omega
  have H : Hid (a + b = (a / 4294967296 + b / 4294967296) * 4294967296 + (a % 4294967296 + b % 4294967296)) := hs
  clear hs
  go_enter Try.func56, Try.ntmps56
  go_wp2_with (first | (go_at_call 68; refine (halves_any _ _).mono ?_; rintro e w' ⟨rfl, rfl⟩) | (go_at_call 69; refine (join_any _ _ _ (by omega) (by omega) (by omega) (by omega)).mono ?_; rintro e w' ⟨rfl, rfl⟩))
  go_ret2
  exact ⟨ret_pair ⟨by rw [H.out], by rw [H.out]⟩, rfl⟩
theorem mag_any (v : Int) (w : World) (h0 : -9223372036854775808 ≤ v) (h1 : v ≤ 9223372036854775807) :
    Calls Try.prog 76 #[.int .i64 v] w fun e w' => e = .returned (.int .u64 (mag v)) ∧ w' = w := by
  go_enter Try.func76, Try.ntmps76
  go_wp2
  all_goals go_ret
  · exact ⟨ret_one (by rw [mag_neg ‹_›]; omega), rfl⟩
  · exact ⟨ret_one (by rw [mag_pos ‹_›]), rfl⟩
theorem prod_any (a b : Int) (w : World) (a0 : 0 ≤ a) (a1 : a ≤ 9223372036854775808) (b0 : 0 ≤ b) (b1 : b ≤ 9223372036854775808) :
    Calls Try.prog 75 #[.int .u64 a, .int .u64 b] w fun e w' => e = .returned (.tuple #[.int .u64 (prodv (a * b)), .bool (prodB (a * b))]) ∧ w' = w := by
  by_cases ha : a ≤ 4294967295
  · have K := half_a a b a0 ha b0 b1
    have HK : Hid _ := K
    clear K
    go_enter Try.func75, Try.ntmps75
    go_wp2
    all_goals go_ret2
    · exact ⟨ret_pair (close_no _ ‹_› HK.out), rfl⟩
    · exact ⟨ret_pair (close_yes ‹_› HK.out), rfl⟩
  · by_cases hb : b ≤ 4294967295
    · have ta : (a / 4294967296 != 0) = true := by simp; omega
      have tb : b / 4294967296 = 0 := by omega
      have K := half_b a b a0 a1 b0 hb
      have HK : Hid _ := K
      clear K
      go_enter Try.func75, Try.ntmps75
      go_wp2
      all_goals go_ret2
      · exact ⟨ret_pair (close_no _ ‹_› HK.out), rfl⟩
      · exact ⟨ret_pair (close_yes ‹_› HK.out), rfl⟩
    · have ta : (a / 4294967296 != 0) = true := by simp; omega
      have tb : (b / 4294967296 != 0) = true := by simp; omega
      have K := prod_great a b a0 b0 (by omega) (by omega)
      have HK : Hid _ := K
      clear K
      go_enter Try.func75, Try.ntmps75
      go_wp2
      go_ret2
      exact ⟨ret_pair ⟨(prodv_out HK.out).1.symm, (prodv_out HK.out).2.symm⟩, rfl⟩
theorem above_yes (x : Int) (w : World) (h0 : 0 ≤ x) (h1 : x < 18446744073709551616) :
    Calls Try.prog 78 #[.int .u64 x, .bool true] w fun e w' => e = .returned (.tuple #[.int .i64 (satv x), .bool (fitsB x)]) ∧ w' = w := by
  go_enter Try.func78, Try.ntmps78
  go_wp2
  all_goals go_ret2
  · exact ⟨ret_pair ⟨(satv_top ‹_›).symm, (fits_out (.inr ‹_›)).symm⟩, rfl⟩
  · have f : fitsB x = true := fits_in ⟨by omega, ‹_›⟩
    exact ⟨ret_pair ⟨(satv_fits f).symm, f.symm⟩, rfl⟩
theorem above_no (w : World) :
    Calls Try.prog 78 #[.int .u64 0, .bool false] w fun e w' => e = .returned (.tuple #[.int .i64 9223372036854775807, .bool false]) ∧ w' = w := by
  go_enter Try.func78, Try.ntmps78
  go_wp2
  go_ret2
  exact ⟨rfl, rfl⟩
theorem below_yes (x : Int) (w : World) (h0 : 0 ≤ x) (h1 : x < 18446744073709551616) :
    Calls Try.prog 77 #[.int .u64 x, .bool true] w fun e w' => e = .returned (.tuple #[.int .i64 (satv (-x)), .bool (fitsB (-x))]) ∧ w' = w := by
  go_enter Try.func77, Try.ntmps77
  go_wp2
  all_goals go_ret2
  · exact ⟨ret_pair ⟨(satv_low (by omega)).symm, (fits_out (.inl (by omega))).symm⟩, rfl⟩
  · have f : fitsB (-x) = true := fits_in (by omega)
    exact ⟨ret_pair ⟨by rw [satv_fits f]; have := eq_of_beq ‹(x == 0) = true›; omega, f.symm⟩, rfl⟩
  · have f : fitsB (-x) = true := fits_in (by omega)
    have h3 : x ≠ 0 := by have := ne_of_beq_false ‹(x == 0) = false›; exact this
    exact ⟨ret_pair ⟨by rw [satv_fits f, IntKind.wrap_u64]; unfold wrap64; omega, f.symm⟩, rfl⟩
theorem below_no (w : World) :
    Calls Try.prog 77 #[.int .u64 0, .bool false] w fun e w' => e = .returned (.tuple #[.int .i64 (-9223372036854775808), .bool false]) ∧ w' = w := by
  go_enter Try.func77, Try.ntmps77
  go_wp2
  go_ret2
  exact ⟨rfl, rfl⟩
theorem mul_any (a b : Int) (w : World) (a0 : -9223372036854775808 ≤ a) (a1 : a ≤ 9223372036854775807) (b0 : -9223372036854775808 ≤ b) (b1 : b ≤ 9223372036854775807) :
    Calls Try.prog 70 #[.int .i64 a, .int .i64 b] w fun e w' => e = .returned (.tuple #[.int .i64 (satv (a * b)), .bool (fitsB (a * b))]) ∧ w' = w := by
  have ka := mag_bd a a0 a1
  have kb := mag_bd b b0 b1
  have hp : 0 ≤ mag a * mag b := Int.mul_nonneg ka.1 kb.1
  by_cases big : mag a * mag b < 18446744073709551616
  · have k := prodv_in big
    have HB : Hid _ := big
    clear big
    rcases sign_cases a with ⟨da, sa⟩ | ⟨da, sa⟩ <;> rcases sign_cases b with ⟨db, sb⟩ | ⟨db, sb⟩
    all_goals
      go_enter Try.func70, Try.ntmps70
      go_wp2_with (first | (go_at_call 76; refine (mag_any _ _ (by omega) (by omega)).mono ?_; rintro e w' ⟨rfl, rfl⟩) | (go_at_call 75; refine (prod_any _ _ _ (by omega) (by omega) (by omega) (by omega)).mono ?_; rintro e w' ⟨rfl, rfl⟩) | (go_at_call 78; refine (above_yes _ _ hp HB.out).mono ?_; rintro e w' ⟨rfl, rfl⟩) | (go_at_call 77; refine (below_yes _ _ hp HB.out).mono ?_; rintro e w' ⟨rfl, rfl⟩))
      go_ret2
    · exact ⟨ret_pair ⟨by rw [mag_same (by omega)], by rw [mag_same (by omega)]⟩, rfl⟩
    · exact ⟨ret_pair ⟨by rw [mag_apart (by omega), Int.neg_neg], by rw [mag_apart (by omega), Int.neg_neg]⟩, rfl⟩
    · exact ⟨ret_pair ⟨by rw [mag_apart (by omega), Int.neg_neg], by rw [mag_apart (by omega), Int.neg_neg]⟩, rfl⟩
    · exact ⟨ret_pair ⟨by rw [mag_same (by omega)], by rw [mag_same (by omega)]⟩, rfl⟩
  · have k := prodv_out (x := mag a * mag b) (by omega)
    have HB : Hid (18446744073709551616 ≤ mag a * mag b) := Int.not_lt.mp big
    clear big
    rcases sign_cases a with ⟨da, sa⟩ | ⟨da, sa⟩ <;> rcases sign_cases b with ⟨db, sb⟩ | ⟨db, sb⟩
    all_goals
      go_enter Try.func70, Try.ntmps70
      go_wp2_with (first | (go_at_call 76; refine (mag_any _ _ (by omega) (by omega)).mono ?_; rintro e w' ⟨rfl, rfl⟩) | (go_at_call 75; refine (prod_any _ _ _ (by omega) (by omega) (by omega) (by omega)).mono ?_; rintro e w' ⟨rfl, rfl⟩) | (go_at_call 78; refine (above_no _).mono ?_; rintro e w' ⟨rfl, rfl⟩) | (go_at_call 77; refine (below_no _).mono ?_; rintro e w' ⟨rfl, rfl⟩))
      go_ret2
      have big := HB.out
    · rw [mag_same (by omega)] at big; exact ⟨ret_pair ⟨(satv_top (by omega)).symm, (fits_out (by omega)).symm⟩, rfl⟩
    · rw [mag_apart (by omega)] at big; exact ⟨ret_pair ⟨(satv_low (by omega)).symm, (fits_out (by omega)).symm⟩, rfl⟩
    · rw [mag_apart (by omega)] at big; exact ⟨ret_pair ⟨(satv_low (by omega)).symm, (fits_out (by omega)).symm⟩, rfl⟩
    · rw [mag_same (by omega)] at big; exact ⟨ret_pair ⟨(satv_top (by omega)).symm, (fits_out (by omega)).symm⟩, rfl⟩
end Go.Proofs.Ytonholadabebbaa.Sat
namespace Go.Proofs.Ytonholadabebbaa
open Go.ChangeShapes Go.WideShapes Go.ChangeAt Go.RowKit
attribute [local go_sem ↓] Go.wp_at_zero Go.wp_at_succ
theorem add_c (a b s : Int) (w : World) (h : a + b = s) (a0 : 0 ≤ a) (a1 : a ≤ 1000000) (b0 : 0 ≤ b) (b1 : b ≤ 1000000) :
    Calls Try.prog 56 #[.int .i64 a, .int .i64 b] w fun e w' => e = .returned (.tuple #[.int .i64 s, .bool true]) ∧ w' = w := by
  have hf := fits_c (s := s) (by omega) (by omega)
  refine (Sat.add_any a b w (by omega) (by omega) (by omega) (by omega)).mono ?_
  rw [h, hf.1, hf.2]
  exact fun e w' h => h
theorem mul_c (a b s : Int) (w : World) (h : a * b = s) (a0 : 0 ≤ a) (a1 : a ≤ 1000) (b0 : 0 ≤ b) (b1 : b ≤ 100000) :
    Calls Try.prog 70 #[.int .i64 a, .int .i64 b] w fun e w' => e = .returned (.tuple #[.int .i64 s, .bool true]) ∧ w' = w := by
  have k0 : 0 ≤ s := by rw [← h]; exact Int.mul_nonneg a0 b0
  have k1 : s ≤ 1000 * 100000 := by rw [← h]; exact Int.mul_le_mul a1 b1 b0 (by omega)
  have hf := fits_c (s := s) k0 (by omega)
  refine (Sat.mul_any a b w (by omega) (by omega) (by omega) (by omega)).mono ?_
  rw [h, hf.1, hf.2]
  exact fun e w' h => h
theorem goes_of (q : Option Addr) (r d : Nat) (T N M : Nat) (w : World) (hT : Calls Try.prog 40 #[.slice q r d] w fun e w' => e = .returned (.int .i64 (T : Int)) ∧ Below w.heap.size w w') (hN : N ≤ 20) (hM : T ≤ 9600) (hP : N * T = M) :
    Calls Try.prog 57 #[.slice q r d, .int .i64 (N : Int)] w fun e w' => e = .returned (.int .i64 (M : Int)) ∧ Below w.heap.size w w' := by
  have HP : Hid ((N : Int) * (T : Int) = (M : Int)) := by show _ = _; rw [← hP]; simp
  clear hP
  go_enter Try.func57, Try.ntmps57
  go_wp2_with (first
    | (go_at_call 40; refine hT.mono ?_; rintro e w1 ⟨rfl, b1⟩)
    | (go_at_call 70; refine (mul_c (N : Int) (T : Int) (M : Int) _ HP.out (by omega) (by omega) (by omega) (by omega)).mono ?_; rintro e w2 ⟨rfl, rfl⟩))
  go_ret
  exact ⟨rfl, b1⟩
set_option maxHeartbeats 2000000 in
set_option maxRecDepth 20000 in
theorem ticks_all : ∀ (m : Nat) (p : Option Addr) (c : Nat) (l : List In) (w : World) (_ : Rd eIn w p c l) (n : Nat) (_ : l.length = n) (_ : Tk l) (_ : n ≤ m),
    Calls Try.prog 40 #[.slice p n c] w fun e w' => e = .returned (.int .i64 ((tk l : Nat) : Int)) ∧ Below w.heap.size w w' := by
  intro m
  induction m with
  | zero =>
    intro p c l w hr n hN hT hnm
    obtain rfl : n = 0 := by omega
    have HF : Hid (tk l = 0) := by show _ = _; unfold tk; rw [hN, Sm_nil]
    rw [HF.out]
    have d0 : decide ((0 : Int) < ((0 : Nat) : Int)) = false := rfl
    clear hN hT hr
    go_enter Try.func40, Try.ntmps40
    go_wp2
    go_loopw [3, 4] (fun s i wr => s = .int .i64 0 ∧ i = .int .i64 0 ∧ Below w.heap.size w wr) (fun _ _ _ => 0)
    case atStart => exact ⟨rfl, rfl, Below.refl _ _⟩
    case round =>
      obtain ⟨rfl, rfl, hb⟩ := hrel
      go_wp2
      go_ret
      exact ⟨rfl, hb⟩
  | succ m ih =>
    intro p c l w hr n hN hT hnm
    have hcap := hr.cap
    have hbl := hT.len
    rw [hN] at hcap hbl
    have HN : Hid (l.length = n) := hN
    have HT : Hid (Tk l) := hT
    have HF : Hid (tk l = Sm l 0 0 n) := by show _ = _; unfold tk; rw [hN]
    rw [HF.out]
    clear hN hT
    go_enter Try.func40, Try.ntmps40
    go_wp2
    go_loopw [3, 4] (fun s i wr => ∃ k : Nat, k ≤ n ∧ i = .int .i64 k ∧ s = .int .i64 ((Sm l 0 0 k : Nat) : Int) ∧ Hid (Top l k) ∧ Below w.heap.size w wr) (fun _ i _ => n - (intOf i).toNat)
    case atStart => exact ⟨0, Nat.zero_le _, rfl, rfl, top_zero l, Below.refl _ _⟩
    case round =>
      obtain ⟨k, hk, rfl, rfl, HK, hbw⟩ := hrel
      by_cases hlt : k < n
      · have hkl : k < l.length := by rw [HN.out]; exact hlt
        obtain ⟨b, o, rfl, hb, f0, f1, f2, f3⟩ := (hr.below hbw).inst k hkl
        have HG : Hid (gt l k = l[k]) := gt_eq hkl
        have hmy := all_get HT.out.may hkl
        have hrc := rch_eq hmy
        have hsm := HT.out.sm_le (k := k) (by omega)
        generalize hS : Sm l 0 0 k = S at *
        generalize l[k] = x at *
        obtain ⟨xo, xa, xb, xn⟩ := x
        simp only at f0 f1 f2 f3
        by_cases h8 : xo = 8
        · subst h8
          have h8' : (gt l k).1 = 8 := by rw [HG.out]
          obtain ⟨hTs, hss⟩ := sm_rep HT.out hkl HK.out h8'
          have hcl := HT.out.cl k hkl h8'
          have hno := nOf_bd HT.out.may h8'
          have htop := top_rep HT.out hkl HK.out h8'
          have hsm2 := HT.out.sm_le (k := k + rch (gt l k) + 1) (by omega)
          rw [HN.out] at hcl
          have hxb : (rch (8, xa, xb, xn) : Int) = xb := hrc
          have hmay := may_iff.1 hmy
          have hR1 : 1 ≤ rch (8, xa, xb, xn) := by
            unfold mayP at hmay
            simp only at hmay
            omega
          rw [HG.out] at hTs hss hcl htop hsm2
          obtain ⟨R, hR⟩ : ∃ R, rch (8, xa, xb, xn) = R := ⟨_, rfl⟩
          rw [hR] at hTs hss hcl htop hxb hR1 hsm2
          subst hxb
          obtain ⟨hn1, hn2, hn3⟩ := hno
          rw [HG.out] at hn3
          simp only at hn3
          subst hn3
          generalize nOf l k = N at *
          have htl := hTs.tk_le
          have hln : (sub l (k + 1) R).length = R := sub_len (by rw [HN.out]; omega)
          have hX : ∀ w', Below wr.heap.size wr w' → Rd eIn w' (some ⟨b, o + (k + 1) * 4, none⟩) (c - (k + 1)) (sub l (k + 1) R) := fun w' hb' => by
            have := (((hr.below hbw).below hb').drop (k + 1) (by rw [HN.out]; omega)).take R
            rw [if_neg (by omega)] at this
            show Rd eIn _ _ _ ((l.drop (k + 1)).take R)
            simpa [Addr.add, eIn] using this
          have hXX := fun w' hb' => ih _ _ _ w' (hX w' hb') R hln hTs (by omega)
          clear hX ih
          generalize hTk : tk (sub l (k + 1) R) = T at *
          obtain ⟨M, hM⟩ : ∃ M, N * T = M := ⟨_, rfl⟩
          have hXG := fun w' hb' => goes_of _ _ _ T N M w' (hXX w' hb') hn2 htl hM
          have HSS : Hid (Sm l 0 0 (k + R + 1) = S + 1 + M) := by show _ = _; rw [hss, hS, hM]
          have HTOP : Hid (Top l (k + R + 1)) := htop
          have hMb : M ≤ 9600 := by rw [hss, hS, hM] at hsm2; omega
          have hk1 : k + R < n := hcl.1
          have g1 : (k : Int) + 1 ≤ (k : Int) + 1 + (R : Int) := by omega
          have g2 : (k : Int) + 1 + (R : Int) ≤ (c : Int) := by omega
          clear hXX hss htop hcl hTs hln hM hTk hS hmay hmy hrc h8' hsm2 HF hkl hR
          have A1 := fun w => add_c (S : Int) 1 ((S : Int) + 1) w rfl (by omega) (by omega) (by omega) (by omega)
          have A2 := fun w => add_c ((S : Int) + 1) (M : Int) ((S + 1 + M : Nat) : Int) w (by omega) (by omega) (by omega) (by omega) (by omega)
          go_wp2_with (first
            | (go_at_call 56; (with_reducible (refine (A1 _).mono ?_)); rintro e w3 ⟨rfl, rfl⟩)
            | (go_at_call 57; refine (hXG _ (by repeat (first | exact Below.refl _ _ | refine Below.alloc ?_ (by simp <;> omega) _ | refine Below.setCell ?_ (by simp <;> omega) _))).mono ?_; rintro e w4 ⟨rfl, hb4⟩
               have hB4 : Below w3.heap.size w3 w4 := bel_call (by repeat (first | exact Below.refl _ _ | refine Below.alloc ?_ (by simp <;> omega) _ | refine Below.setCell ?_ (by simp <;> omega) _)) (Nat.le_refl _) hb4)
            | (go_at_call 56; (with_reducible (refine (A2 _).mono ?_)); rintro e w5 ⟨rfl, rfl⟩))
          go_roundw
          case rel => exact ⟨k + R + 1, by omega, by go_num, by rw [HSS.out]; go_num, HTOP.out, bel_call hbw (Nat.le_refl _) hB4⟩
          case measure => simp [intOf]; omega
        · have d8 : (xo == 8) = false := by simpa using h8
          have HSS : Hid (Sm l 0 0 (k + 1) = S + 1) := by show _ = _; rw [sm_next HK.out, hS]
          have HTOP : Hid (Top l (k + 1)) := top_next HK.out (by rw [HG.out]; exact h8)
          clear ih hS hmy hrc HF hkl
          have A1 := fun w => add_c (S : Int) 1 ((S : Int) + 1) w rfl (by omega) (by omega) (by omega) (by omega)
          go_wp2_with (go_at_call 56; (with_reducible (refine (A1 _).mono ?_)); rintro e w3 ⟨rfl, rfl⟩)
          go_roundw
          case rel => exact ⟨k + 1, by omega, by go_num, by rw [HSS.out]; go_num, HTOP.out, bel_call hbw (Nat.le_refl _) (by repeat (first | exact Below.refl _ _ | refine Below.alloc ?_ (by simp <;> omega) _ | refine Below.setCell ?_ (by simp <;> omega) _))⟩
          case measure => simp [intOf]; omega
      · obtain rfl : k = n := by omega
        clear ih
        have d : decide ((k : Int) < (k : Int)) = false := by simp
        go_wp2
        go_ret
        exact ⟨rfl, hbw⟩
theorem ticks_any (p : Option Addr) (c : Nat) (l : List In) (w : World) (hr : Rd eIn w p c l) (n : Nat) (hN : l.length = n) (hT : Tk l) (t : Nat) (ht : tk l = t) :
    Calls Try.prog 40 #[.slice p n c] w fun e w' => e = .returned (.int .i64 (t : Int)) ∧ Below w.heap.size w w' := by
  subst ht
  exact ticks_all n p c l w hr n hN hT (Nat.le_refl _)
end Go.Proofs.Ytonholadabebbaa
namespace Go.Proofs.Ytonholadabebbaa
open Go.ChangeShapes Go.WideShapes Go.ChangeAt Go.RowKit
attribute [local go_sem ↓] Go.wp_at_zero Go.wp_at_succ
set_option maxHeartbeats 2000000 in
set_option maxRecDepth 20000 in
theorem piece_any (p : Option Addr) (c : Nat) (l : List In) (w : World) (hr : Rd eIn w p c l) (n : Nat) (hN : l.length = n) (hP : Prg l) (t : Nat) (ht : lgs l n = t) :
    Calls Try.prog 41 #[.slice p n c] w fun e w' => e = .returned (.int .i64 (t : Int)) ∧ Below w.heap.size w w' := by
  subst ht
  have hcap := hr.cap
  have hbl := hP.le.2
  rw [hN] at hcap hbl
  have HN : Hid (l.length = n) := hN
  have HP : Hid (Prg l) := hP
  clear hN hP
  go_enter Try.func41, Try.ntmps41
  go_wp2
  go_loopw [3, 4, 9] (fun s f i wr => ∃ k : Nat, k ≤ n ∧ i = .int .i64 k ∧ f = .int .i64 ((frs l k : Nat) : Int) ∧ s = .int .i64 ((lgs l k : Nat) : Int) ∧ Below w.heap.size w wr) (fun _ _ i _ => n - (intOf i).toNat)
  case atStart => exact ⟨0, Nat.zero_le _, rfl, rfl, rfl, Below.refl _ _⟩
  case round =>
    obtain ⟨k, hk, rfl, rfl, rfl, hbw⟩ := hrel
    by_cases hlt : k < n
    · have hkl : k < l.length := by rw [HN.out]; exact hlt
      obtain ⟨b, o, rfl, hb, f0, f1, f2, f3⟩ := (hr.below hbw).inst k hkl
      have HG : Hid (gt l k = l[k]) := gt_eq hkl
      have hlg := lgs_bd HP.out (k := k) (by omega)
      have hfl := frs_le l k
      have HPS : Hid (isM l k = true → Tk (sub l (frs l k) (k + 1 - frs l k)) ∧ tk (sub l (frs l k) (k + 1 - frs l k)) = Sm l 0 (frs l k) (k + 1)) := piece_sub HP.out hkl
      have HY : Hid (isM l k = true → frs l (k + 1) = k + 1 ∧ lgs l (k + 1) = max (lgs l k) (Sm l 0 (frs l k) (k + 1))) := frs_yes
      have HO : Hid (isM l k = false → frs l (k + 1) = frs l k ∧ lgs l (k + 1) = lgs l k) := frs_no
      generalize hF : frs l k = F at *
      generalize hS : lgs l k = S at *
      generalize l[k] = x at *
      obtain ⟨xo, xa, xb, xn⟩ := x
      simp only at f0 f1 f2 f3
      by_cases hm : isM l k = true
      · obtain ⟨hT, hts⟩ := HPS.out hm
        obtain ⟨y1, y2⟩ := HY.out hm
        have htl := hT.tk_le
        have hln : (sub l F (k + 1 - F)).length = k + 1 - F := sub_len (by rw [HN.out]; omega)
        have hX : ∀ w', Below wr.heap.size wr w' → Rd eIn w' (some ⟨b, o + F * 4, none⟩) (c - F) (sub l F (k + 1 - F)) := fun w' hb' => by
          have := (((hr.below hbw).below hb').drop F (by rw [HN.out]; omega)).take (k + 1 - F)
          rw [if_neg (by omega), Option.map_some, add_plain] at this
          exact this
        generalize hTT : Sm l 0 F (k + 1) = T at *
        rw [hts] at htl
        have hXX := fun w' hb' => ticks_any _ _ _ w' (hX w' hb') _ hln hT T hts
        have g1 : (F : Int) ≤ (k : Int) + 1 := by omega
        have g2 : (k : Int) + 1 ≤ (c : Int) := by omega
        have Y1 : Hid (frs l (k + 1) = k + 1) := y1
        have Y2 : Hid (((lgs l (k + 1) : Nat) : Int) = if S < T then (T : Int) else (S : Int)) := by show _ = _; rw [y2]; split <;> omega
        have e1 : ((k : Int) + 1 - (F : Int)).toNat = k + 1 - F := by omega
        have hor : xo = 11 ∨ xo = 0 := by
          unfold isM at hm
          rw [HG.out] at hm
          simpa using hm
        clear hX hT hts hln hTT hF hS y1 y2 HPS HY HO hkl hm
        rcases hor with rfl | rfl
        · go_wp2_with (go_at_call 40; refine (hXX _ (by repeat (first | exact Below.refl _ _ | refine Below.alloc ?_ (by simp <;> omega) _ | refine Below.setCell ?_ (by simp <;> omega) _))).mono ?_; rintro e w4 ⟨rfl, hb4⟩
                       have hB4 : Below wr.heap.size wr w4 := bel_call (by repeat (first | exact Below.refl _ _ | refine Below.alloc ?_ (by simp <;> omega) _ | refine Below.setCell ?_ (by simp <;> omega) _)) (Nat.le_refl _) hb4)
          go_roundw
          case rel => exact ⟨k + 1, by omega, by go_num, by rw [Y1.out]; go_num, by rw [Y2.out], bel_call hbw (Nat.le_refl _) hB4⟩
          case measure => simp [intOf]; omega
        · go_wp2_with (go_at_call 40; refine (hXX _ (by repeat (first | exact Below.refl _ _ | refine Below.alloc ?_ (by simp <;> omega) _ | refine Below.setCell ?_ (by simp <;> omega) _))).mono ?_; rintro e w4 ⟨rfl, hb4⟩
                       have hB4 : Below wr.heap.size wr w4 := bel_call (by repeat (first | exact Below.refl _ _ | refine Below.alloc ?_ (by simp <;> omega) _ | refine Below.setCell ?_ (by simp <;> omega) _)) (Nat.le_refl _) hb4)
          go_roundw
          case rel => exact ⟨k + 1, by omega, by go_num, by rw [Y1.out]; go_num, by rw [Y2.out], bel_call hbw (Nat.le_refl _) hB4⟩
          case measure => simp [intOf]; omega
      · have hm' : isM l k = false := by simpa using hm
        obtain ⟨y1, y2⟩ := HO.out hm'
        have Y1 : Hid (frs l (k + 1) = F) := y1
        have Y2 : Hid (lgs l (k + 1) = S) := y2
        have h2 : (xo == 11) = false ∧ (xo == 0) = false := by
          unfold isM at hm'
          rw [HG.out] at hm'
          simpa using hm'
        obtain ⟨d1, d2⟩ := h2
        clear hF hS y1 y2 HPS HY HO hkl hm hm'
        go_wp2
        go_roundw
        case rel => exact ⟨k + 1, by omega, by go_num, by rw [Y1.out], by rw [Y2.out], bel_call hbw (Nat.le_refl _) (by repeat (first | exact Below.refl _ _ | refine Below.alloc ?_ (by simp <;> omega) _ | refine Below.setCell ?_ (by simp <;> omega) _))⟩
        case measure => simp [intOf]; omega
    · obtain rfl : k = n := by omega
      have d : decide ((k : Int) < (k : Int)) = false := by simp
      go_wp2
      go_ret
      exact ⟨rfl, hbw⟩
end Go.Proofs.Ytonholadabebbaa
namespace Go.Proofs.Ytonholadabebbaa
open Go.ChangeShapes Go.WideShapes Go.ChangeAt Go.RowKit
attribute [local go_sem ↓] Go.wp_at_zero Go.wp_at_succ
set_option maxHeartbeats 800000 in
set_option maxRecDepth 20000 in
theorem spans_any (p : Option Addr) (c : Nat) (l : List In) (w : World) (hr : Rd eIn w p c l) (n : Nat) (hN : l.length = n) (hP : Prg l) (q : Option Addr) (d : Nat) (hu : Rd eI w q d (pairL l)) :
    Calls Try.prog 42 #[.slice p n c, .slice q n d] w fun e w' => (∃ q' d' m, e = .returned (.slice q' m d') ∧ m = (spL l n).length ∧ Own eSp w' w.heap.size 39 q' d' (spL l n)) ∧ Below w.heap.size w w' := by
  have hcap := hr.cap
  have hbl := hP.le.2
  rw [hN] at hcap hbl
  have HN : Hid (l.length = n) := hN
  have HP : Hid (Prg l) := hP
  have HU : Hid ((pairL l).length = n) := by show _ = _; rw [← hN]; exact outO_len l _
  clear hN hP
  go_enter Try.func42, Try.ntmps42
  go_wp2
  go_loopw [5, 10] (fun s i wr => ∃ (k : Nat) (q' : Option Addr) (d' m : Nat), k ≤ n ∧ i = .int .i64 k ∧ s = .slice q' m d' ∧ Hid (m = (spL l k).length) ∧ Own eSp wr w.heap.size 39 q' d' (spL l k) ∧ Below w.heap.size w wr) (fun _ i _ => n - (intOf i).toNat)
  case atStart => exact ⟨0, none, 0, 0, Nat.zero_le _, rfl, rfl, rfl, own_nil _ _ _, Below.refl _ _⟩
  case round =>
    obtain ⟨k, q', d', m, hk, rfl, rfl, HM, hown, hbw⟩ := hrel
    have hml : m ≤ k := by rw [HM.out]; exact spL_len l k
    have hsz := hbw.size
    by_cases hlt : k < n
    · have hkl : k < l.length := by rw [HN.out]; exact hlt
      have hku : k < (pairL l).length := by rw [HU.out]; exact hlt
      obtain ⟨b, o, rfl, hb, f0, f1, f2, f3⟩ := (hr.below hbw).inst k hkl
      obtain ⟨bu, ou, rfl, hbu, u00⟩ := hu.num k hku
      have u0 := (hbw.cell (p := ⟨bu, ou + k, none⟩) hbu).trans u00
      have HG : Hid (gt l k = l[k]) := gt_eq hkl
      have HUU : Hid ((pairL l).getD k 0 = (pairL l)[k]) := getD_at hku
      generalize l[k] = x at *
      generalize (pairL l)[k] = y at *
      obtain ⟨xo, xa, xb, xn⟩ := x
      simp only at f0 f1 f2 f3
      by_cases h9 : xo = 9
      · subst h9
        have h9' : (gt l k).1 = 9 := by rw [HG.out]
        obtain ⟨u, hpr⟩ := pr_of HP.out.pair hkl h9'
        obtain ⟨hTs, hts⟩ := hpr.subs HP.out
        have hsp := spn_of hpr
        have hsy := spL_yes (l := l) h9'
        have hu1 := hpr.lt
        have hu2 := hpr.le
        rw [HN.out] at hu2
        obtain rfl : y = (u : Int) := by rw [← HUU.out]; exact hpr.out
        rw [HG.out] at hsp
        simp only at hsp
        rw [hsp] at hsy
        have htl := hTs.tk_le
        have hln : (sub l (k + 1) (u - k)).length = u - k := sub_len (by rw [HN.out]; omega)
        have hX : ∀ w', Below wr.heap.size wr w' → Rd eIn w' (some ⟨b, o + (k + 1) * 4, none⟩) (c - (k + 1)) (sub l (k + 1) (u - k)) := fun w' hb' => by
          have := (((hr.below hbw).below hb').drop (k + 1) (by rw [HN.out]; omega)).take (u - k)
          rw [if_neg (by omega), Option.map_some, add_plain] at this
          exact this
        generalize hTT : Sm l (k + 1) (k + 1) (u + 1) = T at *
        rw [hts] at htl
        have hXX := fun w' hb' => ticks_any _ _ _ w' (hX w' hb') _ hln hTs T hts
        have HSY : Hid (spL l (k + 1) = spL l k ++ [(xa, (T : Int))]) := hsy
        have g1 : (k : Int) + 1 ≤ (u : Int) + 1 := by omega
        have g2 : (u : Int) + 1 ≤ (c : Int) := by omega
        have e1 : ((u : Int) + 1 - ((k : Int) + 1)).toNat = u - k := by omega
        clear hX hTs hts hln hTT hsp hsy hpr h9' HUU HG hkl hku e1
        go_wp2
        have w1 : IntKind.i64.wrap ((k : Int) + 1) = (k : Int) + 1 := wrap_c (by omega) (by omega)
        have w2 : IntKind.i64.wrap ((u : Int) + 1) = (u : Int) + 1 := wrap_c (by omega) (by omega)
        have t1 : ((k : Int) + 1).toNat = k + 1 := by omega
        have t2 : ((u : Int) + 1).toNat = u + 1 := by omega
        have t3 : u + 1 - (k + 1) = u - k := by omega
        have bq : Below wr.heap.size wr (wr.alloc (Obj.cells #[Value.int IntKind.i64 9, Value.int IntKind.i64 xa, Value.int IntKind.i64 xb, Value.int IntKind.i64 xn] 42)) := (Below.refl _ _).alloc (Nat.le_refl _) _
        have gq : (wr.alloc (Obj.cells #[Value.int IntKind.i64 9, Value.int IntKind.i64 xa, Value.int IntKind.i64 xb, Value.int IntKind.i64 xn] 42)).heap[wr.heap.size]? = some _ := heap_alloc_new wr _
        have cq : (wr.alloc (Obj.cells #[Value.int IntKind.i64 9, Value.int IntKind.i64 xa, Value.int IntKind.i64 xb, Value.int IntKind.i64 xn] 42)).cell? ⟨wr.heap.size, 1, none⟩ = some (.int .i64 xa) := by rw [cell_of_row _ _ _ _ _ _ gq]; rfl
        have uq : (wr.alloc (Obj.cells #[Value.int IntKind.i64 9, Value.int IntKind.i64 xa, Value.int IntKind.i64 xb, Value.int IntKind.i64 xn] 42)).cell? ⟨bu, ou + k, none⟩ = some (.int .i64 (u : Int)) := (bq.cell (p := ⟨bu, ou + k, none⟩) (by show bu < _; omega)).trans u0
        have oq := own_below hown bq
        have zq := lt_of_block gq
        generalize hR : wr.heap.size = r at *
        generalize (wr.alloc (Obj.cells #[Value.int IntKind.i64 9, Value.int IntKind.i64 xa, Value.int IntKind.i64 xb, Value.int IntKind.i64 xn] 42)) = wq at *
        refine wp_region_held_drew (S := fun w' => w'.cell? ⟨r, 1, none⟩ = some (.int .i64 xa) ∧ w'.cell? ⟨bu, ou + k, none⟩ = some (.int .i64 (u : Int))) (by kernel_rfl) ⟨cq, uq⟩ (fun hHeld => ?_)
        refine wpAnyH_take (i := 0) (oi := _) (v := ?_) rfl (by kernel_rfl) (by kernel_rfl) (by kernel_rfl) (fun _ _ _ h => h) (Or.inl ⟨by rfl, ?_⟩) hHeld ?_
        rotate_left
        · intro w' hSw
          (go_simp <;> with_reducible rfl)
        try simp only [Act.put, List.getElem_toArray, List.getElem_cons_zero, List.setIfInBounds_toArray, List.set_cons_zero, List.set_cons_succ]
        refine wpAnyH_take (i := 1) (oi := _) (v := ?_) rfl (by kernel_rfl) (by kernel_rfl) (by kernel_rfl) (fun _ _ _ h => h) (Or.inl ⟨by rfl, ?_⟩) hHeld ?_
        rotate_left
        · intro w' hSw
          (go_simp <;> with_reducible rfl)
        try simp only [Act.put, List.getElem_toArray, List.getElem_cons_succ, List.getElem_cons_zero, List.setIfInBounds_toArray, List.set_cons_zero, List.set_cons_succ]
        refine wpAnyH_take (i := 2) (oi := _) (v := ?_) rfl (by kernel_rfl) (by kernel_rfl) (by kernel_rfl) (fun _ _ _ h => h) (Or.inl ⟨by rfl, ?_⟩) hHeld ?_
        rotate_left
        · intro w' hSw
          obtain ⟨k5, _⟩ := hSw
          (go_simp <;> with_reducible rfl)
        try simp only [Act.put, List.getElem_toArray, List.getElem_cons_succ, List.getElem_cons_zero, List.setIfInBounds_toArray, List.set_cons_zero, List.set_cons_succ]
        refine wpAnyH_take (i := 3) (oi := _) (v := ?_) rfl (by kernel_rfl) (by kernel_rfl) (by kernel_rfl) (fun _ _ _ h => h) (Or.inl ⟨by rfl, ?_⟩) hHeld ?_
        rotate_left
        · intro w' hSw
          (go_simp <;> with_reducible rfl)
        try simp only [Act.put, List.getElem_toArray, List.getElem_cons_succ, List.getElem_cons_zero, List.setIfInBounds_toArray, List.set_cons_zero, List.set_cons_succ]
        refine wpAnyH_take (i := 4) (oi := _) (v := ?_) rfl (by kernel_rfl) (by kernel_rfl) (by kernel_rfl) (fun _ _ _ h => h) (Or.inl ⟨by rfl, ?_⟩) hHeld ?_
        rotate_left
        · intro w' hSw
          (go_simp <;> with_reducible rfl)
        try simp only [Act.put, List.getElem_toArray, List.getElem_cons_succ, List.getElem_cons_zero, List.setIfInBounds_toArray, List.set_cons_zero, List.set_cons_succ]
        refine wpAnyH_take (i := 5) (oi := _) (v := ?_) rfl (by kernel_rfl) (by kernel_rfl) (by kernel_rfl) (fun _ _ _ h => h) (Or.inl ⟨by rfl, ?_⟩) hHeld ?_
        rotate_left
        · intro w' hSw
          (go_simp <;> with_reducible rfl)
        try simp only [Act.put, List.getElem_toArray, List.getElem_cons_succ, List.getElem_cons_zero, List.setIfInBounds_toArray, List.set_cons_zero, List.set_cons_succ]
        refine wpAnyH_take (i := 6) (oi := _) (v := ?_) rfl (by kernel_rfl) (by kernel_rfl) (by kernel_rfl) (fun _ _ _ h => h) (Or.inl ⟨by rfl, ?_⟩) hHeld ?_
        rotate_left
        · intro w' hSw
          (go_simp <;> with_reducible rfl)
        try simp only [Act.put, List.getElem_toArray, List.getElem_cons_succ, List.getElem_cons_zero, List.setIfInBounds_toArray, List.set_cons_zero, List.set_cons_succ]
        refine wpAnyH_take (i := 7) (oi := _) (v := ?_) rfl (by kernel_rfl) (by kernel_rfl) (by kernel_rfl) (fun _ _ _ h => h) (Or.inl ⟨by rfl, ?_⟩) hHeld ?_
        rotate_left
        · intro w' hSw
          (go_simp <;> with_reducible rfl)
        try simp only [Act.put, List.getElem_toArray, List.getElem_cons_succ, List.getElem_cons_zero, List.setIfInBounds_toArray, List.set_cons_zero, List.set_cons_succ]
        refine wpAnyH_take (i := 8) (oi := _) (v := ?_) rfl (by kernel_rfl) (by kernel_rfl) (by kernel_rfl) (fun _ _ _ h => h) (Or.inl ⟨by rfl, ?_⟩) hHeld ?_
        rotate_left
        · intro w' hSw
          (go_simp <;> with_reducible rfl)
        try simp only [Act.put, List.getElem_toArray, List.getElem_cons_succ, List.getElem_cons_zero, List.setIfInBounds_toArray, List.set_cons_zero, List.set_cons_succ]
        refine wpAnyH_take (i := 9) (oi := _) (v := ?_) rfl (by kernel_rfl) (by kernel_rfl) (by kernel_rfl) (fun _ _ _ h => h) (Or.inl ⟨by rfl, ?_⟩) hHeld ?_
        rotate_left
        · intro w' hSw
          obtain ⟨_, k5⟩ := hSw
          (go_simp <;> with_reducible rfl)
        try simp only [Act.put, List.getElem_toArray, List.getElem_cons_succ, List.getElem_cons_zero, List.setIfInBounds_toArray, List.set_cons_zero, List.set_cons_succ]
        refine wpAnyH_take (i := 10) (oi := _) (v := ?_) rfl (by kernel_rfl) (by kernel_rfl) (by kernel_rfl) (fun _ _ _ h => h) (Or.inl ⟨by rfl, ?_⟩) hHeld ?_
        rotate_left
        · intro w' hSw
          (go_simp <;> with_reducible rfl)
        try simp only [Act.put, List.getElem_toArray, List.getElem_cons_succ, List.getElem_cons_zero, List.setIfInBounds_toArray, List.set_cons_zero, List.set_cons_succ]
        refine wpAnyH_take (i := 11) (oi := _) (v := ?_) rfl (by kernel_rfl) (by kernel_rfl) (by kernel_rfl) (fun _ _ _ h => h) (Or.inl ⟨by rfl, ?_⟩) hHeld ?_
        rotate_left
        · intro w' hSw
          (go_simp; rw [if_neg (show ¬ c = k + 1 by omega)]; rfl)
        try simp only [Act.put, List.getElem_toArray, List.getElem_cons_succ, List.getElem_cons_zero, List.setIfInBounds_toArray, List.set_cons_zero, List.set_cons_succ]
        refine wpAnyH_ready (rs := [12]) (by kernel_rfl) (by simp) ?_
        refine AllReadyH.cons (o := _) rfl (fun K hK => ?_) AllReadyH.nil
        go_simp
        go_at_call 40
        (with_reducible (refine (hXX _ (bq.trans (Below.refl _ _).drew)).mono ?_))
        rintro e w4 ⟨rfl, hb4⟩
        have b4 : Below wq.heap.size wq w4 := ((Below.refl _ _).drew).trans hb4
        have c4 : w4.cell? ⟨r, 1, none⟩ = some (.int .i64 xa) := (b4.cell (p := ⟨r, 1, none⟩) zq).trans cq
        have u4 : w4.cell? ⟨bu, ou + k, none⟩ = some (.int .i64 (u : Int)) := (b4.cell (p := ⟨bu, ou + k, none⟩) (lt_of_cell uq)).trans uq
        have o4 := own_below oq b4
        have g4 := (b4.block r zq).trans gq
        have z4 := lt_of_block g4
        have B4 : Below w.heap.size w w4 := bel_call (bel_call hbw (Nat.le_refl _) (hR ▸ bq)) (Nat.le_refl _) b4
        clear hb4 b4
        refine hK.out _ _ ⟨c4, u4⟩ (fun hHeld => ?_)
        clear hK K
        try simp only [Act.put, List.getElem_toArray, List.getElem_cons_succ, List.getElem_cons_zero, List.setIfInBounds_toArray, List.set_cons_zero, List.set_cons_succ]
        refine wpAnyH_take (i := 13) (oi := _) (v := ?_) rfl (by kernel_rfl) (by kernel_rfl) (by kernel_rfl) (fun _ _ _ h => h) (Or.inl ⟨by rfl, ?_⟩) hHeld ?_
        rotate_left
        · intro w' hSw
          (go_simp <;> with_reducible rfl)
        try simp only [Act.put, List.getElem_toArray, List.getElem_cons_succ, List.getElem_cons_zero, List.setIfInBounds_toArray, List.set_cons_zero, List.set_cons_succ]
        refine wpAnyH_ready (rs := [14]) (by kernel_rfl) (by simp) ?_
        refine AllReadyH.cons (o := _) rfl (fun K hK => ?_) AllReadyH.nil
        go_simp
        have c5 : (w4.alloc (.cells #[.int .i64 xa, .int .i64 (T : Int)] 39)).cell? ⟨r, 1, none⟩ = some (.int .i64 xa) := (((Below.refl _ _).alloc (Nat.le_refl _) _).cell (p := ⟨r, 1, none⟩) z4).trans c4
        have u5 : (w4.alloc (.cells #[.int .i64 xa, .int .i64 (T : Int)] 39)).cell? ⟨bu, ou + k, none⟩ = some (.int .i64 (u : Int)) := (((Below.refl _ _).alloc (Nat.le_refl _) _).cell (p := ⟨bu, ou + k, none⟩) (lt_of_cell u4)).trans u4
        refine hK.out _ _ ⟨c5, u5⟩ (fun hHeld => ?_)
        clear hK K
        try simp only [Act.put, List.getElem_toArray, List.getElem_cons_succ, List.getElem_cons_zero, List.setIfInBounds_toArray, List.set_cons_zero, List.set_cons_succ]
        refine wpAnyH_ready (rs := [15]) (by kernel_rfl) (by simp) ?_
        refine AllReadyH.cons (o := _) rfl (fun K hK => ?_) AllReadyH.nil
        refine step_app tSp _ rfl _ _ rfl w.heap.size q' d' (spL l k) m HM.out.symm rfl (own_below o4 ((Below.refl _ _).alloc (Nat.le_refl _) _)) _ _ [(xa, (T : Int))] 1 rfl rfl (rd_sp (heap_alloc_new w4 _)) (by omega) (by have := B4.size; simp; omega) (m + 1) rfl ?_
        intro p7 c7 w7 ho7 hb7 hst7
        have g7 : w7.heap[r]? = w4.heap[r]? := (hst7 r (by simp; omega) (own_apart o4 g4 (by decide))).trans (Below.heap_alloc _ _ _ z4)
        have c7' : w7.cell? ⟨r, 1, none⟩ = some (.int .i64 xa) := (World.cell?_of_block (a := ⟨r, 1, none⟩) g7).trans c4
        have u7 : w7.cell? ⟨bu, ou + k, none⟩ = some (.int .i64 (u : Int)) := (hb7.cell (p := ⟨bu, ou + k, none⟩) hbu).trans u5
        have B7 : Below w.heap.size w w7 := (B4.alloc (by have := B4.size; omega) _).trans hb7
        refine hK.out _ _ ⟨c7', u7⟩ (fun hHeld => ?_)
        clear hK K
        try simp only [Act.put, List.getElem_toArray, List.getElem_cons_succ, List.getElem_cons_zero, List.setIfInBounds_toArray, List.set_cons_zero, List.set_cons_succ]
        refine wpAnyH_take (i := 16) (oi := _) (v := ?_) rfl (by kernel_rfl) (by kernel_rfl) (by kernel_rfl) (fun _ _ _ h => h) (Or.inl ⟨by rfl, ?_⟩) hHeld ?_
        rotate_left
        · intro w' hSw
          (go_simp <;> with_reducible rfl)
        try simp only [Act.put, List.getElem_toArray, List.getElem_cons_succ, List.getElem_cons_zero, List.setIfInBounds_toArray, List.set_cons_zero, List.set_cons_succ]
        refine wpAnyH_done (by kernel_rfl) ?_ _
        clear hst7 hb7 o4 oq gq g4 hHeld c7' u7 c5 u5 c4 u4 cq uq g7
        go_wp2
        go_roundw
        case rel => exact ⟨k + 1, p7, c7, m + 1, by omega, by go_num, rfl, by show _ = _; rw [HSY.out, List.length_append, ← HM.out]; rfl, by rw [HSY.out]; exact ho7, B7⟩
        case measure => simp [intOf]; omega
      · have d9 : (xo == 9) = false := by simpa using h9
        have HSY : Hid (spL l (k + 1) = spL l k) := spL_no (by rw [HG.out]; exact h9)
        clear HUU HG hkl hku
        go_wp2
        go_roundw
        case rel => exact ⟨k + 1, q', d', m, by omega, by go_num, rfl, by show _ = _; rw [HSY.out]; exact HM.out, by rw [HSY.out]; exact own_below hown ((Below.refl _ _).alloc (Nat.le_refl _) _), bel_call hbw (Nat.le_refl _) ((Below.refl _ _).alloc (Nat.le_refl _) _)⟩
        case measure => simp [intOf]; omega
    · obtain rfl : k = n := by omega
      have d : decide ((k : Int) < (k : Int)) = false := by simp
      go_wp2
      go_ret
      exact ⟨⟨q', d', m, rfl, HM.out, hown⟩, hbw⟩
end Go.Proofs.Ytonholadabebbaa
namespace Go.Proofs.Ytonholadabebbaa
open Go.ChangeShapes Go.WideShapes Go.ChangeAt Go.RowKit
attribute [local go_sem ↓] Go.wp_at_zero Go.wp_at_succ
theorem res13 {tmps : Array Value} {w : World} {r : Nat} {cs : Array Value} {ok : Bool} (h2 : tmps.getD 2 undef = .pointer (some ⟨r, 0, none⟩)) (h3 : tmps.getD 3 undef = .bool ok) (g2 : w.heap[r]? = some (.cells cs 53 (0, 0))) (hs : cs.size = 3) :
    (results Try.f28 tmps).run Try.prog w = .ok (.tuple #[.agg cs, .bool ok]) w := by
  have e2 := run_loadVar_row (P := Try.prog) w r 53 53 _ (0, 0) _ g2 Try.underlying53 rfl (by rw [hs]; exact info32)
  have k2 : tmps[2]?.getD undef = .pointer (some ⟨r, 0, none⟩) := by simpa using h2
  have k3 : tmps[3]?.getD undef = .bool ok := by simpa using h3
  simp [results, Try.results28, k2, k3, asAddr, e2]
set_option maxHeartbeats 2000000 in
set_option maxRecDepth 20000 in
theorem of_yes (p : Option Addr) (c : Nat) (l : List In) (w : World) (hr : Rd eIn w p c l) (n : Nat) (hN : l.length = n) (hk : okB l = true) :
    Calls Try.prog 28 #[.slice p n c] w fun e w' => (∃ q d m, e = .returned (.tuple #[.agg #[.int .i64 ((tk l : Nat) : Int), .int .i64 ((lgs l n : Nat) : Int), .slice q m d], .bool true]) ∧ m = (spL l n).length ∧ Own eSp w' w.heap.size 39 q d (spL l n)) ∧ Below w.heap.size w w' := by
  have hP := prg_of hk
  have hle := hP.le
  rw [hN] at hle
  have h1 := fun w' (hb : Below w.heap.size w w') => shape_c p c l w' n true hN hk (hr.below hb) (by omega)
  have h2 := fun w' (hb : Below w.heap.size w w') => pairs_yes p c l w' n (pairL l) hN hP.pair rfl (hr.below hb) (by omega) hP.all (by omega)
  have h3 := fun w' (hb : Below w.heap.size w w') => ticks_any p c l w' (hr.below hb) n hN (tk_of hP) _ rfl
  have h4 := fun w' (hb : Below w.heap.size w w') => piece_any p c l w' (hr.below hb) n hN hP _ rfl
  have h5 := fun w' (hb : Below w.heap.size w w') (q : Option Addr) (d : Nat) (hu : Rd eI w' q d (pairL l)) => spans_any p c l w' (hr.below hb) n hN hP q d hu
  generalize tk l = T at *
  generalize lgs l n = G at *
  clear hP hle hN hk hr
  go_enter Try.func28, Try.ntmps28
  go_wp2_with (first
    | (go_at_call 38; refine (h1 _ ((Below.refl _ _).alloc (Nat.le_refl _) _)).mono ?_; rintro e w1 ⟨rfl, b1⟩; have B1 := bel_call ((Below.refl _ _).alloc (Nat.le_refl _) _) (Nat.le_refl _) b1; have g1 : w1.heap[w.heap.size]? = some (.cells #[.int .i64 0, .int .i64 0, .slice none 0 0] 53 (0, 0)) := (b1.block w.heap.size (by simp)).trans (heap_alloc_new w _))
    | (go_at_call 39; refine (h2 _ B1).mono ?_; rintro e w2 ⟨q2, d2, rfl, o2, b2⟩; have B2 := bel_call B1 (Nat.le_refl _) b2; have g2 := (b2.block w.heap.size (lt_of_block g1)).trans g1)
    | (go_at_call 40; refine (h3 _ B2).mono ?_; rintro e w3 ⟨rfl, b3⟩; have B3 := bel_call B2 (Nat.le_refl _) b3; have g3 := (b3.block w.heap.size (lt_of_block g2)).trans g2; have o3 := own_below o2 b3)
    | (go_at_call 41; refine (h4 _ B3).mono ?_; rintro e w4 ⟨rfl, b4⟩; have B4 := bel_call B3 (Nat.le_refl _) b4; have g4 := (b4.block w.heap.size (lt_of_block g3)).trans g3; have o4 := own_below o3 b4)
    | (go_at_call 42; refine (h5 _ B4 q2 d2 (own_rd o4)).mono ?_; rintro e w5 ⟨⟨q5, d5, m5, rfl, e5, o5⟩, b5⟩; have B5 := bel_call B4 (Nat.le_refl _) b5; have g5 := (b5.block w.heap.size (lt_of_block g4)).trans g4; have E5 : Hid (m5 = (spL l n).length) := e5; clear e5; obtain ⟨⟨k0, k1, k2⟩, z0, z1, z2⟩ := cellT g5; clear g1 g2 g3 g4))
  have hz1 : w.heap.size < w4.heap.size := Nat.lt_of_lt_of_le (by have := b1.size; simp at this; omega) (Nat.le_trans b2.size (Nat.le_trans b3.size b4.size))
  obtain ⟨gf, of, bf⟩ := st3 g5 o5 hz1 B5 (Nat.le_refl _) (.int .i64 (T : Int)) (.int .i64 (G : Int)) (.slice q5 m5 d5)
  refine bodyPost_ret (v := .tuple #[.agg #[.int .i64 (T : Int), .int .i64 (G : Int), .slice q5 m5 d5], .bool true]) (res13 rfl rfl gf rfl) rfl ?_
  exact ⟨⟨q5, d5, m5, rfl, E5.out, own_mono of (by omega)⟩, bf⟩
set_option maxHeartbeats 2000000 in
set_option maxRecDepth 20000 in
theorem of_no (p : Option Addr) (c : Nat) (l : List In) (w : World) (hr : Rd eIn w p c l) (n : Nat) (hN : l.length = n) (hl : n ≤ 1000) (hk : okB l = false) :
    Calls Try.prog 28 #[.slice p n c] w fun e w' => e = .returned (.tuple #[.agg #[.int .i64 0, .int .i64 0, .slice none 0 0], .bool false]) ∧ Below w.heap.size w w' := by
  have h1 := fun w' (hb : Below w.heap.size w w') => shape_c p c l w' n false hN hk (hr.below hb) hl
  clear hN hk hr hl
  go_enter Try.func28, Try.ntmps28
  go_wp2_with (first
    | (go_at_call 38; refine (h1 _ ((Below.refl _ _).alloc (Nat.le_refl _) _)).mono ?_; rintro e w1 ⟨rfl, b1⟩; have B1 := bel_call ((Below.refl _ _).alloc (Nat.le_refl _) _) (Nat.le_refl _) b1; have g1 : w1.heap[w.heap.size]? = some (.cells #[.int .i64 0, .int .i64 0, .slice none 0 0] 53 (0, 0)) := (b1.block w.heap.size (by simp)).trans (heap_alloc_new w _); obtain ⟨⟨k0, k1, k2⟩, z0, z1, z2⟩ := cellT g1))
  obtain ⟨gf, _, bf⟩ := st3 g1 (own_nil (E := eSp) w1 (w.heap.size + 1) 39) (by omega) B1 (Nat.le_refl _) (.int .i64 0) (.int .i64 0) (.slice none 0 0)
  refine bodyPost_ret (v := .tuple #[.agg #[.int .i64 0, .int .i64 0, .slice none 0 0], .bool false]) (res13 rfl rfl gf rfl) rfl ?_
  exact ⟨rfl, bf⟩
theorem of_c (p : Option Addr) (c : Nat) (l : List In) (w : World) (hr : Rd eIn w p c l) (n : Nat) (hN : l.length = n) (hk : okB l = true) (T G m : Nat) (hT : tk l = T) (hG : lgs l n = G) (SP : List (Int × Int)) (hS : spL l n = SP) (hm : SP.length = m) :
    Calls Try.prog 28 #[.slice p n c] w fun e w' => (∃ q d, e = .returned (.tuple #[.agg #[.int .i64 (T : Int), .int .i64 (G : Int), .slice q m d], .bool true]) ∧ Own eSp w' w.heap.size 39 q d SP) ∧ Below w.heap.size w w' := by
  subst hT hG hS hm
  refine (of_yes p c l w hr n hN hk).mono ?_
  rintro e w' ⟨⟨q, d, m, rfl, rfl, ho⟩, hb⟩
  exact ⟨⟨q, d, rfl, ho⟩, hb⟩
theorem Rd.span {w : World} {p : Option Addr} {c : Nat} {l : List (Int × Int)} (h : Rd eSp w p c l) (i : Nat) (hi : i < l.length) :
    ∃ b o, p = some ⟨b, o, none⟩ ∧ b < w.heap.size ∧ w.cell? ⟨b, o + i * 2, none⟩ = some (.int .i64 l[i].1) ∧ w.cell? ⟨b, o + i * 2 + 1, none⟩ = some (.int .i64 l[i].2) := by
  obtain ⟨b, o, e, hb, hc⟩ := h.cells i hi
  exact ⟨b, o, e, hb, hc 0 _ rfl, hc 1 _ rfl⟩
def bg5 : List In := [(1, 0, 0, 0), (11, 0, 0, 0), (9, 0, 0, 0), (10, 0, 0, 0), (0, 0, 0, 0)]
theorem bg5_rd {w : World} {vb : Nat} {t : TypeId} {fr : Nat × Nat} (h : w.heap[vb]? = some (.cells #[.int .i64 1, .int .i64 0, .int .i64 0, .int .i64 0, .int .i64 11, .int .i64 0, .int .i64 0, .int .i64 0, .int .i64 9, .int .i64 0, .int .i64 0, .int .i64 0, .int .i64 10, .int .i64 0, .int .i64 0, .int .i64 0, .int .i64 0, .int .i64 0, .int .i64 0, .int .i64 0] t fr)) : Rd eIn w (some ⟨vb, 0, none⟩) 5 bg5 := rd_block h 5 rfl rfl
set_option maxRecDepth 100000 in
theorem bg5_ok : okB bg5 = true ∧ tk bg5 = 5 ∧ lgs bg5 5 = 3 ∧ spL bg5 5 = [(0, 1)] := by decide
end Go.Proofs.Ytonholadabebbaa
