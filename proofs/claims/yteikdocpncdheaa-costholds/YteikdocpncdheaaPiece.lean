/-
  The longest piece of a program, by package cost.
-/
import Derived.Test.YteikdocpncdheaaTicks
namespace Go.Proofs.Yteikdocpncdheaa
open Go.ChangeShapes Go.WideShapes Go.ChangeAt Go.RowKit
attribute [local go_sem ↓] Go.wp_at_zero Go.wp_at_succ

set_option maxHeartbeats 2000000 in
set_option maxRecDepth 20000 in
theorem piece_any (p : Option Addr) (c : Nat) (l : List In) (w : World) (hr : Rd eIn w p c l) (n : Nat) (hN : l.length = n) (hP : Prg l) (t : Nat) (ht : lgs l n = t) :
    Calls Try.prog 27 #[.slice p n c] w fun e w' => e = .returned (.int .i64 (t : Int)) ∧ Below w.heap.size w w' := by
  subst ht
  have hcap := hr.cap
  have hbl := hP.le.2
  rw [hN] at hcap hbl
  have HN : Hid (l.length = n) := hN
  have HP : Hid (Prg l) := hP
  clear hN hP
  go_enter Try.func27, Try.ntmps27
  go_wp2
  go_loopw [3, 4, 9] (fun s f i wr => ∃ k : Nat, k ≤ n ∧ i = .int .i64 k ∧ f = .int .i64 ((frs l k : Nat) : Int) ∧ s = .int .i64 ((lgs l k : Nat) : Int) ∧ Below w.heap.size w wr) (fun _ _ i _ => n - (intOf i).toNat)
  case atStart => exact ⟨0, Nat.zero_le _, rfl, rfl, rfl, Below.refl _ _⟩
  case round =>
    obtain ⟨k, hk, rfl, rfl, rfl, hbw⟩ := hrel
    by_cases hlt : k < n
    · have hkl : k < l.length := by rw [HN.out]; exact hlt
      obtain ⟨b, o, rfl, hb, f0, f1, f2, f3⟩ := (hr.below hbw).inst k hkl
      have HG : Hid (gt l k = l[k]) := gt_eq hkl
      have hlg := lgs_bd HP.out (k := k) (by omega)
      have hfl := frs_le l k
      have HPS : Hid (isM l k = true → Tk (sub l (frs l k) (k + 1 - frs l k)) ∧ tk (sub l (frs l k) (k + 1 - frs l k)) = Sm l 0 (frs l k) (k + 1)) := piece_sub HP.out hkl
      have HY : Hid (isM l k = true → frs l (k + 1) = k + 1 ∧ lgs l (k + 1) = max (lgs l k) (Sm l 0 (frs l k) (k + 1))) := frs_yes
      have HO : Hid (isM l k = false → frs l (k + 1) = frs l k ∧ lgs l (k + 1) = lgs l k) := frs_no
      generalize hF : frs l k = F at *
      generalize hS : lgs l k = S at *
      generalize l[k] = x at *
      obtain ⟨xo, xa, xb, xn⟩ := x
      simp only at f0 f1 f2 f3
      by_cases hm : isM l k = true
      · obtain ⟨hT, hts⟩ := HPS.out hm
        obtain ⟨y1, y2⟩ := HY.out hm
        have htl := hT.tk_le
        have hln : (sub l F (k + 1 - F)).length = k + 1 - F := sub_len (by rw [HN.out]; omega)
        have hX : ∀ w', Below wr.heap.size wr w' → Rd eIn w' (some ⟨b, o + F * 4, none⟩) (c - F) (sub l F (k + 1 - F)) := fun w' hb' => by
          have := (((hr.below hbw).below hb').drop F (by rw [HN.out]; omega)).take (k + 1 - F)
          rw [if_neg (by omega), Option.map_some, add_plain] at this
          exact this
        generalize hTT : Sm l 0 F (k + 1) = T at *
        rw [hts] at htl
        have hXX := fun w' hb' => ticks_any _ _ _ w' (hX w' hb') _ hln hT T hts
        have g1 : (F : Int) ≤ (k : Int) + 1 := by omega
        have g2 : (k : Int) + 1 ≤ (c : Int) := by omega
        have Y1 : Hid (frs l (k + 1) = k + 1) := y1
        have Y2 : Hid (((lgs l (k + 1) : Nat) : Int) = if S < T then (T : Int) else (S : Int)) := by show _ = _; rw [y2]; split <;> omega
        have e1 : ((k : Int) + 1 - (F : Int)).toNat = k + 1 - F := by omega
        have hor : xo = 11 ∨ xo = 0 := by
          unfold isM at hm
          rw [HG.out] at hm
          simpa using hm
        clear hX hT hts hln hTT hF hS y1 y2 HPS HY HO hkl hm
        rcases hor with rfl | rfl
        · go_wp2_with (go_at_call 26; refine (hXX _ (by repeat (first | exact Below.refl _ _ | refine Below.alloc ?_ (by simp <;> omega) _ | refine Below.setCell ?_ (by simp <;> omega) _))).mono ?_; rintro e w4 ⟨rfl, hb4⟩
                       have hB4 : Below wr.heap.size wr w4 := bel_call (by repeat (first | exact Below.refl _ _ | refine Below.alloc ?_ (by simp <;> omega) _ | refine Below.setCell ?_ (by simp <;> omega) _)) (Nat.le_refl _) hb4)
          go_roundw
          case rel => exact ⟨k + 1, by omega, by go_num, by rw [Y1.out]; go_num, by rw [Y2.out], bel_call hbw (Nat.le_refl _) hB4⟩
          case measure => simp [intOf]; omega
        · go_wp2_with (go_at_call 26; refine (hXX _ (by repeat (first | exact Below.refl _ _ | refine Below.alloc ?_ (by simp <;> omega) _ | refine Below.setCell ?_ (by simp <;> omega) _))).mono ?_; rintro e w4 ⟨rfl, hb4⟩
                       have hB4 : Below wr.heap.size wr w4 := bel_call (by repeat (first | exact Below.refl _ _ | refine Below.alloc ?_ (by simp <;> omega) _ | refine Below.setCell ?_ (by simp <;> omega) _)) (Nat.le_refl _) hb4)
          go_roundw
          case rel => exact ⟨k + 1, by omega, by go_num, by rw [Y1.out]; go_num, by rw [Y2.out], bel_call hbw (Nat.le_refl _) hB4⟩
          case measure => simp [intOf]; omega
      · have hm' : isM l k = false := by simpa using hm
        obtain ⟨y1, y2⟩ := HO.out hm'
        have Y1 : Hid (frs l (k + 1) = F) := y1
        have Y2 : Hid (lgs l (k + 1) = S) := y2
        have h2 : (xo == 11) = false ∧ (xo == 0) = false := by
          unfold isM at hm'
          rw [HG.out] at hm'
          simpa using hm'
        obtain ⟨d1, d2⟩ := h2
        clear hF hS y1 y2 HPS HY HO hkl hm hm'
        go_wp2
        go_roundw
        case rel => exact ⟨k + 1, by omega, by go_num, by rw [Y1.out], by rw [Y2.out], bel_call hbw (Nat.le_refl _) (by repeat (first | exact Below.refl _ _ | refine Below.alloc ?_ (by simp <;> omega) _ | refine Below.setCell ?_ (by simp <;> omega) _))⟩
        case measure => simp [intOf]; omega
    · obtain rfl : k = n := by omega
      have d : decide ((k : Int) < (k : Int)) = false := by simp
      go_wp2
      go_ret
      exact ⟨rfl, hbw⟩
end Go.Proofs.Yteikdocpncdheaa
