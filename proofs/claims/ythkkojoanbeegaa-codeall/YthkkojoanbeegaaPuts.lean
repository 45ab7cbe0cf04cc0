/-
  What Put tells, by package code and by the document's answer.
-/
import Derived.Test.YthkkojoanbeegaaBytes
import Derived.Test.YthkkojoanbeegaaMayRef
namespace Go.Proofs.Ythkkojoanbeegaa
open Go.ChangeShapes Go.WideShapes Go.ChangeAt Go.RowKit
attribute [local go_sem ↓] Go.wp_at_zero Go.wp_at_succ

theorem own_of_len {w : World} {base : Nat} {e : TypeId} {p : Option Addr} {c : Nat} {l m : List Int} (h : Own eBy w base e p c l) (hl : l = m) : Own eBy w base e p c m := by rw [← hl]; exact h

theorem bcell {W w1 : World} (hb : Below W.heap.size W w1) : (∀ b o, b < W.heap.size → w1.cell? ⟨b, o, none⟩ = W.cell? ⟨b, o, none⟩) ∧ (∀ b o, b < W.heap.size → w1.frozen? ⟨b, o, none⟩ = W.frozen? ⟨b, o, none⟩) :=
  ⟨fun b o h => hb.cell (p := ⟨b, o, none⟩) h, fun b o h => hb.frozen (p := ⟨b, o, none⟩) h⟩

theorem appendWord_n (p : Option Addr) (c : Nat) (l : List Int) (w : World) (base : Nat) (hown : Own eBy w base 5 p c l) (hbase : base ≤ w.heap.size) (N R : Nat) (hN : l.length = N) (hl : N ≤ 1000) (hR : N + 4 = R) (v : Int) :
    Calls Try.prog 29 #[.slice p N c, .int .i32 v] w fun e w' => ∃ p' c', e = .returned (.slice p' R c') ∧ Own eBy w' base 5 p' c' (l ++ [v % 4294967296 / 16777216, v % 4294967296 / 65536 % 256, v % 4294967296 / 256 % 256, v % 256]) ∧ Below base w w' := by
  subst hN hR
  exact appendWord_any p c l w base hown hbase hl v

set_option maxHeartbeats 2000000 in
theorem put_any (p : Option Addr) (c : Nat) (l : List In) (w : World) (hr : Rd eIn w p c l) (N : Nat) (hN : l.length = N) (hl : N ≤ 1000) :
    Calls Try.prog 16 #[.slice p N c] w fun e w' => ∃ p' c', e = .returned (.slice p' (putL l).length c') ∧ Own eBy w' w.heap.size 5 p' c' (putL l) ∧ Below w.heap.size w w' := by
  obtain ⟨i0, hi0, hz0, hz1, hz2⟩ := info_parts Try.info5
  by_cases hlong : 24 < N
  · have d1 : decide ((24 : Int) < (N : Int)) = true := by simp; omega
    rw [putL_long (by omega)]
    go_enter Try.func16, Try.ntmps16
    go_wp2
    go_ret
    exact ⟨_, _, rfl, own_nil _ _ _, Below.refl _ _⟩
  · have d1 : decide ((24 : Int) < (N : Int)) = false := by simp; omega
    have HN : Hid (l.length = N) := hN
    clear hN
    have hN24 : N ≤ 24 := by omega
    go_enter Try.func16, Try.ntmps16
    go_wp2_with (first
      | (go_at_call 22; refine (size_any _ _ (by omega) (by omega)).mono ?_; rintro e w9 ⟨rfl, hw9⟩; subst w9)
      | (at_make; refine wpList_make_own _ rfl _ _ 25 rfl w.heap.size 5 i0 _ 1 Try.underlying25 hi0 hz0 hz1 .i64 .i64 _ (1 + N * 7) rfl rfl (by omega) (by rw [hz2]; omega) (by unfold maxLen; omega) (Nat.le_refl _) ?_; intro w0 hown0 hgrow0)
      | (at_builtin; refine wpList_app tBy _ rfl _ _ rfl w.heap.size _ _ [] 0 rfl rfl (own_below (hown0 : Own eBy w0 w.heap.size 5 _ _ []) ((Below.refl _ _).alloc (Nat.le_refl _) _)) _ _ [(N : Int)] 1 rfl rfl (rd_block (heap_alloc_new _ _) 1 rfl rfl) (by omega) (by simp; have := hgrow0.size; omega) _ rfl ?_; intro p1 c1 w1 ho1 hb1 hst1))
    have hB1 : Below w.heap.size w w1 := (((Below.refl _ _).grown hgrow0 (Nat.le_refl _) (fun k hk => by cases hk)).alloc hgrow0.size _).trans hb1
    clear hown0 hgrow0 hb1 hst1 hi0 hz0 hz1 hz2
    go_loopw [3, 21] (fun t i wr => ∃ (k : Nat) (p' : Option Addr) (c' : Nat), k ≤ N ∧ i = .int .i64 k ∧ t = .slice p' (1 + 7 * k) c' ∧ Own eBy wr w.heap.size 5 p' c' ((N : Int) :: allB (l.take k)) ∧ (l.take k).all mayB = true ∧ Below w.heap.size w wr) (fun _ i _ => N - (intOf i).toNat)
    case atStart => exact ⟨0, p1, c1, Nat.zero_le _, rfl, rfl, ho1, rfl, hB1⟩
    case round =>
      obtain ⟨k, p', c', hk, rfl, rfl, hown, hall, hbw⟩ := hrel
      clear hB1 ho1
      have hsz := hbw.size
      by_cases hlt : k < N
      · have hkl : k < l.length := by rw [HN.out]; exact hlt
        obtain ⟨b, o, rfl, hb, f0, f1, f2, f3⟩ := (hr.below hbw).inst k hkl
        have HT : Hid (allB (l.take (k + 1)) = allB (l.take k) ++ encB l[k]) := allB_take l k hkl
        have HA : Hid (mayB l[k] = true → (l.take (k + 1)).all mayB = true) := all_take_succ hkl hall
        have HB : Hid (mayB l[k] = false → putL l = []) := putL_bad k hkl
        have HAL : Hid ((l.take k).all mayB = true) := hall
        clear hall
        have HLen : Hid (((N : Int) :: allB (l.take k)).length = 1 + 7 * k) := by
          show _ = _
          rw [List.length_cons, allB_len, List.length_take, Nat.min_eq_left (by omega)]; omega
        have HP : Hid ((N : Int) :: allB (l.take (k + 1)) = ((N : Int) :: allB (l.take k)) ++ encB l[k]) := by
          show _ = _
          rw [HT.out]; rfl
        clear HT
        generalize ((N : Int) :: allB (l.take k)) = X at *
        generalize l[k] = x at *
        obtain ⟨xo, xa, xb, xn⟩ := x
        simp only at f0 f1 f2 f3
        have hlo := World.ownsRow.lt hown
        by_cases hm : mayB (xo, xa, xb, xn) = true
        · obtain ⟨_, _, _, m6, m7⟩ := may_bd hm
          simp only at m6 m7
          rename_i g1 g2 g3
          clear g1 g2 g3
          go_wp2_with (first
            | (go_at_call 14; refine (may_any (xo, xa, xb, xn) _).mono ?_; rintro e w4 ⟨rfl, hb4⟩; obtain ⟨hc4, hf4⟩ := bcell hb4; have hz4 := hb4.size; simp at hz4
               have hB4 : Below wr.heap.size wr w4 := bel_call (by repeat (first | exact Below.refl _ _ | refine Below.alloc ?_ (by simp <;> omega) _ | refine Below.setCell ?_ (by simp <;> omega) _)) (Nat.le_refl _) hb4
               have f4 : w4.cell? ⟨wr.heap.size, 3, none⟩ = some (.int .i64 xn) := by simp [hc4, go_sem])
            | (at_builtin; refine wpList_app tBy _ rfl _ _ rfl w.heap.size p' c' X (1 + 7 * k) HLen.out rfl (own_below (own_below hown hB4) ((Below.refl _ _).alloc (Nat.le_refl _) _)) _ _ [xo % 256, xa % 256, xb % 256] 3 rfl rfl (rd_block (heap_alloc_new _ _) 3 rfl rfl) (by omega) (by simp; omega) _ rfl ?_; intro p5 c5 w5 ho5 hb5 hst5
               have hz5 := hb5.size; simp at hz5
               have f5 : w5.cell? ⟨wr.heap.size, 3, none⟩ = some (.int .i64 xn) := (World.cell?_of_block (a := ⟨wr.heap.size, 3, none⟩) (hst5 wr.heap.size (by simp; omega) (by intro g hg; subst hg; have := (hlo g rfl).2; omega))).trans ((World.cell?_of_block (w := w4) (w' := w4.alloc _) (a := ⟨wr.heap.size, 3, none⟩) (Below.heap_alloc _ _ _ (by show wr.heap.size < w4.heap.size; omega))).trans f4))
            | (go_at_call 29; refine (appendWord_n p5 c5 (X ++ [xo % 256, xa % 256, xb % 256]) _ w.heap.size ho5 (by omega) (1 + 7 * k + 3) (1 + 7 * (k + 1)) (by rw [List.length_append, HLen.out]; rfl) (by omega) (by omega) xn).mono ?_; rintro e w6 ⟨p6, c6, rfl, ho6, hb6⟩))
          go_roundw
          case rel => exact ⟨k + 1, p6, c6, by omega, by go_num, rfl, by rw [HP.out]; rw [List.append_assoc] at ho6; exact ho6, HA.out hm, bel_call hbw (Nat.le_refl _) hB4 |>.trans ((Below.refl _ _).alloc (by omega) _ |>.trans (hb5.trans hb6))⟩
          case measure => simp [intOf]; omega
        · have hm' : mayB (xo, xa, xb, xn) = false := by simpa using hm
          go_wp2_with (go_at_call 14; refine (may_any (xo, xa, xb, xn) _).mono ?_; rintro e w4 ⟨rfl, hb4⟩
                       have hB4 : Below wr.heap.size wr w4 := bel_call (by repeat (first | exact Below.refl _ _ | refine Below.alloc ?_ (by simp <;> omega) _ | refine Below.setCell ?_ (by simp <;> omega) _)) (Nat.le_refl _) hb4)
          go_ret
          exact ⟨none, 0, by rw [HB.out hm']; rfl, by rw [HB.out hm']; exact own_nil _ _ _, bel_call hbw (Nat.le_refl _) hB4⟩
      · obtain rfl : k = N := by omega
        have HF : Hid (putL l = (k : Int) :: allB (l.take k)) := by
          show _ = _
          have e : l.take k = l := List.take_of_length_le (by rw [HN.out]; omega)
          rw [e] at hall ⊢
          rw [putL_yes (by rw [HN.out]; omega) hall, HN.out]
        have HLen : Hid ((putL l).length = 1 + 7 * k) := by
          show _ = _
          rw [HF.out, List.length_cons, allB_len, List.length_take, HN.out]; omega
        rw [← HF.out] at hown
        clear hall
        go_wp2
        go_ret
        exact ⟨p', c', by rw [HLen.out]; rfl, hown, hbw⟩

set_option maxHeartbeats 2000000 in
theorem putCode_any (p : Option Addr) (c : Nat) (l : List In) (w : World) (hr : Rd eIn w p c l) (N : Nat) (hN : l.length = N) (hl : N ≤ 1000) :
    Calls Try.prog 17 #[.slice p N c] w fun e w' => ∃ p' c', e = .returned (.slice p' (putL l).length c') ∧ Own eBy w' w.heap.size 5 p' c' (putL l) ∧ Below w.heap.size w w' := by
  by_cases hlong : 24 < N
  · have d1 : decide ((24 : Int) < (N : Int)) = true := by simp; omega
    rw [putL_long (by omega)]
    go_enter Try.func17, Try.ntmps17
    go_wp2
    go_ret
    exact ⟨_, _, rfl, own_nil _ _ _, Below.refl _ _⟩
  · have d1 : decide ((24 : Int) < (N : Int)) = false := by simp; omega
    have HN : Hid (l.length = N) := hN
    clear hN
    have hN24 : N ≤ 24 := by omega
    go_enter Try.func17, Try.ntmps17
    go_wp2
    go_loopw [3, 4] (fun t i wr => ∃ (k : Nat) (p' : Option Addr) (c' : Nat), k ≤ N ∧ i = .int .i64 k ∧ t = .slice p' (1 + 7 * k) c' ∧ Own eBy wr w.heap.size 5 p' c' ((N : Int) :: allB (l.take k)) ∧ (l.take k).all mayB = true ∧ Below w.heap.size w wr) (fun _ i _ => N - (intOf i).toNat)
    case atStart => exact ⟨0, _, _, Nat.zero_le _, rfl, rfl, own_block (Nat.le_refl _) rfl 1 rfl (by decide), rfl, (Below.refl _ _).alloc (Nat.le_refl _) _⟩
    case round =>
      obtain ⟨k, p', c', hk, rfl, rfl, hown, hall, hbw⟩ := hrel
      have hsz := hbw.size
      by_cases hlt : k < N
      · have hkl : k < l.length := by rw [HN.out]; exact hlt
        obtain ⟨b, o, rfl, hb, f0, f1, f2, f3⟩ := (hr.below hbw).inst k hkl
        have HA : Hid (mayB l[k] = true → (l.take (k + 1)).all mayB = true) := all_take_succ hkl hall
        have HB : Hid (mayB l[k] = false → putL l = []) := putL_bad k hkl
        clear hall
        have HLen : Hid (((N : Int) :: allB (l.take k)).length = 1 + 7 * k) := by
          show _ = _
          rw [List.length_cons, allB_len, List.length_take, Nat.min_eq_left (by omega)]; omega
        have HP : Hid ((N : Int) :: allB (l.take (k + 1)) = ((N : Int) :: allB (l.take k)) ++ encB l[k]) := by
          show _ = _
          rw [allB_take l k hkl]; rfl
        generalize ((N : Int) :: allB (l.take k)) = X at *
        generalize l[k] = x at *
        obtain ⟨xo, xa, xb, xn⟩ := x
        simp only at f0 f1 f2 f3
        by_cases hm : mayB (xo, xa, xb, xn) = true
        · go_wp2_with (first
            | (go_at_call 15; refine (mayInst_any (xo, xa, xb, xn) _).mono ?_; rintro e w4 ⟨rfl, hb4⟩
               have h0 := (hb4.cell (p := ⟨b, o + k * 4, none⟩) hb).trans f0
               have h1 := (hb4.cell (p := ⟨b, o + k * 4 + 1, none⟩) hb).trans f1
               have h2 := (hb4.cell (p := ⟨b, o + k * 4 + 2, none⟩) hb).trans f2
               have h3 := (hb4.cell (p := ⟨b, o + k * 4 + 3, none⟩) hb).trans f3)
            | (go_at_call 30; refine (putInst_any (xo, xa, xb, xn) _).mono ?_; rintro e w5 ⟨q5, rfl, r5, hb5⟩; have hz5 := hb5.size; have hz4 := hb4.size)
            | (at_builtin; refine wpList_app tBy _ rfl _ _ rfl w.heap.size p' c' X (1 + 7 * k) HLen.out rfl (own_below (own_below hown hb4) hb5) _ _ (encB (xo, xa, xb, xn)) 7 rfl rfl r5 (by omega) (by omega) (1 + 7 * (k + 1)) (by omega) ?_; intro p6 c6 w6 ho6 hb6 hst6))
          go_roundw
          case rel => exact ⟨k + 1, p6, c6, by omega, by go_num, rfl, by rw [HP.out]; exact ho6, HA.out hm, (bel_call (bel_call hbw (Nat.le_refl _) hb4) (Nat.le_refl _) hb5).trans hb6⟩
          case measure => simp [intOf]; omega
        · have hm' : mayB (xo, xa, xb, xn) = false := by simpa using hm
          go_wp2_with (go_at_call 15; refine (mayInst_any (xo, xa, xb, xn) _).mono ?_; rintro e w4 ⟨rfl, hb4⟩)
          go_ret
          exact ⟨none, 0, by rw [HB.out hm']; rfl, by rw [HB.out hm']; exact own_nil _ _ _, bel_call hbw (Nat.le_refl _) hb4⟩
      · obtain rfl : k = N := by omega
        have HF : Hid (putL l = (k : Int) :: allB (l.take k)) := by
          show _ = _
          have e : l.take k = l := List.take_of_length_le (by rw [HN.out]; omega)
          rw [e] at hall ⊢
          rw [putL_yes (by rw [HN.out]; omega) hall, HN.out]
        have HLen : Hid ((putL l).length = 1 + 7 * k) := by
          show _ = _
          rw [HF.out, List.length_cons, allB_len, List.length_take, HN.out]; omega
        rw [← HF.out] at hown
        clear hall
        go_wp2
        go_ret
        exact ⟨p', c', by rw [HLen.out]; rfl, hown, hbw⟩
end Go.Proofs.Ythkkojoanbeegaa
