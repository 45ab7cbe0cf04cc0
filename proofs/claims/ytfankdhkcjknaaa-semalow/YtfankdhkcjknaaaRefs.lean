/-
  What the document's Take, Let, All and Low of semaphores hand back, each by its own Go text; two rows held against each other.
-/
import Derived.Test.YtfankdhkcjknaaaDeeds
namespace Go.Proofs.Ytfankdhkcjknaaa
open Go.ChangeShapes Go.WideShapes Go.ChangeAt Go.RowKit
attribute [local go_sem ↓] Go.wp_at_zero Go.wp_at_succ

theorem takeB_at {l : List Sm} {k : Nat} (hk : k < l.length) : takeB l (k : Int) = decide (l[k].2 = 0) := by
  unfold takeB
  rw [lookS_at hk]
  by_cases h : l[k].2 = 0 <;> simp [h]
theorem letB_at {l : List Sm} {k : Nat} (hk : k < l.length) (H : Int) : letB l (k : Int) H = decide (l[k].2 = H) := by
  unfold letB
  rw [lookS_at hk]
  by_cases h : l[k].2 = H <;> simp [h]
theorem rtake_any (p : Option Addr) (c : Nat) (l : List Sm) (w : World) (hr : Rd eS w p c l) (n : Nat) (hn : l.length = n) (hm : n ≤ 1000) (s t H : Int) (h0 : 0 ≤ t) (h1 : t ≤ 4611686018427387904) (hH : t + 1 = H) :
    Calls Try.prog 9 #[.slice p n c, .int .i64 s, .int .i64 t] w fun e w' => ∃ (q : Option Addr) (d : Nat), e = .returned (.tuple #[.slice q n d, .bool (takeB l s)]) ∧ Own eS w' w.heap.size 36 q d (takeS l s H) ∧ Below w.heap.size w w' := by
  have HN : Hid (l.length = n) := hn
  have HH : Hid (t + 1 = H) := hH
  clear hH
  by_cases c1 : s < 0
  · have d1 : decide (s < 0) = true := by simpa using c1
    have HB : Hid (takeB l s = false) := by simp [takeB, lookS_low c1, Hid]
    have HS : Hid (takeS l s H = l) := by simp [takeS, HB.out, Hid]
    clear hn
    go_enter Try.func9, Try.ntmps9
    go_wp2_with (at_builtin; refine wpList_app tS _ rfl _ _ rfl w.heap.size _ _ [] 0 rfl rfl (own_blockg (by simp) (by omega) rfl 0 rfl (by decide)) p c l n HN.out rfl (hr.below ((Below.refl _ _).alloc (Nat.le_refl _) _)) (by omega) (by simp) n (by omega) ?_; intro p5 c5 w5 o5 b5 st5)
    go_ret2
    exact ⟨p5, c5, by rw [HB.out]; rfl, by rw [HS.out]; simpa using o5, ((Below.refl _ _).alloc (Nat.le_refl _) _).trans b5⟩
  · have d1 : decide (s < 0) = false := by simpa using c1
    by_cases c2 : (n : Int) ≤ s
    · have d2 : decide ((n : Int) ≤ s) = true := by simpa using c2
      have HB : Hid (takeB l s = false) := by simp [takeB, lookS_high (by rw [hn]; exact c2), Hid]
      have HS : Hid (takeS l s H = l) := by simp [takeS, HB.out, Hid]
      clear hn
      go_enter Try.func9, Try.ntmps9
      go_wp2_with (at_builtin; refine wpList_app tS _ rfl _ _ rfl w.heap.size _ _ [] 0 rfl rfl (own_blockg (by simp) (by omega) rfl 0 rfl (by decide)) p c l n HN.out rfl (hr.below ((Below.refl _ _).alloc (Nat.le_refl _) _)) (by omega) (by simp) n (by omega) ?_; intro p5 c5 w5 o5 b5 st5)
      go_ret2
      exact ⟨p5, c5, by rw [HB.out]; rfl, by rw [HS.out]; simpa using o5, ((Below.refl _ _).alloc (Nat.le_refl _) _).trans b5⟩
    · obtain ⟨k, rfl⟩ : ∃ k : Nat, s = (k : Int) := ⟨s.toNat, by omega⟩
      have hk : k < n := by omega
      have d2 : decide ((n : Int) ≤ (k : Int)) = false := by simp; omega
      have d3 : decide (n ≤ k) = false := by simp; omega
      have hkl : k < l.length := by rw [hn]; exact hk
      obtain ⟨b0, o0, rfl, hb, hc0, hc1⟩ := hr.sem k hkl
      have HT : Hid (takeB l (k : Int) = decide (l[k].2 = 0)) := takeB_at hkl
      have HP : Hid (putS l (k : Int) H = l.set k (l[k].1, H)) := putS_set hkl H
      by_cases c3 : l[k].2 = 0
      · have HB : Hid (takeB l (k : Int) = true) := by rw [HT.out]; simpa [Hid] using c3
        have HS : Hid (takeS l (k : Int) H = l.set k (l[k].1, H)) := by simp [takeS, HB.out, Hid, HP.out]
        rw [c3] at hc1
        clear hn HT HP c3
        go_enter Try.func9, Try.ntmps9
        go_wp2_with (at_builtin; refine wpList_app tS _ rfl _ _ rfl w.heap.size _ _ [] 0 rfl rfl (own_blockg (by simp) (by omega) rfl 0 rfl (by decide)) _ c l n HN.out rfl (hr.below ((Below.refl _ _).alloc (Nat.le_refl _) _)) (by omega) (by simp) n (by omega) ?_; intro p5 c5 w5 o5 b5 st5
                     have B5 := ((Below.refl w.heap.size w).alloc (Nat.le_refl _) _).trans b5
                     rw [List.nil_append] at o5
                     obtain ⟨b, rfl, hb0, hb1, hfr, hd, hown⟩ := own_hold o5 k hkl
                     have z1 := hfr (0 + k * 2 + 1); have z2 := hfr (k * 2 + 1)
                     have e1 := (B5.cell (p := ⟨b0, o0 + k * 2 + 1, none⟩) hb).trans hc1)
        go_ret2
        refine ⟨_, c5, by rw [HB.out]; rfl, ?_, B5.setCell hb0 _⟩
        rw [HS.out, ← HH.out]
        exact hown (t + 1)
      · have HB : Hid (takeB l (k : Int) = false) := by rw [HT.out]; simpa [Hid] using c3
        have HS : Hid (takeS l (k : Int) H = l) := by simp [takeS, HB.out, Hid]
        obtain ⟨xk, hxk⟩ : ∃ xk, l[k].2 = xk := ⟨_, rfl⟩
        rw [hxk] at hc1 c3
        have d4 : (xk == 0) = false := by simpa using c3
        clear hn HT HP c3 hxk
        go_enter Try.func9, Try.ntmps9
        go_wp2_with (at_builtin; refine wpList_app tS _ rfl _ _ rfl w.heap.size _ _ [] 0 rfl rfl (own_blockg (by simp) (by omega) rfl 0 rfl (by decide)) _ c l n HN.out rfl (hr.below ((Below.refl _ _).alloc (Nat.le_refl _) _)) (by omega) (by simp) n (by omega) ?_; intro p5 c5 w5 o5 b5 st5
                     have B5 := ((Below.refl w.heap.size w).alloc (Nat.le_refl _) _).trans b5
                     have e1 := (B5.cell (p := ⟨b0, o0 + k * 2 + 1, none⟩) hb).trans hc1)
        go_ret2
        exact ⟨p5, c5, by rw [HB.out]; rfl, by rw [HS.out]; simpa using o5, B5⟩
theorem rlet_any (p : Option Addr) (c : Nat) (l : List Sm) (w : World) (hr : Rd eS w p c l) (n : Nat) (hn : l.length = n) (hm : n ≤ 1000) (s t H : Int) (h0 : 0 ≤ t) (h1 : t ≤ 4611686018427387904) (hH : t + 1 = H) :
    Calls Try.prog 11 #[.slice p n c, .int .i64 s, .int .i64 t] w fun e w' => ∃ (q : Option Addr) (d : Nat), e = .returned (.tuple #[.slice q n d, .bool (letB l s H)]) ∧ Own eS w' w.heap.size 36 q d (letS l s H) ∧ Below w.heap.size w w' := by
  have HN : Hid (l.length = n) := hn
  have HH : Hid (t + 1 = H) := hH
  clear hH
  by_cases c1 : s < 0
  · have d1 : decide (s < 0) = true := by simpa using c1
    have HB : Hid (letB l s H = false) := by simp [letB, lookS_low c1, Hid]
    have HS : Hid (letS l s H = l) := by simp [letS, HB.out, Hid]
    clear hn
    go_enter Try.func11, Try.ntmps11
    go_wp2_with (at_builtin; refine wpList_app tS _ rfl _ _ rfl w.heap.size _ _ [] 0 rfl rfl (own_blockg (by simp) (by omega) rfl 0 rfl (by decide)) p c l n HN.out rfl (hr.below ((Below.refl _ _).alloc (Nat.le_refl _) _)) (by omega) (by simp) n (by omega) ?_; intro p5 c5 w5 o5 b5 st5)
    go_ret2
    exact ⟨p5, c5, by rw [HB.out]; rfl, by rw [HS.out]; simpa using o5, ((Below.refl _ _).alloc (Nat.le_refl _) _).trans b5⟩
  · have d1 : decide (s < 0) = false := by simpa using c1
    by_cases c2 : (n : Int) ≤ s
    · have d2 : decide ((n : Int) ≤ s) = true := by simpa using c2
      have HB : Hid (letB l s H = false) := by simp [letB, lookS_high (by rw [hn]; exact c2), Hid]
      have HS : Hid (letS l s H = l) := by simp [letS, HB.out, Hid]
      clear hn
      go_enter Try.func11, Try.ntmps11
      go_wp2_with (at_builtin; refine wpList_app tS _ rfl _ _ rfl w.heap.size _ _ [] 0 rfl rfl (own_blockg (by simp) (by omega) rfl 0 rfl (by decide)) p c l n HN.out rfl (hr.below ((Below.refl _ _).alloc (Nat.le_refl _) _)) (by omega) (by simp) n (by omega) ?_; intro p5 c5 w5 o5 b5 st5)
      go_ret2
      exact ⟨p5, c5, by rw [HB.out]; rfl, by rw [HS.out]; simpa using o5, ((Below.refl _ _).alloc (Nat.le_refl _) _).trans b5⟩
    · obtain ⟨k, rfl⟩ : ∃ k : Nat, s = (k : Int) := ⟨s.toNat, by omega⟩
      have hk : k < n := by omega
      have d2 : decide ((n : Int) ≤ (k : Int)) = false := by simp; omega
      have d3 : decide (n ≤ k) = false := by simp; omega
      have hkl : k < l.length := by rw [hn]; exact hk
      obtain ⟨b0, o0, rfl, hb, hc0, hc1⟩ := hr.sem k hkl
      have HT : Hid (letB l (k : Int) H = decide (l[k].2 = H)) := letB_at hkl H
      have HP : Hid (putS l (k : Int) 0 = l.set k (l[k].1, 0)) := putS_set hkl 0
      by_cases c3 : l[k].2 = H
      · have HB : Hid (letB l (k : Int) H = true) := by rw [HT.out]; simpa [Hid] using c3
        have HS : Hid (letS l (k : Int) H = l.set k (l[k].1, 0)) := by simp [letS, HB.out, Hid, HP.out]
        rw [c3, ← HH.out] at hc1
        clear hn HT HP c3
        go_enter Try.func11, Try.ntmps11
        go_wp2_with (at_builtin; refine wpList_app tS _ rfl _ _ rfl w.heap.size _ _ [] 0 rfl rfl (own_blockg (by simp) (by omega) rfl 0 rfl (by decide)) _ c l n HN.out rfl (hr.below ((Below.refl _ _).alloc (Nat.le_refl _) _)) (by omega) (by simp) n (by omega) ?_; intro p5 c5 w5 o5 b5 st5
                     have B5 := ((Below.refl w.heap.size w).alloc (Nat.le_refl _) _).trans b5
                     rw [List.nil_append] at o5
                     obtain ⟨b, rfl, hb0, hb1, hfr, hd, hown⟩ := own_hold o5 k hkl
                     have z1 := hfr (0 + k * 2 + 1); have z2 := hfr (k * 2 + 1)
                     have e1 := (B5.cell (p := ⟨b0, o0 + k * 2 + 1, none⟩) hb).trans hc1)
        go_ret2
        refine ⟨_, c5, by rw [HB.out]; rfl, ?_, B5.setCell hb0 _⟩
        rw [HS.out]
        exact hown 0
      · have HB : Hid (letB l (k : Int) H = false) := by rw [HT.out]; simpa [Hid] using c3
        have HS : Hid (letS l (k : Int) H = l) := by simp [letS, HB.out, Hid]
        obtain ⟨xk, hxk⟩ : ∃ xk, l[k].2 = xk := ⟨_, rfl⟩
        rw [hxk] at hc1 c3
        have d4 : (xk == t + 1) = false := by rw [HH.out]; simpa using c3
        clear hn HT HP c3 hxk
        go_enter Try.func11, Try.ntmps11
        go_wp2_with (at_builtin; refine wpList_app tS _ rfl _ _ rfl w.heap.size _ _ [] 0 rfl rfl (own_blockg (by simp) (by omega) rfl 0 rfl (by decide)) _ c l n HN.out rfl (hr.below ((Below.refl _ _).alloc (Nat.le_refl _) _)) (by omega) (by simp) n (by omega) ?_; intro p5 c5 w5 o5 b5 st5
                     have B5 := ((Below.refl w.heap.size w).alloc (Nat.le_refl _) _).trans b5
                     have e1 := (B5.cell (p := ⟨b0, o0 + k * 2 + 1, none⟩) hb).trans hc1)
        go_ret2
        exact ⟨p5, c5, by rw [HB.out]; rfl, by rw [HS.out]; simpa using o5, B5⟩
theorem rall_any (p : Option Addr) (c : Nat) (l : List Sm) (w : World) (hr : Rd eS w p c l) (n : Nat) (hn : l.length = n) (hm : n ≤ 1000) (t H : Int) (h0 : 0 ≤ t) (h1 : t ≤ 4611686018427387904) (hH : t + 1 = H) :
    Calls Try.prog 16 #[.slice p n c, .int .i64 t] w fun e w' => ∃ (q : Option Addr) (d : Nat), e = .returned (.slice q n d) ∧ Own eS w' w.heap.size 36 q d (allS l H) ∧ Below w.heap.size w w' := by
  have HN : Hid (l.length = n) := hn
  have HH : Hid (t + 1 = H) := hH
  clear hH hn
  go_enter Try.func16, Try.ntmps16
  go_wp2_with (at_builtin; refine wpList_app tS _ rfl _ _ rfl w.heap.size _ _ [] 0 rfl rfl (own_blockg (by simp) (by omega) rfl 0 rfl (by decide)) p c l n HN.out rfl (hr.below ((Below.refl _ _).alloc (Nat.le_refl _) _)) (by omega) (by simp) n (by omega) ?_; intro q1 d1 w1 o1 b1 st1
               rw [List.nil_append] at o1
               have B1 := ((Below.refl w.heap.size w).alloc (Nat.le_refl _) _).trans b1)
  go_loopw [6] (fun i wr => ∃ k : Nat, k ≤ n ∧ i = .int .i64 k ∧ Own eS wr w.heap.size 36 q1 d1 (partS l H k) ∧ Below w.heap.size w wr) (fun i _ => n - (intOf i).toNat)
  case atStart => exact ⟨0, Nat.zero_le _, rfl, by rw [partS_zero]; exact o1, B1⟩
  case round =>
    obtain ⟨k, hk, rfl, ok, hbw⟩ := hrel
    clear o1 b1 st1 B1
    by_cases hlt : k < n
    · have hkl : k < l.length := by rw [HN.out]; exact hlt
      have hkp : k < (partS l H k).length := by rw [partS_length (by omega)]; exact hkl
      obtain ⟨b, rfl, hb0, hb1, hfr, ⟨hc0, hc1⟩, hown⟩ := own_hold ok k hkp
      have HG : Hid ((partS l H k)[k]'hkp = l[k]) := partS_get hkl
      rw [HG.out] at hc0 hc1
      by_cases he : l[k].2 = H
      · rw [he, ← HH.out] at hc1
        have z1 := hfr (0 + k * 2 + 1)
        have z2 := hfr (k * 2 + 1)
        have HW : Hid (∀ v, Own eS (wr.setCell ⟨b, k * 2 + 1, none⟩ (.int .i64 v)) w.heap.size 36 (some ⟨b, 0, none⟩) d1 ((partS l H k).set k (((partS l H k)[k]'hkp).1, v))) := hown
        have HE : Hid (l[k].2 = H) := he
        clear hown hfr ok he
        go_wp2
        go_roundw
        case rel =>
          refine ⟨k + 1, by omega, by go_num, ?_, hbw.setCell hb0 _⟩
          have := HW.out 0
          rw [partS_succ hkl, freeS_is HE.out]
          rw [HG.out] at this
          exact this
        case measure => simp [intOf]; omega
      · obtain ⟨xk, hxk⟩ : ∃ xk, l[k].2 = xk := ⟨_, rfl⟩
        rw [hxk] at hc1 he
        have he1 : (xk == t + 1) = false := by rw [HH.out]; simpa using he
        have HO : Hid (Own eS wr w.heap.size 36 (some ⟨b, 0, none⟩) d1 (partS l H (k + 1))) := by rw [partS_same hkl (by rw [hxk]; exact he)]; exact ok
        clear hown hfr ok hxk he
        go_wp2
        go_roundw
        case rel => exact ⟨k + 1, by omega, by go_num, HO.out, hbw⟩
        case measure => simp [intOf]; omega
    · obtain rfl : k = n := by omega
      rw [partS_all (by rw [HN.out]; exact Nat.le_refl _)] at ok
      go_wp2
      go_ret
      exact ⟨_, _, rfl, ok, hbw⟩
set_option maxHeartbeats 1000000 in
theorem rlow_any (p : Option Addr) (c : Nat) (l : List Sm) (w : World) (hr : Rd eS w p c l) (n : Nat) (hn : l.length = n) (hp : Option Addr) (hc : Nat) (hl : List Int) (hh : Rd eI w hp hc hl) (m : Nat) (hhn : hl.length = m) (hhm : m ≤ 1000) (t H : Int) (h0 : 0 ≤ t) (h1 : t ≤ 4611686018427387904) (hH : t + 1 = H) :
    Calls Try.prog 14 #[.slice p n c, .slice hp m hc, .int .i64 t] w fun e w' => e = .returned (.tuple #[.int .i64 ((lowS l hl H).getD 0), .bool (lowS l hl H).isSome]) ∧ w' = w := by
  have HN : Hid (l.length = n) := hn
  have HM : Hid (hl.length = m) := hhn
  have HH : Hid (t + 1 = H) := hH
  clear hH hn hhn
  go_enter Try.func14, Try.ntmps14
  go_wp2
  go_loop [8, 9, 10, 11] (fun a b i _ => ∃ (k : Nat) (A : Option Int), k ≤ m ∧ i = .int .i64 k ∧ a = .int .i64 (A.getD 0) ∧ b = .bool A.isSome ∧ lowS l (hl.take k) H = A) (fun _ _ i _ => m - (intOf i).toNat)
  case atStart => exact ⟨0, none, Nat.zero_le _, rfl, rfl, rfl, rfl⟩
  case round =>
    obtain ⟨k, A, hk, rfl, rfl, rfl, hA⟩ := hrel
    have HA : Hid (lowS l (hl.take k) H = A) := hA
    clear hA
    by_cases hlt : k < m
    · have hkl : k < hl.length := by rw [HM.out]; exact hlt
      obtain ⟨b, o, rfl, hb, hc1⟩ := hh.num k hkl
      have HS : Hid (lowS l (hl.take (k + 1)) H = lowF l H A hl[k]) := by rw [← HA.out]; exact lowS_succ l hl H k hkl
      obtain ⟨x, hx⟩ : ∃ x, hl[k] = x := ⟨_, rfl⟩
      rw [hx] at hc1 HS
      clear hx
      by_cases c1 : x < 0
      · have d1 : decide (x < 0) = true := by simpa using c1
        have HQ : Hid (lowF l H A x = A) := by simp [lowF, lookS_low c1, Hid]
        go_wp2
        go_round
        case rel => exact ⟨k + 1, A, by omega, by go_num, rfl, rfl, by rw [HS.out, HQ.out]⟩
        case measure => simp [intOf]; omega
      · have d1 : decide (x < 0) = false := by simpa using c1
        by_cases c2 : (n : Int) ≤ x
        · have d2 : decide ((n : Int) ≤ x) = true := by simpa using c2
          have HQ : Hid (lowF l H A x = A) := by
            have := lookS_high (l := l) (s := x) (by rw [HN.out]; exact c2) H
            simp [lowF, this, Hid]
          go_wp2
          go_round
          case rel => exact ⟨k + 1, A, by omega, by go_num, rfl, rfl, by rw [HS.out, HQ.out]⟩
          case measure => simp [intOf]; omega
        · obtain ⟨j, rfl⟩ : ∃ j : Nat, x = (j : Int) := ⟨x.toNat, by omega⟩
          have hj : j < n := by omega
          have d2 : decide ((n : Int) ≤ (j : Int)) = false := by simp; omega
          have d3 : decide (n ≤ j) = false := by simp; omega
          have hjl : j < l.length := by rw [HN.out]; exact hj
          obtain ⟨b0, o0, rfl, hb0, e0, e1⟩ := hr.sem j hjl
          have HL := lookS_at hjl H
          obtain ⟨y, hy⟩ : ∃ y, l[j].1 = y := ⟨_, rfl⟩
          by_cases c3 : l[j].2 = H
          · rw [if_pos c3, hy] at HL
            rw [c3, ← HH.out] at e1
            rw [hy] at e0
            clear c3 hy c1 c2
            cases A with
            | none =>
              have HQ : Hid (lowF l H none (j : Int) = some y) := by simp [lowF, HL, Hid]
              clear HL
              go_wp2
              go_round
              case rel => exact ⟨k + 1, some y, by omega, by go_num, rfl, rfl, by rw [HS.out, HQ.out]⟩
              case measure => simp [intOf]; omega
            | some a =>
              by_cases hya : y < a
              · have d4 : decide (y < a) = true := by simpa using hya
                have HQ : Hid (lowF l H (some a) (j : Int) = some y) := by simp [lowF, HL, hya, Hid]
                clear HL hya
                go_wp2
                go_round
                case rel => exact ⟨k + 1, some y, by omega, by go_num, rfl, rfl, by rw [HS.out, HQ.out]⟩
                case measure => simp [intOf]; omega
              · have d4 : decide (y < a) = false := by simpa using hya
                have HQ : Hid (lowF l H (some a) (j : Int) = some a) := by simp [lowF, HL, hya, Hid]
                clear HL hya
                go_wp2
                go_round
                case rel => exact ⟨k + 1, some a, by omega, by go_num, rfl, rfl, by rw [HS.out, HQ.out]⟩
                case measure => simp [intOf]; omega
          · rw [if_neg c3] at HL
            have HQ : Hid (lowF l H A (j : Int) = A) := by simp [lowF, HL, Hid]
            obtain ⟨xk, hxk⟩ : ∃ xk, l[j].2 = xk := ⟨_, rfl⟩
            rw [hxk] at e1 c3
            have d4 : (xk == t + 1) = false := by rw [HH.out]; simpa using c3
            clear HL hxk c3 hy c1 c2
            go_wp2
            go_round
            case rel => exact ⟨k + 1, A, by omega, by go_num, rfl, rfl, by rw [HS.out, HQ.out]⟩
            case measure => simp [intOf]; omega
    · obtain rfl : k = m := by omega
      have HF : Hid (lowS l hl H = A) := by have := HA.out; rw [← HM.out, List.take_length] at this; exact this
      go_wp2
      go_ret2
      exact ⟨by rw [HF.out]; rfl, rfl⟩
theorem same_yes (p : Option Addr) (c : Nat) (q : Option Addr) (d : Nat) (l : List Sm) (w : World) (hr : Rd eS w p c l) (hq : Rd eS w q d l) (n : Nat) (hn : l.length = n) (hm : n ≤ 1000) :
    Calls Try.prog 12 #[.slice p n c, .slice q n d] w fun e w' => e = .returned (.bool true) ∧ Below w.heap.size w w' := by
  have HN : Hid (l.length = n) := hn
  clear hn
  go_enter Try.func12, Try.ntmps12
  go_wp2
  go_loopw [5] (fun i wr => ∃ k : Nat, k ≤ n ∧ i = .int .i64 k ∧ Below w.heap.size w wr) (fun i _ => n - (intOf i).toNat)
  case atStart => exact ⟨0, Nat.zero_le _, rfl, Below.refl _ _⟩
  case round =>
    obtain ⟨k, hk, rfl, hbw⟩ := hrel
    by_cases hlt : k < n
    · have hkl : k < l.length := by rw [HN.out]; exact hlt
      obtain ⟨b, o, rfl, hb, hc1, hc2⟩ := (hr.below hbw).sem k hkl
      obtain ⟨b', o', rfl, hb', hd1, hd2⟩ := (hq.below hbw).sem k hkl
      generalize l[k].1 = xa at *
      generalize l[k].2 = xk at *
      go_wp2
      go_quiet (fail)
      go_wp2
      go_roundw
      case rel => exact ⟨k + 1, by omega, by go_num, bel_draws hbw nq⟩
      case measure => simp [intOf]; omega
    · obtain rfl : k = n := by omega
      go_wp2
      go_ret
      exact ⟨rfl, hbw⟩
end Go.Proofs.Ytfankdhkcjknaaa
