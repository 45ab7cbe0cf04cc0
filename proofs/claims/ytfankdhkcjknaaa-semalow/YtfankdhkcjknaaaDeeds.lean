/-
  What Take, Let, All and Low of package sema hand back, each by its own Go text.
-/
import Derived.Test.YtfankdhkcjknaaaLow
namespace Go.Proofs.Ytfankdhkcjknaaa
open Go.ChangeShapes Go.WideShapes Go.ChangeAt Go.RowKit
attribute [local go_sem ↓] Go.wp_at_zero Go.wp_at_succ

theorem ret_told {p : Option Addr} {n c : Nat} {a b : Bool} (h : a = b) : Ending.returned (.tuple #[.slice p n c, .bool a]) = .returned (.tuple #[.slice p n c, .bool b]) := by rw [h]
theorem take_any (p : Option Addr) (c : Nat) (l : List Sm) (w : World) (hr : Rd eS w p c l) (n : Nat) (hn : l.length = n) (hm : n ≤ 1000) (s t H : Int) (h0 : 0 ≤ t) (h1 : t ≤ 4611686018427387904) (hH : t + 1 = H) :
    Calls Try.prog 8 #[.slice p n c, .int .i64 s, .int .i64 t] w fun e w' => ∃ (q : Option Addr) (d : Nat), e = .returned (.tuple #[.slice q n d, .bool (takeB l s)]) ∧ Own eS w' w.heap.size 36 q d (takeS l s H) ∧ Below w.heap.size w w' := by
  have HN : Hid (l.length = n) := hn
  have HH : Hid (t + 1 = H) := hH
  clear hH
  have HL : Hid (lookE (ents 0 l) s 0 = lookS l s 0) := look_all l s 0
  cases hq : lookS l s 0 with
  | none =>
    have HB : Hid (takeB l s = false) := by simp [takeB, hq, Hid]
    have HS : Hid (takeS l s H = l) := by simp [takeS, HB.out, Hid]
    clear hn
    go_enter Try.func8, Try.ntmps8
    go_wp2_with (first
      | (go_at_call 17; refine (ceils_any _ _ _ _ hr n HN.out hm).mono ?_; rintro e w1 ⟨m, rfl, hmp, b1⟩)
      | (at_lookup; refine wpList_look _ rfl _ _ rfl m _ rfl hmp s 0 rfl 0 false (by rw [HL.out, hq]; rfl) (by rw [HL.out, hq]; rfl) ?_)
      | (go_at_call 19; refine (clone_any _ _ _ _ _ (hr.below b1) HN.out hm).mono ?_; rintro e w2 ⟨q2, d2, rfl, o2, b2⟩))
    go_ret2
    exact ⟨q2, d2, by rw [HB.out]; rfl, by rw [HS.out]; exact own_mono o2 b1.size, bel_call b1 (Nat.le_refl _) b2⟩
  | some y =>
    obtain ⟨k, hk, hs, -, -⟩ := lookS_some hq
    have HB : Hid (takeB l s = true) := by simp [takeB, hq, Hid]
    have HS : Hid (takeS l s H = putS l s H) := by simp [takeS, HB.out, Hid]
    have HK : Hid (s = (k : Int)) := hs
    clear hs
    rw [hn] at hk
    clear hn
    go_enter Try.func8, Try.ntmps8
    go_wp2_with (first
      | (go_at_call 17; refine (ceils_any _ _ _ _ hr n HN.out hm).mono ?_; rintro e w1 ⟨m, rfl, hmp, b1⟩)
      | (at_lookup; refine wpList_look _ rfl _ _ rfl m _ rfl hmp s 0 rfl y true (by rw [HL.out, hq]; rfl) (by rw [HL.out, hq]; rfl) ?_)
      | (go_at_call 18; refine (may_yes t h0 _).mono ?_; rintro e w2 ⟨rfl, rfl⟩)
      | (go_at_call 21; refine (holder_any t H h0 h1 HH.out _).mono ?_; rintro e w2 ⟨rfl, rfl⟩)
      | (go_at_call 20; refine (given_any _ _ _ _ (hr.below b1) n HN.out hm s k hk HK.out H).mono ?_; rintro e w2 ⟨q2, d2, rfl, o2, b2⟩))
    go_ret2
    exact ⟨q2, d2, by rw [HB.out]; rfl, by rw [HS.out]; exact own_mono o2 b1.size, bel_call b1 (Nat.le_refl _) b2⟩
theorem let_any (p : Option Addr) (c : Nat) (l : List Sm) (w : World) (hr : Rd eS w p c l) (n : Nat) (hn : l.length = n) (hm : n ≤ 1000) (s t H : Int) (h0 : 0 ≤ t) (h1 : t ≤ 4611686018427387904) (hH : t + 1 = H) :
    Calls Try.prog 10 #[.slice p n c, .int .i64 s, .int .i64 t] w fun e w' => ∃ (q : Option Addr) (d : Nat), e = .returned (.tuple #[.slice q n d, .bool (letB l s H)]) ∧ Own eS w' w.heap.size 36 q d (letS l s H) ∧ Below w.heap.size w w' := by
  have HN : Hid (l.length = n) := hn
  have HH : Hid (t + 1 = H) := hH
  clear hH
  have HL : Hid (lookE (ents 0 l) s H = lookS l s H) := look_all l s H
  cases hq : lookS l s H with
  | none =>
    have HB : Hid (letB l s H = false) := by simp [letB, hq, Hid]
    have HS : Hid (letS l s H = l) := by simp [letS, HB.out, Hid]
    clear hn
    go_enter Try.func10, Try.ntmps10
    go_wp2_with (first
      | (go_at_call 17; refine (ceils_any _ _ _ _ hr n HN.out hm).mono ?_; rintro e w1 ⟨m, rfl, hmp, b1⟩)
      | (go_at_call 21; refine (holder_any t H h0 h1 HH.out _).mono ?_; rintro e w2 ⟨rfl, rfl⟩)
      | (at_lookup; refine wpList_look _ rfl _ _ rfl m _ rfl hmp s H rfl 0 false (by rw [HL.out, hq]; rfl) (by rw [HL.out, hq]; rfl) ?_)
      | (go_at_call 19; refine (clone_any _ _ _ _ _ (hr.below b1) HN.out hm).mono ?_; rintro e w2 ⟨q2, d2, rfl, o2, b2⟩))
    go_ret2
    exact ⟨q2, d2, by rw [HB.out]; rfl, by rw [HS.out]; exact own_mono o2 b1.size, bel_call b1 (Nat.le_refl _) b2⟩
  | some y =>
    obtain ⟨k, hk, hs, -, -⟩ := lookS_some hq
    have HB : Hid (letB l s H = true) := by simp [letB, hq, Hid]
    have HS : Hid (letS l s H = putS l s 0) := by simp [letS, HB.out, Hid]
    have HK : Hid (s = (k : Int)) := hs
    clear hs
    rw [hn] at hk
    clear hn
    go_enter Try.func10, Try.ntmps10
    go_wp2_with (first
      | (go_at_call 17; refine (ceils_any _ _ _ _ hr n HN.out hm).mono ?_; rintro e w1 ⟨m, rfl, hmp, b1⟩)
      | (at_lookup; refine wpList_look _ rfl _ _ rfl m _ rfl hmp s H rfl y true (by rw [HL.out, hq]; rfl) (by rw [HL.out, hq]; rfl) ?_)
      | (go_at_call 18; refine (may_yes t h0 _).mono ?_; rintro e w2 ⟨rfl, rfl⟩)
      | (go_at_call 21; refine (holder_any t H h0 h1 HH.out _).mono ?_; rintro e w2 ⟨rfl, rfl⟩)
      | (go_at_call 20; refine (given_any _ _ _ _ (hr.below b1) n HN.out hm s k hk HK.out 0).mono ?_; rintro e w2 ⟨q2, d2, rfl, o2, b2⟩))
    go_ret2
    exact ⟨q2, d2, by rw [HB.out]; rfl, by rw [HS.out]; exact own_mono o2 b1.size, bel_call b1 (Nat.le_refl _) b2⟩

theorem own_heapEq {α : Type} {E : Elt α} {w w' : World} {base : Nat} {e : TypeId} {p : Option Addr} {c : Nat} {l : List α} (h : Own E w base e p c l) (hh : w'.heap = w.heap) : Own E w' base e p c l :=
  ⟨h.1, h.2.imp id fun ⟨g, cap, cur, h1, h2, h3, r⟩ => ⟨g, cap, cur, h1, h2, by rw [hh]; exact h3, r⟩⟩
theorem freeS_is {x : Sm} {h : Int} (e : x.2 = h) : freeS h x = (x.1, 0) := by simp [freeS, e]
theorem all_any (p : Option Addr) (c : Nat) (l : List Sm) (w : World) (hr : Rd eS w p c l) (n : Nat) (hn : l.length = n) (hm : n ≤ 1000) (t H : Int) (h0 : 0 ≤ t) (h1 : t ≤ 4611686018427387904) (hH : t + 1 = H) :
    Calls Try.prog 15 #[.slice p n c, .int .i64 t] w fun e w' => ∃ (q : Option Addr) (d : Nat), e = .returned (.slice q n d) ∧ Own eS w' w.heap.size 36 q d (allS l H) ∧ Below w.heap.size w w' := by
  have HN : Hid (l.length = n) := hn
  have HH : Hid (t + 1 = H) := hH
  clear hH hn
  go_enter Try.func15, Try.ntmps15
  go_wp2_with (go_at_call 19; refine (clone_any _ _ _ _ _ hr HN.out hm).mono ?_; rintro e w1 ⟨q1, d1, rfl, o1, b1⟩)
  go_loopw [6, 11] (fun _ i wr => ∃ k : Nat, k ≤ n ∧ i = .int .i64 k ∧ Own eS wr w.heap.size 36 q1 d1 (partS l H k) ∧ Below w.heap.size w wr) (fun _ i _ => n - (intOf i).toNat)
  case atStart => exact ⟨0, Nat.zero_le _, rfl, by rw [partS_zero]; exact o1, b1⟩
  case round =>
    obtain ⟨k, hk, rfl, ok, hbw⟩ := hrel
    clear o1 b1
    by_cases hlt : k < n
    · have hkl : k < l.length := by rw [HN.out]; exact hlt
      have hkp : k < (partS l H k).length := by rw [partS_length (by omega)]; exact hkl
      obtain ⟨b, rfl, hb0, hb1, hfr, ⟨hc0, hc1⟩, hown⟩ := own_hold ok k hkp
      have HG : Hid ((partS l H k)[k]'hkp = l[k]) := partS_get hkl
      rw [HG.out] at hc0 hc1
      by_cases he : l[k].2 = H
      · rw [he] at hc1
        have z1 := hfr (0 + k * 2 + 1)
        have z2 := hfr (k * 2 + 1)
        have HW : Hid (∀ v, Own eS (wr.setCell ⟨b, k * 2 + 1, none⟩ (.int .i64 v)) w.heap.size 36 (some ⟨b, 0, none⟩) d1 ((partS l H k).set k (((partS l H k)[k]'hkp).1, v))) := hown
        have HE : Hid (l[k].2 = H) := he
        clear hown hfr ok he
        go_wp2
        go_quiet (first | (go_at_call 18; refine Calls.quiet_of_same (may_yes t h0 _)) | (go_at_call 21; refine Calls.quiet_of_same (holder_any t H h0 h1 HH.out _)))
        go_wp2
        go_roundw
        case rel =>
          refine ⟨k + 1, by omega, by go_num, ?_, (bel_draws hbw nq).setCell hb0 _⟩
          have := HW.out 0
          rw [partS_succ hkl, freeS_is HE.out]
          rw [HG.out] at this
          exact own_heapEq this rfl
        case measure => simp [intOf]; omega
      · obtain ⟨xk, hxk⟩ : ∃ xk, l[k].2 = xk := ⟨_, rfl⟩
        rw [hxk] at hc1 he
        have he1 : (xk == H) = false := by simpa using he
        have HO : Hid (Own eS wr w.heap.size 36 (some ⟨b, 0, none⟩) d1 (partS l H (k + 1))) := by rw [partS_same hkl (by rw [hxk]; exact he)]; exact ok
        clear hown hfr ok hxk he
        go_wp2
        go_quiet (first | (go_at_call 18; refine Calls.quiet_of_same (may_yes t h0 _)) | (go_at_call 21; refine Calls.quiet_of_same (holder_any t H h0 h1 HH.out _)))
        go_wp2
        go_roundw
        case rel => exact ⟨k + 1, by omega, by go_num, own_heapEq HO.out rfl, bel_draws hbw nq⟩
        case measure => simp [intOf]; omega
    · obtain rfl : k = n := by omega
      rw [partS_all (by rw [HN.out]; exact Nat.le_refl _)] at ok
      go_wp2
      go_ret
      exact ⟨_, _, rfl, ok, hbw⟩
set_option maxHeartbeats 1000000 in
theorem low_any (p : Option Addr) (c : Nat) (l : List Sm) (w : World) (hr : Rd eS w p c l) (n : Nat) (hn : l.length = n) (hm : n ≤ 1000) (hp : Option Addr) (hc : Nat) (hl : List Int) (hh : Rd eI w hp hc hl) (m : Nat) (hhn : hl.length = m) (hhm : m ≤ 1000) (t H : Int) (h0 : 0 ≤ t) (h1 : t ≤ 4611686018427387904) (hH : t + 1 = H) :
    Calls Try.prog 13 #[.slice p n c, .slice hp m hc, .int .i64 t] w fun e w' => e = .returned (.tuple #[.int .i64 ((lowS l hl H).getD 0), .bool (lowS l hl H).isSome]) ∧ Below w.heap.size w w' := by
  have HN : Hid (l.length = n) := hn
  have HM : Hid (hl.length = m) := hhn
  have HH : Hid (t + 1 = H) := hH
  clear hH hn hhn
  go_enter Try.func13, Try.ntmps13
  go_wp2_with (go_at_call 17; refine (ceils_any _ _ _ _ hr n HN.out hm).mono ?_; rintro e w1 ⟨g, rfl, hmp, b1⟩)
  go_loop [8, 9, 12, 13, 14, 19] (fun a b _ _ _ i => ∃ (k : Nat) (A : Option Int), k ≤ m ∧ i = .int .i64 k ∧ a = .int .i64 (A.getD 0) ∧ b = .bool A.isSome ∧ lowS l (hl.take k) H = A) (fun _ _ _ _ _ i => m - (intOf i).toNat)
  case atStart => exact ⟨0, none, Nat.zero_le _, rfl, rfl, rfl, rfl⟩
  case round =>
    obtain ⟨k, A, hk, rfl, rfl, rfl, hA⟩ := hrel
    have HA : Hid (lowS l (hl.take k) H = A) := hA
    clear hA
    by_cases hlt : k < m
    · have hkl : k < hl.length := by rw [HM.out]; exact hlt
      obtain ⟨b, o, rfl, hb, hc1⟩ := (hh.below b1).num k hkl
      have HS : Hid (lowS l (hl.take (k + 1)) H = lowF l H A hl[k]) := by rw [← HA.out]; exact lowS_succ l hl H k hkl
      have HL : Hid (lookE (ents 0 l) hl[k] H = lookS l hl[k] H) := look_all l _ H
      obtain ⟨x, hx⟩ : ∃ x, hl[k] = x := ⟨_, rfl⟩
      rw [hx] at hc1 HS HL
      clear hx
      cases hq : lookS l x H with
      | none =>
        have HQ : Hid (lowF l H A x = A) := by simp [lowF, hq, Hid]
        go_wp2_with (first
          | (go_at_call 21; refine (holder_any t H h0 h1 HH.out _).mono ?_; rintro e w2 ⟨rfl, rfl⟩)
          | (at_lookup; refine wpList_look _ rfl _ _ rfl g _ rfl hmp x H rfl 0 false (by rw [HL.out, hq]; rfl) (by rw [HL.out, hq]; rfl) ?_))
        go_round
        case rel => exact ⟨k + 1, A, by omega, by go_num, rfl, rfl, by rw [HS.out, HQ.out]⟩
        case measure => simp [intOf]; omega
      | some y =>
        cases A with
        | none =>
          have HQ : Hid (lowF l H none x = some y) := by simp [lowF, hq, Hid]
          go_wp2_with (first
            | (go_at_call 18; refine (may_yes t h0 _).mono ?_; rintro e w2 ⟨rfl, rfl⟩)
            | (go_at_call 21; refine (holder_any t H h0 h1 HH.out _).mono ?_; rintro e w2 ⟨rfl, rfl⟩)
            | (at_lookup; refine wpList_look _ rfl _ _ rfl g _ rfl hmp x H rfl y true (by rw [HL.out, hq]; rfl) (by rw [HL.out, hq]; rfl) ?_))
          go_round
          case rel => exact ⟨k + 1, some y, by omega, by go_num, rfl, rfl, by rw [HS.out, HQ.out]⟩
          case measure => simp [intOf]; omega
        | some a =>
          by_cases hya : y < a
          · have d1 : decide (y < a) = true := by simpa using hya
            have HQ : Hid (lowF l H (some a) x = some y) := by simp [lowF, hq, hya, Hid]
            go_wp2_with (first
              | (go_at_call 18; refine (may_yes t h0 _).mono ?_; rintro e w2 ⟨rfl, rfl⟩)
              | (go_at_call 21; refine (holder_any t H h0 h1 HH.out _).mono ?_; rintro e w2 ⟨rfl, rfl⟩)
              | (at_lookup; refine wpList_look _ rfl _ _ rfl g _ rfl hmp x H rfl y true (by rw [HL.out, hq]; rfl) (by rw [HL.out, hq]; rfl) ?_))
            go_round
            case rel => exact ⟨k + 1, some y, by omega, by go_num, rfl, rfl, by rw [HS.out, HQ.out]⟩
            case measure => simp [intOf]; omega
          · have d1 : decide (y < a) = false := by simpa using hya
            have HQ : Hid (lowF l H (some a) x = some a) := by simp [lowF, hq, hya, Hid]
            go_wp2_with (first
              | (go_at_call 18; refine (may_yes t h0 _).mono ?_; rintro e w2 ⟨rfl, rfl⟩)
              | (go_at_call 21; refine (holder_any t H h0 h1 HH.out _).mono ?_; rintro e w2 ⟨rfl, rfl⟩)
              | (at_lookup; refine wpList_look _ rfl _ _ rfl g _ rfl hmp x H rfl y true (by rw [HL.out, hq]; rfl) (by rw [HL.out, hq]; rfl) ?_))
            go_round
            case rel => exact ⟨k + 1, some a, by omega, by go_num, rfl, rfl, by rw [HS.out, HQ.out]⟩
            case measure => simp [intOf]; omega
    · obtain rfl : k = m := by omega
      have HF : Hid (lowS l hl H = A) := by have := HA.out; rw [← HM.out, List.take_length] at this; exact this
      go_wp2
      go_ret2
      exact ⟨by rw [HF.out]; rfl, b1⟩
end Go.Proofs.Ytfankdhkcjknaaa
