/-
  Small functions of package task: within a range, is there a program, has it a Lock.
-/
import Derived.Test.YtonholadabebbaaCofs
import Derived.Deep.QuietTactic
namespace Go.Proofs.Ytonholadabebbaa
open Go.ChangeShapes Go.WideShapes Go.ChangeAt Go.RowKit
attribute [local go_sem ↓] Go.wp_at_zero Go.wp_at_succ

theorem within_any (v lo hi : Int) (w : World) (B : Bool) (hB : decide (lo ≤ v ∧ v ≤ hi) = B) (h0 : -9223372036854775808 ≤ v) (h1 : v ≤ 9223372036854775807) (hl : 0 ≤ lo) (hh : hi ≤ 1000000) (hlh : lo ≤ hi) :
    Calls Try.prog 27 #[.int .i64 v, .int .i64 lo, .int .i64 hi] w fun e w' => e = .returned (.bool B) ∧ w' = w := by
  have hv : decide (IntKind.u64.wrap (IntKind.u64.wrap v - lo) ≤ hi - lo) = B := by
    rw [← hB, decide_eq_decide]
    have e1 : ∀ x : Int, IntKind.u64.wrap x = x % 18446744073709551616 := fun x => rfl
    rw [e1, e1]
    omega
  have HV : Hid (decide (IntKind.u64.wrap (IntKind.u64.wrap v - lo) ≤ hi - lo) = B) := hv
  clear hB hv
  go_enter Try.func27, Try.ntmps27
  go_wp2
  go_ret
  exact ⟨by rw [← HV.out]; rfl, rfl⟩
theorem isthere_any (p : Option Addr) (n c : Nat) (w : World) (B : Bool) (hB : decide (0 < n) = B) :
    Calls Try.prog 20 #[.slice p n c] w fun e w' => e = .returned (.bool B) ∧ w' = w := by
  go_enter Try.func20, Try.ntmps20
  go_wp2
  go_ret
  exact ⟨by rw [← hB]; rfl, rfl⟩
/-- has it a Lock? -/
def lkB (l : List In) : Bool := l.any fun i => i.1 == 9
theorem bel_self (w : World) (o : Obj) : Below w.heap.size w (w.alloc o) := (Below.refl _ _).alloc (Nat.le_refl _) _
theorem islock_any (a b c d : Int) (w : World) : Calls Try.prog 44 #[.agg #[.int .i64 a, .int .i64 b, .int .i64 c, .int .i64 d]] w fun e w' => e = .returned (.bool (a == 9)) ∧ Below w.heap.size w w' := by
  have s1 := bel_self w (.cells #[.int .i64 a, .int .i64 b, .int .i64 c, .int .i64 d] 42)
  go_enter Try.func44, Try.ntmps44
  go_wp2
  go_ret
  exact ⟨rfl, s1⟩
theorem lk_yes {l : List In} {k : Nat} (hk : k < l.length) (h : l[k].1 = 9) : lkB l = true := List.any_eq_true.2 ⟨_, List.getElem_mem hk, by simpa using h⟩
theorem lk_no {l : List In} (h : ∀ j, (hj : j < l.length) → ¬ l[j].1 = 9) : lkB l = false := by
  unfold lkB
  rw [List.any_eq_false]
  intro x hx
  obtain ⟨i, hi, rfl⟩ := List.mem_iff_getElem.1 hx
  simpa using h i hi
set_option maxHeartbeats 1000000 in
theorem lockix_any (p : Option Addr) (c : Nat) (l : List In) (w : World) (hr : Rd eIn w p c l) (n : Nat) (hN : l.length = n) (hn : n ≤ 1000) :
    Calls Try.prog 58 #[.slice p n c, .func (.func 44) #[] #[]] w fun e w' => (∃ v : Int, e = .returned (.int .i64 v) ∧ decide (0 ≤ v) = lkB l) ∧ Below w.heap.size w w' := by
  have HN : Hid (l.length = n) := hN
  clear hN
  go_enter Try.func58, Try.ntmps58
  go_wp2
  go_loopw [8] (fun i wr => ∃ k : Nat, k ≤ n ∧ i = .int .i64 k ∧ Hid (∀ j, (hj : j < l.length) → j < k → ¬ l[j].1 = 9) ∧ Below w.heap.size w wr) (fun i _ => n - (intOf i).toNat)
  case atStart => exact ⟨0, Nat.zero_le _, rfl, fun j _ hj => by omega, Below.refl _ _⟩
  case round =>
    obtain ⟨k, hk, rfl, HT, hbw⟩ := hrel
    by_cases hlt : k < n
    · have hkl : k < l.length := by rw [HN.out]; exact hlt
      obtain ⟨b, f, rfl, hb, f0, f1, f2, f3⟩ := (hr.below hbw).inst k hkl
      by_cases hs : l[k].1 = 9
      · have HF : Hid (lkB l = true) := lk_yes hkl hs
        have hx : (l[k].1 == 9) = true := by simpa using hs
        clear hs
        generalize l[k] = x at *
        go_wp2_with (go_at_call 44; refine (islock_any x.1 x.2.1 x.2.2.1 x.2.2.2 _).mono ?_; rintro e w4 ⟨rfl, hb4⟩)
        go_ret
        exact ⟨⟨k, rfl, by rw [HF.out]; simp⟩, bel_call hbw (Nat.le_refl _) hb4⟩
      · have hx : (l[k].1 == 9) = false := by simpa using hs
        have HK : Hid (∀ j, (hj : j < l.length) → j < k + 1 → ¬ l[j].1 = 9) := fun j hj hlt => (if e : j = k then by subst e; exact hs else HT.out j hj (by omega))
        clear hs
        generalize l[k] = x at *
        go_wp2_with (go_at_call 44; refine (islock_any x.1 x.2.1 x.2.2.1 x.2.2.2 _).mono ?_; rintro e w4 ⟨rfl, hb4⟩)
        go_roundw
        case rel => exact ⟨k + 1, by omega, by go_num, HK, bel_call hbw (Nat.le_refl _) hb4⟩
        case measure => simp [intOf]; omega
    · have HF : Hid (lkB l = false) := lk_no (fun j hj => HT.out j hj (by rw [HN.out] at hj; omega))
      go_wp2
      go_ret
      exact ⟨⟨-1, rfl, by rw [HF.out]; decide⟩, hbw⟩
theorem locks_any (p : Option Addr) (c : Nat) (l : List In) (w : World) (hr : Rd eIn w p c l) (n : Nat) (hN : l.length = n) (hn : n ≤ 1000) (B : Bool) (hB : lkB l = B) :
    Calls Try.prog 43 #[.slice p n c, .func (.func 44) #[] #[]] w fun e w' => e = .returned (.bool B) ∧ Below w.heap.size w w' := by
  have hx := lockix_any p c l w hr n hN hn
  clear hN
  go_enter Try.func43, Try.ntmps43
  go_wp2_with (go_at_call 58; refine hx.mono ?_; rintro e w4 ⟨⟨v, rfl, hv⟩, hb4⟩)
  go_ret
  exact ⟨by rw [← hB, ← hv]; rfl, hb4⟩
/-- .. by the document -/
theorem rlocks_any (p : Option Addr) (c : Nat) (l : List In) (w : World) (hr : Rd eIn w p c l) (n : Nat) (hN : l.length = n) (hn : n ≤ 1000) (B : Bool) (hB : lkB l = B) :
    Calls Try.prog 23 #[.slice p n c] w fun e w' => e = .returned (.bool B) ∧ w' = w := by
  have HN : Hid (l.length = n) := hN
  have HB : Hid (lkB l = B) := hB
  clear hN hB
  go_enter Try.func23, Try.ntmps23
  go_wp2
  go_loopw [3] (fun i wr => ∃ k : Nat, k ≤ n ∧ i = .int .i64 k ∧ Hid (∀ j, (hj : j < l.length) → j < k → ¬ l[j].1 = 9) ∧ wr = w) (fun i _ => n - (intOf i).toNat)
  case atStart => exact ⟨0, Nat.zero_le _, rfl, fun j _ hj => by omega, rfl⟩
  case round =>
    obtain ⟨k, hk, rfl, HT, rfl⟩ := hrel
    by_cases hlt : k < n
    · have hkl : k < l.length := by rw [HN.out]; exact hlt
      obtain ⟨b, f, rfl, hb, f0, f1, f2, f3⟩ := hr.inst k hkl
      by_cases hs : l[k].1 = 9
      · have HF : Hid (lkB l = true) := lk_yes hkl hs
        have hx : (l[k].1 == 9) = true := by simpa using hs
        clear hs
        generalize l[k] = x at *
        go_wp2
        go_ret
        exact ⟨by rw [← HB.out, HF.out]; rfl, rfl⟩
      · have hx : (l[k].1 == 9) = false := by simpa using hs
        have HK : Hid (∀ j, (hj : j < l.length) → j < k + 1 → ¬ l[j].1 = 9) := fun j hj hlt => (if e : j = k then by subst e; exact hs else HT.out j hj (by omega))
        clear hs
        generalize l[k] = x at *
        go_wp2
        go_roundw
        case rel => exact ⟨k + 1, by omega, by go_num, HK, trivial⟩
        case measure => simp [intOf]; omega
    · have HF : Hid (lkB l = false) := lk_no (fun j hj => HT.out j hj (by rw [HN.out] at hj; omega))
      go_wp2
      go_ret
      exact ⟨by rw [← HB.out, HF.out]; rfl, rfl⟩
/-- may an optional part be? -/
def optB (l : List In) : Bool := l.length == 0 || (okB l && !lkB l)
theorem mayopt_any (p : Option Addr) (c : Nat) (l : List In) (w : World) (hr : Rd eIn w p c l) (n : Nat) (hN : l.length = n) (hn : n ≤ 1000) (B : Bool) (hB : optB l = B) :
    Calls Try.prog 30 #[.slice p n c] w fun e w' => e = .returned (.bool B) ∧ Below w.heap.size w w' := by
  have h1 := isthere_any p n c w (decide (0 < n)) rfl
  unfold optB at hB
  rw [hN] at hB
  by_cases h0 : n = 0
  · subst h0
    have hB2 : B = true := by rw [← hB]; rfl
    subst hB2
    clear hB hN
    go_enter Try.func30, Try.ntmps30
    go_wp2_with (go_at_call 20; refine (isthere_any p 0 c _ false rfl).mono ?_; rintro e w4 ⟨rfl, rfl⟩)
    go_ret
    exact ⟨rfl, Below.refl _ _⟩
  · have hne : (n == 0) = false := by simpa using h0
    rw [hne, Bool.false_or] at hB
    have hd : decide (0 < n) = true := by simp; omega
    cases hk : okB l with
    | false =>
      have hB2 : B = false := by rw [← hB, hk]; rfl
      subst hB2
      have hs := fun w' (hb : Below w.heap.size w w') => shape_c p c l w' n false hN hk (hr.below hb) hn
      clear hB hN hk h1 hne
      go_enter Try.func30, Try.ntmps30
      go_wp2_with (first
        | (go_at_call 20; refine (isthere_any p n c _ true hd).mono ?_; rintro e w4 ⟨rfl, rfl⟩)
        | (go_at_call 38; refine (hs _ (Below.refl _ _)).mono ?_; rintro e w5 ⟨rfl, b5⟩))
      go_ret
      exact ⟨rfl, b5⟩
    | true =>
      have hB2 : (!lkB l) = B := by rw [← hB, hk]; rfl
      have hs := fun w' (hb : Below w.heap.size w w') => shape_c p c l w' n true hN hk (hr.below hb) hn
      have hx := fun w' (hb : Below w.heap.size w w') => locks_any p c l w' (hr.below hb) n hN hn (lkB l) rfl
      have HB : Hid ((!lkB l) = B) := hB2
      generalize lkB l = LK at *
      clear hB hB2 hN hk h1 hne
      go_enter Try.func30, Try.ntmps30
      go_wp2_with (first
        | (go_at_call 43; refine (hx _ b5).mono ?_; rintro e w6 ⟨rfl, b6⟩)
        | (go_at_call 20; refine (isthere_any p n c _ true hd).mono ?_; rintro e w4 ⟨rfl, rfl⟩)
        | (go_at_call 38; refine (hs _ (Below.refl _ _)).mono ?_; rintro e w5 ⟨rfl, b5⟩))
      go_ret
      exact ⟨by rw [← HB.out]; rfl, bel_call b5 (Nat.le_refl _) b6⟩
end Go.Proofs.Ytonholadabebbaa
