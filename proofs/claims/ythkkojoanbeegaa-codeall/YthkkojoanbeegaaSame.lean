/-
  What SameCode of the document's answer says of two rows of instructions.
-/
import Derived.Test.YthkkojoanbeegaaElts
namespace Go.Proofs.Ythkkojoanbeegaa
open Go.ChangeShapes Go.WideShapes Go.ChangeAt Go.RowKit
attribute [local go_sem ↓] Go.wp_at_zero Go.wp_at_succ

def sameB (l m : List In) : Bool := decide (l = m)
theorem same_len {l m : List In} (h : l.length ≠ m.length) : sameB l m = false := decide_eq_false (fun e => h (by rw [e]))
theorem same_at {l m : List In} (k : Nat) (h1 : k < l.length) (h2 : k < m.length) (h : l[k] ≠ m[k]) : sameB l m = false := decide_eq_false (fun e => h (by subst e; rfl))
theorem take_same {l m : List In} (k : Nat) (h1 : k < l.length) (h2 : k < m.length) (ht : l.take k = m.take k) (h : l[k] = m[k]) : l.take (k + 1) = m.take (k + 1) := by
  rw [List.take_succ_eq_append_getElem h1, List.take_succ_eq_append_getElem h2, ht, h]

set_option maxHeartbeats 1000000 in
theorem same_any (p : Option Addr) (c : Nat) (l : List In) (q : Option Addr) (d : Nat) (m : List In) (w : World) (hl : Rd eIn w p c l) (hm : Rd eIn w q d m) (N M : Nat) (hN : l.length = N) (hM : m.length = M) (hlb : N ≤ 1000) (hmb : M ≤ 1000) :
    Calls Try.prog 18 #[.slice p N c, .slice q M d] w fun e w' => e = .returned (.bool (sameB l m)) ∧ Below w.heap.size w w' := by
  have HN : Hid (l.length = N) := hN
  have HM : Hid (m.length = M) := hM
  by_cases hNM : N = M
  · subst hNM
    clear hN hM
    go_enter Try.func18, Try.ntmps18
    go_wp2
    go_loopw [5] (fun i wr => ∃ k : Nat, k ≤ N ∧ i = .int .i64 k ∧ Hid (l.take k = m.take k) ∧ Below w.heap.size w wr) (fun i _ => N - (intOf i).toNat)
    case atStart => exact ⟨0, Nat.zero_le _, rfl, rfl, Below.refl _ _⟩
    case round =>
      obtain ⟨k, hk, rfl, HT, hbw⟩ := hrel
      by_cases hlt : k < N
      · have hkl : k < l.length := by rw [HN.out]; exact hlt
        have hkm : k < m.length := by rw [HM.out]; exact hlt
        obtain ⟨b, o, rfl, hb, f0, f1, f2, f3⟩ := (hl.below hbw).inst k hkl
        obtain ⟨b', o', rfl, hb', g0, g1, g2, g3⟩ := (hm.below hbw).inst k hkm
        have HS : Hid (l[k] = m[k] → l.take (k + 1) = m.take (k + 1)) := take_same k hkl hkm HT.out
        have HD : Hid (l[k] ≠ m[k] → sameB l m = false) := same_at k hkl hkm
        generalize l[k] = x at *
        generalize m[k] = y at *
        obtain ⟨xo, xa, xb, xn⟩ := x
        obtain ⟨yo, ya, yb, yn⟩ := y
        simp only at f0 f1 f2 f3 g0 g1 g2 g3
        by_cases e0 : xo = yo
        · subst e0
          by_cases e1 : xa = ya
          · subst e1
            by_cases e2 : xb = yb
            · subst e2
              by_cases e3 : xn = yn
              · subst e3
                go_wp2
                go_quiet (fail)
                go_wp2
                go_roundw
                case rel => exact ⟨k + 1, by omega, by go_num, by first | exact HS.out rfl | exact HS.out trivial, bel_draws hbw _⟩
                case measure => simp [intOf]; omega
              · have d3 : (xn == yn) = false := by simpa using e3
                go_wp2
                go_quiet (fail)
                go_wp2
                go_ret
                exact ⟨by rw [HD.out (by simp [e3])]; rfl, bel_draws hbw _⟩
            · have d2 : (xb == yb) = false := by simpa using e2
              go_wp2
              go_quiet (fail)
              go_wp2
              go_ret
              exact ⟨by rw [HD.out (by simp [e2])]; rfl, bel_draws hbw _⟩
          · have d1 : (xa == ya) = false := by simpa using e1
            go_wp2
            go_quiet (fail)
            go_wp2
            go_ret
            exact ⟨by rw [HD.out (by simp [e1])]; rfl, bel_draws hbw _⟩
        · have d0 : (xo == yo) = false := by simpa using e0
          go_wp2
          go_quiet (fail)
          go_wp2
          go_ret
          exact ⟨by rw [HD.out (by simp [e0])]; rfl, bel_draws hbw _⟩
      · obtain rfl : k = N := by omega
        have HE : Hid (sameB l m = true) := by
          show _ = _
          have h := HT.out
          rw [List.take_of_length_le (by rw [HN.out]; omega), List.take_of_length_le (by rw [HM.out]; omega)] at h
          exact decide_eq_true h
        go_wp2
        go_ret
        exact ⟨by rw [HE.out]; rfl, hbw⟩
  · have d : ((N : Int) == (M : Int)) = false := by simp; omega
    rw [same_len (by rw [hN, hM]; exact hNM)]
    go_enter Try.func18, Try.ntmps18
    go_wp2
    go_ret
    exact ⟨rfl, Below.refl _ _⟩
end Go.Proofs.Ythkkojoanbeegaa
