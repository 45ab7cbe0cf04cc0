/-
  Whether one that is held is of that semaphore.
-/
import Derived.Test.YteikdocpncdheaaSite
namespace Go.Proofs.Yteikdocpncdheaa
open Go.ChangeShapes Go.WideShapes Go.ChangeAt Go.RowKit
attribute [local go_sem ↓] Go.wp_at_zero Go.wp_at_succ

def sameA (l : List In) (a k : Nat) : Bool := (gt l k).2.1 == (gt l a).2.1
set_option maxHeartbeats 1000000 in
set_option maxRecDepth 20000 in
theorem same43 (p : Option Addr) (c : Nat) (l : List In) (w : World) (hr : Rd eIn w p c l) (n : Nat) (hN : l.length = n) (_hn : n ≤ 24) (a k : Nat) (ha : a < n) (hk : k < n) (r s : Nat) (h0 : w.cell? ⟨r, 0, none⟩ = some (.slice p n c)) (h1 : w.cell? ⟨s, 0, none⟩ = some (.int .i64 a)) :
    Calls Try.prog 55 #[.int .i64 k, .pointer (some ⟨r, 0, none⟩), .pointer (some ⟨s, 0, none⟩)] w fun e w' => e = .returned (.bool (sameA l a k)) ∧ Below w.heap.size w w' := by
  obtain ⟨b, o, rfl, hb, f0, f1, f2, f3⟩ := hr.inst a (by omega)
  obtain ⟨b', o', e, hb', g0, g1, g2, g3⟩ := hr.inst k (by omega)
  cases e
  have HS : Hid (sameA l a k = (l[k].2.1 == l[a].2.1)) := by show _ = _; unfold sameA; rw [gt_eq (by omega), gt_eq (by omega)]
  rw [HS.out]
  generalize l[k].2.1 = y at *
  generalize l[a].2.1 = x at *
  clear f0 f2 f3 g0 g2 g3 HS hN
  have z0 : (0 : Int) ≤ (k : Int) := by omega
  have z1 : (k : Int) < (n : Int) := by omega
  have z2 : (0 : Int) ≤ (a : Int) := by omega
  have z3 : (a : Int) < (n : Int) := by omega
  go_enter Try.func55, Try.ntmps55
  go_wp2
  go_quiet (fail)
  go_wp2
  go_ret
  exact ⟨rfl, bel_draws (Below.refl _ _) _⟩

theorem any_no {o : List Nat} {f : Nat → Bool} (h : ∀ j, (hj : j < o.length) → f o[j] = false) : o.any f = false := by
  rw [List.any_eq_false]
  intro x hx
  obtain ⟨i, hi, rfl⟩ := List.mem_iff_getElem.1 hx
  rw [h i hi]
  simp
theorem any_yes {o : List Nat} {f : Nat → Bool} {j : Nat} (hj : j < o.length) (h : f o[j] = true) : o.any f = true := List.any_eq_true.2 ⟨_, List.getElem_mem hj, h⟩
def oI (o : List Nat) : List Int := o.map fun k : Nat => (k : Int)
theorem oI_len (o : List Nat) : (oI o).length = o.length := by simp [oI]

set_option maxHeartbeats 2000000 in
set_option maxRecDepth 20000 in
theorem index_any (p : Option Addr) (c : Nat) (l : List In) (w : World) (hr : Rd eIn w p c l) (n : Nat) (hN : l.length = n) (hn : n ≤ 24) (a : Nat) (ha : a < n) (r s : Nat) (h0 : w.cell? ⟨r, 0, none⟩ = some (.slice p n c)) (h1 : w.cell? ⟨s, 0, none⟩ = some (.int .i64 a))
    (q : Option Addr) (d : Nat) (o : List Nat) (hq : Rd eI w q d (oI o)) (m : Nat) (hM : o.length = m) (hm : m ≤ 2) (ho : ∀ k ∈ o, k < n) :
    Calls Try.prog 63 #[.slice q m d, .func (.func 55) #[] #[.pointer (some ⟨r, 0, none⟩), .pointer (some ⟨s, 0, none⟩)]] w fun e w' => (∃ v : Int, e = .returned (.int .i64 v) ∧ decide (0 ≤ v) = o.any (sameA l a)) ∧ Below w.heap.size w w' := by
  have HM : Hid (o.length = m) := hM
  clear hM
  have hsm := fun (w' : World) (hb : Below w.heap.size w w') (k : Nat) (hk : k < n) => same43 p c l w' (hr.below hb) n hN hn a k ha hk r s ((hb.cell (p := ⟨r, 0, none⟩) (lt_of_cell h0)).trans h0) ((hb.cell (p := ⟨s, 0, none⟩) (lt_of_cell h1)).trans h1)
  clear hN hr h0 h1
  go_enter Try.func63, Try.ntmps63
  go_wp2
  go_loopw [8] (fun i wr => ∃ k : Nat, k ≤ m ∧ i = .int .i64 k ∧ Hid (∀ j, (hj : j < o.length) → j < k → sameA l a o[j] = false) ∧ Below w.heap.size w wr) (fun i _ => m - (intOf i).toNat)
  case atStart => exact ⟨0, Nat.zero_le _, rfl, fun j _ hj => by omega, Below.refl _ _⟩
  case round =>
    obtain ⟨k, hk, rfl, HT, hbw⟩ := hrel
    by_cases hlt : k < m
    · have hkl : k < o.length := by rw [HM.out]; exact hlt
      obtain ⟨b, f, rfl, hb, f0⟩ := (hq.below hbw).num k (by rw [oI_len]; exact hkl)
      have hx : (oI o)[k]'(by rw [oI_len]; exact hkl) = (o[k] : Int) := by simp [oI]
      rw [hx] at f0
      have hkn := ho o[k] (List.getElem_mem hkl)
      have hc := hsm wr hbw o[k] hkn
      clear hx
      by_cases hs : sameA l a o[k] = true
      · have HF : Hid (o.any (sameA l a) = true) := any_yes hkl hs
        rw [hs] at hc
        generalize o[k] = x at *
        go_wp2_with (go_at_call 55; refine hc.mono ?_; rintro e w4 ⟨rfl, hb4⟩)
        go_ret
        exact ⟨⟨k, rfl, by rw [HF.out]; simp⟩, bel_call hbw (Nat.le_refl _) hb4⟩
      · have hs' : sameA l a o[k] = false := by simpa using hs
        rw [hs'] at hc
        have HK : Hid (∀ j, (hj : j < o.length) → j < k + 1 → sameA l a o[j] = false) := fun j hj hlt => (if e : j = k then by subst e; exact hs' else HT.out j hj (by omega))
        clear hs hs'
        generalize o[k] = x at *
        go_wp2_with (go_at_call 55; refine hc.mono ?_; rintro e w4 ⟨rfl, hb4⟩)
        go_roundw
        case rel => exact ⟨k + 1, by omega, by go_num, HK, bel_call hbw (Nat.le_refl _) hb4⟩
        case measure => simp [intOf]; omega
    · have HF : Hid (o.any (sameA l a) = false) := any_no (fun j hj => HT.out j hj (by rw [HM.out] at hj; omega))
      go_wp2
      go_ret
      exact ⟨⟨-1, rfl, by rw [HF.out]; decide⟩, hbw⟩

set_option maxHeartbeats 1000000 in
set_option maxRecDepth 20000 in
theorem contains_any (p : Option Addr) (c : Nat) (l : List In) (w : World) (hr : Rd eIn w p c l) (n : Nat) (hN : l.length = n) (hn : n ≤ 24) (a : Nat) (ha : a < n) (r s : Nat) (h0 : w.cell? ⟨r, 0, none⟩ = some (.slice p n c)) (h1 : w.cell? ⟨s, 0, none⟩ = some (.int .i64 a))
    (q : Option Addr) (d : Nat) (o : List Nat) (hq : Rd eI w q d (oI o)) (m : Nat) (hM : o.length = m) (hm : m ≤ 2) (ho : ∀ k ∈ o, k < n) :
    Calls Try.prog 54 #[.slice q m d, .func (.func 55) #[] #[.pointer (some ⟨r, 0, none⟩), .pointer (some ⟨s, 0, none⟩)]] w fun e w' => e = .returned (.bool (o.any (sameA l a))) ∧ Below w.heap.size w w' := by
  have hx := index_any p c l w hr n hN hn a ha r s h0 h1 q d o hq m hM hm ho
  clear hM
  go_enter Try.func54, Try.ntmps54
  go_wp2_with (go_at_call 63; refine hx.mono ?_; rintro e w4 ⟨⟨v, rfl, hv⟩, hb4⟩)
  go_ret
  exact ⟨by rw [← hv]; rfl, hb4⟩
end Go.Proofs.Yteikdocpncdheaa
