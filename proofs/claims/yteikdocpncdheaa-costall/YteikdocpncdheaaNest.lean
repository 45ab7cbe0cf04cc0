/-
  Whether bodies and reaches are one in the other; what stands between.
-/
import Derived.Test.YteikdocpncdheaaClos
namespace Go.Proofs.Yteikdocpncdheaa
open Go.ChangeShapes Go.WideShapes Go.ChangeAt Go.RowKit
attribute [local go_sem ↓] Go.wp_at_zero Go.wp_at_succ

theorem ahd_len {l : List In} {m : Nat} (h : l.length = m + 1) : (ahd l).length = m := by simp [ahd, h]
theorem ahd_gt {l : List In} {m k : Nat} (h : l.length = m + 1) (hk : k < m) : (ahd l)[k]'(by rw [ahd_len h]; exact hk) = gt l k := by
  rw [gt_eq (by omega)]
  simp [ahd]
theorem ahd_all {l : List In} (h : l.all mayB = true) : (ahd l).all mayB = true := by
  rw [List.all_eq_true] at h ⊢
  exact fun x hx => h x (List.mem_of_mem_take hx)
theorem all_sub {l : List In} (h : l.all mayB = true) (a b : Nat) : ((l.drop a).take b).all mayB = true := by
  rw [List.all_eq_true] at h ⊢
  exact fun x hx => h x (List.mem_of_mem_drop (List.mem_of_mem_take hx))
theorem clos_iff {l : List In} : closB l = true ↔ ∀ i, i < l.length → (i : Int) + reachI (gt l i) < l.length := by simp [closB, allN_iff]

set_option maxHeartbeats 2000000 in
theorem isNested_any (p : Option Addr) (c : Nat) (l : List In) (w : World) (hr : Rd eIn w p c l) (n m : Nat) (hN : l.length = n) (hm : n = m + 1) (hl : n ≤ 1000) (ha : l.all mayB = true) :
    Calls Try.prog 36 #[.slice p n c] w fun e w' => e = .returned (.bool (nestB l)) ∧ Below w.heap.size w w' := by
  have hcap := hr.cap
  rw [hN] at hcap
  have HA : Hid ((ahd l).length = m) := ahd_len (by omega)
  have HN : Hid (l.length = m + 1) := by show _ = _; omega
  have ha2 := ahd_all ha
  have hrA : Rd eIn w p c (ahd l) := hr.take _
  have HQ : Hid (n = m + 1) := hm
  have q1 : ((n : Int) - 1) = (m : Int) := by omega
  have q2 : (m : Int) ≤ (c : Int) := by omega
  have q3 : m ≤ c := by omega
  clear hN hm hr
  by_cases hc : closB (ahd l) = true
  · have HC : Hid (∀ i, i < m → (i : Int) + reachI (gt (ahd l) i) < m) := by
      show ∀ _, _
      have := clos_iff.1 hc
      rwa [HA.out] at this
    go_enter Try.func36, Try.ntmps36
    go_wp2_with (go_at_call 49; refine (closed_any p c (ahd l) _ hrA m HA.out (by omega) ha2).mono ?_; rintro e w4 ⟨rfl, hb4⟩)
    go_loopw [16] (fun i wr => ∃ k : Nat, k ≤ m ∧ i = .int .i64 k ∧ Hid (∀ j, j < k → closB (((ahd l).drop (j + 1)).take (rch (gt l j))) = true) ∧ Below w.heap.size w wr) (fun i _ => m - (intOf i).toNat)
    case atStart => exact ⟨0, Nat.zero_le _, rfl, fun j hj => by omega, hb4⟩
    case round =>
      obtain ⟨k, hk, rfl, HT, hbw⟩ := hrel
      clear hb4
      by_cases hlt : k < m
      · have hkl : k < (ahd l).length := by rw [HA.out]; exact hlt
        obtain ⟨b, o, rfl, hb, f0, f1, f2, f3⟩ := (hrA.below hbw).inst k hkl
        have HG : Hid (gt l k = (ahd l)[k]) := (ahd_gt HN.out hlt).symm
        have hmy := all_get ha2 hkl
        have hbd := reach_bd hmy
        have hrc := rch_eq hmy
        have hcl := HC.out k hlt
        rw [gt_eq hkl] at hcl
        generalize (ahd l)[k] = x at *
        obtain ⟨xo, xa, xb, xn⟩ := x
        simp only at f0 f1 f2 f3
        obtain ⟨R, hR⟩ : ∃ R, rch (xo, xa, xb, xn) = R := ⟨_, rfl⟩
        rw [← hrc, hR] at hbd
        rw [← hrc, hR] at hcl
        rw [hR] at hrc
        have HR : Hid (reachI (xo, xa, xb, xn) = R) := hrc.symm
        have HR2 : Hid (rch (xo, xa, xb, xn) = R) := hR
        clear hR hrc hmy hc
        obtain ⟨r0, r1⟩ := hbd
        have hX : ∀ w', Below wr.heap.size wr w' → Rd eIn w' (some ⟨b, o + (k + 1) * 4, none⟩) (c - (k + 1)) (((ahd l).drop (k + 1)).take R) := fun w' hb' => by
          have := (((hrA.below hbw).below hb').drop (k + 1) (by rw [HA.out]; omega)).take R
          rw [if_neg (by have := HQ.out; omega)] at this
          simpa [Addr.add, eIn] using this
        have HXL : Hid ((((ahd l).drop (k + 1)).take R).length = R) := by
          show _ = _
          rw [List.length_take, List.length_drop, HA.out]
          omega
        have g1 : (k : Int) + 1 ≤ (k : Int) + 1 + (R : Int) := by omega
        have g2 : (k : Int) + 1 + (R : Int) ≤ (c : Int) := by omega
        have hXa := all_sub ha2 (k + 1) R
        have hXX := fun w' hb' => closed_any _ _ _ w' (hX w' hb') R HXL.out (by omega) hXa
        by_cases hcc : closB (((ahd l).drop (k + 1)).take R) = true
        · have hcl2 : closB (((ahd l).drop (k + 1)).take (rch (gt l k))) = true := by rw [HG.out, HR2.out]; exact hcc
          generalize closB (((ahd l).drop (k + 1)).take R) = K at *
          subst hcc
          have hcl3 : Hid (closB (((ahd l).drop (k + 1)).take (rch (gt l k))) = true) := hcl2
          clear hcl2 hX HXL hXa
          go_wp2_with (first
            | (go_at_call 50; refine (reach_any xo xa xb xn _).mono ?_; rw [HR.out]; rintro e w4 ⟨rfl, hb4⟩
               have hB4 : Below wr.heap.size wr w4 := bel_call (by repeat (first | exact Below.refl _ _ | refine Below.alloc ?_ (by simp <;> omega) _ | refine Below.setCell ?_ (by simp <;> omega) _)) (Nat.le_refl _) hb4)
            | (go_at_call 49; refine (hXX _ hB4).mono ?_; rintro e w5 ⟨rfl, hb5⟩))
          go_roundw
          case rel => exact ⟨k + 1, by omega, by go_num, fun j hj => (if e : j = k then by subst e; exact hcl3.out else HT.out j (by omega)), bel_call (bel_call hbw (Nat.le_refl _) hB4) (Nat.le_refl _) hb5⟩
          case measure => simp [intOf]; omega
        · have hcc' : closB (((ahd l).drop (k + 1)).take R) = false := by simpa using hcc
          have HF : Hid (nestB l = false) := by
            show _ = _
            unfold nestB
            rw [allN_no k (by rw [HN.out]; omega) (by rw [HG.out, HR2.out]; exact hcc')]
            simp
          generalize closB (((ahd l).drop (k + 1)).take R) = K at *
          subst hcc'
          clear hX HXL hXa hcc
          go_wp2_with (first
            | (go_at_call 50; refine (reach_any xo xa xb xn _).mono ?_; rw [HR.out]; rintro e w4 ⟨rfl, hb4⟩
               have hB4 : Below wr.heap.size wr w4 := bel_call (by repeat (first | exact Below.refl _ _ | refine Below.alloc ?_ (by simp <;> omega) _ | refine Below.setCell ?_ (by simp <;> omega) _)) (Nat.le_refl _) hb4)
            | (go_at_call 49; refine (hXX _ hB4).mono ?_; rintro e w5 ⟨rfl, hb5⟩))
          go_ret
          exact ⟨by rw [HF.out]; rfl, bel_call (bel_call hbw (Nat.le_refl _) hB4) (Nat.le_refl _) hb5⟩
      · have HF : Hid (nestB l = true) := by
          show _ = _
          unfold nestB
          rw [hc, allN_iff.2 (fun i hi => HT.out i (by rw [HN.out] at hi; omega))]
          rfl
        go_wp2
        go_ret
        exact ⟨by rw [HF.out]; rfl, hbw⟩
  · have hc' : closB (ahd l) = false := by simpa using hc
    have HF : Hid (nestB l = false) := by show _ = _; unfold nestB; rw [hc']; rfl
    go_enter Try.func36, Try.ntmps36
    go_wp2_with (go_at_call 49; refine (closed_any p c (ahd l) _ hrA m HA.out (by omega) ha2).mono ?_; rintro e w4 ⟨rfl, hb4⟩)
    go_ret
    exact ⟨by rw [HF.out]; rfl, hb4⟩

def eI : Elt Int := ⟨1, fun x => [.int .i64 x], fun _ => rfl, by intro x v hv; simp at hv; subst hv; rfl, by decide⟩
theorem Try.info3 : (Try.prog.info? 3).map (fun i => (i.zero, i.size, i.bytes)) = some (some (.int .i64 0), 1, 8) := by kernel_rfl
theorem tI : Ty Try.prog eI 61 3 := by
  obtain ⟨i, hi, h0, h1, h2⟩ := info_parts Try.info3
  exact ⟨Try.underlying61, i, _, hi, h0, h1, rfl, by omega⟩
theorem flI : ∀ l : List Int, fl eI l = l.map (Value.int .i64)
  | [] => rfl
  | x :: r => by rw [fl, flI r]; rfl
theorem Rd.num {w : World} {p : Option Addr} {c : Nat} {l : List Int} (h : Rd eI w p c l) (i : Nat) (hi : i < l.length) :
    ∃ b o, p = some ⟨b, o, none⟩ ∧ b < w.heap.size ∧ w.cell? ⟨b, o + i, none⟩ = some (.int .i64 l[i]) := by
  obtain ⟨b, o, e, hb, hc⟩ := h.cells i hi
  have := hc 0 _ rfl
  exact ⟨b, o, e, hb, by simpa [eI] using this⟩
theorem getD_at {u : List Int} {k : Nat} (h : k < u.length) : u.getD k 0 = u[k] := by simp [List.getD_eq_getElem?_getD, List.getElem?_eq_getElem h]

set_option maxHeartbeats 2000000 in
theorem between_any (p : Option Addr) (c : Nat) (u : List Int) (w : World) (hr : Rd eI w p c u) (n : Nat) (hN : u.length = n) (hl : n ≤ 1000) (a : Nat) :
    Calls Try.prog 53 #[.slice p n c, .int .i64 a] w fun e w' => e = .returned (.bool (betw u a)) ∧ Below w.heap.size w w' := by
  have HN : Hid (u.length = n) := hN
  clear hN
  go_enter Try.func53, Try.ntmps53
  go_wp2
  go_loopw [9] (fun i wr => ∃ k : Nat, k ≤ n ∧ i = .int .i64 k ∧ Hid (∀ j, j < k → (decide (j < a) && decide ((a : Int) < u.getD j 0)) = false) ∧ Below w.heap.size w wr) (fun i _ => n - (intOf i).toNat)
  case atStart => exact ⟨0, Nat.zero_le _, rfl, fun j hj => by omega, Below.refl _ _⟩
  case round =>
    obtain ⟨k, hk, rfl, HT, hbw⟩ := hrel
    by_cases hlt : k < n
    · have hkl : k < u.length := by rw [HN.out]; exact hlt
      obtain ⟨b, o, rfl, hb, f0⟩ := (hr.below hbw).num k hkl
      have HG : Hid (u.getD k 0 = u[k]) := getD_at hkl
      generalize u[k] = x at *
      by_cases h1 : k < a
      · have d1 : decide ((k : Int) < (a : Int)) = true := by simpa using h1
        by_cases h2 : (a : Int) < x
        · have d2 : decide ((a : Int) < x) = true := by simpa using h2
          have HF : Hid (betw u a = true) := anyN_iff.2 ⟨k, hkl, by rw [HG.out]; simp [h1, h2]⟩
          go_wp2
          go_ret
          exact ⟨by rw [HF.out]; rfl, hbw⟩
        · have d2 : decide ((a : Int) < x) = false := by simpa using h2
          go_wp2
          go_roundw
          case rel => exact ⟨k + 1, by omega, by go_num, fun j hj => (if e : j = k then by subst e; rw [HG.out, d2]; simp else HT.out j (by omega)), hbw⟩
          case measure => simp [intOf]; omega
      · have d1 : decide ((k : Int) < (a : Int)) = false := by simpa using h1
        go_wp2
        go_roundw
        case rel => exact ⟨k + 1, by omega, by go_num, fun j hj => (if e : j = k then by subst e; simp [h1] else HT.out j (by omega)), hbw⟩
        case measure => simp [intOf]; omega
    · have HF : Hid (betw u a = false) := anyN_no.2 (fun i hi => HT.out i (by rw [HN.out] at hi; omega))
      go_wp2
      go_ret
      exact ⟨by rw [HF.out]; rfl, hbw⟩
end Go.Proofs.Yteikdocpncdheaa
