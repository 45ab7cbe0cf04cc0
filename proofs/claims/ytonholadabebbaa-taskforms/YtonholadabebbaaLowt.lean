/-
  Put together:
  Rows of instructions and of bytes.
  How far bodies and reaches go, whether they end within a row, whether each instruction may be.
  Whether bodies and reaches are one in the other; what stands between.
  What an instruction is in, as an array; how many bodies there are around it.
  Arrays of integers held against each other, and a map whose keys are such arrays: the own look-up, store and delete of the model, at the types of the program.
-/
import Derived.Test.YtonholadabebbaaMays
import Derived.Laws.BitsAllLaws
import Derived.Test.YtonholadabebbaaPlains
import Derived.Test.YtonholadabebbaaLows
import Derived.Deep.WholeRow
import Derived.ChangeKeysEq
import Derived.Laws.StructEq
import Derived.WideKeyRuns
import Derived.Maps.OwnSet
import Derived.Maps.OwnOps
import Derived.MapKept
import Derived.Below
namespace Go.Proofs.Ytonholadabebbaa
open Go.ChangeShapes Go.WideShapes Go.ChangeAt Go.RowKit
attribute [local go_sem ↓] Go.wp_at_zero Go.wp_at_succ



end Go.Proofs.Ytonholadabebbaa

namespace Go.Proofs.Ytonholadabebbaa
open Go.ChangeShapes Go.WideShapes Go.ChangeAt Go.RowKit
attribute [local go_sem ↓] Go.wp_at_zero Go.wp_at_succ


theorem reach_any (o a b n : Int) (w : World) : Calls Try.prog 61 #[.agg #[.int .i64 o, .int .i64 a, .int .i64 b, .int .i64 n]] w fun e w' => e = .returned (.int .i64 (reachI (o, a, b, n))) ∧ Below w.heap.size w w' := by
  by_cases h8 : o = 8
  · subst h8
    have e : reachI (8, a, b, n) = b := rfl
    rw [e]
    go_enter Try.func61, Try.ntmps61
    go_wp2
    go_ret
    exact ⟨rfl, (Below.refl _ _).alloc (Nat.le_refl _) _⟩
  · have d8 : (o == 8) = false := by simpa using h8
    by_cases h7 : o = 7
    · subst h7
      have e : reachI (7, a, b, n) = n := rfl
      rw [e]
      clear d8 h8
      go_enter Try.func61, Try.ntmps61
      go_wp2
      go_ret
      exact ⟨rfl, (Below.refl _ _).alloc (Nat.le_refl _) _⟩
    · have d7 : (o == 7) = false := by simpa using h7
      have e : reachI (o, a, b, n) = 0 := by simp [reachI, h8, h7]
      rw [e]
      clear h8 h7
      go_enter Try.func61, Try.ntmps61
      go_wp2
      go_ret
      exact ⟨rfl, (Below.refl _ _).alloc (Nat.le_refl _) _⟩

set_option maxHeartbeats 2000000 in
theorem closed_any (p : Option Addr) (c : Nat) (l : List In) (w : World) (hr : Rd eIn w p c l) (n : Nat) (hN : l.length = n) (hl : n ≤ 1000) (ha : l.all mayB = true) :
    Calls Try.prog 60 #[.slice p n c] w fun e w' => e = .returned (.bool (closB l)) ∧ Below w.heap.size w w' := by
  have HN : Hid (l.length = n) := hN
  clear hN
  go_enter Try.func60, Try.ntmps60
  go_wp2
  go_loopw [7] (fun i wr => ∃ k : Nat, k ≤ n ∧ i = .int .i64 k ∧ Hid (∀ j, j < k → (j : Int) + reachI (gt l j) < l.length) ∧ Below w.heap.size w wr) (fun i _ => n - (intOf i).toNat)
  case atStart => exact ⟨0, Nat.zero_le _, rfl, fun j hj => by omega, Below.refl _ _⟩
  case round =>
    obtain ⟨k, hk, rfl, HT, hbw⟩ := hrel
    by_cases hlt : k < n
    · have hkl : k < l.length := by rw [HN.out]; exact hlt
      obtain ⟨b, o, rfl, hb, f0, f1, f2, f3⟩ := (hr.below hbw).inst k hkl
      have HG : Hid (gt l k = l[k]) := gt_eq hkl
      have hbd := reach_bd (all_get ha hkl)
      generalize l[k] = x at *
      obtain ⟨xo, xa, xb, xn⟩ := x
      simp only at f0 f1 f2 f3
      obtain ⟨R, hR⟩ : ∃ R, reachI (xo, xa, xb, xn) = R := ⟨_, rfl⟩
      rw [hR] at hbd
      obtain ⟨r0, r1⟩ := hbd
      have HR : Hid (reachI (xo, xa, xb, xn) = R) := hR
      clear hR
      by_cases hc : (k : Int) + R < n
      · have d : decide ((n : Int) ≤ (k : Int) + R) = false := by simp; omega
        go_wp2_with (go_at_call 61; refine (reach_any xo xa xb xn _).mono ?_; rw [HR.out]; rintro e w4 ⟨rfl, hb4⟩
                     have hB4 : Below wr.heap.size wr w4 := bel_call (by repeat (first | exact Below.refl _ _ | refine Below.alloc ?_ (by simp <;> omega) _ | refine Below.setCell ?_ (by simp <;> omega) _)) (Nat.le_refl _) hb4)
        go_roundw
        case rel => exact ⟨k + 1, by omega, by go_num, fun j hj => (if e : j = k then by subst e; rw [HG.out, HR.out, HN.out]; exact hc else HT.out j (by omega)), bel_call hbw (Nat.le_refl _) hB4⟩
        case measure => simp [intOf]; omega
      · have d : decide ((n : Int) ≤ (k : Int) + R) = true := by simp; omega
        have HF : Hid (closB l = false) := allN_no k hkl (by rw [HG.out, HR.out, HN.out]; exact decide_eq_false hc)
        go_wp2_with (go_at_call 61; refine (reach_any xo xa xb xn _).mono ?_; rw [HR.out]; rintro e w4 ⟨rfl, hb4⟩
                     have hB4 : Below wr.heap.size wr w4 := bel_call (by repeat (first | exact Below.refl _ _ | refine Below.alloc ?_ (by simp <;> omega) _ | refine Below.setCell ?_ (by simp <;> omega) _)) (Nat.le_refl _) hb4)
        go_ret
        exact ⟨by rw [HF.out]; rfl, bel_call hbw (Nat.le_refl _) hB4⟩
    · have HF : Hid (closB l = true) := allN_iff.2 (fun i hi => decide_eq_true (HT.out i (by rw [HN.out] at hi; omega)))
      go_wp2
      go_ret
      exact ⟨by rw [HF.out]; rfl, hbw⟩

theorem row_no {l : List In} (k : Nat) (hk : k < l.length) (h : (mayB (gt l k) && (((gt l k).1 == 0) == decide (k + 1 = l.length))) = false) : rowB l = false := by
  unfold rowB
  rw [allN_no k hk h]
  simp
theorem row_out {l : List In} (h : l.length < 1 ∨ 24 < l.length) : rowB l = false := by
  unfold rowB
  rcases h with h | h
  · have : decide (1 ≤ l.length) = false := decide_eq_false (by omega)
    rw [this]; rfl
  · have : decide (l.length ≤ 24) = false := by simp; omega
    simp [this]
theorem row_iff {l : List In} : rowB l = true ↔ 1 ≤ l.length ∧ l.length ≤ 24 ∧ ∀ i, i < l.length → mayB (gt l i) = true ∧ ((gt l i).1 = 0 ↔ i + 1 = l.length) := by
  unfold rowB
  simp only [Bool.and_eq_true, decide_eq_true_eq, allN_iff, Bool.beq_eq_decide_eq, and_assoc]
  refine and_congr Iff.rfl (and_congr Iff.rfl (forall_congr' fun i => forall_congr' fun _ => and_congr Iff.rfl ?_))
  rw [Bool.eq_iff_iff]
  simp
theorem row_all {l : List In} (h : rowB l = true) : l.all mayB = true := by
  rw [List.all_eq_true]
  intro x hx
  obtain ⟨i, hi, rfl⟩ := List.mem_iff_getElem.1 hx
  have := ((row_iff.1 h).2.2 i hi).1
  rwa [gt_eq hi] at this

set_option maxHeartbeats 2000000 in
theorem isRow_any (p : Option Addr) (c : Nat) (l : List In) (w : World) (hr : Rd eIn w p c l) (n : Nat) (hN : l.length = n) (hl : n ≤ 1000) :
    Calls Try.prog 50 #[.slice p n c] w fun e w' => e = .returned (.bool (rowB l)) ∧ Below w.heap.size w w' := by
  have HN : Hid (l.length = n) := hN
  clear hN
  by_cases h0 : n = 0
  · subst h0
    rw [row_out (by rw [HN.out]; omega)]
    go_enter Try.func50, Try.ntmps50
    go_wp2
    go_ret
    exact ⟨rfl, Below.refl _ _⟩
  by_cases h24 : 24 < n
  · rw [row_out (by rw [HN.out]; omega)]
    have d0 : ((n : Int) == 0) = false := by simp; omega
    have d1 : decide ((24 : Int) < (n : Int)) = true := by simp; omega
    go_enter Try.func50, Try.ntmps50
    go_wp2
    go_ret
    exact ⟨rfl, Below.refl _ _⟩
  have d0 : ((n : Int) == 0) = false := by simp; omega
  have d1 : decide ((24 : Int) < (n : Int)) = false := by simp; omega
  go_enter Try.func50, Try.ntmps50
  go_wp2
  go_loopw [15] (fun i wr => ∃ k : Nat, k ≤ n ∧ i = .int .i64 k ∧ Hid (∀ j, j < k → (mayB (gt l j) && (((gt l j).1 == 0) == decide (j + 1 = l.length))) = true) ∧ Below w.heap.size w wr) (fun i _ => n - (intOf i).toNat)
  case atStart => exact ⟨0, Nat.zero_le _, rfl, fun j hj => by omega, Below.refl _ _⟩
  case round =>
    obtain ⟨k, hk, rfl, HT, hbw⟩ := hrel
    by_cases hlt : k < n
    · have hkl : k < l.length := by rw [HN.out]; exact hlt
      obtain ⟨b, o, rfl, hb, f0, f1, f2, f3⟩ := (hr.below hbw).inst k hkl
      have HG : Hid (gt l k = l[k]) := gt_eq hkl
      generalize l[k] = x at *
      obtain ⟨xo, xa, xb, xn⟩ := x
      simp only at f0 f1 f2 f3
      by_cases hm : mayB (xo, xa, xb, xn) = true
      · by_cases ho : xo = 0
        · subst ho
          by_cases he : k + 1 = n
          · have de : ((k : Int) == (n : Int) - 1) = true := by simp; omega
            go_wp2_with (go_at_call 59; refine (may_any (0, xa, xb, xn) _).mono ?_; rintro e w4 ⟨rfl, hb4⟩; obtain ⟨hc4, hf4⟩ := bcell hb4; have hz4 := hb4.size; simp at hz4
                         have hB4 : Below wr.heap.size wr w4 := bel_call (by repeat (first | exact Below.refl _ _ | refine Below.alloc ?_ (by simp <;> omega) _ | refine Below.setCell ?_ (by simp <;> omega) _)) (Nat.le_refl _) hb4)
            go_roundw
            case rel => exact ⟨k + 1, by omega, by go_num, fun j hj => (if e : j = k then by subst e; rw [HG.out, HN.out, hm, he]; simp else HT.out j (by omega)), bel_call hbw (Nat.le_refl _) hB4⟩
            case measure => simp [intOf]; omega
          · have de : ((k : Int) == (n : Int) - 1) = false := by simp; omega
            have HF : Hid (rowB l = false) := row_no k hkl (by rw [HG.out, HN.out]; simp [he])
            go_wp2_with (go_at_call 59; refine (may_any (0, xa, xb, xn) _).mono ?_; rintro e w4 ⟨rfl, hb4⟩; obtain ⟨hc4, hf4⟩ := bcell hb4; have hz4 := hb4.size; simp at hz4
                         have hB4 : Below wr.heap.size wr w4 := bel_call (by repeat (first | exact Below.refl _ _ | refine Below.alloc ?_ (by simp <;> omega) _ | refine Below.setCell ?_ (by simp <;> omega) _)) (Nat.le_refl _) hb4)
            go_ret
            exact ⟨by rw [HF.out]; rfl, bel_call hbw (Nat.le_refl _) hB4⟩
        · have d0 : (xo == 0) = false := by simpa using ho
          by_cases he : k + 1 = n
          · have de : ((k : Int) == (n : Int) - 1) = true := by simp; omega
            have HF : Hid (rowB l = false) := row_no k hkl (by rw [HG.out, HN.out]; simp [he, ho])
            go_wp2_with (go_at_call 59; refine (may_any (xo, xa, xb, xn) _).mono ?_; rintro e w4 ⟨rfl, hb4⟩; obtain ⟨hc4, hf4⟩ := bcell hb4; have hz4 := hb4.size; simp at hz4
                         have hB4 : Below wr.heap.size wr w4 := bel_call (by repeat (first | exact Below.refl _ _ | refine Below.alloc ?_ (by simp <;> omega) _ | refine Below.setCell ?_ (by simp <;> omega) _)) (Nat.le_refl _) hb4)
            go_ret
            exact ⟨by rw [HF.out]; rfl, bel_call hbw (Nat.le_refl _) hB4⟩
          · have de : ((k : Int) == (n : Int) - 1) = false := by simp; omega
            go_wp2_with (go_at_call 59; refine (may_any (xo, xa, xb, xn) _).mono ?_; rintro e w4 ⟨rfl, hb4⟩; obtain ⟨hc4, hf4⟩ := bcell hb4; have hz4 := hb4.size; simp at hz4
                         have hB4 : Below wr.heap.size wr w4 := bel_call (by repeat (first | exact Below.refl _ _ | refine Below.alloc ?_ (by simp <;> omega) _ | refine Below.setCell ?_ (by simp <;> omega) _)) (Nat.le_refl _) hb4)
            go_roundw
            case rel => exact ⟨k + 1, by omega, by go_num, fun j hj => (if e : j = k then by subst e; rw [HG.out, HN.out, hm]; simp [he, ho] else HT.out j (by omega)), bel_call hbw (Nat.le_refl _) hB4⟩
            case measure => simp [intOf]; omega
      · have hm' : mayB (xo, xa, xb, xn) = false := by simpa using hm
        have HF : Hid (rowB l = false) := row_no k hkl (by rw [HG.out, hm']; rfl)
        go_wp2_with (go_at_call 59; refine (may_any (xo, xa, xb, xn) _).mono ?_; rintro e w4 ⟨rfl, hb4⟩
                     have hB4 : Below wr.heap.size wr w4 := bel_call (by repeat (first | exact Below.refl _ _ | refine Below.alloc ?_ (by simp <;> omega) _ | refine Below.setCell ?_ (by simp <;> omega) _)) (Nat.le_refl _) hb4)
        go_ret
        exact ⟨by rw [HF.out]; rfl, bel_call hbw (Nat.le_refl _) hB4⟩
    · have HF : Hid (rowB l = true) := by
        show _ = _
        unfold rowB
        rw [allN_iff.2 (fun i hi => HT.out i (by rw [HN.out] at hi; omega)), HN.out]
        simp
        omega
      go_wp2
      go_ret
      exact ⟨by rw [HF.out]; rfl, hbw⟩
end Go.Proofs.Ytonholadabebbaa

namespace Go.Proofs.Ytonholadabebbaa
open Go.ChangeShapes Go.WideShapes Go.ChangeAt Go.RowKit
attribute [local go_sem ↓] Go.wp_at_zero Go.wp_at_succ

theorem ahd_len {l : List In} {m : Nat} (h : l.length = m + 1) : (ahd l).length = m := by simp [ahd, h]
theorem ahd_gt {l : List In} {m k : Nat} (h : l.length = m + 1) (hk : k < m) : (ahd l)[k]'(by rw [ahd_len h]; exact hk) = gt l k := by
  rw [gt_eq (by omega)]
  simp [ahd]
theorem ahd_all {l : List In} (h : l.all mayB = true) : (ahd l).all mayB = true := by
  rw [List.all_eq_true] at h ⊢
  exact fun x hx => h x (List.mem_of_mem_take hx)
theorem all_sub {l : List In} (h : l.all mayB = true) (a b : Nat) : ((l.drop a).take b).all mayB = true := by
  rw [List.all_eq_true] at h ⊢
  exact fun x hx => h x (List.mem_of_mem_drop (List.mem_of_mem_take hx))
theorem clos_iff {l : List In} : closB l = true ↔ ∀ i, i < l.length → (i : Int) + reachI (gt l i) < l.length := by simp [closB, allN_iff]

set_option maxHeartbeats 2000000 in
theorem isNested_any (p : Option Addr) (c : Nat) (l : List In) (w : World) (hr : Rd eIn w p c l) (n m : Nat) (hN : l.length = n) (hm : n = m + 1) (hl : n ≤ 1000) (ha : l.all mayB = true) :
    Calls Try.prog 51 #[.slice p n c] w fun e w' => e = .returned (.bool (nestB l)) ∧ Below w.heap.size w w' := by
  have hcap := hr.cap
  rw [hN] at hcap
  have HA : Hid ((ahd l).length = m) := ahd_len (by omega)
  have HN : Hid (l.length = m + 1) := by show _ = _; omega
  have ha2 := ahd_all ha
  have hrA : Rd eIn w p c (ahd l) := hr.take _
  have HQ : Hid (n = m + 1) := hm
  have q1 : ((n : Int) - 1) = (m : Int) := by omega
  have q2 : (m : Int) ≤ (c : Int) := by omega
  have q3 : m ≤ c := by omega
  clear hN hm hr
  by_cases hc : closB (ahd l) = true
  · have HC : Hid (∀ i, i < m → (i : Int) + reachI (gt (ahd l) i) < m) := by
      show ∀ _, _
      have := clos_iff.1 hc
      rwa [HA.out] at this
    go_enter Try.func51, Try.ntmps51
    go_wp2_with (go_at_call 60; refine (closed_any p c (ahd l) _ hrA m HA.out (by omega) ha2).mono ?_; rintro e w4 ⟨rfl, hb4⟩)
    go_loopw [16] (fun i wr => ∃ k : Nat, k ≤ m ∧ i = .int .i64 k ∧ Hid (∀ j, j < k → closB (((ahd l).drop (j + 1)).take (rch (gt l j))) = true) ∧ Below w.heap.size w wr) (fun i _ => m - (intOf i).toNat)
    case atStart => exact ⟨0, Nat.zero_le _, rfl, fun j hj => by omega, hb4⟩
    case round =>
      obtain ⟨k, hk, rfl, HT, hbw⟩ := hrel
      clear hb4
      by_cases hlt : k < m
      · have hkl : k < (ahd l).length := by rw [HA.out]; exact hlt
        obtain ⟨b, o, rfl, hb, f0, f1, f2, f3⟩ := (hrA.below hbw).inst k hkl
        have HG : Hid (gt l k = (ahd l)[k]) := (ahd_gt HN.out hlt).symm
        have hmy := all_get ha2 hkl
        have hbd := reach_bd hmy
        have hrc := rch_eq hmy
        have hcl := HC.out k hlt
        rw [gt_eq hkl] at hcl
        generalize (ahd l)[k] = x at *
        obtain ⟨xo, xa, xb, xn⟩ := x
        simp only at f0 f1 f2 f3
        obtain ⟨R, hR⟩ : ∃ R, rch (xo, xa, xb, xn) = R := ⟨_, rfl⟩
        rw [← hrc, hR] at hbd
        rw [← hrc, hR] at hcl
        rw [hR] at hrc
        have HR : Hid (reachI (xo, xa, xb, xn) = R) := hrc.symm
        have HR2 : Hid (rch (xo, xa, xb, xn) = R) := hR
        clear hR hrc hmy hc
        obtain ⟨r0, r1⟩ := hbd
        have hX : ∀ w', Below wr.heap.size wr w' → Rd eIn w' (some ⟨b, o + (k + 1) * 4, none⟩) (c - (k + 1)) (((ahd l).drop (k + 1)).take R) := fun w' hb' => by
          have := (((hrA.below hbw).below hb').drop (k + 1) (by rw [HA.out]; omega)).take R
          rw [if_neg (by have := HQ.out; omega)] at this
          simpa [Addr.add, eIn] using this
        have HXL : Hid ((((ahd l).drop (k + 1)).take R).length = R) := by
          show _ = _
          rw [List.length_take, List.length_drop, HA.out]
          omega
        have g1 : (k : Int) + 1 ≤ (k : Int) + 1 + (R : Int) := by omega
        have g2 : (k : Int) + 1 + (R : Int) ≤ (c : Int) := by omega
        have hXa := all_sub ha2 (k + 1) R
        have hXX := fun w' hb' => closed_any _ _ _ w' (hX w' hb') R HXL.out (by omega) hXa
        by_cases hcc : closB (((ahd l).drop (k + 1)).take R) = true
        · have hcl2 : closB (((ahd l).drop (k + 1)).take (rch (gt l k))) = true := by rw [HG.out, HR2.out]; exact hcc
          generalize closB (((ahd l).drop (k + 1)).take R) = K at *
          subst hcc
          have hcl3 : Hid (closB (((ahd l).drop (k + 1)).take (rch (gt l k))) = true) := hcl2
          clear hcl2 hX HXL hXa
          go_wp2_with (first
            | (go_at_call 61; refine (reach_any xo xa xb xn _).mono ?_; rw [HR.out]; rintro e w4 ⟨rfl, hb4⟩
               have hB4 : Below wr.heap.size wr w4 := bel_call (by repeat (first | exact Below.refl _ _ | refine Below.alloc ?_ (by simp <;> omega) _ | refine Below.setCell ?_ (by simp <;> omega) _)) (Nat.le_refl _) hb4)
            | (go_at_call 60; refine (hXX _ hB4).mono ?_; rintro e w5 ⟨rfl, hb5⟩))
          go_roundw
          case rel => exact ⟨k + 1, by omega, by go_num, fun j hj => (if e : j = k then by subst e; exact hcl3.out else HT.out j (by omega)), bel_call (bel_call hbw (Nat.le_refl _) hB4) (Nat.le_refl _) hb5⟩
          case measure => simp [intOf]; omega
        · have hcc' : closB (((ahd l).drop (k + 1)).take R) = false := by simpa using hcc
          have HF : Hid (nestB l = false) := by
            show _ = _
            unfold nestB
            rw [allN_no k (by rw [HN.out]; omega) (by rw [HG.out, HR2.out]; exact hcc')]
            simp
          generalize closB (((ahd l).drop (k + 1)).take R) = K at *
          subst hcc'
          clear hX HXL hXa hcc
          go_wp2_with (first
            | (go_at_call 61; refine (reach_any xo xa xb xn _).mono ?_; rw [HR.out]; rintro e w4 ⟨rfl, hb4⟩
               have hB4 : Below wr.heap.size wr w4 := bel_call (by repeat (first | exact Below.refl _ _ | refine Below.alloc ?_ (by simp <;> omega) _ | refine Below.setCell ?_ (by simp <;> omega) _)) (Nat.le_refl _) hb4)
            | (go_at_call 60; refine (hXX _ hB4).mono ?_; rintro e w5 ⟨rfl, hb5⟩))
          go_ret
          exact ⟨by rw [HF.out]; rfl, bel_call (bel_call hbw (Nat.le_refl _) hB4) (Nat.le_refl _) hb5⟩
      · have HF : Hid (nestB l = true) := by
          show _ = _
          unfold nestB
          rw [hc, allN_iff.2 (fun i hi => HT.out i (by rw [HN.out] at hi; omega))]
          rfl
        go_wp2
        go_ret
        exact ⟨by rw [HF.out]; rfl, hbw⟩
  · have hc' : closB (ahd l) = false := by simpa using hc
    have HF : Hid (nestB l = false) := by show _ = _; unfold nestB; rw [hc']; rfl
    go_enter Try.func51, Try.ntmps51
    go_wp2_with (go_at_call 60; refine (closed_any p c (ahd l) _ hrA m HA.out (by omega) ha2).mono ?_; rintro e w4 ⟨rfl, hb4⟩)
    go_ret
    exact ⟨by rw [HF.out]; rfl, hb4⟩

theorem getD_at7 {u : List Int} {k : Nat} (h : k < u.length) : u.getD k 0 = u[k] := by simp [List.getD_eq_getElem?_getD, List.getElem?_eq_getElem h]

set_option maxHeartbeats 2000000 in
theorem between_any (p : Option Addr) (c : Nat) (u : List Int) (w : World) (hr : Rd eI w p c u) (n : Nat) (hN : u.length = n) (hl : n ≤ 1000) (a : Nat) :
    Calls Try.prog 64 #[.slice p n c, .int .i64 a] w fun e w' => e = .returned (.bool (betw u a)) ∧ Below w.heap.size w w' := by
  have HN : Hid (u.length = n) := hN
  clear hN
  go_enter Try.func64, Try.ntmps64
  go_wp2
  go_loopw [9] (fun i wr => ∃ k : Nat, k ≤ n ∧ i = .int .i64 k ∧ Hid (∀ j, j < k → (decide (j < a) && decide ((a : Int) < u.getD j 0)) = false) ∧ Below w.heap.size w wr) (fun i _ => n - (intOf i).toNat)
  case atStart => exact ⟨0, Nat.zero_le _, rfl, fun j hj => by omega, Below.refl _ _⟩
  case round =>
    obtain ⟨k, hk, rfl, HT, hbw⟩ := hrel
    by_cases hlt : k < n
    · have hkl : k < u.length := by rw [HN.out]; exact hlt
      obtain ⟨b, o, rfl, hb, f0⟩ := (hr.below hbw).num k hkl
      have HG : Hid (u.getD k 0 = u[k]) := getD_at7 hkl
      generalize u[k] = x at *
      by_cases h1 : k < a
      · have d1 : decide ((k : Int) < (a : Int)) = true := by simpa using h1
        by_cases h2 : (a : Int) < x
        · have d2 : decide ((a : Int) < x) = true := by simpa using h2
          have HF : Hid (betw u a = true) := anyN_iff.2 ⟨k, hkl, by rw [HG.out]; simp [h1, h2]⟩
          go_wp2
          go_ret
          exact ⟨by rw [HF.out]; rfl, hbw⟩
        · have d2 : decide ((a : Int) < x) = false := by simpa using h2
          go_wp2
          go_roundw
          case rel => exact ⟨k + 1, by omega, by go_num, fun j hj => (if e : j = k then by subst e; rw [HG.out, d2]; simp else HT.out j (by omega)), hbw⟩
          case measure => simp [intOf]; omega
      · have d1 : decide ((k : Int) < (a : Int)) = false := by simpa using h1
        go_wp2
        go_roundw
        case rel => exact ⟨k + 1, by omega, by go_num, fun j hj => (if e : j = k then by subst e; simp [h1] else HT.out j (by omega)), hbw⟩
        case measure => simp [intOf]; omega
    · have HF : Hid (betw u a = false) := anyN_no.2 (fun i hi => HT.out i (by rw [HN.out] at hi; omega))
      go_wp2
      go_ret
      exact ⟨by rw [HF.out]; rfl, hbw⟩
end Go.Proofs.Ytonholadabebbaa

namespace Go.Proofs.Ytonholadabebbaa
open Go.ChangeShapes Go.WideShapes Go.ChangeAt Go.RowKit
attribute [local go_sem ↓] Go.wp_at_zero Go.wp_at_succ

/-- numbers as cells -/
def cI7 (l : List Int) : Array Value := (l.map (Value.int .i64)).toArray
theorem cI_size7 (l : List Int) : (cI7 l).size = l.length := by simp [cI7]
theorem cI_set7 (l : List Int) (k : Nat) (v : Int) : (cI7 l).setIfInBounds k (.int .i64 v) = cI7 (l.set k v) := by simp [cI7, List.map_set]
theorem cI_get7 {l : List Int} {k : Nat} (h : k < l.length) : (cI7 l)[k]? = some (.int .i64 l[k]) := by simp [cI7, List.getElem?_eq_getElem h]
theorem cI_one7 (l : List Int) : (cI7 l).all (·.oneCell') = true := by
  rw [Array.all_eq_true_iff_forall_mem]
  intro v hv
  simp [cI7] at hv
  obtain ⟨x, _, rfl⟩ := hv
  rfl
theorem index75 (S : Array Value) (k : Nat) (w : World) (v : Int) (hk : k < 24) (h : S[k]? = some (.int .i64 v)) : (Instr.index 107 (.agg S) (.int .i64 (k : Int))).run Try.prog w = .ok (.int .i64 v) w := by
  have hi : (Try.prog.info? 3).map (·.size) = some 1 := by kernel_rfl
  have h1 : (sizeOf 3).run Try.prog w = .ok 1 w := by
    cases hq : Try.prog.info? 3 with
    | none => simp [hq] at hi
    | some i => simp [hq] at hi; simp [sizeOf, typeInfo, hq, hi]
  simp [Instr.index, asIntOf, Sem.run_bind, run_underlying Try.underlying107 w, h1, part, h]
  omega
theorem info75 : (Try.prog.info? 107).map (·.size) = some 24 := by kernel_rfl

set_option maxHeartbeats 2000000 in
set_option maxRecDepth 20000 in
theorem scope_any (p : Option Addr) (c : Nat) (l : List In) (w : World) (hr : Rd eIn w p c l) (n : Nat) (hN : l.length = n) (hl : n ≤ 24) (ha : l.all mayB = true) (a : Nat) (hal : a < n) :
    Calls Try.prog 63 #[.slice p n c, .int .i64 a] w fun e w' => e = .returned (.agg (cI7 (scL l a))) ∧ Below w.heap.size w w' := by
  have HN : Hid (l.length = n) := hN
  clear hN
  have d0 : decide ((a : Int) - 24 < 0) = true := by simp; omega
  have d1 : decide ((0 : Int) < (a : Int) - 24) = false := by simp; omega
  go_enter Try.func63, Try.ntmps63
  go_wp2
  go_loopw [6] (fun i wr => ∃ k : Nat, k ≤ a ∧ i = .int .i64 k ∧ Hid (wr.heap[w.heap.size + 1]? = some (.cells (cI7 (scA l a k)) 107 (0, 0))) ∧ Hid (wr.heap[w.heap.size]? = some (.cells (cI7 (List.replicate 24 0)) 107 (0, 0))) ∧ Below w.heap.size w wr) (fun i _ => a - (intOf i).toNat)
  case atStart => exact ⟨0, Nat.zero_le _, rfl, by show _ = _; rw [scA_zero]; exact heap_alloc2_new _ _ _, heap_alloc2_old _ _ _, (by repeat (first | exact Below.refl _ _ | refine Below.alloc ?_ (by simp <;> omega) _ | refine Below.setCell ?_ (by simp <;> omega) _))⟩
  case round =>
    obtain ⟨k, hk, rfl, HB, HC, hbw⟩ := hrel
    by_cases hlt : k < a
    · have hkl : k < l.length := by rw [HN.out]; omega
      obtain ⟨b, o, rfl, hb, f0, f1, f2, f3⟩ := (hr.below hbw).inst k hkl
      have HG : Hid (gt l k = l[k]) := gt_eq hkl
      have hmy := all_get ha hkl
      have hbd := reach_bd hmy
      have hrc := rch_eq hmy
      generalize l[k] = x at *
      obtain ⟨xo, xa, xb, xn⟩ := x
      simp only at f0 f1 f2 f3
      obtain ⟨R, hR⟩ : ∃ R, rch (xo, xa, xb, xn) = R := ⟨_, rfl⟩
      rw [← hrc, hR] at hbd
      rw [hR] at hrc
      have HR : Hid (reachI (xo, xa, xb, xn) = R) := hrc.symm
      have HR2 : Hid (rch (xo, xa, xb, xn) = R) := hR
      clear hR hrc hmy
      have hm24 : (k : Int) % 24 = k := by omega
      have hfr : wr.frozen? ⟨w.heap.size + 1, k, none⟩ = false := frozen_of_row _ _ _ _ _ HB.out
      have hce : wr.cell? ⟨w.heap.size + 1, k, none⟩ = some (.int .i64 ((scA l a k)[k]'(by rw [scA_len]; omega))) := by rw [cell_of_row _ _ _ _ _ _ HB.out]; exact cI_get7 _
      have hsz : w.heap.size + 1 < wr.heap.size := lt_of_cell hce
      by_cases hc : (a : Int) - k ≤ R
      · have d : decide ((a : Int) - (k : Int) ≤ (R : Int)) = true := by simpa using hc
        have HI : Hid (inA l k a = true) := inA_iff.2 ⟨hlt, by rw [HG.out, HR2.out]; omega⟩
        go_wp2_with (go_at_call 61; refine (reach_any xo xa xb xn _).mono ?_; rw [HR.out]; rintro e w4 ⟨rfl, hb4⟩
                     obtain ⟨hc4, hf4⟩ := bcell hb4; have hz4 := hb4.size
                     have HB4 := (hb4.block _ hsz).trans HB.out; have HC4 := (hb4.block _ (show w.heap.size < wr.heap.size by omega)).trans HC.out)
        go_roundw
        case rel => exact ⟨k + 1, by omega, by go_num, by show _ = _; rw [scA_yes HI.out, ← cI_set7]; exact heap_setCell_same _ _ _ _ _ _ HB4, by show _ = _; rw [heap_setCell_other _ _ _ _ (by simp)]; exact HC4, (bel_call hbw (Nat.le_refl _) hb4).setCell (by simp) _⟩
        case measure => simp [intOf]; omega
      · have d : decide ((a : Int) - (k : Int) ≤ (R : Int)) = false := by simpa using hc
        have HI : Hid (inA l k a = false) := inA_no.2 (by rw [HG.out, HR2.out]; omega)
        go_wp2_with (go_at_call 61; refine (reach_any xo xa xb xn _).mono ?_; rw [HR.out]; rintro e w4 ⟨rfl, hb4⟩
                     obtain ⟨hc4, hf4⟩ := bcell hb4; have hz4 := hb4.size
                     have HB4 := (hb4.block _ hsz).trans HB.out; have HC4 := (hb4.block _ (show w.heap.size < wr.heap.size by omega)).trans HC.out)
        go_roundw
        case rel => exact ⟨k + 1, by omega, by go_num, by show _ = _; rw [scA_no HI.out]; exact HB4, HC4, bel_call hbw (Nat.le_refl _) hb4⟩
        case measure => simp [intOf]; omega
    · obtain rfl : k = a := by omega
      go_wp2_with (first
        | (refine wpList_load_row rfl 107 _ rfl (w.heap.size + 1) rfl 107 (cI7 (scA l k k)) (0, 0) _ HB.out Try.underlying107 rfl (by rw [cI_size7, scA_len]; exact info75) ?_)
        | (refine wpList_store_row rfl 107 _ _ rfl (w.heap.size) (cI7 (scA l k k)) rfl rfl 107 (cI7 (List.replicate 24 0)) HC.out (by rw [cI_size7, scA_len]; exact info75) (by rw [cI_size7, cI_size7, scA_len]; rfl) (cI_one7 _) ?_))
      refine bodyPost_ret (v := .agg (cI7 (scL l k))) (results_cell_row (fn := Try.f63) Try.results63 _ _ w.heap.size 107 (cI7 (scL l k)) (0, 0) _ rfl (setRow_heap _ _ _ _ _ _ HC.out) Try.underlying107 rfl (by rw [cI_size7, scL_len]; exact info75)) rfl ⟨rfl, ?_⟩
      exact ⟨hbw.os, hbw.tape, hbw.output, by simpa using hbw.size, fun i hi => (setRow_other _ _ _ _ (by omega)).trans (hbw.block i hi)⟩

set_option maxHeartbeats 2000000 in
set_option maxRecDepth 20000 in
theorem bodies_any (p : Option Addr) (c : Nat) (l : List In) (w : World) (hr : Rd eIn w p c l) (n : Nat) (hN : l.length = n) (hl : n ≤ 24) (ha : l.all mayB = true) (a : Nat) (hal : a < n) :
    Calls Try.prog 62 #[.slice p n c, .int .i64 a] w fun e w' => e = .returned (.int .i64 (bodN l a 24 : Nat)) ∧ Below w.heap.size w w' := by
  have hsc := scope_any p c l w hr n hN hl ha a hal
  have HN : Hid (l.length = n) := hN
  clear hN
  have HS : Hid (∀ k (hk : k < 24), (cI7 (scL l a))[k]? = some (.int .i64 (if inA l k a then (k : Int) + 1 else 0))) := fun k hk => by
    rw [cI_get7 (by rw [scL_len]; exact hk), scL_get hk]
  generalize cI7 (scL l a) = S at *
  go_enter Try.func62, Try.ntmps62
  go_wp2_with (go_at_call 63; refine hsc.mono ?_; rintro e w4 ⟨rfl, hb4⟩)
  have hr4 := hr.below hb4
  clear hsc
  go_loopw [5, 11] (fun t i wr => ∃ k : Nat, k ≤ 24 ∧ i = .int .i64 k ∧ t = .int .i64 (bodN l a k : Nat) ∧ wr = w4) (fun _ i _ => 24 - (intOf i).toNat)
  case atStart => exact ⟨0, by omega, rfl, rfl, rfl⟩
  case round =>
    obtain ⟨k, hk, rfl, rfl, rfl⟩ := hrel
    have hbl : bodN l a k ≤ k := cntN_le _ _
    by_cases hlt : k < 24
    · have hS := HS.out k hlt
      by_cases hi : inA l k a = true
      · rw [if_pos hi] at hS
        have hka := (inA_iff.1 hi).1
        have hkl : k < l.length := by rw [HN.out]; omega
        obtain ⟨b, o, rfl, hb, f0, f1, f2, f3⟩ := hr4.inst k hkl
        have HG : Hid (gt l k = l[k]) := gt_eq hkl
        generalize l[k] = x at *
        obtain ⟨xo, xa, xb, xn⟩ := x
        simp only at f0 f1 f2 f3
        have e1 : decide ((0 : Int) < (k : Int) + 1) = true := decide_eq_true (by omega)
        have hX := index75 S k wr _ hlt hS
        have e2 : (k : Int) + 1 - 1 = (k : Int) := by omega
        by_cases h8 : xo = 8
        · subst h8
          have HC : Hid (bodN l a (k + 1) = bodN l a k + 1) := cntN_yes (by rw [HG.out, hi]; rfl)
          go_wp2
          go_roundw
          case rel => exact ⟨k + 1, by omega, by go_num, by rw [HC.out]; go_num, trivial⟩
          case measure => simp [intOf]; omega
        · have d8 : (xo == 8) = false := by simpa using h8
          have HC : Hid (bodN l a (k + 1) = bodN l a k) := cntN_no (by rw [HG.out, hi, d8]; rfl)
          go_wp2
          go_roundw
          case rel => exact ⟨k + 1, by omega, by go_num, by rw [HC.out], trivial⟩
          case measure => simp [intOf]; omega
      · rw [if_neg hi] at hS
        have hX := index75 S k wr _ hlt hS
        have HC : Hid (bodN l a (k + 1) = bodN l a k) := cntN_no (by rw [Bool.eq_false_iff.2 hi]; rfl)
        go_wp2
        go_roundw
        case rel => exact ⟨k + 1, by omega, by go_num, by rw [HC.out], trivial⟩
        case measure => simp [intOf]; omega
    · obtain rfl : k = 24 := by omega
      go_wp2
      go_ret
      exact ⟨rfl, hb4⟩

set_option maxHeartbeats 2000000 in
set_option maxRecDepth 20000 in
theorem isShallow_any (p : Option Addr) (c : Nat) (l : List In) (w : World) (hr : Rd eIn w p c l) (n : Nat) (hN : l.length = n) (hl : n ≤ 24) (ha : l.all mayB = true) :
    Calls Try.prog 52 #[.slice p n c] w fun e w' => e = .returned (.bool (shalB l)) ∧ Below w.heap.size w w' := by
  have HN : Hid (l.length = n) := hN
  clear hN
  go_enter Try.func52, Try.ntmps52
  go_wp2
  go_loopw [6] (fun i wr => ∃ k : Nat, k ≤ n ∧ i = .int .i64 k ∧ Hid (∀ j, j < k → decide (bodN l j 24 ≤ 2) = true) ∧ Below w.heap.size w wr) (fun i _ => n - (intOf i).toNat)
  case atStart => exact ⟨0, Nat.zero_le _, rfl, fun j hj => by omega, Below.refl _ _⟩
  case round =>
    obtain ⟨k, hk, rfl, HT, hbw⟩ := hrel
    by_cases hlt : k < n
    · have hkl : k < l.length := by rw [HN.out]; exact hlt
      have hbo := bodies_any p c l wr (hr.below hbw) n HN.out hl ha k hlt
      have hbl : bodN l k 24 ≤ 24 := cntN_le _ _
      obtain ⟨B, hB⟩ : ∃ B, bodN l k 24 = B := ⟨_, rfl⟩
      rw [hB] at hbo hbl
      have HB : Hid (bodN l k 24 = B) := hB
      clear hB
      by_cases hc : 2 < B
      · have d : decide ((2 : Int) < (B : Int)) = true := by simp; omega
        have HF : Hid (shalB l = false) := allN_no k hkl (by rw [HB.out]; exact decide_eq_false (by omega))
        go_wp2_with (go_at_call 62; refine hbo.mono ?_; rintro e w4 ⟨rfl, hb4⟩)
        go_ret
        exact ⟨by rw [HF.out]; rfl, bel_call hbw (Nat.le_refl _) hb4⟩
      · have d : decide ((2 : Int) < (B : Int)) = false := by simp; omega
        go_wp2_with (go_at_call 62; refine hbo.mono ?_; rintro e w4 ⟨rfl, hb4⟩)
        go_roundw
        case rel => exact ⟨k + 1, by omega, by go_num, fun j hj => (if e : j = k then by subst e; rw [HB.out]; exact decide_eq_true (by omega) else HT.out j (by omega)), bel_call hbw (Nat.le_refl _) hb4⟩
        case measure => simp [intOf]; omega
    · have HF : Hid (shalB l = true) := allN_iff.2 (fun i hi => HT.out i (by rw [HN.out] at hi; omega))
      go_wp2
      go_ret
      exact ⟨by rw [HF.out]; rfl, hbw⟩
end Go.Proofs.Ytonholadabebbaa

namespace Go.Proofs.Ytonholadabebbaa
open Go.ChangeShapes Go.WideShapes Go.ChangeAt Go.RowKit
attribute [local go_sem ↓] Go.wp_at_zero Go.wp_at_succ

theorem part3 {L : List Int} {i : Nat} (h : i < L.length) (w : World) : (part 3 (cI7 L) i).run Try.prog w = .ok (.int .i64 L[i]) w := by
  have a3 := Try.isAgg3
  have := cI_get7 h
  simp [part, a3, this]
theorem cells37 : Try.prog.cellsOf 3 = 1 := by kernel_rfl
theorem eqItems_run7 (d : Nat) (A B : List Int) (w : World) : ∀ is : List Nat, (∀ i ∈ is, i < A.length ∧ i < B.length) → (Op.eqItems (d + 1) 3 1 (cI7 A) (cI7 B) is).run Try.prog w = .ok (is.all fun i => A.getD i 0 == B.getD i 0) w
  | [], _ => by simp [Op.eqItems]
  | i :: is, h => by
    obtain ⟨h1, h2⟩ := h i (by simp)
    have ih := eqItems_run7 d A B w is (fun j hj => h j (by simp [hj]))
    have ha : A.getD i 0 = A[i] := getD_at7 h1
    have hb : B.getD i 0 = B[i] := getD_at7 h2
    simp only [Op.eqItems, Nat.mul_one, Sem.run_bind, part3 h1, part3 h2, Result.andThen_ok, run_equalIn_int w d 3 .i64 .i64 A[i] B[i] Try.underlying3, List.all_cons, ha, hb]
    cases hq : (A[i] == B[i])
    · simp
    · simpa using ih
theorem all_eq {A B : List Int} {n : Nat} (ha : A.length = n) (hb : B.length = n) : ((List.range n).all fun i => A.getD i 0 == B.getD i 0) = decide (A = B) := by
  rw [Bool.eq_iff_iff, List.all_eq_true, decide_eq_true_eq]
  constructor
  · intro h
    apply List.ext_getElem (by omega)
    intro i h1 h2
    have := h i (by simp; omega)
    rw [getD_at7 h1, getD_at7 h2] at this
    simpa using this
  · rintro rfl i _
    simp
theorem equal_arr (t : TypeId) (n : Nat) (hu : Try.prog.underlying t = some (.array n 3)) (A B : List Int) (ha : A.length = n) (hb : B.length = n) (d : Nat) (w : World) : (Op.equalIn (d + 2) t (.agg (cI7 A)) (.agg (cI7 B))).run Try.prog w = .ok (decide (A = B)) w := by
  obtain ⟨i, hi, h0, h1, h2⟩ := info_parts Try.info3
  rw [run_equalIn_array w (d + 1) _ _ hu hi, cells37, eqItems_run7 d A B w (List.range n) (fun i hi => by simp at hi; omega), all_eq ha hb]
theorem eqKey {A B : List Int} (ha : A.length = 25) (hb : B.length = 25) (w : World) : (Op.equal 113 (.agg (cI7 A)) (.agg (cI7 B))).run Try.prog w = .ok (decide (A = B)) w := equal_arr 113 25 Try.underlying113 A B ha hb 9998 w
theorem neq75 {A B : List Int} (ha : A.length = 24) (hb : B.length = 24) (w : World) : (binOp .neq 107 (.agg (cI7 A)) (.agg (cI7 B))).run Try.prog w = .ok (.bool (!decide (A = B))) w := by
  rw [run_neq_struct, equal_arr 107 24 Try.underlying107 A B ha hb 9998 w]
  rfl

theorem checkOne (e : Bool) (n : Nat) (a : Int) (w : World) : (Instr.checkKey e (n + 1) 3 (.int .i64 a)).run Try.prog w = .ok () w := by
  simp [Instr.checkKey, run_underlying Try.underlying3]
theorem checkArr (e : Bool) {A : List Int} (ha : A.length = 25) (w : World) : (Instr.checkKey e 10000 113 (.agg (cI7 A))).run Try.prog w = .ok () w := by
  have z3 := Try.sizeOf3
  rw [show (10000 : Nat) = 9998 + 1 + 1 from rfl]
  unfold Instr.checkKey
  simp only [Sem.run_bind, run_underlying Try.underlying113, Result.andThen_ok]
  simp only [Std.Legacy.Range.forIn_eq_forIn_range', Std.Legacy.Range.size, Nat.sub_zero, Nat.add_one_sub_one, Nat.div_one]
  have hl : ∀ i ∈ List.range' 0 25 1, i < A.length := fun i hi => by have := (List.mem_range'_1.1 hi).2; omega
  generalize List.range' 0 25 1 = is at hl ⊢
  induction is with
  | nil => simp
  | cons i is ih =>
    have := part3 (hl i (by simp)) w
    simp only [List.forIn_cons, Sem.run_bind, z3, Result.andThen_ok, Nat.mul_one, this, checkOne, Sem.run_pure]
    exact ih fun j hj => hl j (by simp [hj])

/-- an entry: its key, its value -/
abbrev En := List Int × Int
def lookE : List En → List Int → Option Int
  | [], _ => none
  | x :: r, k => if k = x.1 then some x.2 else lookE r k
def idxE : List En → List Int → Nat → Nat
  | [], _, i => i
  | x :: r, k, i => if k = x.1 then i else idxE r k (i + 1)
theorem lookE_none {k : List Int} : ∀ {m : List En}, (∀ x ∈ m, k ≠ x.1) → lookE m k = none
  | [], _ => rfl
  | x :: r, h => by simp [lookE, h x (by simp), lookE_none (m := r) (fun y hy => h y (by simp [hy]))]
theorem lookE_last {k : List Int} {v : Int} : ∀ {m : List En}, (∀ x ∈ m, k ≠ x.1) → lookE (m ++ [(k, v)]) k = some v
  | [], _ => by simp [lookE]
  | x :: r, h => by simp [lookE, h x (by simp), lookE_last (m := r) (fun y hy => h y (by simp [hy]))]
theorem idxE_last {k : List Int} {v : Int} : ∀ {m : List En} (i : Nat), (∀ x ∈ m, k ≠ x.1) → idxE (m ++ [(k, v)]) k i = i + m.length
  | [], i, _ => by simp [idxE]
  | x :: r, i, h => by simp [idxE, h x (by simp), idxE_last (m := r) (i + 1) (fun y hy => h y (by simp [hy]))]; omega

/-- The map at b has just these entries, in this order. -/
def IsMp (w : World) (b : Nat) (m : List En) : Prop := ∃ es clock, w.heap[b]? = some (.map es clock) ∧ (es.toList.map (fun e => (e.key, e.val)) = m.map fun x => (Value.agg (cI7 x.1), Value.int .i64 x.2)) ∧ ∀ x ∈ m, x.1.length = 25
theorem IsMp.of_block {w w' : World} {b : Nat} {m : List En} (h : IsMp w b m) (e : w'.heap[b]? = w.heap[b]?) : IsMp w' b m := by
  obtain ⟨es, clock, h1, h2⟩ := h
  exact ⟨es, clock, e.trans h1, h2⟩
theorem IsMp.lt {w : World} {b : Nat} {m : List En} (h : IsMp w b m) : b < w.heap.size := by
  obtain ⟨es, clock, h1, _⟩ := h
  exact (Array.getElem?_eq_some_iff.1 h1).1
theorem IsMp.below {w w' : World} {b : Nat} {m : List En} (h : IsMp w b m) (hb : Below w.heap.size w w') : IsMp w' b m := h.of_block (hb.block b h.lt)
theorem IsMp.made (w : World) : IsMp (w.alloc (.map #[] 0)) w.heap.size [] := ⟨#[], 0, heap_alloc_new w _, rfl, by simp⟩

theorem find_run {k : List Int} (hk : k.length = 25) (w : World) : ∀ (es : List MapEntry) (m : List En) (i : Nat), es.map (fun e => (e.key, e.val)) = m.map (fun x => (Value.agg (cI7 x.1), Value.int .i64 x.2)) → (∀ x ∈ m, x.1.length = 25) →
    (Instr.findAsking 113 (.agg (cI7 k)) es i).run Try.prog w = .ok ((lookE m k).map fun v => (idxE m k i, Value.int .i64 v)) w
  | [], [], i, _, _ => by simp [Instr.findAsking, lookE]
  | e :: es, x :: m, i, h, hm => by
    simp only [List.map_cons, List.cons.injEq, Prod.mk.injEq] at h
    obtain ⟨⟨h1, h2⟩, h3⟩ := h
    have ih := find_run hk w es m (i + 1) h3 (fun y hy => hm y (by simp [hy]))
    have he := eqKey hk (hm x (by simp)) w
    by_cases hx : k = x.1
    · rw [decide_eq_true hx] at he
      subst hx
      simp [Instr.findAsking, h1, h2, he, lookE, idxE]
    · rw [decide_eq_false hx] at he
      simp [Instr.findAsking, h1, he, lookE, idxE, hx]
      exact ih
  | [], x :: m, i, h, _ => by simp at h
  | e :: es, [], i, h, _ => by simp at h

theorem look_run {w : World} {b : Nat} {m : List En} (h : IsMp w b m) {k : List Int} (hk : k.length = 25) :
    (Instr.lookup 94 (.map (some b)) (.agg (cI7 k)) true).run Try.prog w = .ok (.tuple #[.int .i64 ((lookE m k).getD 0), .bool (lookE m k).isSome]) w := by
  obtain ⟨es, clock, h1, h2, h3⟩ := h
  have hr := find_run hk w es.toList m 0 h2 h3
  have hf : (Instr.findKey 113 (.agg (cI7 k)) es.toList).run Try.prog w = .ok ((lookE m k).map fun v => (idxE m k 0, Value.int .i64 v)) w := by rw [run_findKey_eq w (by kernel_rfl)]; exact hr
  have hg : (getObj b).run Try.prog w = .ok (.map es clock) w := by simp [getObj, Sem.run, h1]
  cases hl : lookE m k with
  | none =>
    rw [hl] at hf
    simp [Instr.lookup, run_underlying Try.underlying94, hg, checkArr _ hk, hf, Try.zeroValue3]
  | some y =>
    rw [hl] at hf
    simp [Instr.lookup, run_underlying Try.underlying94, hg, checkArr _ hk, hf]

theorem store_run {w : World} {b : Nat} {m : List En} (h : IsMp w b m) {k : List Int} (hk : k.length = 25) (v : Int) (hn : ∀ x ∈ m, k ≠ x.1) :
    ∃ w', (Instr.mapUpdate 94 (.map (some b)) (.agg (cI7 k)) (.int .i64 v)).run Try.prog w = .ok () w' ∧ IsMp w' b (m ++ [(k, v)]) ∧ Kp b w w' := by
  obtain ⟨es, clock, h1, h2, h3⟩ := h
  have hr := find_run hk w es.toList m 0 h2 h3
  rw [lookE_none hn] at hr
  have hf : (Instr.findKey 113 (.agg (cI7 k)) es.toList).run Try.prog w = .ok none w := by rw [run_findKey_eq w (by kernel_rfl)]; exact hr
  have hg : (getObj b).run Try.prog w = .ok (.map es clock) w := by simp [getObj, Sem.run, h1]
  refine ⟨{ w with heap := w.heap.setIfInBounds b (.map (es.push { key := .agg (cI7 k), val := .int .i64 v, born := clock }) (clock + 1)) }, ?_, ⟨_, _, (MapKept.heap_set h1).1, ?_, ?_⟩, ⟨rfl, rfl, rfl, by simp, fun j _ hj => ?_⟩⟩
  · simp [Instr.mapUpdate, run_underlying Try.underlying94, hg, checkArr _ hk, hf, MapKept.run_setObj_map _ h1]
  · simp [h2]
  · intro x hx
    rcases List.mem_append.1 hx with hx | hx
    · exact h3 x hx
    · simp at hx; subst hx; exact hk
  · exact (MapKept.heap_set h1).2 j (by intro e; exact hj (by rw [e]))

theorem del_run {w : World} {b : Nat} {m : List En} {k : List Int} {v : Int} (h : IsMp w b (m ++ [(k, v)])) (hn : ∀ x ∈ m, k ≠ x.1) (ty : TypeId) :
    ∃ w', (Builtin.delete_ #[94, 113] ty #[.map (some b), .agg (cI7 k)]).run Try.prog w = .ok (.tuple #[]) w' ∧ IsMp w' b m ∧ Kp b w w' := by
  obtain ⟨es, clock, h1, h2, h3⟩ := h
  have hk : k.length = 25 := h3 (k, v) (by simp)
  have hr := find_run hk w es.toList _ 0 h2 h3
  rw [lookE_last hn, idxE_last 0 hn] at hr
  have hf : (Instr.findKey 113 (.agg (cI7 k)) es.toList).run Try.prog w = .ok (some (0 + m.length, .int .i64 v)) w := by rw [run_findKey_eq w (by kernel_rfl)]; exact hr
  have hg : (getObj b).run Try.prog w = .ok (.map es clock) w := by simp [getObj, Sem.run, h1]
  refine ⟨{ w with heap := w.heap.setIfInBounds b (.map (es.eraseIdxIfInBounds (0 + m.length)) clock) }, ?_, ⟨_, _, (MapKept.heap_set h1).1, ?_, fun x hx => h3 x (by simp [hx])⟩, ⟨rfl, rfl, rfl, by simp, fun j _ hj => ?_⟩⟩
  · simp [Builtin.delete_, run_underlying Try.underlying94, hg, checkArr _ hk, hf, MapKept.run_setObj_map _ h1]
  · have hlen : es.size = m.length + 1 := by have := congrArg List.length h2; simpa using this
    have : (es.eraseIdxIfInBounds (0 + m.length)).toList = es.toList.take m.length := by
      rw [Array.toList_eraseIdxIfInBounds, Nat.zero_add, List.eraseIdx_eq_take_drop_succ]
      rw [List.drop_of_length_le (by simp; omega)]
      simp
    rw [this, List.map_take, h2]
    simp
  · exact (MapKept.heap_set h1).2 j (by intro e; exact hj (by rw [e]))

theorem step_put {ops : Array Oper} {o : Oper} {a : Act} {w : World} {K : Act → World → Prop} {Q : Exit → Act → World → Prop} {G : Prop} (hg : o.guard = none) (m x v : Operand) (hop : o.op = Op.mapUpdate 94 m x v) (b : Nat) (l : List En) (hm : a.eval m = .map (some b)) (h : IsMp w b l) (k : List Int) (hk : k.length = 25) (y : Int) (hx : a.eval x = .agg (cI7 k)) (hv : a.eval v = .int .i64 y)
    (hn : ∀ x ∈ l, k ≠ x.1) (hK : ∀ w', IsMp w' b (l ++ [(k, y)]) → Kp b w w' → K (a.put o.dst undef) w') :
    if Region.wanted o (yielded ops a.tmps) = true then Oper.wp Try.prog o a w K Q else G := by
  have hw : Region.wanted o (yielded ops a.tmps) = true := by simp [Region.wanted, hg]
  rw [if_pos hw]
  obtain ⟨w', hrun, r1, r2⟩ := store_run h hk y hn
  unfold Oper.wp
  simp [execOp, hop, hm, hx, hv, hrun, Result.andThen]
  exact hK w' r1 r2
theorem step_del {ops : Array Oper} {o : Oper} {a : Act} {w : World} {K : Act → World → Prop} {Q : Exit → Act → World → Prop} {G : Prop} (hg : o.guard = none) (m x : Operand) (hop : o.op = Op.call { callee := Callee.builtin Builtin.delete, args := #[m, x], argTypes := #[94, 113] }) (b : Nat) (l : List En) (hm : a.eval m = .map (some b)) (k : List Int) (v : Int) (h : IsMp w b (l ++ [(k, v)])) (hx : a.eval x = .agg (cI7 k))
    (hn : ∀ x ∈ l, k ≠ x.1) (hK : ∀ w', IsMp w' b l → Kp b w w' → K (a.put o.dst (.tuple #[])) w') :
    if Region.wanted o (yielded ops a.tmps) = true then Oper.wp Try.prog o a w K Q else G := by
  have hw : Region.wanted o (yielded ops a.tmps) = true := by simp [Region.wanted, hg]
  rw [if_pos hw]
  obtain ⟨w', hrun, r1, r2⟩ := del_run h hn o.type
  unfold Oper.wp
  simp [execOp, hop, resolve, invoke, builtin, hm, hx, hrun, Result.andThen]
  exact hK w' r1 r2
end Go.Proofs.Ytonholadabebbaa
