/-
  How far bodies and reaches go, whether they end within a row, whether each instruction may be.
-/
import Derived.Test.YteikdocpncdheaaElts
import Derived.Test.YteikdocpncdheaaShape
namespace Go.Proofs.Yteikdocpncdheaa
open Go.ChangeShapes Go.WideShapes Go.ChangeAt Go.RowKit
attribute [local go_sem ↓] Go.wp_at_zero Go.wp_at_succ

abbrev aIn (x : In) : Value := .agg #[.int .i64 x.1, .int .i64 x.2.1, .int .i64 x.2.2.1, .int .i64 x.2.2.2]
theorem bcell {W w1 : World} (hb : Below W.heap.size W w1) : (∀ b o, b < W.heap.size → w1.cell? ⟨b, o, none⟩ = W.cell? ⟨b, o, none⟩) ∧ (∀ b o, b < W.heap.size → w1.frozen? ⟨b, o, none⟩ = W.frozen? ⟨b, o, none⟩) :=
  ⟨fun b o h => hb.cell (p := ⟨b, o, none⟩) h, fun b o h => hb.frozen (p := ⟨b, o, none⟩) h⟩

theorem reach_any (o a b n : Int) (w : World) : Calls Try.prog 50 #[.agg #[.int .i64 o, .int .i64 a, .int .i64 b, .int .i64 n]] w fun e w' => e = .returned (.int .i64 (reachI (o, a, b, n))) ∧ Below w.heap.size w w' := by
  by_cases h8 : o = 8
  · subst h8
    have e : reachI (8, a, b, n) = b := rfl
    rw [e]
    go_enter Try.func50, Try.ntmps50
    go_wp2
    go_ret
    exact ⟨rfl, (Below.refl _ _).alloc (Nat.le_refl _) _⟩
  · have d8 : (o == 8) = false := by simpa using h8
    by_cases h7 : o = 7
    · subst h7
      have e : reachI (7, a, b, n) = n := rfl
      rw [e]
      clear d8 h8
      go_enter Try.func50, Try.ntmps50
      go_wp2
      go_ret
      exact ⟨rfl, (Below.refl _ _).alloc (Nat.le_refl _) _⟩
    · have d7 : (o == 7) = false := by simpa using h7
      have e : reachI (o, a, b, n) = 0 := by simp [reachI, h8, h7]
      rw [e]
      clear h8 h7
      go_enter Try.func50, Try.ntmps50
      go_wp2
      go_ret
      exact ⟨rfl, (Below.refl _ _).alloc (Nat.le_refl _) _⟩

set_option maxHeartbeats 2000000 in
theorem closed_any (p : Option Addr) (c : Nat) (l : List In) (w : World) (hr : Rd eIn w p c l) (n : Nat) (hN : l.length = n) (hl : n ≤ 1000) (ha : l.all mayB = true) :
    Calls Try.prog 49 #[.slice p n c] w fun e w' => e = .returned (.bool (closB l)) ∧ Below w.heap.size w w' := by
  have HN : Hid (l.length = n) := hN
  clear hN
  go_enter Try.func49, Try.ntmps49
  go_wp2
  go_loopw [7] (fun i wr => ∃ k : Nat, k ≤ n ∧ i = .int .i64 k ∧ Hid (∀ j, j < k → (j : Int) + reachI (gt l j) < l.length) ∧ Below w.heap.size w wr) (fun i _ => n - (intOf i).toNat)
  case atStart => exact ⟨0, Nat.zero_le _, rfl, fun j hj => by omega, Below.refl _ _⟩
  case round =>
    obtain ⟨k, hk, rfl, HT, hbw⟩ := hrel
    by_cases hlt : k < n
    · have hkl : k < l.length := by rw [HN.out]; exact hlt
      obtain ⟨b, o, rfl, hb, f0, f1, f2, f3⟩ := (hr.below hbw).inst k hkl
      have HG : Hid (gt l k = l[k]) := gt_eq hkl
      have hbd := reach_bd (all_get ha hkl)
      generalize l[k] = x at *
      obtain ⟨xo, xa, xb, xn⟩ := x
      simp only at f0 f1 f2 f3
      obtain ⟨R, hR⟩ : ∃ R, reachI (xo, xa, xb, xn) = R := ⟨_, rfl⟩
      rw [hR] at hbd
      obtain ⟨r0, r1⟩ := hbd
      have HR : Hid (reachI (xo, xa, xb, xn) = R) := hR
      clear hR
      by_cases hc : (k : Int) + R < n
      · have d : decide ((n : Int) ≤ (k : Int) + R) = false := by simp; omega
        go_wp2_with (go_at_call 50; refine (reach_any xo xa xb xn _).mono ?_; rw [HR.out]; rintro e w4 ⟨rfl, hb4⟩
                     have hB4 : Below wr.heap.size wr w4 := bel_call (by repeat (first | exact Below.refl _ _ | refine Below.alloc ?_ (by simp <;> omega) _ | refine Below.setCell ?_ (by simp <;> omega) _)) (Nat.le_refl _) hb4)
        go_roundw
        case rel => exact ⟨k + 1, by omega, by go_num, fun j hj => (if e : j = k then by subst e; rw [HG.out, HR.out, HN.out]; exact hc else HT.out j (by omega)), bel_call hbw (Nat.le_refl _) hB4⟩
        case measure => simp [intOf]; omega
      · have d : decide ((n : Int) ≤ (k : Int) + R) = true := by simp; omega
        have HF : Hid (closB l = false) := allN_no k hkl (by rw [HG.out, HR.out, HN.out]; exact decide_eq_false hc)
        go_wp2_with (go_at_call 50; refine (reach_any xo xa xb xn _).mono ?_; rw [HR.out]; rintro e w4 ⟨rfl, hb4⟩
                     have hB4 : Below wr.heap.size wr w4 := bel_call (by repeat (first | exact Below.refl _ _ | refine Below.alloc ?_ (by simp <;> omega) _ | refine Below.setCell ?_ (by simp <;> omega) _)) (Nat.le_refl _) hb4)
        go_ret
        exact ⟨by rw [HF.out]; rfl, bel_call hbw (Nat.le_refl _) hB4⟩
    · have HF : Hid (closB l = true) := allN_iff.2 (fun i hi => decide_eq_true (HT.out i (by rw [HN.out] at hi; omega)))
      go_wp2
      go_ret
      exact ⟨by rw [HF.out]; rfl, hbw⟩

theorem row_no {l : List In} (k : Nat) (hk : k < l.length) (h : (mayB (gt l k) && (((gt l k).1 == 0) == decide (k + 1 = l.length))) = false) : rowB l = false := by
  unfold rowB
  rw [allN_no k hk h]
  simp
theorem row_out {l : List In} (h : l.length < 1 ∨ 24 < l.length) : rowB l = false := by
  unfold rowB
  rcases h with h | h
  · have : decide (1 ≤ l.length) = false := decide_eq_false (by omega)
    rw [this]; rfl
  · have : decide (l.length ≤ 24) = false := by simp; omega
    simp [this]
theorem row_iff {l : List In} : rowB l = true ↔ 1 ≤ l.length ∧ l.length ≤ 24 ∧ ∀ i, i < l.length → mayB (gt l i) = true ∧ ((gt l i).1 = 0 ↔ i + 1 = l.length) := by
  unfold rowB
  simp only [Bool.and_eq_true, decide_eq_true_eq, allN_iff, Bool.beq_eq_decide_eq, and_assoc]
  refine and_congr Iff.rfl (and_congr Iff.rfl (forall_congr' fun i => forall_congr' fun _ => and_congr Iff.rfl ?_))
  rw [Bool.eq_iff_iff]
  simp
theorem row_all {l : List In} (h : rowB l = true) : l.all mayB = true := by
  rw [List.all_eq_true]
  intro x hx
  obtain ⟨i, hi, rfl⟩ := List.mem_iff_getElem.1 hx
  have := ((row_iff.1 h).2.2 i hi).1
  rwa [gt_eq hi] at this

set_option maxHeartbeats 2000000 in
theorem isRow_any (p : Option Addr) (c : Nat) (l : List In) (w : World) (hr : Rd eIn w p c l) (n : Nat) (hN : l.length = n) (hl : n ≤ 1000) :
    Calls Try.prog 35 #[.slice p n c] w fun e w' => e = .returned (.bool (rowB l)) ∧ Below w.heap.size w w' := by
  have HN : Hid (l.length = n) := hN
  clear hN
  by_cases h0 : n = 0
  · subst h0
    rw [row_out (by rw [HN.out]; omega)]
    go_enter Try.func35, Try.ntmps35
    go_wp2
    go_ret
    exact ⟨rfl, Below.refl _ _⟩
  by_cases h24 : 24 < n
  · rw [row_out (by rw [HN.out]; omega)]
    have d0 : ((n : Int) == 0) = false := by simp; omega
    have d1 : decide ((24 : Int) < (n : Int)) = true := by simp; omega
    go_enter Try.func35, Try.ntmps35
    go_wp2
    go_ret
    exact ⟨rfl, Below.refl _ _⟩
  have d0 : ((n : Int) == 0) = false := by simp; omega
  have d1 : decide ((24 : Int) < (n : Int)) = false := by simp; omega
  go_enter Try.func35, Try.ntmps35
  go_wp2
  go_loopw [15] (fun i wr => ∃ k : Nat, k ≤ n ∧ i = .int .i64 k ∧ Hid (∀ j, j < k → (mayB (gt l j) && (((gt l j).1 == 0) == decide (j + 1 = l.length))) = true) ∧ Below w.heap.size w wr) (fun i _ => n - (intOf i).toNat)
  case atStart => exact ⟨0, Nat.zero_le _, rfl, fun j hj => by omega, Below.refl _ _⟩
  case round =>
    obtain ⟨k, hk, rfl, HT, hbw⟩ := hrel
    by_cases hlt : k < n
    · have hkl : k < l.length := by rw [HN.out]; exact hlt
      obtain ⟨b, o, rfl, hb, f0, f1, f2, f3⟩ := (hr.below hbw).inst k hkl
      have HG : Hid (gt l k = l[k]) := gt_eq hkl
      generalize l[k] = x at *
      obtain ⟨xo, xa, xb, xn⟩ := x
      simp only at f0 f1 f2 f3
      by_cases hm : mayB (xo, xa, xb, xn) = true
      · by_cases ho : xo = 0
        · subst ho
          by_cases he : k + 1 = n
          · have de : ((k : Int) == (n : Int) - 1) = true := by simp; omega
            go_wp2_with (go_at_call 48; refine (may_any (0, xa, xb, xn) _).mono ?_; rintro e w4 ⟨rfl, hb4⟩; obtain ⟨hc4, hf4⟩ := bcell hb4; have hz4 := hb4.size; simp at hz4
                         have hB4 : Below wr.heap.size wr w4 := bel_call (by repeat (first | exact Below.refl _ _ | refine Below.alloc ?_ (by simp <;> omega) _ | refine Below.setCell ?_ (by simp <;> omega) _)) (Nat.le_refl _) hb4)
            go_roundw
            case rel => exact ⟨k + 1, by omega, by go_num, fun j hj => (if e : j = k then by subst e; rw [HG.out, HN.out, hm, he]; simp else HT.out j (by omega)), bel_call hbw (Nat.le_refl _) hB4⟩
            case measure => simp [intOf]; omega
          · have de : ((k : Int) == (n : Int) - 1) = false := by simp; omega
            have HF : Hid (rowB l = false) := row_no k hkl (by rw [HG.out, HN.out]; simp [he])
            go_wp2_with (go_at_call 48; refine (may_any (0, xa, xb, xn) _).mono ?_; rintro e w4 ⟨rfl, hb4⟩; obtain ⟨hc4, hf4⟩ := bcell hb4; have hz4 := hb4.size; simp at hz4
                         have hB4 : Below wr.heap.size wr w4 := bel_call (by repeat (first | exact Below.refl _ _ | refine Below.alloc ?_ (by simp <;> omega) _ | refine Below.setCell ?_ (by simp <;> omega) _)) (Nat.le_refl _) hb4)
            go_ret
            exact ⟨by rw [HF.out]; rfl, bel_call hbw (Nat.le_refl _) hB4⟩
        · have d0 : (xo == 0) = false := by simpa using ho
          by_cases he : k + 1 = n
          · have de : ((k : Int) == (n : Int) - 1) = true := by simp; omega
            have HF : Hid (rowB l = false) := row_no k hkl (by rw [HG.out, HN.out]; simp [he, ho])
            go_wp2_with (go_at_call 48; refine (may_any (xo, xa, xb, xn) _).mono ?_; rintro e w4 ⟨rfl, hb4⟩; obtain ⟨hc4, hf4⟩ := bcell hb4; have hz4 := hb4.size; simp at hz4
                         have hB4 : Below wr.heap.size wr w4 := bel_call (by repeat (first | exact Below.refl _ _ | refine Below.alloc ?_ (by simp <;> omega) _ | refine Below.setCell ?_ (by simp <;> omega) _)) (Nat.le_refl _) hb4)
            go_ret
            exact ⟨by rw [HF.out]; rfl, bel_call hbw (Nat.le_refl _) hB4⟩
          · have de : ((k : Int) == (n : Int) - 1) = false := by simp; omega
            go_wp2_with (go_at_call 48; refine (may_any (xo, xa, xb, xn) _).mono ?_; rintro e w4 ⟨rfl, hb4⟩; obtain ⟨hc4, hf4⟩ := bcell hb4; have hz4 := hb4.size; simp at hz4
                         have hB4 : Below wr.heap.size wr w4 := bel_call (by repeat (first | exact Below.refl _ _ | refine Below.alloc ?_ (by simp <;> omega) _ | refine Below.setCell ?_ (by simp <;> omega) _)) (Nat.le_refl _) hb4)
            go_roundw
            case rel => exact ⟨k + 1, by omega, by go_num, fun j hj => (if e : j = k then by subst e; rw [HG.out, HN.out, hm]; simp [he, ho] else HT.out j (by omega)), bel_call hbw (Nat.le_refl _) hB4⟩
            case measure => simp [intOf]; omega
      · have hm' : mayB (xo, xa, xb, xn) = false := by simpa using hm
        have HF : Hid (rowB l = false) := row_no k hkl (by rw [HG.out, hm']; rfl)
        go_wp2_with (go_at_call 48; refine (may_any (xo, xa, xb, xn) _).mono ?_; rintro e w4 ⟨rfl, hb4⟩
                     have hB4 : Below wr.heap.size wr w4 := bel_call (by repeat (first | exact Below.refl _ _ | refine Below.alloc ?_ (by simp <;> omega) _ | refine Below.setCell ?_ (by simp <;> omega) _)) (Nat.le_refl _) hb4)
        go_ret
        exact ⟨by rw [HF.out]; rfl, bel_call hbw (Nat.le_refl _) hB4⟩
    · have HF : Hid (rowB l = true) := by
        show _ = _
        unfold rowB
        rw [allN_iff.2 (fun i hi => HT.out i (by rw [HN.out] at hi; omega)), HN.out]
        simp
        omega
      go_wp2
      go_ret
      exact ⟨by rw [HF.out]; rfl, hbw⟩
end Go.Proofs.Yteikdocpncdheaa
