/-
  What an instruction is in, as an array; how many bodies there are around it.
-/
import Derived.Test.YteikdocpncdheaaNest
import Derived.Deep.WholeRow
namespace Go.Proofs.Yteikdocpncdheaa
open Go.ChangeShapes Go.WideShapes Go.ChangeAt Go.RowKit
attribute [local go_sem ↓] Go.wp_at_zero Go.wp_at_succ

/-- numbers as cells -/
def cI (l : List Int) : Array Value := (l.map (Value.int .i64)).toArray
theorem cI_size (l : List Int) : (cI l).size = l.length := by simp [cI]
theorem cI_set (l : List Int) (k : Nat) (v : Int) : (cI l).setIfInBounds k (.int .i64 v) = cI (l.set k v) := by simp [cI, List.map_set]
theorem cI_get {l : List Int} {k : Nat} (h : k < l.length) : (cI l)[k]? = some (.int .i64 l[k]) := by simp [cI, List.getElem?_eq_getElem h]
theorem cI_one (l : List Int) : (cI l).all (·.oneCell') = true := by
  rw [Array.all_eq_true_iff_forall_mem]
  intro v hv
  simp [cI] at hv
  obtain ⟨x, _, rfl⟩ := hv
  rfl
theorem index75 (S : Array Value) (k : Nat) (w : World) (v : Int) (hk : k < 24) (h : S[k]? = some (.int .i64 v)) : (Instr.index 94 (.agg S) (.int .i64 (k : Int))).run Try.prog w = .ok (.int .i64 v) w := by
  have hi : (Try.prog.info? 3).map (·.size) = some 1 := by kernel_rfl
  have h1 : (sizeOf 3).run Try.prog w = .ok 1 w := by
    cases hq : Try.prog.info? 3 with
    | none => simp [hq] at hi
    | some i => simp [hq] at hi; simp [sizeOf, typeInfo, hq, hi]
  simp [Instr.index, asIntOf, Sem.run_bind, run_underlying Try.underlying94 w, h1, part, h]
  omega
theorem info75 : (Try.prog.info? 94).map (·.size) = some 24 := by kernel_rfl

set_option maxHeartbeats 2000000 in
set_option maxRecDepth 20000 in
theorem scope_any (p : Option Addr) (c : Nat) (l : List In) (w : World) (hr : Rd eIn w p c l) (n : Nat) (hN : l.length = n) (hl : n ≤ 24) (ha : l.all mayB = true) (a : Nat) (hal : a < n) :
    Calls Try.prog 52 #[.slice p n c, .int .i64 a] w fun e w' => e = .returned (.agg (cI (scL l a))) ∧ Below w.heap.size w w' := by
  have HN : Hid (l.length = n) := hN
  clear hN
  have d0 : decide ((a : Int) - 24 < 0) = true := by simp; omega
  have d1 : decide ((0 : Int) < (a : Int) - 24) = false := by simp; omega
  go_enter Try.func52, Try.ntmps52
  go_wp2
  go_loopw [6] (fun i wr => ∃ k : Nat, k ≤ a ∧ i = .int .i64 k ∧ Hid (wr.heap[w.heap.size + 1]? = some (.cells (cI (scA l a k)) 94 (0, 0))) ∧ Hid (wr.heap[w.heap.size]? = some (.cells (cI (List.replicate 24 0)) 94 (0, 0))) ∧ Below w.heap.size w wr) (fun i _ => a - (intOf i).toNat)
  case atStart => exact ⟨0, Nat.zero_le _, rfl, by show _ = _; rw [scA_zero]; exact heap_alloc2_new _ _ _, heap_alloc2_old _ _ _, (by repeat (first | exact Below.refl _ _ | refine Below.alloc ?_ (by simp <;> omega) _ | refine Below.setCell ?_ (by simp <;> omega) _))⟩
  case round =>
    obtain ⟨k, hk, rfl, HB, HC, hbw⟩ := hrel
    by_cases hlt : k < a
    · have hkl : k < l.length := by rw [HN.out]; omega
      obtain ⟨b, o, rfl, hb, f0, f1, f2, f3⟩ := (hr.below hbw).inst k hkl
      have HG : Hid (gt l k = l[k]) := gt_eq hkl
      have hmy := all_get ha hkl
      have hbd := reach_bd hmy
      have hrc := rch_eq hmy
      generalize l[k] = x at *
      obtain ⟨xo, xa, xb, xn⟩ := x
      simp only at f0 f1 f2 f3
      obtain ⟨R, hR⟩ : ∃ R, rch (xo, xa, xb, xn) = R := ⟨_, rfl⟩
      rw [← hrc, hR] at hbd
      rw [hR] at hrc
      have HR : Hid (reachI (xo, xa, xb, xn) = R) := hrc.symm
      have HR2 : Hid (rch (xo, xa, xb, xn) = R) := hR
      clear hR hrc hmy
      have hm24 : (k : Int) % 24 = k := by omega
      have hfr : wr.frozen? ⟨w.heap.size + 1, k, none⟩ = false := frozen_of_row _ _ _ _ _ HB.out
      have hce : wr.cell? ⟨w.heap.size + 1, k, none⟩ = some (.int .i64 ((scA l a k)[k]'(by rw [scA_len]; omega))) := by rw [cell_of_row _ _ _ _ _ _ HB.out]; exact cI_get _
      have hsz : w.heap.size + 1 < wr.heap.size := lt_of_cell hce
      by_cases hc : (a : Int) - k ≤ R
      · have d : decide ((a : Int) - (k : Int) ≤ (R : Int)) = true := by simpa using hc
        have HI : Hid (inA l k a = true) := inA_iff.2 ⟨hlt, by rw [HG.out, HR2.out]; omega⟩
        go_wp2_with (go_at_call 50; refine (reach_any xo xa xb xn _).mono ?_; rw [HR.out]; rintro e w4 ⟨rfl, hb4⟩
                     obtain ⟨hc4, hf4⟩ := bcell hb4; have hz4 := hb4.size
                     have HB4 := (hb4.block _ hsz).trans HB.out; have HC4 := (hb4.block _ (show w.heap.size < wr.heap.size by omega)).trans HC.out)
        go_roundw
        case rel => exact ⟨k + 1, by omega, by go_num, by show _ = _; rw [scA_yes HI.out, ← cI_set]; exact heap_setCell_same _ _ _ _ _ _ HB4, by show _ = _; rw [heap_setCell_other _ _ _ _ (by simp)]; exact HC4, (bel_call hbw (Nat.le_refl _) hb4).setCell (by simp) _⟩
        case measure => simp [intOf]; omega
      · have d : decide ((a : Int) - (k : Int) ≤ (R : Int)) = false := by simpa using hc
        have HI : Hid (inA l k a = false) := inA_no.2 (by rw [HG.out, HR2.out]; omega)
        go_wp2_with (go_at_call 50; refine (reach_any xo xa xb xn _).mono ?_; rw [HR.out]; rintro e w4 ⟨rfl, hb4⟩
                     obtain ⟨hc4, hf4⟩ := bcell hb4; have hz4 := hb4.size
                     have HB4 := (hb4.block _ hsz).trans HB.out; have HC4 := (hb4.block _ (show w.heap.size < wr.heap.size by omega)).trans HC.out)
        go_roundw
        case rel => exact ⟨k + 1, by omega, by go_num, by show _ = _; rw [scA_no HI.out]; exact HB4, HC4, bel_call hbw (Nat.le_refl _) hb4⟩
        case measure => simp [intOf]; omega
    · obtain rfl : k = a := by omega
      go_wp2_with (first
        | (refine wpList_load_row rfl 94 _ rfl (w.heap.size + 1) rfl 94 (cI (scA l k k)) (0, 0) _ HB.out Try.underlying94 rfl (by rw [cI_size, scA_len]; exact info75) ?_)
        | (refine wpList_store_row rfl 94 _ _ rfl (w.heap.size) (cI (scA l k k)) rfl rfl 94 (cI (List.replicate 24 0)) HC.out (by rw [cI_size, scA_len]; exact info75) (by rw [cI_size, cI_size, scA_len]; rfl) (cI_one _) ?_))
      refine bodyPost_ret (v := .agg (cI (scL l k))) (results_cell_row (fn := Try.f52) Try.results52 _ _ w.heap.size 94 (cI (scL l k)) (0, 0) _ rfl (setRow_heap _ _ _ _ _ _ HC.out) Try.underlying94 rfl (by rw [cI_size, scL_len]; exact info75)) rfl ⟨rfl, ?_⟩
      exact ⟨hbw.os, hbw.tape, hbw.output, by simpa using hbw.size, fun i hi => (setRow_other _ _ _ _ (by omega)).trans (hbw.block i hi)⟩

set_option maxHeartbeats 2000000 in
set_option maxRecDepth 20000 in
theorem bodies_any (p : Option Addr) (c : Nat) (l : List In) (w : World) (hr : Rd eIn w p c l) (n : Nat) (hN : l.length = n) (hl : n ≤ 24) (ha : l.all mayB = true) (a : Nat) (hal : a < n) :
    Calls Try.prog 51 #[.slice p n c, .int .i64 a] w fun e w' => e = .returned (.int .i64 (bodN l a 24 : Nat)) ∧ Below w.heap.size w w' := by
  have hsc := scope_any p c l w hr n hN hl ha a hal
  have HN : Hid (l.length = n) := hN
  clear hN
  have HS : Hid (∀ k (hk : k < 24), (cI (scL l a))[k]? = some (.int .i64 (if inA l k a then (k : Int) + 1 else 0))) := fun k hk => by
    rw [cI_get (by rw [scL_len]; exact hk), scL_get hk]
  generalize cI (scL l a) = S at *
  go_enter Try.func51, Try.ntmps51
  go_wp2_with (go_at_call 52; refine hsc.mono ?_; rintro e w4 ⟨rfl, hb4⟩)
  have hr4 := hr.below hb4
  clear hsc
  go_loopw [5, 11] (fun t i wr => ∃ k : Nat, k ≤ 24 ∧ i = .int .i64 k ∧ t = .int .i64 (bodN l a k : Nat) ∧ wr = w4) (fun _ i _ => 24 - (intOf i).toNat)
  case atStart => exact ⟨0, by omega, rfl, rfl, rfl⟩
  case round =>
    obtain ⟨k, hk, rfl, rfl, rfl⟩ := hrel
    have hbl : bodN l a k ≤ k := cntN_le _ _
    by_cases hlt : k < 24
    · have hS := HS.out k hlt
      by_cases hi : inA l k a = true
      · rw [if_pos hi] at hS
        have hka := (inA_iff.1 hi).1
        have hkl : k < l.length := by rw [HN.out]; omega
        obtain ⟨b, o, rfl, hb, f0, f1, f2, f3⟩ := hr4.inst k hkl
        have HG : Hid (gt l k = l[k]) := gt_eq hkl
        generalize l[k] = x at *
        obtain ⟨xo, xa, xb, xn⟩ := x
        simp only at f0 f1 f2 f3
        have e1 : decide ((0 : Int) < (k : Int) + 1) = true := decide_eq_true (by omega)
        have hX := index75 S k wr _ hlt hS
        have e2 : (k : Int) + 1 - 1 = (k : Int) := by omega
        by_cases h8 : xo = 8
        · subst h8
          have HC : Hid (bodN l a (k + 1) = bodN l a k + 1) := cntN_yes (by rw [HG.out, hi]; rfl)
          go_wp2
          go_roundw
          case rel => exact ⟨k + 1, by omega, by go_num, by rw [HC.out]; go_num, trivial⟩
          case measure => simp [intOf]; omega
        · have d8 : (xo == 8) = false := by simpa using h8
          have HC : Hid (bodN l a (k + 1) = bodN l a k) := cntN_no (by rw [HG.out, hi, d8]; rfl)
          go_wp2
          go_roundw
          case rel => exact ⟨k + 1, by omega, by go_num, by rw [HC.out], trivial⟩
          case measure => simp [intOf]; omega
      · rw [if_neg hi] at hS
        have hX := index75 S k wr _ hlt hS
        have HC : Hid (bodN l a (k + 1) = bodN l a k) := cntN_no (by rw [Bool.eq_false_iff.2 hi]; rfl)
        go_wp2
        go_roundw
        case rel => exact ⟨k + 1, by omega, by go_num, by rw [HC.out], trivial⟩
        case measure => simp [intOf]; omega
    · obtain rfl : k = 24 := by omega
      go_wp2
      go_ret
      exact ⟨rfl, hb4⟩

set_option maxHeartbeats 2000000 in
set_option maxRecDepth 20000 in
theorem isShallow_any (p : Option Addr) (c : Nat) (l : List In) (w : World) (hr : Rd eIn w p c l) (n : Nat) (hN : l.length = n) (hl : n ≤ 24) (ha : l.all mayB = true) :
    Calls Try.prog 37 #[.slice p n c] w fun e w' => e = .returned (.bool (shalB l)) ∧ Below w.heap.size w w' := by
  have HN : Hid (l.length = n) := hN
  clear hN
  go_enter Try.func37, Try.ntmps37
  go_wp2
  go_loopw [6] (fun i wr => ∃ k : Nat, k ≤ n ∧ i = .int .i64 k ∧ Hid (∀ j, j < k → decide (bodN l j 24 ≤ 2) = true) ∧ Below w.heap.size w wr) (fun i _ => n - (intOf i).toNat)
  case atStart => exact ⟨0, Nat.zero_le _, rfl, fun j hj => by omega, Below.refl _ _⟩
  case round =>
    obtain ⟨k, hk, rfl, HT, hbw⟩ := hrel
    by_cases hlt : k < n
    · have hkl : k < l.length := by rw [HN.out]; exact hlt
      have hbo := bodies_any p c l wr (hr.below hbw) n HN.out hl ha k hlt
      have hbl : bodN l k 24 ≤ 24 := cntN_le _ _
      obtain ⟨B, hB⟩ : ∃ B, bodN l k 24 = B := ⟨_, rfl⟩
      rw [hB] at hbo hbl
      have HB : Hid (bodN l k 24 = B) := hB
      clear hB
      by_cases hc : 2 < B
      · have d : decide ((2 : Int) < (B : Int)) = true := by simp; omega
        have HF : Hid (shalB l = false) := allN_no k hkl (by rw [HB.out]; exact decide_eq_false (by omega))
        go_wp2_with (go_at_call 51; refine hbo.mono ?_; rintro e w4 ⟨rfl, hb4⟩)
        go_ret
        exact ⟨by rw [HF.out]; rfl, bel_call hbw (Nat.le_refl _) hb4⟩
      · have d : decide ((2 : Int) < (B : Int)) = false := by simp; omega
        go_wp2_with (go_at_call 51; refine hbo.mono ?_; rintro e w4 ⟨rfl, hb4⟩)
        go_roundw
        case rel => exact ⟨k + 1, by omega, by go_num, fun j hj => (if e : j = k then by subst e; rw [HB.out]; exact decide_eq_true (by omega) else HT.out j (by omega)), bel_call hbw (Nat.le_refl _) hb4⟩
        case measure => simp [intOf]; omega
    · have HF : Hid (shalB l = true) := allN_iff.2 (fun i hi => HT.out i (by rw [HN.out] at hi; omega))
      go_wp2
      go_ret
      exact ⟨by rw [HF.out]; rfl, hbw⟩
end Go.Proofs.Yteikdocpncdheaa
