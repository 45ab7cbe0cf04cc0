/-
  A step of a machine: End.
-/
import Derived.Test.YtonholadabebbaaStepl
import Derived.WalkSpells
namespace Go.Proofs.Ytonholadabebbaa
open Go.ChangeShapes Go.WideShapes Go.ChangeAt Go.RowKit
attribute [local go_sem ↓] Go.wp_at_zero Go.wp_at_succ

set_option maxRecDepth 100000 in
set_option maxHeartbeats 8000000 in
theorem step_end (p : Option Addr) (c : Nat) (l : List In) (w : World) (hr : Rd eIn w p c l) (n : Nat) (hN : l.length = n) (hn : n ≤ 1000) (pc : Nat) (hpc : pc < n) (mem : List Int) (hm : mem.length = 8) (q : Option Addr) (d k : Nat) (R : List Rp) (hR : Rd eRp w q d R) (hk : R.length = k) (hk3 : k ≤ 1000) (hRb : ∀ r ∈ R, -9223372036854775808 ≤ r.2.2 ∧ r.2.2 ≤ 9223372036854775807) (hmy : mayB (gt l pc) = true) (hx : (gt l pc).1 = 0) :
    Calls Try.prog 25 #[.slice p n c, .agg (mcell pc mem q k d false)] w fun e w' => StepTold pc mem R (gt l pc) w e w' := by
  rw [gt_eq (by omega)] at hx hmy ⊢
  have hpl : pc < l.length := by omega
  obtain ⟨b, o, rfl, hb, f0, f1, f2, f3⟩ := hr.inst pc hpl
  have HG : Hid (gt l pc = l[pc]) := gt_eq hpl
  generalize l[pc] = x at *
  obtain ⟨xo, xa, xb, xn⟩ := x
  simp only at f0 f1 f2 f3 hx
  have HK : Hid (R.length = k) := hk
  have HM : Hid (mem.length = 8) := hm
  have q0 := mcell_0 (pc : Int) mem q k d false
  have q9 := mcell_9 (pc := (pc : Int)) (q := q) (k := k) (d := d) (ov := false) hm
  have q10 := mcell_10 (pc := (pc : Int)) (q := q) (k := k) (d := d) (ov := false) hm
  have z0 : (0 : Int) ≤ (pc : Int) := by omega
  have z1 : (pc : Int) < (n : Int) := by omega
  have z2 : decide ((pc : Int) < 0) = false := decide_eq_false (by omega)
  have z3 : decide ((n : Int) ≤ (pc : Int)) = false := decide_eq_false (by omega)
  have z4 : decide (n ≤ pc) = false := decide_eq_false (by omega)
  clear hk hm hN hpl
  have hbd := may_bd hmy
  simp only at hbd
  have e0 : (xo == 0) = true := by simp [hx]
  have HRb : Hid (∀ r ∈ R, -9223372036854775808 ≤ r.2.2 ∧ r.2.2 ≤ 9223372036854775807) := hRb
  have HFIN : Hid (∀ pcF RF, normR (pc : Int) (R).reverse = (pcF, RF.reverse) → StepX pc mem R (xo, xa, xb, xn) pcF mem RF true) := fun pcF RF h => sx_end hx h
  clear hx hRb
  clear hbd
  go_enter Try.func25, Try.ntmps25
  go_wp2_with (first
    | (at_builtin; refine wpList_app tRp _ rfl _ _ rfl (w.heap.size + 3) _ _ [] 0 rfl rfl (own_blockg (by simp) (by omega) rfl 0 rfl (by decide)) q d R k HK.out rfl (hR.below ((by repeat (first | exact Below.refl _ _ | refine Below.alloc ?_ (by simp <;> omega) _ | refine Below.setCell ?_ (by simp <;> omega) _)) : Below w.heap.size w _)) (by omega) (by simp) k (by omega) ?_; intro p5 c5 w5 o5 b5 st5
       obtain ⟨H3, H4, H5, hz5, B5⟩ := four b5
       have M5 : Mc w5 w.heap.size (pc : Int) mem q k d false := ⟨H3, HM.out⟩
       have c0 := M5.c0
       have c9 := M5.c9
       have c10 := M5.c10
       have fr5 := M5.fr
       have hbz5 : b < w5.heap.size := by omega
       have g0 := (B5.cell (p := ⟨b, o + pc * 4, none⟩) hb).trans f0
       have g1 := (B5.cell (p := ⟨b, o + pc * 4 + 1, none⟩) hb).trans f1
       have g2 := (B5.cell (p := ⟨b, o + pc * 4 + 2, none⟩) hb).trans f2
       have g3 := (B5.cell (p := ⟨b, o + pc * 4 + 3, none⟩) hb).trans f3
       have hbw : ¬ b = w.heap.size := by omega)
    | (go_at_call 35; refine (mayInst_any (xo, xa, xb, xn) _).mono ?_; rw [hmy]; rintro e w6 ⟨rfl, b6⟩
       obtain ⟨M6, H46, H56, B6, hz6, o6⟩ := six M5 H4 H5 B5 hz5 o5 b6
       have S6 : St w w.heap.size w6 (pc : Int) mem p5 k c5 false R (w.heap.size + 4) := ⟨M6, ⟨_, rfl, H46⟩, ⟨_, rfl, H56⟩, B6, ⟨Nat.le_refl _, hz6⟩, o6⟩
       have c60 := M6.c0
       have c69 := M6.c9
       have c610 := M6.c10
       have fr6 := M6.fr
       have hbz6 : b < w6.heap.size := by omega
       have hw6 : w.heap.size < w6.heap.size := by omega
       have hw6n : ¬ w.heap.size = w6.heap.size := by omega
       have hw7n : ¬ w6.heap.size = w.heap.size := by omega
       have h0 := (B6.cell (p := ⟨b, o + pc * 4, none⟩) hb).trans f0
       have h1 := (B6.cell (p := ⟨b, o + pc * 4 + 1, none⟩) hb).trans f1
       have h2 := (B6.cell (p := ⟨b, o + pc * 4 + 2, none⟩) hb).trans f2
       have h3 := (B6.cell (p := ⟨b, o + pc * 4 + 3, none⟩) hb).trans f3
       clear c0 c9 c10 fr5 g0 g1 g2 g3 M5 B5 H3 H4 H5 o5 b6 b5 st5 hz5 hbz5))
  have hk1 : k ≤ 1001 := by omega
  have HKl := HK
  obtain ⟨Sl, H7⟩ : St w w.heap.size (((w6.setCell ⟨w.heap.size, 10, none⟩ (.bool true)).setCell ⟨w.heap.size, 0, none⟩ (.int .i64 (pc : Int))).alloc (.cells #[.int .i64 xo, .int .i64 xa, .int .i64 xb, .int .i64 xn] 42)) (pc : Int) (mem) p5 k c5 true (R) (w6.heap.size + 1) ∧ Hid ((((w6.setCell ⟨w.heap.size, 10, none⟩ (.bool true)).setCell ⟨w.heap.size, 0, none⟩ (.int .i64 (pc : Int))).alloc (.cells #[.int .i64 xo, .int .i64 xa, .int .i64 xb, .int .i64 xn] 42)).heap[w6.heap.size]? = some (.cells #[.int .i64 xo, .int .i64 xa, .int .i64 xb, .int .i64 xn] 42)) := ((S6.s10 true).s0 (pc : Int)).al (by simp) _
  generalize (((w6.setCell ⟨w.heap.size, 10, none⟩ (.bool true)).setCell ⟨w.heap.size, 0, none⟩ (.int .i64 (pc : Int))).alloc (.cells #[.int .i64 xo, .int .i64 xa, .int .i64 xb, .int .i64 xn] 42)) = wl at Sl H7 ⊢
  clear S6 M6 H46 H56 B6 hz6 o6 c60 c69 c610 fr6 hbz6 hw6 hw6n hw7n h0 h1 h2 h3 f0 f1 f2 f3 hr hR q0 q9 q10 z0 z1 z2 z3 z4 hmy HM hpc hn
  generalize w6.heap.size = r7 at Sl H7 ⊢
  generalize hr3 : w.heap.size = r3 at Sl ⊢
  have HR3 : Hid (w.heap.size = r3) := hr3
  clear hr3
  go_loopw [9] (fun t wr => ∃ (pcI : Int) (qI : Option Addr) (dI kI : Nat) (RI : List Rp), St w r3 wr pcI mem qI kI dI true RI (r7 + 1) ∧ Hid (RI.length = kI) ∧ kI ≤ 1001 ∧ Hid (∀ r ∈ RI, -9223372036854775808 ≤ r.2.2 ∧ r.2.2 ≤ 9223372036854775807) ∧ Hid (normR pcI RI.reverse = normR (pc : Int) (R).reverse) ∧ Hid (wr.heap[r7]? = some (.cells #[.int .i64 xo, .int .i64 xa, .int .i64 xb, .int .i64 xn] 42))) (fun _ wr => slen (wr.cell? ⟨r3, 9, none⟩))
  case atStart => exact ⟨_, _, _, _, _, Sl, HKl, hk1, HRb, rfl, H7⟩
  case round =>
    obtain ⟨pcI, qI, dI, kI, RI, Si, HKi, hki, HRi, HNi, H7i⟩ := hrel
    clear Sl HKl hk1 HRb H7
    have i0 := Si.M.c0
    have i9 := Si.M.c9
    have ifr := Si.M.fr
    have hr3z := Si.M.lt
    have hzz := Si.z
    have hr3n : ¬ r3 = wr.heap.size := by omega
    have hr3m : ¬ wr.heap.size = r3 := by omega
    rcases lastR RI with rfl | ⟨RI1, ⟨A, B, C⟩, rfl⟩
    · obtain rfl : kI = 0 := by rw [← HKi.out]; rfl
      have HNX : Hid (normR (pc : Int) (R).reverse = (pcI, ([] : List Rp).reverse)) := by show _ = _; rw [← HNi.out]; rfl
      go_wp2
      go_quiet (fail)
      go_wp2
      obtain ⟨u4, n4, g4⟩ := Si.h4
      obtain ⟨u5, n5, g5⟩ := Si.h5
      have t3 := Si.M.at_
      have SD := (Si.grow ((bel_draws (Below.refl _ _) nq).drew))
      refine wp_region_held_drew (S := fun w' => w'.heap[r3]? = wr.heap[r3]? ∧ w'.heap[r7]? = wr.heap[r7]?) (by kernel_rfl) ⟨rfl, rfl⟩ (fun hHeld => ?_)
      refine wpAnyH_take (i := 0) (oi := _) (v := .agg (mcell _ _ _ _ _ _)) rfl (by kernel_rfl) (by kernel_rfl) (by kernel_rfl) (fun _ _ _ h => h) (Or.inl ⟨by rfl, fun w' hSw => load_yields 63 (.tmp 3) rfl r3 rfl (run_loadVar_row w' r3 63 63 _ (0, 0) _ (hSw.1.trans t3) Try.underlying63 rfl (by rw [mcell_size Si.M.len]; exact info38))⟩) hHeld ?_
      try simp only [Act.put, List.getElem_toArray, List.getElem_cons_zero, List.setIfInBounds_toArray, List.set_cons_zero, List.set_cons_succ]
      refine wpAnyH_take (i := 1) (oi := _) (v := .agg #[.int .i64 xo, .int .i64 xa, .int .i64 xb, .int .i64 xn]) rfl (by kernel_rfl) (by kernel_rfl) (by kernel_rfl) (fun _ _ _ h => h) (Or.inl ⟨by rfl, fun w' hSw => load_yields 42 (.tmp 7) rfl r7 rfl (run_loadVar_row w' r7 42 42 _ (0, 0) _ (hSw.2.trans H7i.out) Try.underlying42 rfl info41)⟩) hHeld ?_
      try simp only [Act.put, List.getElem_toArray, List.getElem_cons_succ, List.getElem_cons_zero, List.setIfInBounds_toArray, List.set_cons_zero, List.set_cons_succ]
      refine wpAnyH_ready (rs := [2]) (by kernel_rfl) (by simp) ?_
      refine AllReadyH.cons (o := _) rfl (fun K hK => ?_) AllReadyH.nil
      refine step_store_row rfl 63 (.tmp 4) (.tmp 223) rfl (r3 + 1) (mcell _ _ _ _ _ _) rfl rfl 63 _ (show wr.heap[r3 + 1]? = _ from g4) (by rw [mcell_size Si.M.len]; exact info38) (by rw [mcell_size Si.M.len]; exact n4) (mcell_one _ _ _ _ _ _) ?_
      refine hK.out _ _ ⟨setRow_other _ _ _ _ (by omega), setRow_other _ _ _ _ (by omega)⟩ (fun hHeld => ?_)
      clear hK K
      simp only [Act.put, List.getElem_toArray, List.getElem_cons_succ, List.getElem_cons_zero]
      refine wpAnyH_ready (rs := [3]) (by kernel_rfl) (by simp) ?_
      refine AllReadyH.cons (o := _) rfl (fun K hK => ?_) AllReadyH.nil
      refine step_store_row rfl 42 (.tmp 5) (.tmp 224) rfl (r3 + 1 + 1) #[.int .i64 xo, .int .i64 xa, .int .i64 xb, .int .i64 xn] rfl rfl 42 _ ((setRow_other _ _ _ _ (by omega)).trans (show wr.heap[r3 + 1 + 1]? = _ from g5)) info41 n5 (ins_one _ _ _ _) ?_
      refine hK.out _ _ ⟨(setRow_other _ _ _ _ (by omega)).trans (setRow_other _ _ _ _ (by omega)), (setRow_other _ _ _ _ (by omega)).trans (setRow_other _ _ _ _ (by omega))⟩ (fun hHeld => ?_)
      clear hK K
      simp only [Act.put, List.getElem_toArray, List.getElem_cons_succ, List.getElem_cons_zero]
      refine wpAnyH_take (i := 4) (oi := _) (v := ?_) rfl (by kernel_rfl) (by kernel_rfl) (by kernel_rfl) (fun _ _ _ h => h) (Or.inl ⟨by rfl, ?_⟩) hHeld ?_
      rotate_left
      · intro w' hSw
        (go_simp <;> with_reducible rfl)
      try simp only [Act.put, List.getElem_toArray, List.getElem_cons_succ, List.getElem_cons_zero, List.setIfInBounds_toArray, List.set_cons_zero, List.set_cons_succ]
      refine wpAnyH_done (by kernel_rfl) ?_ _
      go_wp2
      refine bodyPost_ret (v := .tuple #[.agg (mcell _ _ _ _ _ _), .agg #[.int .i64 xo, .int .i64 xa, .int .i64 xb, .int .i64 xn], .bool true]) (res17 rfl rfl rfl ((setRow_other _ _ _ _ (by omega)).trans (setRow_heap _ _ _ _ _ _ (show wr.heap[r3 + 1]? = _ from g4))) Si.M.len (setRow_heap _ _ _ _ _ _ ((setRow_other _ _ _ _ (by omega)).trans (show wr.heap[r3 + 1 + 1]? = _ from g5)))) rfl ?_
      exact ⟨⟨pcI, mem, _, _, _, [], _, rfl, Si.M.len, HKi.out, by rw [HR3.out]; exact (SD.fin _ _).1, HFIN.out _ _ HNX.out⟩, by rw [HR3.out]; exact (SD.fin _ _).2⟩
    · obtain ⟨m1, hm1⟩ : ∃ m1, RI1.length = m1 := ⟨_, rfl⟩
      have HMM : Hid (kI = m1 + 1) := by show _ = _; rw [← HKi.out, List.length_append, hm1]; rfl
      have HM1 : Hid (RI1.length = m1) := hm1
      clear hm1
      have hm0 := HMM.out
      have y0 : decide ((0 : Int) < (kI : Int)) = true := by simp; omega
      have y0' : decide (0 < kI) = true := by simp; omega
      have y1 : (kI : Int) - 1 = (m1 : Int) := by omega
      have y2 : (0 : Int) ≤ (m1 : Int) := by omega
      have y3 : (m1 : Int) < (kI : Int) := by omega
      have hcap := own_cap Si.o
      rw [HKi.out] at hcap
      have y4 : (m1 : Int) ≤ (dI : Int) := by omega
      have y5 : m1 ≤ dI := by omega
      obtain ⟨C0, C1⟩ := HRi.out (A, B, C) (by simp)
      simp only at C0 C1
      obtain ⟨bq, oq, rfl, hbq, a0, a1, a2⟩ := (own_rd Si.o).rep m1 (by rw [HKi.out]; omega)
      have hx : (RI1 ++ [(A, B, C)])[m1]'(by rw [HKi.out]; omega) = (A, B, C) := by
        rw [List.getElem_append_right (by rw [HM1.out]; exact Nat.le_refl _)]
        simp [HM1.out]
      rw [hx] at a0 a1 a2
      simp only at a0 a1 a2
      have oT : Own eRp wr (r3 + 3) 79 (some ⟨bq, oq, none⟩) dI RI1 := by
        have h := own_takeE Si.o (by rw [HKi.out]; omega) m1 (by rw [HKi.out]; omega)
        rwa [List.take_left' HM1.out] at h
      clear hx hm0 hcap
      have HI9 : Hid (wr.cell? ⟨r3, 9, none⟩ = some (.slice (some ⟨bq, oq, none⟩) kI dI)) := i9
      by_cases hB : B < pcI
      · have y6 : decide (B < pcI) = true := by simpa using hB
        by_cases hC : 0 < C
        · have y7 : decide (0 < C) = true := by simpa using hC
          go_wp2
          go_quiet (fail)
          have Sq : St w r3 (wr.drewN nq) pcI mem (some ⟨bq, oq, none⟩) kI dI true (RI1 ++ [(A, B, C)]) (r7 + 1) := Si.grow (bel_draws (Below.refl _ _) _)
          have oS : Own eRp (wr.drewN nq) (r3 + 3) 79 (some ⟨bq, oq, none⟩) dI RI1 := own_below oT (bel_draws (Below.refl _ _) _)
          have b0 : (wr.drewN nq).cell? ⟨bq, oq + m1 * 3, none⟩ = some (.int .i64 A) := a0
          have b1 : (wr.drewN nq).cell? ⟨bq, oq + m1 * 3 + 1, none⟩ = some (.int .i64 B) := a1
          have b2 : (wr.drewN nq).cell? ⟨bq, oq + m1 * 3 + 2, none⟩ = some (.int .i64 C) := a2
          have H7q : Hid ((wr.drewN nq).heap[r7]? = some (.cells #[.int .i64 xo, .int .i64 xa, .int .i64 xb, .int .i64 xn] 42)) := H7i
          have hbz : bq < (wr.drewN nq).heap.size := hbq
          clear Si oT a0 a1 a2 H7i hbq i0 i9 ifr hr3z hzz hr3n hr3m
          generalize wr.drewN nq = wq at *
          have i0 := Sq.M.c0
          have i9 := Sq.M.c9
          have ifr := Sq.M.fr
          have hr3z := Sq.M.lt
          have hzz := Sq.z
          have hr3n : ¬ r3 = wq.heap.size := by omega
          have hr3m : ¬ wq.heap.size = r3 := by omega
          have hr7q : r7 < wq.heap.size := by omega
          have hr7r : r3 + 3 ≤ r7 := by omega
          have HNX : Hid (normR (pc : Int) (R).reverse = (A, (RI1 ++ [(A, B, C - 1)]).reverse)) := by
            show _ = _
            rw [← HNi.out, List.reverse_append, List.reverse_append]
            show normR pcI ((A, B, C) :: RI1.reverse) = _
            unfold normR
            rw [if_pos hB, if_pos hC]
            rfl
          have HKX : Hid ((RI1 ++ [(A, B, C - 1)]).length = m1 + 1) := by show _ = _; rw [List.length_append, HM1.out]; rfl
          go_wp2_with (first
            | (at_builtin; go_must (refine wpList_app tRp _ rfl _ _ rfl (r3 + 3) _ _ RI1 m1 HM1.out rfl (by repeat (first | exact oS | refine own_al ?_ _ | refine own_lowE ?_ (by simp) _)) _ 1 [(A, B, C - 1)] 1 rfl rfl (rd_rp (heap_at (by simp))) (by omega) (by simp <;> omega) (m1 + 1) rfl ?_); intro p7 c7 w7 o7 b7 st7
               go_must (obtain ⟨M7, j0, hz7, S7, H77⟩ := back (j := m1 + 1) Sq H7q.out hr7q hr7r oS hbz b7 st7 o7)
               have k9 := M7.c9
               have k0 := M7.c0
               have kfr := M7.fr
               have k3z := M7.lt))
          have SX := S7.s0 A
          have H7x : Hid (((w7.setCell ⟨r3, 9, none⟩ (.slice p7 (m1 + 1) c7)).setCell ⟨r3, 0, none⟩ (.int .i64 A)).heap[r7]? = some (.cells #[.int .i64 xo, .int .i64 xa, .int .i64 xb, .int .i64 xn] 42)) := (heap_setCell_other _ _ _ _ (by simp <;> omega)).trans ((heap_setCell_other _ _ _ _ (by simp <;> omega)).trans H77)
          clear S7 Sq oS H77 M7 k9 k0 kfr k3z j0 o7 b7 st7 b0 b1 b2 H7q i0 i9 ifr
          generalize (w7.setCell ⟨r3, 9, none⟩ (.slice p7 (m1 + 1) c7)).setCell ⟨r3, 0, none⟩ (.int .i64 A) = wx at SX H7x ⊢
          obtain ⟨u4, n4, g4⟩ := SX.h4
          obtain ⟨u5, n5, g5⟩ := SX.h5
          have t3 := SX.M.at_
          have SD := (SX.grow ((Below.refl _ _).drew))
          refine wp_region_held_drew (S := fun w' => w'.heap[r3]? = wx.heap[r3]? ∧ w'.heap[r7]? = wx.heap[r7]?) (by kernel_rfl) ⟨rfl, rfl⟩ (fun hHeld => ?_)
          refine wpAnyH_take (i := 0) (oi := _) (v := .agg (mcell _ _ _ _ _ _)) rfl (by kernel_rfl) (by kernel_rfl) (by kernel_rfl) (fun _ _ _ h => h) (Or.inl ⟨by rfl, fun w' hSw => load_yields 63 (.tmp 3) rfl r3 rfl (run_loadVar_row w' r3 63 63 _ (0, 0) _ (hSw.1.trans t3) Try.underlying63 rfl (by rw [mcell_size SX.M.len]; exact info38))⟩) hHeld ?_
          try simp only [Act.put, List.getElem_toArray, List.getElem_cons_zero, List.setIfInBounds_toArray, List.set_cons_zero, List.set_cons_succ]
          refine wpAnyH_take (i := 1) (oi := _) (v := .agg #[.int .i64 xo, .int .i64 xa, .int .i64 xb, .int .i64 xn]) rfl (by kernel_rfl) (by kernel_rfl) (by kernel_rfl) (fun _ _ _ h => h) (Or.inl ⟨by rfl, fun w' hSw => load_yields 42 (.tmp 7) rfl r7 rfl (run_loadVar_row w' r7 42 42 _ (0, 0) _ (hSw.2.trans H7x.out) Try.underlying42 rfl info41)⟩) hHeld ?_
          try simp only [Act.put, List.getElem_toArray, List.getElem_cons_succ, List.getElem_cons_zero, List.setIfInBounds_toArray, List.set_cons_zero, List.set_cons_succ]
          refine wpAnyH_ready (rs := [2]) (by kernel_rfl) (by simp) ?_
          refine AllReadyH.cons (o := _) rfl (fun K hK => ?_) AllReadyH.nil
          refine step_store_row rfl 63 (.tmp 4) (.tmp 223) rfl (r3 + 1) (mcell _ _ _ _ _ _) rfl rfl 63 _ (show wx.heap[r3 + 1]? = _ from g4) (by rw [mcell_size SX.M.len]; exact info38) (by rw [mcell_size SX.M.len]; exact n4) (mcell_one _ _ _ _ _ _) ?_
          refine hK.out _ _ ⟨setRow_other _ _ _ _ (by omega), setRow_other _ _ _ _ (by omega)⟩ (fun hHeld => ?_)
          clear hK K
          simp only [Act.put, List.getElem_toArray, List.getElem_cons_succ, List.getElem_cons_zero]
          refine wpAnyH_ready (rs := [3]) (by kernel_rfl) (by simp) ?_
          refine AllReadyH.cons (o := _) rfl (fun K hK => ?_) AllReadyH.nil
          refine step_store_row rfl 42 (.tmp 5) (.tmp 224) rfl (r3 + 1 + 1) #[.int .i64 xo, .int .i64 xa, .int .i64 xb, .int .i64 xn] rfl rfl 42 _ ((setRow_other _ _ _ _ (by omega)).trans (show wx.heap[r3 + 1 + 1]? = _ from g5)) info41 n5 (ins_one _ _ _ _) ?_
          refine hK.out _ _ ⟨(setRow_other _ _ _ _ (by omega)).trans (setRow_other _ _ _ _ (by omega)), (setRow_other _ _ _ _ (by omega)).trans (setRow_other _ _ _ _ (by omega))⟩ (fun hHeld => ?_)
          clear hK K
          simp only [Act.put, List.getElem_toArray, List.getElem_cons_succ, List.getElem_cons_zero]
          refine wpAnyH_take (i := 4) (oi := _) (v := ?_) rfl (by kernel_rfl) (by kernel_rfl) (by kernel_rfl) (fun _ _ _ h => h) (Or.inl ⟨by rfl, ?_⟩) hHeld ?_
          rotate_left
          · intro w' hSw
            (go_simp <;> with_reducible rfl)
          try simp only [Act.put, List.getElem_toArray, List.getElem_cons_succ, List.getElem_cons_zero, List.setIfInBounds_toArray, List.set_cons_zero, List.set_cons_succ]
          refine wpAnyH_done (by kernel_rfl) ?_ _
          go_wp2
          refine bodyPost_ret (v := .tuple #[.agg (mcell _ _ _ _ _ _), .agg #[.int .i64 xo, .int .i64 xa, .int .i64 xb, .int .i64 xn], .bool true]) (res17 rfl rfl rfl ((setRow_other _ _ _ _ (by omega)).trans (setRow_heap _ _ _ _ _ _ (show wx.heap[r3 + 1]? = _ from g4))) SX.M.len (setRow_heap _ _ _ _ _ _ ((setRow_other _ _ _ _ (by omega)).trans (show wx.heap[r3 + 1 + 1]? = _ from g5)))) rfl ?_
          exact ⟨⟨A, mem, _, _, _, (RI1 ++ [(A, B, C - 1)]), _, rfl, SX.M.len, HKX.out, by rw [HR3.out]; exact (SD.fin _ _).1, HFIN.out _ _ HNX.out⟩, by rw [HR3.out]; exact (SD.fin _ _).2⟩
        · have y7 : decide (0 < C) = false := by simpa using hC
          have HN' : Hid (normR pcI RI1.reverse = normR (pc : Int) (R).reverse) := by
            show _ = _
            rw [← HNi.out, List.reverse_append]
            exact (normR_drop hB hC).symm
          go_wp2
          go_quiet (fail)
          have Sq : St w r3 (wr.drewN nq) pcI mem (some ⟨bq, oq, none⟩) kI dI true (RI1 ++ [(A, B, C)]) (r7 + 1) := Si.grow (bel_draws (Below.refl _ _) _)
          have oS : Own eRp (wr.drewN nq) (r3 + 3) 79 (some ⟨bq, oq, none⟩) dI RI1 := own_below oT (bel_draws (Below.refl _ _) _)
          have b0 : (wr.drewN nq).cell? ⟨bq, oq + m1 * 3, none⟩ = some (.int .i64 A) := a0
          have b1 : (wr.drewN nq).cell? ⟨bq, oq + m1 * 3 + 1, none⟩ = some (.int .i64 B) := a1
          have b2 : (wr.drewN nq).cell? ⟨bq, oq + m1 * 3 + 2, none⟩ = some (.int .i64 C) := a2
          have H7q : Hid ((wr.drewN nq).heap[r7]? = some (.cells #[.int .i64 xo, .int .i64 xa, .int .i64 xb, .int .i64 xn] 42)) := H7i
          have hbz : bq < (wr.drewN nq).heap.size := hbq
          clear Si oT a0 a1 a2 H7i hbq i0 i9 ifr hr3z hzz hr3n hr3m
          generalize wr.drewN nq = wq at *
          have i0 := Sq.M.c0
          have i9 := Sq.M.c9
          have ifr := Sq.M.fr
          have hr3z := Sq.M.lt
          have hzz := Sq.z
          have hr3n : ¬ r3 = wq.heap.size := by omega
          have hr3m : ¬ wq.heap.size = r3 := by omega
          go_wp2_with (fail)
          have SE := (Sq.s9 (k' := m1) oS).grow ((by repeat (first | exact Below.refl _ _ | refine Below.alloc ?_ (by simp <;> omega) _ | refine Below.setCell ?_ (by simp <;> omega) _)) : Below _ _ ((wq.setCell ⟨r3, 9, none⟩ (.slice (some ⟨bq, oq, none⟩) m1 dI)).alloc (.cells #[.int .i64 A, .int .i64 B, .int .i64 C] 79)))
          refine ⟨⟨_, _, _, _, RI1, SE, HM1.out, by omega, fun r hr => HRi.out r (by simp [hr]), HN'.out, ?_⟩, ?_⟩
          · exact (Below.heap_alloc _ _ _ (by simp <;> omega)).trans ((heap_setCell_other _ _ _ _ (by simp <;> omega)).trans H7q.out)
          · rw [SE.M.c9, HI9.out]
            have := HMM.out
            show m1 < kI
            omega
      · have y6 : decide (B < pcI) = false := by simpa using hB
        have HNX : Hid (normR (pc : Int) (R).reverse = (pcI, (RI1 ++ [(A, B, C)]).reverse)) := by
          show _ = _
          rw [← HNi.out, List.reverse_append]
          show normR pcI ((A, B, C) :: RI1.reverse) = _
          unfold normR
          rw [if_neg hB]
          rfl
        go_wp2
        go_quiet (fail)
        go_wp2
        obtain ⟨u4, n4, g4⟩ := Si.h4
        obtain ⟨u5, n5, g5⟩ := Si.h5
        have t3 := Si.M.at_
        have SD := (Si.grow ((bel_draws (Below.refl _ _) nq).drew))
        refine wp_region_held_drew (S := fun w' => w'.heap[r3]? = wr.heap[r3]? ∧ w'.heap[r7]? = wr.heap[r7]?) (by kernel_rfl) ⟨rfl, rfl⟩ (fun hHeld => ?_)
        refine wpAnyH_take (i := 0) (oi := _) (v := .agg (mcell _ _ _ _ _ _)) rfl (by kernel_rfl) (by kernel_rfl) (by kernel_rfl) (fun _ _ _ h => h) (Or.inl ⟨by rfl, fun w' hSw => load_yields 63 (.tmp 3) rfl r3 rfl (run_loadVar_row w' r3 63 63 _ (0, 0) _ (hSw.1.trans t3) Try.underlying63 rfl (by rw [mcell_size Si.M.len]; exact info38))⟩) hHeld ?_
        try simp only [Act.put, List.getElem_toArray, List.getElem_cons_zero, List.setIfInBounds_toArray, List.set_cons_zero, List.set_cons_succ]
        refine wpAnyH_take (i := 1) (oi := _) (v := .agg #[.int .i64 xo, .int .i64 xa, .int .i64 xb, .int .i64 xn]) rfl (by kernel_rfl) (by kernel_rfl) (by kernel_rfl) (fun _ _ _ h => h) (Or.inl ⟨by rfl, fun w' hSw => load_yields 42 (.tmp 7) rfl r7 rfl (run_loadVar_row w' r7 42 42 _ (0, 0) _ (hSw.2.trans H7i.out) Try.underlying42 rfl info41)⟩) hHeld ?_
        try simp only [Act.put, List.getElem_toArray, List.getElem_cons_succ, List.getElem_cons_zero, List.setIfInBounds_toArray, List.set_cons_zero, List.set_cons_succ]
        refine wpAnyH_ready (rs := [2]) (by kernel_rfl) (by simp) ?_
        refine AllReadyH.cons (o := _) rfl (fun K hK => ?_) AllReadyH.nil
        refine step_store_row rfl 63 (.tmp 4) (.tmp 223) rfl (r3 + 1) (mcell _ _ _ _ _ _) rfl rfl 63 _ (show wr.heap[r3 + 1]? = _ from g4) (by rw [mcell_size Si.M.len]; exact info38) (by rw [mcell_size Si.M.len]; exact n4) (mcell_one _ _ _ _ _ _) ?_
        refine hK.out _ _ ⟨setRow_other _ _ _ _ (by omega), setRow_other _ _ _ _ (by omega)⟩ (fun hHeld => ?_)
        clear hK K
        simp only [Act.put, List.getElem_toArray, List.getElem_cons_succ, List.getElem_cons_zero]
        refine wpAnyH_ready (rs := [3]) (by kernel_rfl) (by simp) ?_
        refine AllReadyH.cons (o := _) rfl (fun K hK => ?_) AllReadyH.nil
        refine step_store_row rfl 42 (.tmp 5) (.tmp 224) rfl (r3 + 1 + 1) #[.int .i64 xo, .int .i64 xa, .int .i64 xb, .int .i64 xn] rfl rfl 42 _ ((setRow_other _ _ _ _ (by omega)).trans (show wr.heap[r3 + 1 + 1]? = _ from g5)) info41 n5 (ins_one _ _ _ _) ?_
        refine hK.out _ _ ⟨(setRow_other _ _ _ _ (by omega)).trans (setRow_other _ _ _ _ (by omega)), (setRow_other _ _ _ _ (by omega)).trans (setRow_other _ _ _ _ (by omega))⟩ (fun hHeld => ?_)
        clear hK K
        simp only [Act.put, List.getElem_toArray, List.getElem_cons_succ, List.getElem_cons_zero]
        refine wpAnyH_take (i := 4) (oi := _) (v := ?_) rfl (by kernel_rfl) (by kernel_rfl) (by kernel_rfl) (fun _ _ _ h => h) (Or.inl ⟨by rfl, ?_⟩) hHeld ?_
        rotate_left
        · intro w' hSw
          (go_simp <;> with_reducible rfl)
        try simp only [Act.put, List.getElem_toArray, List.getElem_cons_succ, List.getElem_cons_zero, List.setIfInBounds_toArray, List.set_cons_zero, List.set_cons_succ]
        refine wpAnyH_done (by kernel_rfl) ?_ _
        go_wp2
        refine bodyPost_ret (v := .tuple #[.agg (mcell _ _ _ _ _ _), .agg #[.int .i64 xo, .int .i64 xa, .int .i64 xb, .int .i64 xn], .bool true]) (res17 rfl rfl rfl ((setRow_other _ _ _ _ (by omega)).trans (setRow_heap _ _ _ _ _ _ (show wr.heap[r3 + 1]? = _ from g4))) Si.M.len (setRow_heap _ _ _ _ _ _ ((setRow_other _ _ _ _ (by omega)).trans (show wr.heap[r3 + 1 + 1]? = _ from g5)))) rfl ?_
        exact ⟨⟨pcI, mem, _, _, _, (RI1 ++ [(A, B, C)]), _, rfl, Si.M.len, HKi.out, by rw [HR3.out]; exact (SD.fin _ _).1, HFIN.out _ _ HNX.out⟩, by rw [HR3.out]; exact (SD.fin _ _).2⟩
end Go.Proofs.Ytonholadabebbaa
