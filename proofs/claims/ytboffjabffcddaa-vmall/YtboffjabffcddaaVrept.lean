/-
  What is repeated is looked at, by the program: the walk.
-/
import Derived.Test.YtboffjabffcddaaVrepl
namespace Go.Proofs.Ytboffjabffcddaa
open Go.ChangeShapes Go.WideShapes Go.ChangeAt Go.RowKit
attribute [local go_sem ↓] Go.wp_at_zero Go.wp_at_succ

set_option maxRecDepth 100000 in
set_option maxHeartbeats 8000000 in
theorem repeated_any (pc : Int) (mem : List Int) (hm : mem.length = 8) (q : Option Addr) (k d : Nat) (ov : Bool) (w : World) (base : Nat) (hbz : base ≤ w.heap.size) (R : List Rp) (hk : R.length = k) (hk3 : k ≤ 1001) (hRb : ∀ r ∈ R, -9223372036854775808 ≤ r.2.2 ∧ r.2.2 ≤ 9223372036854775807) (oR : Own eRp w base 73 q d R) :
    Calls Try.prog 38 #[.agg (mcell pc mem q k d ov)] w fun e w' => (∃ (pcF : Int) (kF : Nat) (RF : List Rp), e = .returned (.agg (mcell pcF mem q kF d ov)) ∧ RF.length = kF ∧ Own eRp w' base 73 q d RF ∧ normR pc R.reverse = (pcF, RF.reverse)) ∧ Below base w w' ∧ Stays w w' q := by
  have HM : Hid (mem.length = 8) := hm
  have HK : Hid (R.length = k) := hk
  have q9 := mcell_9 (pc := pc) (q := q) (k := k) (d := d) (ov := ov) hm
  have HRb : Hid (∀ r ∈ R, -9223372036854775808 ≤ r.2.2 ∧ r.2.2 ≤ 9223372036854775807) := hRb
  clear hRb hk hm
  go_enter Try.func38, Try.ntmps38
  go_wp2
  have S0 : Rw w base w.heap.size ((w.alloc (.cells (mcell pc mem q k d ov) 47)).alloc (.cells #[.int .i64 0, .int .i64 0, .int .i64 0, .int .i64 0, .int .i64 0, .int .i64 0, .int .i64 0, .int .i64 0, .int .i64 0, .slice none 0 0, .bool false] 47)) pc mem q k d ov R :=
    ⟨⟨(Below.heap_alloc _ _ _ (by simp)).trans (heap_at rfl), HM.out⟩, ⟨_, rfl, heap_at (by simp)⟩, own_al (own_al oR _) _, ((by repeat (first | exact Below.refl _ _ | refine Below.alloc ?_ (by simp <;> omega) _ | refine Below.setCell ?_ (by simp <;> omega) _)) : Below w.heap.size w _).mono hbz, stays_of_below (by repeat (first | exact Below.refl _ _ | refine Below.alloc ?_ (by simp <;> omega) _ | refine Below.setCell ?_ (by simp <;> omega) _)), Nat.le_refl _, hbz⟩
  generalize ((w.alloc (.cells (mcell pc mem q k d ov) 47)).alloc (.cells #[.int .i64 0, .int .i64 0, .int .i64 0, .int .i64 0, .int .i64 0, .int .i64 0, .int .i64 0, .int .i64 0, .int .i64 0, .slice none 0 0, .bool false] 47)) = wl at S0 ⊢
  generalize w.heap.size = r1 at S0 ⊢
  clear oR q9 hbz
  go_loopw [3] (fun t wr => ∃ (kI : Nat) (RI : List Rp), t = .int .i64 ((kI : Int) - 1) ∧ Rw w base r1 wr pc mem q kI d ov RI ∧ Hid (RI.length = kI) ∧ kI ≤ 1001 ∧ Hid (∀ r ∈ RI, -9223372036854775808 ≤ r.2.2 ∧ r.2.2 ≤ 9223372036854775807) ∧ Hid (normR pc RI.reverse = normR pc R.reverse)) (fun t _ => (intOf t + 1).toNat)
  case atStart => exact ⟨k, R, rfl, S0, HK, hk3, HRb, rfl⟩
  case round =>
    obtain ⟨kI, RI, rfl, Si, HKi, hki, HRi, HNi⟩ := hrel
    clear S0 HK hk3 HRb
    have i0 := Si.M.c0
    have i9 := Si.M.c9
    have ifr := Si.M.fr
    have hr1z := Si.M.lt
    rcases lastR RI with rfl | ⟨RI1, ⟨A, B, C⟩, rfl⟩
    · obtain rfl : kI = 0 := by rw [← HKi.out]; rfl
      have HNX : Hid (normR pc R.reverse = (pc, ([] : List Rp).reverse)) := by show _ = _; rw [← HNi.out]; rfl
      go_wp2
      go_quiet (fail)
      have Sq := Si.draws nq
      have HKF := HKi
      clear Si i0 i9 ifr hr1z
      generalize wr.drewN nq = wq at *
      obtain ⟨u5, n5, g5⟩ := Sq.z
      go_wp2_with (first
      | (refine wpList_load_row rfl 47 (.tmp 1) rfl r1 rfl 47 (mcell pc mem q 0 d ov) (0, 0) _ Sq.M.at_ Try.underlying47 rfl (by rw [mcell_size HM.out]; exact info38) ?_)
      | (refine wpList_store_row rfl 47 (.tmp 2) (.tmp 52) rfl (r1 + 1) (mcell pc mem q 0 d ov) rfl rfl 47 u5 g5 (by rw [mcell_size HM.out]; exact info38) (by rw [mcell_size HM.out]; exact n5) (mcell_one _ _ _ _ _ _) ?_))
      refine bodyPost_ret (v := .agg (mcell pc mem q 0 d ov)) (res28 HM.out rfl (setRow_heap _ _ _ _ _ _ g5)) rfl ?_
      exact ⟨⟨_, _, _, rfl, HKF.out, (Sq.fin _).1, HNX.out⟩, (Sq.fin _).2⟩
    · obtain ⟨m1, hm1⟩ : ∃ m1, RI1.length = m1 := ⟨_, rfl⟩
      have HMM : Hid (kI = m1 + 1) := by show _ = _; rw [← HKi.out, List.length_append, hm1]; rfl
      have HM1 : Hid (RI1.length = m1) := hm1
      have hm0 := HMM.out
      have y0 : decide ((0 : Int) ≤ (kI : Int) - 1) = true := decide_eq_true (by omega)
      have y1 : (kI : Int) - 1 = (m1 : Int) := by omega
      have y2 : (0 : Int) ≤ (m1 : Int) := by omega
      have y3 : (m1 : Int) < (kI : Int) := by omega
      have hcap := own_cap Si.o
      rw [HKi.out] at hcap
      have y4 : (m1 : Int) ≤ (d : Int) := by omega
      have y5 : m1 ≤ d := by omega
      obtain ⟨C0, C1⟩ := HRi.out (A, B, C) (by simp)
      simp only at C0 C1
      obtain ⟨bq, cs, rfl, hbb, hbq, hrow, a0, a1, a2, hset⟩ := own_left hm1 Si.o
      have oT : Own eRp wr base 73 (some ⟨bq, 0, none⟩) d RI1 := by
        have h := own_takeE Si.o (by rw [HKi.out]; omega) m1 (by rw [HKi.out]; omega)
        rwa [List.take_left' HM1.out] at h
      clear hm0 hcap hm1
      by_cases hB : B < pc
      · have y6 : decide (B < pc) = true := by simpa using hB
        by_cases hC : 0 < C
        · have y7 : decide (0 < C) = true := by simpa using hC
          have HNX : Hid (normR pc R.reverse = (A, (RI1 ++ [(A, B, C - 1)]).reverse)) := by
            show _ = _
            rw [← HNi.out, List.reverse_append, List.reverse_append]
            show normR pc ((A, B, C) :: RI1.reverse) = _
            unfold normR
            rw [if_pos hB, if_pos hC]
            rfl
          have HKF : Hid ((RI1 ++ [(A, B, C - 1)]).length = kI) := by show _ = _; rw [List.length_append, HM1.out, HMM.out]; rfl
          go_wp2
          go_quiet (fail)
          have Sq := Si.draws nq
          have HO : Hid (Own eRp (wr.drewN nq) base 73 (some ⟨bq, 0, none⟩) d RI1) := own_below oT (bel_draws (Below.refl _ _) _)
          have b0 : (wr.drewN nq).cell? ⟨bq, m1 * 3, none⟩ = some (.int .i64 A) := a0
          have b1 : (wr.drewN nq).cell? ⟨bq, m1 * 3 + 1, none⟩ = some (.int .i64 B) := a1
          have b2 : (wr.drewN nq).cell? ⟨bq, m1 * 3 + 2, none⟩ = some (.int .i64 C) := a2
          have hbz : bq < (wr.drewN nq).heap.size := hbq
          have HRW : Hid ((wr.drewN nq).heap[bq]? = some (.cells cs 73 (0, 0))) := hrow
          clear Si oT a0 a1 a2 hbq i0 i9 ifr hr1z hrow hset
          generalize wr.drewN nq = wq at *
          have i0 := Sq.M.c0
          have i9 := Sq.M.c9
          have ifr := Sq.M.fr
          have hr1z := Sq.M.lt
          have SX : Rw w base r1 ((wq.setCell ⟨r1, 0, none⟩ (.int .i64 A)).setCell ⟨bq, m1 * 3 + 2, none⟩ (.int .i64 (C - 1))) A mem (some ⟨bq, 0, none⟩) kI d ov (RI1 ++ [(A, B, C - 1)]) := by
            obtain ⟨b', cs', e', h1, _, h2, _, _, _, h3⟩ := own_left HM1.out (Sq.s0 A).o
            cases e'
            exact (Sq.s0 A).row h1 h2 (h3 _)
          have hrb : ¬ r1 = bq := by
            rintro rfl
            have h := Sq.M.at_
            rw [HRW.out] at h
            simp at h
          have hbr : ¬ bq = r1 := fun e => hrb e.symm
          have frq := fun j => frozen_of_row _ _ j _ _ HRW.out
          obtain ⟨u5, n5, g5⟩ := SX.z
          go_wp2_with (first
          | (refine wpList_load_row rfl 47 (.tmp 1) rfl r1 rfl 47 (mcell A mem (some ⟨bq, 0, none⟩) kI d ov) (0, 0) _ SX.M.at_ Try.underlying47 rfl (by rw [mcell_size HM.out]; exact info38) ?_)
          | (refine wpList_store_row rfl 47 (.tmp 2) (.tmp 46) rfl (r1 + 1) (mcell A mem (some ⟨bq, 0, none⟩) kI d ov) rfl rfl 47 u5 g5 (by rw [mcell_size HM.out]; exact info38) (by rw [mcell_size HM.out]; exact n5) (mcell_one _ _ _ _ _ _) ?_))
          refine bodyPost_ret (v := .agg (mcell A mem (some ⟨bq, 0, none⟩) kI d ov)) (res28 HM.out rfl (setRow_heap _ _ _ _ _ _ g5)) rfl ?_
          exact ⟨⟨_, _, _, rfl, HKF.out, (SX.fin _).1, HNX.out⟩, (SX.fin _).2⟩
        · have y7 : decide (0 < C) = false := by simpa using hC
          have HN' : Hid (normR pc RI1.reverse = normR pc R.reverse) := by
            show _ = _
            rw [← HNi.out, List.reverse_append]
            exact (normR_drop hB hC).symm
          go_wp2
          go_quiet (fail)
          have Sq := Si.draws nq
          have HO : Hid (Own eRp (wr.drewN nq) base 73 (some ⟨bq, 0, none⟩) d RI1) := own_below oT (bel_draws (Below.refl _ _) _)
          have b0 : (wr.drewN nq).cell? ⟨bq, m1 * 3, none⟩ = some (.int .i64 A) := a0
          have b1 : (wr.drewN nq).cell? ⟨bq, m1 * 3 + 1, none⟩ = some (.int .i64 B) := a1
          have b2 : (wr.drewN nq).cell? ⟨bq, m1 * 3 + 2, none⟩ = some (.int .i64 C) := a2
          have hbz : bq < (wr.drewN nq).heap.size := hbq
          have HRW : Hid ((wr.drewN nq).heap[bq]? = some (.cells cs 73 (0, 0))) := hrow
          clear Si oT a0 a1 a2 hbq i0 i9 ifr hr1z hrow hset
          generalize wr.drewN nq = wq at *
          have i0 := Sq.M.c0
          have i9 := Sq.M.c9
          have ifr := Sq.M.fr
          have hr1z := Sq.M.lt
          go_wp2_with (fail)
          exact ⟨⟨m1, RI1, rfl, Sq.s9 HO.out, HM1, by omega, fun r hr => HRi.out r (by simp [hr]), HN'⟩, by simp [intOf]; have := HMM.out; omega⟩
      · have y6 : decide (B < pc) = false := by simpa using hB
        have HNX : Hid (normR pc R.reverse = (pc, (RI1 ++ [(A, B, C)]).reverse)) := by
          show _ = _
          rw [← HNi.out, List.reverse_append]
          show normR pc ((A, B, C) :: RI1.reverse) = _
          unfold normR
          rw [if_neg hB]
          rfl
        have HKF := HKi
        go_wp2
        go_quiet (fail)
        have Sq := Si.draws nq
        have HO : Hid (Own eRp (wr.drewN nq) base 73 (some ⟨bq, 0, none⟩) d RI1) := own_below oT (bel_draws (Below.refl _ _) _)
        have b0 : (wr.drewN nq).cell? ⟨bq, m1 * 3, none⟩ = some (.int .i64 A) := a0
        have b1 : (wr.drewN nq).cell? ⟨bq, m1 * 3 + 1, none⟩ = some (.int .i64 B) := a1
        have b2 : (wr.drewN nq).cell? ⟨bq, m1 * 3 + 2, none⟩ = some (.int .i64 C) := a2
        have hbz : bq < (wr.drewN nq).heap.size := hbq
        have HRW : Hid ((wr.drewN nq).heap[bq]? = some (.cells cs 73 (0, 0))) := hrow
        clear Si oT a0 a1 a2 hbq i0 i9 ifr hr1z hrow hset
        generalize wr.drewN nq = wq at *
        have i0 := Sq.M.c0
        have i9 := Sq.M.c9
        have ifr := Sq.M.fr
        have hr1z := Sq.M.lt
        obtain ⟨u5, n5, g5⟩ := Sq.z
        go_wp2_with (first
        | (refine wpList_load_row rfl 47 (.tmp 1) rfl r1 rfl 47 (mcell pc mem (some ⟨bq, 0, none⟩) kI d ov) (0, 0) _ Sq.M.at_ Try.underlying47 rfl (by rw [mcell_size HM.out]; exact info38) ?_)
        | (refine wpList_store_row rfl 47 (.tmp 2) (.tmp 52) rfl (r1 + 1) (mcell pc mem (some ⟨bq, 0, none⟩) kI d ov) rfl rfl 47 u5 g5 (by rw [mcell_size HM.out]; exact info38) (by rw [mcell_size HM.out]; exact n5) (mcell_one _ _ _ _ _ _) ?_))
        refine bodyPost_ret (v := .agg (mcell pc mem (some ⟨bq, 0, none⟩) kI d ov)) (res28 HM.out rfl (setRow_heap _ _ _ _ _ _ g5)) rfl ?_
        exact ⟨⟨_, _, _, rfl, HKF.out, (Sq.fin _).1, HNX.out⟩, (Sq.fin _).2⟩
end Go.Proofs.Ytboffjabffcddaa
