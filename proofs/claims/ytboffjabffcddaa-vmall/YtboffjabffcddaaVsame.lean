/-
  Two machines that are one; a new machine, by the program.
-/
import Derived.Test.YtboffjabffcddaaVno
import Derived.Test.YtboffjabffcddaaNewm
import Derived.Test.YtboffjabffcddaaSteps
import Derived.WalkSpells
namespace Go.Proofs.Ytboffjabffcddaa
open Go.ChangeShapes Go.WideShapes Go.ChangeAt Go.RowKit
attribute [local go_sem ↓] Go.wp_at_zero Go.wp_at_succ

theorem Try.info2 : (Try.prog.info? 2).map (fun i => (i.zero, i.size, i.bytes)) = some (some (.int .i64 0), 1, 8) := by kernel_rfl
theorem getD_at {u : List Int} {k : Nat} (h : k < u.length) : u.getD k 0 = u[k] := by simp [List.getD_eq_getElem?_getD, List.getElem?_eq_getElem h]
theorem part2 {L : List Int} {i : Nat} (h : i < L.length) (w : World) : (part 2 (cI L) i).run Try.prog w = .ok (.int .i64 L[i]) w := by
  have a3 := Try.isAgg2
  have := cI_get h
  simp [part, a3, this]
theorem cells2 : Try.prog.cellsOf 2 = 1 := by kernel_rfl
theorem eqItems_run (d : Nat) (A B : List Int) (w : World) : ∀ is : List Nat, (∀ i ∈ is, i < A.length ∧ i < B.length) → (Op.eqItems (d + 1) 2 1 (cI A) (cI B) is).run Try.prog w = .ok (is.all fun i => A.getD i 0 == B.getD i 0) w
  | [], _ => by simp [Op.eqItems]
  | i :: is, h => by
    obtain ⟨h1, h2⟩ := h i (by simp)
    have ih := eqItems_run d A B w is (fun j hj => h j (by simp [hj]))
    have ha : A.getD i 0 = A[i] := getD_at h1
    have hb : B.getD i 0 = B[i] := getD_at h2
    simp only [Op.eqItems, Nat.mul_one, Sem.run_bind, part2 h1, part2 h2, Result.andThen_ok, run_equalIn_int w d 2 .i64 .i64 A[i] B[i] Try.underlying2, List.all_cons, ha, hb]
    cases hq : (A[i] == B[i])
    · simp
    · simpa using ih
theorem neq24 {A : List Int} (ha : A.length = 8) (w : World) : (binOp .neq 44 (.agg (cI A)) (.agg (cI A))).run Try.prog w = .ok (.bool false) w := by
  obtain ⟨i, hi, h0, h1, h2⟩ := info_parts Try.info2
  have e : (Op.equalIn 10000 44 (.agg (cI A)) (.agg (cI A))).run Try.prog w = .ok true w := by
    rw [run_equalIn_array w 9999 _ _ Try.underlying44 hi, cells2, eqItems_run 9998 A A w (List.range 8) (fun i hi => by simp at hi; omega)]
    simp
  rw [run_neq_struct, e]
  rfl
set_option maxRecDepth 100000 in
set_option maxHeartbeats 8000000 in
theorem same_lit (pc a0 a1 a2 a3 a4 a5 a6 a7 : Int) (q q' : Option Addr) (k d d' : Nat) (ov : Bool) (R : List Rp) (w : World) (h1 : Rd eRp w q d R) (h2 : Rd eRp w q' d' R) (hk : R.length = k) (hk3 : k ≤ 1001) :
    Calls Try.prog 21 #[.agg #[.int .i64 pc, .int .i64 a0, .int .i64 a1, .int .i64 a2, .int .i64 a3, .int .i64 a4, .int .i64 a5, .int .i64 a6, .int .i64 a7, .slice q k d, .bool ov], .agg #[.int .i64 pc, .int .i64 a0, .int .i64 a1, .int .i64 a2, .int .i64 a3, .int .i64 a4, .int .i64 a5, .int .i64 a6, .int .i64 a7, .slice q' k d', .bool ov]] w fun e w' => e = .returned (.bool true) ∧ Below w.heap.size w w' := by
  have HK : Hid (R.length = k) := hk
  clear hk
  have p0 : (pc == pc) = true := by simp
  have p1 : (ov == ov) = true := by simp
  have p2 : (k == k) = true := by simp
  have hne : ∀ w', (binOp .neq 44 (.agg #[.int .i64 a0, .int .i64 a1, .int .i64 a2, .int .i64 a3, .int .i64 a4, .int .i64 a5, .int .i64 a6, .int .i64 a7]) (.agg #[.int .i64 a0, .int .i64 a1, .int .i64 a2, .int .i64 a3, .int .i64 a4, .int .i64 a5, .int .i64 a6, .int .i64 a7])).run Try.prog w' = .ok (.bool false) w' := fun w' => neq24 (A := [a0, a1, a2, a3, a4, a5, a6, a7]) rfl w'
  go_enter Try.func21, Try.ntmps21
  go_wp2
  have B0 : Below w.heap.size w ((w.alloc (.cells #[.int .i64 pc, .int .i64 a0, .int .i64 a1, .int .i64 a2, .int .i64 a3, .int .i64 a4, .int .i64 a5, .int .i64 a6, .int .i64 a7, .slice q k d, .bool ov] 47)).alloc (.cells #[.int .i64 pc, .int .i64 a0, .int .i64 a1, .int .i64 a2, .int .i64 a3, .int .i64 a4, .int .i64 a5, .int .i64 a6, .int .i64 a7, .slice q' k d', .bool ov] 47)) := (by repeat (first | exact Below.refl _ _ | refine Below.alloc ?_ (by simp <;> omega) _ | refine Below.setCell ?_ (by simp <;> omega) _))
  have r2 : ((w.alloc (.cells #[.int .i64 pc, .int .i64 a0, .int .i64 a1, .int .i64 a2, .int .i64 a3, .int .i64 a4, .int .i64 a5, .int .i64 a6, .int .i64 a7, .slice q k d, .bool ov] 47)).alloc (.cells #[.int .i64 pc, .int .i64 a0, .int .i64 a1, .int .i64 a2, .int .i64 a3, .int .i64 a4, .int .i64 a5, .int .i64 a6, .int .i64 a7, .slice q' k d', .bool ov] 47)).heap[w.heap.size]? = some (.cells #[.int .i64 pc, .int .i64 a0, .int .i64 a1, .int .i64 a2, .int .i64 a3, .int .i64 a4, .int .i64 a5, .int .i64 a6, .int .i64 a7, .slice q k d, .bool ov] 47 (0, 0)) := (Below.heap_alloc _ _ _ (by simp)).trans (heap_at rfl)
  have r3 : ((w.alloc (.cells #[.int .i64 pc, .int .i64 a0, .int .i64 a1, .int .i64 a2, .int .i64 a3, .int .i64 a4, .int .i64 a5, .int .i64 a6, .int .i64 a7, .slice q k d, .bool ov] 47)).alloc (.cells #[.int .i64 pc, .int .i64 a0, .int .i64 a1, .int .i64 a2, .int .i64 a3, .int .i64 a4, .int .i64 a5, .int .i64 a6, .int .i64 a7, .slice q' k d', .bool ov] 47)).heap[w.heap.size + 1]? = some (.cells #[.int .i64 pc, .int .i64 a0, .int .i64 a1, .int .i64 a2, .int .i64 a3, .int .i64 a4, .int .i64 a5, .int .i64 a6, .int .i64 a7, .slice q' k d', .bool ov] 47 (0, 0)) := heap_at (by simp)
  generalize ((w.alloc (.cells #[.int .i64 pc, .int .i64 a0, .int .i64 a1, .int .i64 a2, .int .i64 a3, .int .i64 a4, .int .i64 a5, .int .i64 a6, .int .i64 a7, .slice q k d, .bool ov] 47)).alloc (.cells #[.int .i64 pc, .int .i64 a0, .int .i64 a1, .int .i64 a2, .int .i64 a3, .int .i64 a4, .int .i64 a5, .int .i64 a6, .int .i64 a7, .slice q' k d', .bool ov] 47)) = w0 at B0 r2 r3 ⊢
  have n2 : w0.cell? ⟨w.heap.size, 9, none⟩ = some (.slice q k d) := by rw [cell_of_row _ _ _ _ _ _ r2]; rfl
  have n3 : w0.cell? ⟨w.heap.size + 1, 9, none⟩ = some (.slice q' k d') := by rw [cell_of_row _ _ _ _ _ _ r3]; rfl
  clear r2 r3 hne p0 p1 p2
  go_loopw [5] (fun i wr => ∃ j : Nat, j ≤ k ∧ i = .int .i64 (j : Int) ∧ Below w0.heap.size w0 wr) (fun i _ => k - (intOf i).toNat)
  case atStart => exact ⟨0, by omega, rfl, Below.refl _ _⟩
  case round =>
    obtain ⟨j, hj, rfl, hb⟩ := hrel
    have hz : w.heap.size + 2 ≤ w0.heap.size := by
      have := lt_of_cell n3
      omega
    have m2 := (hb.cell (p := ⟨w.heap.size, 9, none⟩) (by simp; omega)).trans n2
    have m3 := (hb.cell (p := ⟨w.heap.size + 1, 9, none⟩) (by simp; omega)).trans n3
    by_cases hlt : j < k
    · obtain ⟨b, o, rfl, hb1, x0, x1, x2⟩ := ((h1.below B0).below hb).rep j (by rw [HK.out]; exact hlt)
      obtain ⟨b', o', rfl, hb2, y0, y1, y2⟩ := ((h2.below B0).below hb).rep j (by rw [HK.out]; exact hlt)
      generalize R[j]'(by rw [HK.out]; exact hlt) = r at *
      obtain ⟨A, B, C⟩ := r
      simp only at x0 x1 x2 y0 y1 y2
      have d1 : decide ((j : Int) < (k : Int)) = true := by simpa using hlt
      have d2 : decide (j < k) = true := by simpa using hlt
      go_wp2
      go_quiet (fail)
      go_wp2
      go_roundw
      case rel => exact ⟨j + 1, by omega, by go_num, hb.trans (bel_draws (Below.refl _ _) _)⟩
      case measure => simp [intOf]; omega
    · have d1 : decide ((j : Int) < (k : Int)) = false := by simpa using hlt
      have d2 : decide (j < k) = false := by simpa using hlt
      go_wp2
      go_ret
      exact ⟨rfl, B0.trans (hb.mono (by omega))⟩

theorem same_any (pc : Int) (mem : List Int) (hm : mem.length = 8) (q q' : Option Addr) (k d d' : Nat) (ov : Bool) (R : List Rp) (w : World) (h1 : Rd eRp w q d R) (h2 : Rd eRp w q' d' R) (hk : R.length = k) (hk3 : k ≤ 1001) :
    Calls Try.prog 21 #[.agg (mcell pc mem q k d ov), .agg (mcell pc mem q' k d' ov)] w fun e w' => e = .returned (.bool true) ∧ Below w.heap.size w w' := by
  obtain ⟨a0, a1, a2, a3, a4, a5, a6, a7, rfl⟩ := eight hm
  exact same_lit pc a0 a1 a2 a3 a4 a5 a6 a7 q q' k d d' ov R w h1 h2 hk hk3
theorem res15 {tmps : Array Value} {w : World} {r : Nat} {cs : Array Value} (h2 : tmps.getD 2 undef = .pointer (some ⟨r, 0, none⟩)) (g2 : w.heap[r]? = some (.cells cs 47 (0, 0))) (hs : cs.size = 11 := by rfl) :
    (results Try.f22 tmps).run Try.prog w = .ok (.agg cs) w := by
  have e2 := run_loadVar_row (P := Try.prog) w r 47 47 _ (0, 0) _ g2 Try.underlying47 rfl (by rw [hs]; exact info38)
  have k2 : tmps[2]?.getD undef = .pointer (some ⟨r, 0, none⟩) := by simpa using h2
  simp [results, Try.results22, k2, asAddr, e2]
set_option maxRecDepth 100000 in
set_option maxHeartbeats 8000000 in
theorem vnew_any (x : Int) (w : World) : Calls Try.prog 22 #[.int .i64 x] w fun e w' => e = .returned (.agg #[.int .i64 0, .int .i64 x, .int .i64 0, .int .i64 0, .int .i64 0, .int .i64 0, .int .i64 0, .int .i64 0, .int .i64 0, .slice none 0 0, .bool false]) ∧ Below w.heap.size w w' := by
  go_enter Try.func22, Try.ntmps22
  go_wp2
  refine bodyPost_ret (v := .agg #[.int .i64 0, .int .i64 x, .int .i64 0, .int .i64 0, .int .i64 0, .int .i64 0, .int .i64 0, .int .i64 0, .int .i64 0, .slice none 0 0, .bool false]) (res15 rfl (heap_at rfl)) rfl ?_
  exact ⟨rfl, (by repeat (first | exact Below.refl _ _ | refine Below.alloc ?_ (by simp <;> omega) _ | refine Below.setCell ?_ (by simp <;> omega) _))⟩
/-- what a step comes to: where, memories, what is repeated, whether it is over; which one it was, and whether there was one -/
def can (l : List In) (pc : Int) (ov : Bool) : Bool := !ov && decide (0 ≤ pc) && decide (pc < l.length) && mayB (gt l pc.toNat)
def stepF (l : List In) (pc : Int) (mem : List Int) (R : List Rp) (ov : Bool) : Int × List Int × List Rp × Bool × In × Bool :=
  if can l pc ov = true then
    ((normR (nxt pc (gt l pc.toNat) mem) (repA pc (gt l pc.toNat) R).reverse).1, memA (gt l pc.toNat) mem, (normR (nxt pc (gt l pc.toNat) mem) (repA pc (gt l pc.toNat) R).reverse).2.reverse, decide ((gt l pc.toNat).1 = 0), gt l pc.toNat, true)
  else (pc, mem, R, ov, (0, 0, 0, 0), false)
def Stepped (l : List In) (pc : Int) (mem : List Int) (R : List Rp) (ov : Bool) (w : World) (e : Ending) (w' : World) : Prop :=
  (∃ (pcF : Int) (memF : List Int) (q : Option Addr) (d k : Nat) (RF : List Rp) (ovF : Bool) (x : In) (ok : Bool), e = .returned (.tuple #[.agg (mcell pcF memF q k d ovF), .agg #[.int .i64 x.1, .int .i64 x.2.1, .int .i64 x.2.2.1, .int .i64 x.2.2.2], .bool ok]) ∧ memF.length = 8 ∧ RF.length = k ∧ k ≤ R.length + 1 ∧ Own eRp w' (w.heap.size + 3) 73 q d RF ∧ stepF l pc mem R ov = (pcF, memF, RF, ovF, x, ok)) ∧ Below w.heap.size w w'
theorem stepped_ok {l : List In} {pc : Nat} {mem : List Int} {R : List Rp} {w w' : World} {e : Ending} (hpc : pc < l.length) (hmy : mayB (gt l pc) = true) (h : StepTold pc mem R (gt l pc) w e w') : Stepped l pc mem R false w e w' := by
  obtain ⟨⟨pcF, memF, q, d, k, RF, ov, rfl, h1, h2, h3, h4, h5, h6⟩, h7⟩ := h
  have hl := normR_len (nxt pc (gt l pc) mem) (repA pc (gt l pc) R).reverse
  have hl2 := repA_len pc (gt l pc) R
  rw [h6] at hl
  simp only [List.length_reverse] at hl
  refine ⟨⟨pcF, memF, q, d, k, RF, ov, _, true, rfl, h1, h2, by omega, h3, ?_⟩, h7⟩
  have hc : can l (pc : Int) false = true := by
    unfold can
    simp [hpc, hmy]
  unfold stepF
  rw [if_pos hc, Int.toNat_natCast, h6, h4, h5]
  simp
theorem stepped_no {l : List In} {pc : Int} {mem : List Int} {R : List Rp} {ov : Bool} {k : Nat} {w w' : World} {e : Ending} (hm : mem.length = 8) (hk : R.length = k) (hc : can l pc ov = false) (h : NoStep pc mem R ov k w e w') : Stepped l pc mem R ov w e w' := by
  obtain ⟨⟨q9, d9, rfl, h1⟩, h2⟩ := h
  refine ⟨⟨pc, mem, q9, d9, k, R, ov, (0, 0, 0, 0), false, rfl, hm, hk, by omega, h1, ?_⟩, h2⟩
  unfold stepF
  rw [if_neg (by rw [hc]; decide)]
section
variable (p : Option Addr) (c : Nat) (l : List In) (w : World) (hr : Rd eIn w p c l) (n : Nat) (hN : l.length = n) (hn : n ≤ 1000) (pc : Int) (mem : List Int) (hm : mem.length = 8) (hMb : ∀ v ∈ mem, -9223372036854775808 ≤ v ∧ v ≤ 9223372036854775807) (q : Option Addr) (d k : Nat) (R : List Rp) (hR : Rd eRp w q d R) (hk : R.length = k) (hk3 : k ≤ 1000) (hRb : ∀ r ∈ R, -9223372036854775808 ≤ r.2.2 ∧ r.2.2 ≤ 9223372036854775807) (ov : Bool)
include hr hN hn hm hMb hR hk hk3 hRb
theorem vstep_any : Calls Try.prog 24 #[.slice p n c, .agg (mcell pc mem q k d ov)] w fun e w' => Stepped l pc mem R ov w e w' := by
  cases ov with
  | true => exact (vno_a p c w n mem hm q d k R hR hk hk3 pc).mono fun e w' h => stepped_no hm hk (by simp [can]) h
  | false =>
    by_cases h0 : pc < 0
    · exact (vno_b p c w n mem hm q d k R hR hk hk3 pc h0).mono fun e w' h => stepped_no hm hk (by simp [can]; omega) h
    by_cases h1 : (n : Int) ≤ pc
    · exact (vno_c p c w n mem hm q d k R hR hk hk3 pc (by omega) h1).mono fun e w' h => stepped_no hm hk (by simp [can]; omega) h
    obtain ⟨i, rfl⟩ : ∃ i : Nat, pc = i := ⟨pc.toNat, by omega⟩
    cases hmy : mayB (gt l i) with
    | false => exact (vno_d p c l w hr n hN mem hm q d k R hR hk hk3 i (by omega) hmy).mono fun e w' h => stepped_no hm hk (by simp [can, hmy]) h
    | true => exact (vstep_ok p c l w hr n hN hn i (by omega) mem hm hMb q d k R hR hk hk3 hRb hmy).mono fun e w' h => stepped_ok (by omega) hmy h
theorem rstep_any : Calls Try.prog 25 #[.slice p n c, .agg (mcell pc mem q k d ov)] w fun e w' => Stepped l pc mem R ov w e w' := by
  cases ov with
  | true => exact (rno_a p c w n mem hm q d k R hR hk hk3 pc).mono fun e w' h => stepped_no hm hk (by simp [can]) h
  | false =>
    by_cases h0 : pc < 0
    · exact (rno_b p c w n mem hm q d k R hR hk hk3 pc h0).mono fun e w' h => stepped_no hm hk (by simp [can]; omega) h
    by_cases h1 : (n : Int) ≤ pc
    · exact (rno_c p c w n mem hm q d k R hR hk hk3 pc (by omega) h1).mono fun e w' h => stepped_no hm hk (by simp [can]; omega) h
    obtain ⟨i, rfl⟩ : ∃ i : Nat, pc = i := ⟨pc.toNat, by omega⟩
    cases hmy : mayB (gt l i) with
    | false => exact (rno_d p c l w hr n hN mem hm q d k R hR hk hk3 i (by omega) hmy).mono fun e w' h => stepped_no hm hk (by simp [can, hmy]) h
    | true => exact (step_ex p c l w hr n hN hn i (by omega) mem hm hMb q d k R hR hk hk3 hRb hmy).mono fun e w' h => stepped_ok (by omega) hmy h
end
end Go.Proofs.Ytboffjabffcddaa
