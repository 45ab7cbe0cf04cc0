/-
  Two machines that are one; a new machine, by the program.
-/
import Derived.Test.YtonholadabebbaaVno
import Derived.Test.YtonholadabebbaaNewm
import Derived.Test.YtonholadabebbaaSteps
import Derived.WalkSpells
namespace Go.Proofs.Ytonholadabebbaa
open Go.ChangeShapes Go.WideShapes Go.ChangeAt Go.RowKit
attribute [local go_sem ↓] Go.wp_at_zero Go.wp_at_succ

theorem Try.info2 : (Try.prog.info? 2).map (fun i => (i.zero, i.size, i.bytes)) = some (some (.int .i64 0), 1, 8) := by kernel_rfl
theorem getD_at {u : List Int} {k : Nat} (h : k < u.length) : u.getD k 0 = u[k] := by simp [List.getD_eq_getElem?_getD, List.getElem?_eq_getElem h]
theorem part2 {L : List Int} {i : Nat} (h : i < L.length) (w : World) : (part 2 (cI L) i).run Try.prog w = .ok (.int .i64 L[i]) w := by
  have a3 := Try.isAgg2
  have := cI_get h
  simp [part, a3, this]
theorem cells2 : Try.prog.cellsOf 2 = 1 := by kernel_rfl
theorem eqItems_run (d : Nat) (A B : List Int) (w : World) : ∀ is : List Nat, (∀ i ∈ is, i < A.length ∧ i < B.length) → (Op.eqItems (d + 1) 2 1 (cI A) (cI B) is).run Try.prog w = .ok (is.all fun i => A.getD i 0 == B.getD i 0) w
  | [], _ => by simp [Op.eqItems]
  | i :: is, h => by
    obtain ⟨h1, h2⟩ := h i (by simp)
    have ih := eqItems_run d A B w is (fun j hj => h j (by simp [hj]))
    have ha : A.getD i 0 = A[i] := getD_at h1
    have hb : B.getD i 0 = B[i] := getD_at h2
    simp only [Op.eqItems, Nat.mul_one, Sem.run_bind, part2 h1, part2 h2, Result.andThen_ok, run_equalIn_int w d 2 .i64 .i64 A[i] B[i] Try.underlying2, List.all_cons, ha, hb]
    cases hq : (A[i] == B[i])
    · simp
    · simpa using ih
theorem neq24 {A : List Int} (ha : A.length = 8) (w : World) : (binOp .neq 60 (.agg (cI A)) (.agg (cI A))).run Try.prog w = .ok (.bool false) w := by
  obtain ⟨i, hi, h0, h1, h2⟩ := info_parts Try.info2
  have e : (Op.equalIn 10000 60 (.agg (cI A)) (.agg (cI A))).run Try.prog w = .ok true w := by
    rw [run_equalIn_array w 9999 _ _ Try.underlying60 hi, cells2, eqItems_run 9998 A A w (List.range 8) (fun i hi => by simp at hi; omega)]
    simp
  rw [run_neq_struct, e]
  rfl
/-- what a step comes to: where, memories, what is repeated, whether it is over; which one it was, and whether there was one -/
def can (l : List In) (pc : Int) (ov : Bool) : Bool := !ov && decide (0 ≤ pc) && decide (pc < l.length) && mayB (gt l pc.toNat)
def stepF (l : List In) (pc : Int) (mem : List Int) (R : List Rp) (ov : Bool) : Int × List Int × List Rp × Bool × In × Bool :=
  if can l pc ov = true then
    ((normR (nxt pc (gt l pc.toNat) mem) (repA pc (gt l pc.toNat) R).reverse).1, memA (gt l pc.toNat) mem, (normR (nxt pc (gt l pc.toNat) mem) (repA pc (gt l pc.toNat) R).reverse).2.reverse, decide ((gt l pc.toNat).1 = 0), gt l pc.toNat, true)
  else (pc, mem, R, ov, (0, 0, 0, 0), false)
def Stepped (l : List In) (pc : Int) (mem : List Int) (R : List Rp) (ov : Bool) (w : World) (e : Ending) (w' : World) : Prop :=
  (∃ (pcF : Int) (memF : List Int) (q : Option Addr) (d k : Nat) (RF : List Rp) (ovF : Bool) (x : In) (ok : Bool), e = .returned (.tuple #[.agg (mcell pcF memF q k d ovF), .agg #[.int .i64 x.1, .int .i64 x.2.1, .int .i64 x.2.2.1, .int .i64 x.2.2.2], .bool ok]) ∧ memF.length = 8 ∧ RF.length = k ∧ k ≤ R.length + 1 ∧ Own eRp w' (w.heap.size + 3) 79 q d RF ∧ stepF l pc mem R ov = (pcF, memF, RF, ovF, x, ok)) ∧ Below w.heap.size w w'
theorem stepped_ok {l : List In} {pc : Nat} {mem : List Int} {R : List Rp} {w w' : World} {e : Ending} (hpc : pc < l.length) (hmy : mayB (gt l pc) = true) (h : StepTold pc mem R (gt l pc) w e w') : Stepped l pc mem R false w e w' := by
  obtain ⟨⟨pcF, memF, q, d, k, RF, ov, rfl, h1, h2, h3, h4, h5, h6⟩, h7⟩ := h
  have hl := normR_len (nxt pc (gt l pc) mem) (repA pc (gt l pc) R).reverse
  have hl2 := repA_len pc (gt l pc) R
  rw [h6] at hl
  simp only [List.length_reverse] at hl
  refine ⟨⟨pcF, memF, q, d, k, RF, ov, _, true, rfl, h1, h2, by omega, h3, ?_⟩, h7⟩
  have hc : can l (pc : Int) false = true := by
    unfold can
    simp [hpc, hmy]
  unfold stepF
  rw [if_pos hc, Int.toNat_natCast, h6, h4, h5]
  simp
theorem stepped_no {l : List In} {pc : Int} {mem : List Int} {R : List Rp} {ov : Bool} {k : Nat} {w w' : World} {e : Ending} (hm : mem.length = 8) (hk : R.length = k) (hc : can l pc ov = false) (h : NoStep pc mem R ov k w e w') : Stepped l pc mem R ov w e w' := by
  obtain ⟨⟨q9, d9, rfl, h1⟩, h2⟩ := h
  refine ⟨⟨pc, mem, q9, d9, k, R, ov, (0, 0, 0, 0), false, rfl, hm, hk, by omega, h1, ?_⟩, h2⟩
  unfold stepF
  rw [if_neg (by rw [hc]; decide)]
section
variable (p : Option Addr) (c : Nat) (l : List In) (w : World) (hr : Rd eIn w p c l) (n : Nat) (hN : l.length = n) (hn : n ≤ 1000) (pc : Int) (mem : List Int) (hm : mem.length = 8) (hMb : ∀ v ∈ mem, -9223372036854775808 ≤ v ∧ v ≤ 9223372036854775807) (q : Option Addr) (d k : Nat) (R : List Rp) (hR : Rd eRp w q d R) (hk : R.length = k) (hk3 : k ≤ 1000) (hRb : ∀ r ∈ R, -9223372036854775808 ≤ r.2.2 ∧ r.2.2 ≤ 9223372036854775807) (ov : Bool)
include hr hN hn hm hMb hR hk hk3 hRb
theorem rstep_any : Calls Try.prog 25 #[.slice p n c, .agg (mcell pc mem q k d ov)] w fun e w' => Stepped l pc mem R ov w e w' := by
  cases ov with
  | true => exact (rno_a p c w n mem hm q d k R hR hk hk3 pc).mono fun e w' h => stepped_no hm hk (by simp [can]) h
  | false =>
    by_cases h0 : pc < 0
    · exact (rno_b p c w n mem hm q d k R hR hk hk3 pc h0).mono fun e w' h => stepped_no hm hk (by simp [can]; omega) h
    by_cases h1 : (n : Int) ≤ pc
    · exact (rno_c p c w n mem hm q d k R hR hk hk3 pc (by omega) h1).mono fun e w' h => stepped_no hm hk (by simp [can]; omega) h
    obtain ⟨i, rfl⟩ : ∃ i : Nat, pc = i := ⟨pc.toNat, by omega⟩
    cases hmy : mayB (gt l i) with
    | false => exact (rno_d p c l w hr n hN mem hm q d k R hR hk hk3 i (by omega) hmy).mono fun e w' h => stepped_no hm hk (by simp [can, hmy]) h
    | true => exact (step_ex p c l w hr n hN hn i (by omega) mem hm hMb q d k R hR hk hk3 hRb hmy).mono fun e w' h => stepped_ok (by omega) hmy h
end
end Go.Proofs.Ytonholadabebbaa
