/-
  Put together:
  A run, by the program.
  Run, by the program.
  Has pure begun; runs at literals.
-/
import Derived.Test.YtonholadabebbaaRunm
import Derived.Test.YtonholadabebbaaVbegun
import Derived.WalkSpells
import Derived.Test.YtonholadabebbaaShap
namespace Go.Proofs.Ytonholadabebbaa
open Go.ChangeShapes Go.WideShapes Go.ChangeAt Go.RowKit
attribute [local go_sem ↓] Go.wp_at_zero Go.wp_at_succ

theorem row_ones (pc a0 a1 a2 a3 a4 a5 a6 a7 : Int) (q : Option Addr) (k d : Nat) (ov : Bool) : (#[Value.int .i64 pc, .int .i64 a0, .int .i64 a1, .int .i64 a2, .int .i64 a3, .int .i64 a4, .int .i64 a5, .int .i64 a6, .int .i64 a7, .slice q k d, .bool ov] : Array Value).all (·.oneCell') = true := mcell_one pc [a0, a1, a2, a3, a4, a5, a6, a7] q k d ov
/-- the machine of a run, between two steps -/
def Ev (l : List In) (x : Int) (T g : Nat) (w wr : World) (pc m0 m1 m2 m3 m4 m5 m6 m7 : Int) (q : Option Addr) (k d : Nat) (R : List Rp) (ov : Bool) (n : Nat) : Prop :=
  wr.heap[g]? = some (.cells #[.int .i64 pc, .int .i64 m0, .int .i64 m1, .int .i64 m2, .int .i64 m3, .int .i64 m4, .int .i64 m5, .int .i64 m6, .int .i64 m7, .slice q k d, .bool ov] 63 (0, 0)) ∧ wr.heap[g + 1]? = some (.cells #[.int .i64 0, .int .i64 0, .int .i64 0, .int .i64 0, .int .i64 0, .int .i64 0, .int .i64 0, .int .i64 0, .int .i64 0, .slice none 0 0, .bool false] 63 (0, 0)) ∧ Own eRp wr (g + 2) 79 q d R ∧ R.length = k ∧ RI l x T n pc [m0, m1, m2, m3, m4, m5, m6, m7] R ov ∧ Below g w wr
theorem ev_go {l : List In} {x : Int} {T g : Nat} {w w2 : World} {ca : Array Value} (r6 : w2.heap[g]? = some (.cells ca 63 (0, 0))) (r7 : w2.heap[g + 1]? = some (.cells #[.int .i64 0, .int .i64 0, .int .i64 0, .int .i64 0, .int .i64 0, .int .i64 0, .int .i64 0, .int .i64 0, .int .i64 0, .slice none 0 0, .bool false] 63 (0, 0))) {pcF a0 a1 a2 a3 a4 a5 a6 a7 : Int} {q9 : Option Addr} {kF d9 n : Nat} {ovF : Bool} {RF : List Rp} (o9 : Own eRp w2 (g + 2) 79 q9 d9 RF) (hk : RF.length = kF) (hv : RI l x T n pcF [a0, a1, a2, a3, a4, a5, a6, a7] RF ovF) (hb : Below g w w2) :
    Ev l x T g w (w2.setRow g #[.int .i64 pcF, .int .i64 a0, .int .i64 a1, .int .i64 a2, .int .i64 a3, .int .i64 a4, .int .i64 a5, .int .i64 a6, .int .i64 a7, .slice q9 kF d9, .bool ovF]) pcF a0 a1 a2 a3 a4 a5 a6 a7 q9 kF d9 RF ovF n :=
  ⟨setRow_heap _ _ _ _ _ _ r6, (setRow_other _ _ _ _ (by omega)).trans r7, own_row o9 (by omega) _, hk, hv, below_setRow hb (Nat.le_refl _) _⟩
theorem stepF_len {l : List In} {pc : Int} {mem : List Int} {R : List Rp} {ov : Bool} (hm : mem.length = 8) {pcF : Int} {memF : List Int} {RF : List Rp} {ovF : Bool} {y : In} {ok : Bool} (hF : stepF l pc mem R ov = (pcF, memF, RF, ovF, y, ok)) : memF.length = 8 ∧ RF.length ≤ R.length + 1 := by
  constructor
  · have h := congrArg (fun y => y.2.1.length) hF
    simp only at h
    rw [← h]
    unfold stepF
    split
    · simp only; rw [memA_len]; exact hm
    · exact hm
  · have h := congrArg (fun y => y.2.2.1.length) hF
    simp only at h
    rw [← h]
    unfold stepF
    split
    · simp only [List.length_reverse]
      refine Nat.le_trans (normR_len _ _) ?_
      simp only [List.length_reverse]
      exact repA_len _ _ _
    · simp
theorem stepF_over {l : List In} {pc : Int} {mem : List Int} {R : List Rp} : stepF l pc mem R true = (pc, mem, R, true, (0, 0, 0, 0), false) := by
  unfold stepF
  rw [if_neg (by simp [can])]
end Go.Proofs.Ytonholadabebbaa

namespace Go.Proofs.Ytonholadabebbaa
open Go.ChangeShapes Go.WideShapes Go.ChangeAt Go.RowKit
attribute [local go_sem ↓] Go.wp_at_zero Go.wp_at_succ

end Go.Proofs.Ytonholadabebbaa

namespace Go.Proofs.Ytonholadabebbaa
open Go.ChangeShapes Go.WideShapes Go.ChangeAt Go.RowKit
attribute [local go_sem ↓] Go.wp_at_zero Go.wp_at_succ

/-- a check by counting -/
def endsB (l : List In) (x : Int) (N : Nat) (v : Int) : Bool := (rnN l (st0 x) N).2.2.2 && (List.range N).all (fun k => !(rnN l (st0 x) k).2.2.2) && decide (v = (rnN l (st0 x) N).2.1.getD 0 0)
theorem endsB_ok {l : List In} {x : Int} {N : Nat} {v : Int} (h : endsB l x N v = true) : EndsAt l x N v := by
  unfold endsB at h
  simp only [Bool.and_eq_true, List.all_eq_true, decide_eq_true_eq] at h
  refine ⟨h.1.1, fun k hk => ?_, h.2⟩
  have := h.1.2 k (List.mem_range.2 hk)
  simpa using this
theorem rd_none {α : Type} {E : Elt α} (w : World) : Rd E w none 0 [] := ⟨Nat.le_refl _, .inl ⟨rfl, rfl, rfl⟩⟩
end Go.Proofs.Ytonholadabebbaa
