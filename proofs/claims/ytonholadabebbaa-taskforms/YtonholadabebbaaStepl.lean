/-
  What the walk of a machine's step wants.
-/
import Derived.Test.YtonholadabebbaaMachp
import Derived.Test.YtonholadabebbaaShift
import Derived.Test.YtonholadabebbaaMayRef
import Derived.Test.YtonholadabebbaaHand
namespace Go.Proofs.Ytonholadabebbaa
open Go.ChangeShapes Go.WideShapes Go.ChangeAt Go.RowKit
attribute [local go_sem ↓] Go.wp_at_zero Go.wp_at_succ
theorem load_yields {a : Act} {w : World} {o : Oper} {P : Program} (t : TypeId) (x : Operand) (ho : o.op = .load t x) (g : Nat) (hx : a.eval x = .pointer (some ⟨g, 0, none⟩)) {v : Value} (h : (loadVar t ⟨g, 0, none⟩).run P w = .ok v w) : (execOp a.eval o).run P w = .ok (.value v) w := by
  unfold execOp
  simp only [ho, hx, Instr.loadAt, Instr.sureAddr, Sem.run_bind, Sem.run_pure, Result.andThen_ok, h]
theorem own_lowE {α : Type} {E : Elt α} {e : TypeId} {w : World} {base : Nat} {p : Option Addr} {c : Nat} {l : List α} (h : Own E w base e p c l) {a : Addr} (ha : a.block < base) (u : Value) : Own E (w.setCell a u) base e p c l := by
  refine ownsRow_setCell_other h ?_ u
  intro e
  have := World.ownsRow.lt h _ e
  omega
theorem own_blk {α : Type} {E : Elt α} {e : TypeId} {w : World} {base : Nat} {p : Option Addr} {c : Nat} {l : List α} (h : Own E w base e p c l) : ∀ g, p = some ⟨g, 0, none⟩ → base ≤ g ∧ g < w.heap.size := by
  rintro g rfl
  exact World.ownsRow.lt h g rfl
theorem four {w w5 : World} {A B C D : Obj} (b5 : Below (w.heap.size + 3) ((((w.alloc A).alloc B).alloc C).alloc D) w5) : w5.heap[w.heap.size]? = some A ∧ w5.heap[w.heap.size + 1]? = some B ∧ w5.heap[w.heap.size + 2]? = some C ∧ w.heap.size + 4 ≤ w5.heap.size ∧ Below w.heap.size w w5 := by
  have hz := b5.size
  simp at hz
  refine ⟨?_, ?_, ?_, by omega, ?_⟩
  · exact (b5.block _ (by omega)).trans ((Below.heap_alloc _ _ _ (by simp; omega)).trans ((Below.heap_alloc _ _ _ (by simp; omega)).trans (heap_alloc2_old _ _ _)))
  · exact (b5.block _ (by omega)).trans ((Below.heap_alloc _ _ _ (by simp)).trans ((Below.heap_alloc _ _ _ (by simp)).trans (heap_alloc2_new _ _ _)))
  · exact (b5.block _ (by omega)).trans ((Below.heap_alloc _ _ _ (by simp)).trans (heap_at (by simp)))
  · exact ((by repeat (first | exact Below.refl _ _ | refine Below.alloc ?_ (by simp <;> omega) _ | refine Below.setCell ?_ (by simp <;> omega) _)) : Below w.heap.size w _).trans (b5.mono (by omega))
theorem own_blockg {α : Type} {E : Elt α} {w : World} {base g : Nat} {cs : Array Value} {l : List α} {e : TypeId} (hs : w.heap.size = g) (hb : base ≤ g) (hl : cs.toList = fl E l) (n : Nat) (hn : l.length = n) (hm : n ≤ maxLen) : Own E (w.alloc (.cells cs e)) base e (some ⟨g, 0, none⟩) n l := by
  subst hs
  exact own_block hb hl n hn hm
theorem six {w w5 w6 : World} {pc : Int} {mem : List Int} {q p5 : Option Addr} {k d c5 : Nat} {A B : Obj} {R : List Rp} (M5 : Mc w5 w.heap.size pc mem q k d false) (H4 : w5.heap[w.heap.size + 1]? = some A) (H5 : w5.heap[w.heap.size + 2]? = some B) (B5 : Below w.heap.size w w5) (hz5 : w.heap.size + 4 ≤ w5.heap.size) (o5 : Own eRp w5 (w.heap.size + 3) 79 p5 c5 ([] ++ R))
    (b6 : Below (w5.setCell ⟨w.heap.size, 9, none⟩ (.slice p5 k c5)).heap.size (w5.setCell ⟨w.heap.size, 9, none⟩ (.slice p5 k c5)) w6) :
    Mc w6 w.heap.size pc mem p5 k c5 false ∧ w6.heap[w.heap.size + 1]? = some A ∧ w6.heap[w.heap.size + 2]? = some B ∧ Below w.heap.size w w6 ∧ w.heap.size + 4 ≤ w6.heap.size ∧ Own eRp w6 (w.heap.size + 3) 79 p5 c5 R := by
  have hz : (w5.setCell ⟨w.heap.size, 9, none⟩ (.slice p5 k c5)).heap.size = w5.heap.size := by simp [World.setCell]
  have hz6 := b6.size
  rw [hz] at hz6
  refine ⟨(M5.s9 p5 k c5).below b6, ?_, ?_, (B5.setCell (Nat.le_refl _) _).trans (b6.mono (by rw [hz]; omega)), by omega, own_below (own_lowE o5 (by simp) _) b6⟩
  · exact (b6.block _ (by rw [hz]; omega)).trans ((heap_setCell_other _ _ _ _ (by simp)).trans H4)
  · exact (b6.block _ (by rw [hz]; omega)).trans ((heap_setCell_other _ _ _ _ (by simp)).trans H5)
theorem step_store_row {P : Program} {ops : Array Oper} {o : Oper} {a : Act} {w : World} {K : Act → World → Prop} {Q : Exit → Act → World → Prop} {G : Prop} (hgd : o.guard = none) (ty : TypeId) (x y : Operand) (ho : o.op = .store ty x y)
    (g : Nat) (cells : Array Value) (hx : a.eval x = .pointer (some ⟨g, 0, none⟩)) (hy : a.eval y = .agg cells) (t : TypeId) (old : Array Value) (hg : w.heap[g]? = some (.cells old t (0, 0))) (hi : (P.info? ty).map (·.size) = some cells.size)
    (hold : old.size = cells.size) (h1 : cells.all (·.oneCell') = true) (h : K (a.put o.dst undef) (w.setRow g cells)) :
    if Region.wanted o (yielded ops a.tmps) = true then Oper.wp P o a w K Q else G := by
  have hw : Region.wanted o (yielded ops a.tmps) = true := by simp [Region.wanted, hgd]
  rw [if_pos hw]
  exact wp_store_row ty x y ho g cells hx hy t old hg hi hold h1 h
theorem mcell_one (pc : Int) (mem : List Int) (q : Option Addr) (k d : Nat) (ov : Bool) : (mcell pc mem q k d ov).all (·.oneCell') = true := by
  rw [Array.all_eq_true_iff_forall_mem]
  intro v hv
  simp [mcell] at hv
  rcases hv with rfl | ⟨x, _, rfl⟩ | rfl | rfl <;> rfl
theorem res17 {tmps : Array Value} {w : World} {r : Nat} {pc : Int} {mem : List Int} {q : Option Addr} {k d : Nat} {ov : Bool} {xo xa xb xn : Int} (h4 : tmps.getD 4 undef = .pointer (some ⟨r + 1, 0, none⟩)) (h5 : tmps.getD 5 undef = .pointer (some ⟨r + 1 + 1, 0, none⟩)) (h6 : tmps.getD 6 undef = .bool true)
    (g4 : w.heap[r + 1]? = some (.cells (mcell pc mem q k d ov) 63 (0, 0))) (hm : mem.length = 8) (g5 : w.heap[r + 1 + 1]? = some (.cells #[.int .i64 xo, .int .i64 xa, .int .i64 xb, .int .i64 xn] 42 (0, 0))) :
    (results Try.f25 tmps).run Try.prog w = .ok (.tuple #[.agg (mcell pc mem q k d ov), .agg #[.int .i64 xo, .int .i64 xa, .int .i64 xb, .int .i64 xn], .bool true]) w := by
  have e4 := run_loadVar_row (P := Try.prog) w (r + 1) 63 63 _ (0, 0) _ g4 Try.underlying63 rfl (by rw [mcell_size hm]; exact info38)
  have e5 := run_loadVar_row (P := Try.prog) w (r + 1 + 1) 42 42 _ (0, 0) _ g5 Try.underlying42 rfl info41
  have k4 : tmps[4]?.getD undef = .pointer (some ⟨r + 1, 0, none⟩) := by simpa using h4
  have k5 : tmps[5]?.getD undef = .pointer (some ⟨r + 1 + 1, 0, none⟩) := by simpa using h5
  have k6 : tmps[6]?.getD undef = .bool true := by simpa using h6
  simp [results, Try.results25, k4, k5, k6, asAddr, e4, e5]
theorem own_takeE {α : Type} {E : Elt α} {e : TypeId} {w : World} {base : Nat} {q : Option Addr} {d : Nat} {l : List α} (h : Own E w base e q d l) (hl : 0 < l.length) (k : Nat) (hk : k ≤ l.length) : Own E w base e q d (l.take k) := by
  have hlen : (l.take k).length = k := by simp; omega
  unfold Own
  rw [hlen]
  refine ⟨by rw [fl_length, hlen], ?_⟩
  rcases h.2 with ⟨h1, h2⟩ | ⟨g, cap, cur, h1, h2, h3, h4, h5, h6, h7⟩
  · omega
  · simp only [Value.slice.injEq, true_and] at h1
    obtain ⟨rfl, rfl⟩ := h1
    refine .inr ⟨g, d, cur, rfl, h2, h3, by omega, h5, h6, ?_⟩
    rw [← fl_take, ← h7, List.take_take]
    congr 1
    exact (Nat.min_eq_left (Nat.mul_le_mul_right _ hk)).symm
def slen : Option Value → Nat
  | some (.slice _ n _) => n
  | _ => 0
theorem lastR (o : List Rp) : o = [] ∨ ∃ o1 k, o = o1 ++ [k] := by
  rcases List.eq_nil_or_concat o with h | ⟨a, b, h⟩
  · exact .inl h
  · exact .inr ⟨a, b, by simpa using h⟩
/-- what the memories are behind an instruction -/
def memA (x : In) (mem : List Int) : List Int :=
  if x.1 = 1 then mem.set x.2.1.toNat x.2.2.2
  else if x.1 = 2 then mem.set x.2.1.toNat (wrap64 (mem.getD x.2.1.toNat 0 + mem.getD x.2.2.1.toNat 0))
  else if x.1 = 3 then mem.set x.2.1.toNat (wrap64 (mem.getD x.2.1.toNat 0 - mem.getD x.2.2.1.toNat 0))
  else if x.1 = 4 then mem.set x.2.1.toNat (wrap64 (mem.getD x.2.1.toNat 0 * mem.getD x.2.2.1.toNat 0))
  else if x.1 = 5 then mem.set x.2.1.toNat (shf (mem.getD x.2.1.toNat 0) x.2.2.2)
  else if x.1 = 6 then mem.set x.2.1.toNat (nrw (mem.getD x.2.1.toNat 0) x.2.2.2)
  else mem
/-- which one is next, ahead of what is repeated -/
def nxt (pc : Int) (x : In) (mem : List Int) : Int := if x.1 = 0 then pc else if x.1 = 7 ∧ mem.getD x.2.1.toNat 0 = 0 then pc + 1 + x.2.2.2 else pc + 1
/-- what is repeated, ahead of the look at it -/
def repA (pc : Int) (x : In) (R : List Rp) : List Rp := if x.1 = 8 then R ++ [(pc + 1, pc + x.2.2.1, x.2.2.2 - 1)] else R
/-- what a step leaves: where, what is in memory, what is repeated, whether it is over -/
def StepX (pc : Int) (mem : List Int) (R : List Rp) (x : In) (pcF : Int) (memF : List Int) (RF : List Rp) (ov : Bool) : Prop :=
  memF = memA x mem ∧ ov = decide (x.1 = 0) ∧ normR (nxt pc x mem) (repA pc x R).reverse = (pcF, RF.reverse)
def StepTold (pc : Int) (mem : List Int) (R : List Rp) (x : In) (w : World) (e : Ending) (w' : World) : Prop :=
  (∃ (pcF : Int) (memF : List Int) (q : Option Addr) (d k : Nat) (RF : List Rp) (ov : Bool), e = .returned (.tuple #[.agg (mcell pcF memF q k d ov), .agg #[.int .i64 x.1, .int .i64 x.2.1, .int .i64 x.2.2.1, .int .i64 x.2.2.2], .bool true]) ∧ memF.length = 8 ∧ RF.length = k ∧ Own eRp w' (w.heap.size + 3) 79 q d RF ∧ StepX pc mem R x pcF memF RF ov) ∧ Below w.heap.size w w'
section
variable {pc : Int} {mem : List Int} {R : List Rp} {xo xa xb xn pcF : Int} {RF : List Rp}
theorem getD_of {u : List Int} {k : Nat} {V : Int} (h : u[k]? = some V) : u.getD k 0 = V := by rw [List.getD_eq_getElem?_getD, h]; rfl
theorem sx_end (h0 : xo = 0) (h : normR pc R.reverse = (pcF, RF.reverse)) : StepX pc mem R (xo, xa, xb, xn) pcF mem RF true := by
  subst h0
  exact ⟨by simp [memA], by simp, by simpa [nxt, repA] using h⟩
theorem sx_put (h0 : xo = 1) (h : normR (pc + 1) R.reverse = (pcF, RF.reverse)) : StepX pc mem R (xo, xa, xb, xn) pcF (mem.set xa.toNat xn) RF false := by
  subst h0
  exact ⟨by simp [memA], by simp, by simpa [nxt, repA] using h⟩
theorem sx_add {V U : Int} (h0 : xo = 2) (hV : mem[xa.toNat]? = some V) (hU : mem[xb.toNat]? = some U) (h : normR (pc + 1) R.reverse = (pcF, RF.reverse)) : StepX pc mem R (xo, xa, xb, xn) pcF (mem.set xa.toNat (wrap64 (V + U))) RF false := by
  subst h0
  exact ⟨by simp only [memA, getD_of hV, getD_of hU]; simp, by simp, by simpa [nxt, repA] using h⟩
theorem sx_sub {V U : Int} (h0 : xo = 3) (hV : mem[xa.toNat]? = some V) (hU : mem[xb.toNat]? = some U) (h : normR (pc + 1) R.reverse = (pcF, RF.reverse)) : StepX pc mem R (xo, xa, xb, xn) pcF (mem.set xa.toNat (wrap64 (V - U))) RF false := by
  subst h0
  exact ⟨by simp only [memA, getD_of hV, getD_of hU]; simp, by simp, by simpa [nxt, repA] using h⟩
theorem sx_mul {V U : Int} (h0 : xo = 4) (hV : mem[xa.toNat]? = some V) (hU : mem[xb.toNat]? = some U) (h : normR (pc + 1) R.reverse = (pcF, RF.reverse)) : StepX pc mem R (xo, xa, xb, xn) pcF (mem.set xa.toNat (wrap64 (V * U))) RF false := by
  subst h0
  exact ⟨by simp only [memA, getD_of hV, getD_of hU]; simp, by simp, by simpa [nxt, repA] using h⟩
theorem sx_shift {V : Int} (h0 : xo = 5) (hV : mem[xa.toNat]? = some V) (h : normR (pc + 1) R.reverse = (pcF, RF.reverse)) : StepX pc mem R (xo, xa, xb, xn) pcF (mem.set xa.toNat (shf V xn)) RF false := by
  subst h0
  exact ⟨by simp only [memA, getD_of hV]; simp, by simp, by simpa [nxt, repA] using h⟩
theorem sx_narrow {V : Int} (h0 : xo = 6) (hV : mem[xa.toNat]? = some V) (h : normR (pc + 1) R.reverse = (pcF, RF.reverse)) : StepX pc mem R (xo, xa, xb, xn) pcF (mem.set xa.toNat (nrw V xn)) RF false := by
  subst h0
  exact ⟨by simp only [memA, getD_of hV]; simp, by simp, by simpa [nxt, repA] using h⟩
theorem sx_skip {V : Int} (h0 : xo = 7) (hV : mem[xa.toNat]? = some V) (hz : V = 0) (h : normR (pc + 1 + xn) R.reverse = (pcF, RF.reverse)) : StepX pc mem R (xo, xa, xb, xn) pcF mem RF false := by
  subst h0
  exact ⟨by simp [memA], by simp, by simp only [nxt, getD_of hV, hz]; simpa [repA] using h⟩
theorem sx_stay {V : Int} (h0 : xo = 7) (hV : mem[xa.toNat]? = some V) (hz : V ≠ 0) (h : normR (pc + 1) R.reverse = (pcF, RF.reverse)) : StepX pc mem R (xo, xa, xb, xn) pcF mem RF false := by
  subst h0
  exact ⟨by simp [memA], by simp, by simp only [nxt, getD_of hV]; simpa [repA, hz] using h⟩
theorem sx_rep (h0 : xo = 8) (h : normR (pc + 1) (R ++ [(pc + 1, pc + xb, xn - 1)]).reverse = (pcF, RF.reverse)) : StepX pc mem R (xo, xa, xb, xn) pcF mem RF false := by
  subst h0
  exact ⟨by simp [memA], by simp, by simpa [nxt, repA] using h⟩
theorem sx_nop (h0 : 9 ≤ xo) (h : normR (pc + 1) R.reverse = (pcF, RF.reverse)) : StepX pc mem R (xo, xa, xb, xn) pcF mem RF false := by
  refine ⟨?_, ?_, ?_⟩
  · unfold memA; simp only; rw [if_neg (by omega), if_neg (by omega), if_neg (by omega), if_neg (by omega), if_neg (by omega), if_neg (by omega)]
  · simp only; exact (decide_eq_false (by omega)).symm
  · unfold nxt repA; simp only; rw [if_neg (by omega), if_neg (by omega), if_neg (by omega)]; exact h
end
theorem ins_one (a b c d : Int) : (#[Value.int .i64 a, .int .i64 b, .int .i64 c, .int .i64 d] : Array Value).all (·.oneCell') = true := by
  rw [Array.all_eq_true_iff_forall_mem]
  intro v hv
  simp at hv
  rcases hv with rfl | rfl | rfl | rfl <;> rfl
theorem normR_drop {pc A B C : Int} {r : List Rp} (h : B < pc) (hc : ¬ 0 < C) : normR pc ((A, B, C) :: r) = normR pc r := by
  show (if B < pc then (if 0 < C then (A, (A, B, C - 1) :: r) else normR pc r) else (pc, (A, B, C) :: r)) = _
  rw [if_pos h, if_neg hc]
theorem Mc.cm_ {w : World} {b : Nat} {pc : Int} {mem : List Int} {q : Option Addr} {k d : Nat} {ov : Bool} (h : Mc w b pc mem q k d ov) {j : Nat} {V : Int} (hj : mem[j]? = some V) : w.cell? ⟨b, 1 + j, none⟩ = some (.int .i64 V) := by
  obtain ⟨hl, rfl⟩ := List.getElem?_eq_some_iff.1 hj
  exact h.cm (by rw [← h.len]; exact hl)
theorem mem_at {mem : List Int} (h : mem.length = 8) {x : Int} (h0 : 0 ≤ x) (h1 : x ≤ 7) : ∃ V : Int, x.toNat < 8 ∧ x < 8 ∧ mem[x.toNat]? = some V :=
  ⟨mem[x.toNat]'(by omega), by omega, by omega, List.getElem?_eq_getElem _⟩
/-- a machine at block r on its way through a step: w the world at first -/
structure St (w : World) (r : Nat) (wl : World) (pc : Int) (mem : List Int) (q : Option Addr) (k d : Nat) (ov : Bool) (RL : List Rp) (z : Nat) : Prop where
  M : Mc wl r pc mem q k d ov
  h4 : ∃ cs, cs.size = 11 ∧ wl.heap[r + 1]? = some (.cells cs 63 (0, 0))
  h5 : ∃ cs, cs.size = 4 ∧ wl.heap[r + 1 + 1]? = some (.cells cs 42 (0, 0))
  B : Below r w wl
  z : r + 4 ≤ z ∧ z ≤ wl.heap.size
  o : Own eRp wl (r + 3) 79 q d RL
section
variable {w : World} {r : Nat} {wl : World} {pc : Int} {mem : List Int} {q : Option Addr} {k d : Nat} {ov : Bool} {RL : List Rp} {z : Nat}
theorem St.s0 (h : St w r wl pc mem q k d ov RL z) (v : Int) : St w r (wl.setCell ⟨r, 0, none⟩ (.int .i64 v)) v mem q k d ov RL z := by
  obtain ⟨c4, s4, e4⟩ := h.h4
  obtain ⟨c5, s5, e5⟩ := h.h5
  exact ⟨h.M.s0 v, ⟨c4, s4, (heap_setCell_other _ _ _ _ (by simp <;> omega)).trans e4⟩, ⟨c5, s5, (heap_setCell_other _ _ _ _ (by simp <;> omega)).trans e5⟩, h.B.setCell (Nat.le_refl _) _, ⟨h.z.1, by simpa [World.setCell] using h.z.2⟩, own_lowE h.o (by simp) _⟩
theorem St.sm (h : St w r wl pc mem q k d ov RL z) {j : Nat} (hj : j < 8) (v : Int) : St w r (wl.setCell ⟨r, 1 + j, none⟩ (.int .i64 v)) pc (mem.set j v) q k d ov RL z := by
  obtain ⟨c4, s4, e4⟩ := h.h4
  obtain ⟨c5, s5, e5⟩ := h.h5
  exact ⟨h.M.sm hj v, ⟨c4, s4, (heap_setCell_other _ _ _ _ (by simp <;> omega)).trans e4⟩, ⟨c5, s5, (heap_setCell_other _ _ _ _ (by simp <;> omega)).trans e5⟩, h.B.setCell (Nat.le_refl _) _, ⟨h.z.1, by simpa [World.setCell] using h.z.2⟩, own_lowE h.o (by simp) _⟩
theorem St.s10 (h : St w r wl pc mem q k d ov RL z) (v : Bool) : St w r (wl.setCell ⟨r, 10, none⟩ (.bool v)) pc mem q k d v RL z := by
  obtain ⟨c4, s4, e4⟩ := h.h4
  obtain ⟨c5, s5, e5⟩ := h.h5
  exact ⟨h.M.s10 v, ⟨c4, s4, (heap_setCell_other _ _ _ _ (by simp <;> omega)).trans e4⟩, ⟨c5, s5, (heap_setCell_other _ _ _ _ (by simp <;> omega)).trans e5⟩, h.B.setCell (Nat.le_refl _) _, ⟨h.z.1, by simpa [World.setCell] using h.z.2⟩, own_lowE h.o (by simp) _⟩
/-- what is repeated is another row, that is owned -/
theorem St.s9 (h : St w r wl pc mem q k d ov RL z) {q' : Option Addr} {k' d' : Nat} {RL' : List Rp} (ho : Own eRp wl (r + 3) 79 q' d' RL') : St w r (wl.setCell ⟨r, 9, none⟩ (.slice q' k' d')) pc mem q' k' d' ov RL' z := by
  obtain ⟨c4, s4, e4⟩ := h.h4
  obtain ⟨c5, s5, e5⟩ := h.h5
  exact ⟨h.M.s9 q' k' d', ⟨c4, s4, (heap_setCell_other _ _ _ _ (by simp <;> omega)).trans e4⟩, ⟨c5, s5, (heap_setCell_other _ _ _ _ (by simp <;> omega)).trans e5⟩, h.B.setCell (Nat.le_refl _) _, ⟨h.z.1, by simpa [World.setCell] using h.z.2⟩, own_lowE ho (by simp) _⟩
theorem St.grow (h : St w r wl pc mem q k d ov RL z) {w' : World} (hb : Below wl.heap.size wl w') : St w r w' pc mem q k d ov RL z := by
  obtain ⟨c4, s4, e4⟩ := h.h4
  obtain ⟨c5, s5, e5⟩ := h.h5
  obtain ⟨z1, z2⟩ := h.z
  exact ⟨h.M.below hb, ⟨c4, s4, (hb.block _ (by omega)).trans e4⟩, ⟨c5, s5, (hb.block _ (by omega)).trans e5⟩, h.B.trans (hb.mono (by omega)), ⟨h.z.1, Nat.le_trans z2 hb.size⟩, own_below h.o hb⟩
theorem St.al (h : St w r wl pc mem q k d ov RL z) {g : Nat} (hg : wl.heap.size = g) (ob : Obj) : St w r (wl.alloc ob) pc mem q k d ov RL (g + 1) ∧ (wl.alloc ob).heap[g]? = some ob := by
  subst hg
  have h' := h.grow (w' := wl.alloc ob) (by repeat (first | exact Below.refl _ _ | refine Below.alloc ?_ (by simp <;> omega) _ | refine Below.setCell ?_ (by simp <;> omega) _))
  have hz := h.z
  exact ⟨⟨h'.M, h'.h4, h'.h5, h'.B, ⟨by omega, by simp⟩, h'.o⟩, heap_at rfl⟩
/-- a step that leaves all under r + 3, and what it leaves as a new row -/
theorem St.app (h : St w r wl pc mem q k d ov RL z) {w' : World} (hb : Below (r + 3) wl w') {q' : Option Addr} {k' d' : Nat} {RL' : List Rp} (ho : Own eRp w' (r + 3) 79 q' d' RL') : St w r (w'.setCell ⟨r, 9, none⟩ (.slice q' k' d')) pc mem q' k' d' ov RL' z := by
  obtain ⟨c4, s4, e4⟩ := h.h4
  obtain ⟨c5, s5, e5⟩ := h.h5
  obtain ⟨z1, z2⟩ := h.z
  have M' : Mc w' r pc mem q k d ov := h.M.block (hb.block r (by omega))
  exact ⟨M'.s9 q' k' d', ⟨c4, s4, (heap_setCell_other _ _ _ _ (by simp <;> omega)).trans ((hb.block _ (by omega)).trans e4)⟩, ⟨c5, s5, (heap_setCell_other _ _ _ _ (by simp <;> omega)).trans ((hb.block _ (by omega)).trans e5)⟩, (h.B.trans (hb.mono (by omega))).setCell (Nat.le_refl _) _, ⟨h.z.1, by have := hb.size; simp [World.setCell]; omega⟩, own_lowE ho (by simp) _⟩
theorem own_row {α : Type} {E : Elt α} {w : World} {base g : Nat} {e : TypeId} {p : Option Addr} {c : Nat} {l : List α} (h : Own E w base e p c l) (hg : g < base) (cs : Array Value) : Own E (w.setRow g cs) base e p c l :=
  own_kp (g := g) h ⟨rfl, rfl, rfl, by simp, fun k _ hn => setRow_other _ _ _ _ (fun e => hn (by rw [e]))⟩ hg
theorem St.fin (h : St w r wl pc mem q k d ov RL z) (a b : Array Value) : Own eRp ((wl.setRow (r + 1) a).setRow (r + 1 + 1) b) (r + 3) 79 q d RL ∧ Below r w ((wl.setRow (r + 1) a).setRow (r + 1 + 1) b) :=
  ⟨own_row (own_row h.o (by omega) a) (by omega) b, below_setRow (below_setRow h.B (by omega) a) (by omega) b⟩
theorem own_al {α : Type} {E : Elt α} {w : World} {base : Nat} {e : TypeId} {p : Option Addr} {c : Nat} {l : List α} (h : Own E w base e p c l) (ob : Obj) : Own E (w.alloc ob) base e p c l := own_below h (by repeat (first | exact Below.refl _ _ | refine Below.alloc ?_ (by simp <;> omega) _ | refine Below.setCell ?_ (by simp <;> omega) _))
theorem own_apart {α : Type} {E : Elt α} {w : World} {base g : Nat} {e t : TypeId} {p : Option Addr} {c : Nat} {l : List α} {cs : Array Value} {fr : Nat × Nat} (h : Own E w base e p c l) (hg : w.heap[g]? = some (.cells cs t fr)) (ht : t ≠ e) : ∀ g', p = some ⟨g', 0, none⟩ → g ≠ g' := by
  rintro g' rfl rfl
  rcases h.2 with ⟨h1, _⟩ | ⟨g1, cap, cur, h1, h2, h3, _⟩
  · simp at h1
  · simp only [Value.slice.injEq, Option.some.injEq, Addr.mk.injEq] at h1
    obtain ⟨⟨rfl, _⟩, _⟩ := h1
    rw [hg] at h3
    simp only [Option.some.injEq, Obj.cells.injEq] at h3
    exact ht h3.2.1
/-- what was repeated last is laid back -/
theorem back {wq w7 : World} {r7 bq oq m1 dI c7 j : Nat} {p7 : Option Addr} {RI1 L : List Rp} {A B C : Int} {cs : Array Value} {Y : Obj} (Sq : St w r wq pc mem q k d ov RL z) (H7 : wq.heap[r7]? = some (.cells cs 42 (0, 0))) (hr7 : r7 < wq.heap.size) (hr : r + 3 ≤ r7)
    (oS : Own eRp wq (r + 3) 79 (some ⟨bq, oq, none⟩) dI RI1) (hbz : bq < wq.heap.size)
    (b7 : Below (r + 3) (((wq.setCell ⟨r, 9, none⟩ (.slice (some ⟨bq, oq, none⟩) m1 dI)).alloc (.cells #[.int .i64 A, .int .i64 B, .int .i64 C] 79)).alloc Y) w7)
    (st7 : Stays (((wq.setCell ⟨r, 9, none⟩ (.slice (some ⟨bq, oq, none⟩) m1 dI)).alloc (.cells #[.int .i64 A, .int .i64 B, .int .i64 C] 79)).alloc Y) w7 (some ⟨bq, oq, none⟩)) (o7 : Own eRp w7 (r + 3) 79 p7 c7 L) :
    Mc w7 r pc mem (some ⟨bq, oq, none⟩) m1 dI ov ∧ w7.cell? ⟨wq.heap.size, 0, none⟩ = some (.int .i64 A) ∧ wq.heap.size < w7.heap.size ∧ St w r (w7.setCell ⟨r, 9, none⟩ (.slice p7 j c7)) pc mem p7 j c7 ov L z ∧ w7.heap[r7]? = some (.cells cs 42 (0, 0)) := by
  have S1 : St w r (wq.setCell ⟨r, 9, none⟩ (.slice (some ⟨bq, oq, none⟩) m1 dI)) pc mem (some ⟨bq, oq, none⟩) m1 dI ov RI1 z := Sq.s9 oS
  have SW := S1.grow ((by repeat (first | exact Below.refl _ _ | refine Below.alloc ?_ (by simp <;> omega) _ | refine Below.setCell ?_ (by simp <;> omega) _)) : Below _ _ (((wq.setCell ⟨r, 9, none⟩ (.slice (some ⟨bq, oq, none⟩) m1 dI)).alloc (.cells #[.int .i64 A, .int .i64 B, .int .i64 C] 79)).alloc Y))
  have hz := b7.size
  simp [World.setCell] at hz
  have hr' := Sq.M.lt
  refine ⟨SW.M.block (b7.block r (by omega)), ?_, by omega, SW.app b7 o7, ?_⟩
  · have h := (st7 wq.heap.size (by simp [World.setCell]; omega) (by intro g e; cases e; omega)).trans ((Below.heap_alloc _ _ _ (by simp [World.setCell])).trans (heap_at (by simp [World.setCell])))
    rw [cell_of_row _ _ _ _ _ _ h]
    rfl
  · refine (st7 r7 (by simp [World.setCell]; omega) (own_apart oS H7 (by decide))).trans ?_
    exact (Below.heap_alloc _ _ _ (by simp [World.setCell]; omega)).trans ((Below.heap_alloc _ _ _ (by simp [World.setCell]; omega)).trans ((heap_setCell_other _ _ _ _ (by simp <;> omega)).trans H7))
theorem rep8 {w6 w7 : World} {c7 j : Nat} {p7 : Option Addr} {L : List Rp} {X Y : Obj} (S6 : St w r w6 pc mem q k d ov RL z) (o6 : Own eRp w6 (r + 3) 79 q d RL)
    (b7 : Below (r + 3) ((w6.alloc X).alloc Y) w7) (st7 : Stays ((w6.alloc X).alloc Y) w7 q) (o7 : Own eRp w7 (r + 3) 79 p7 c7 L) :
    Mc w7 r pc mem q k d ov ∧ w6.heap.size < w7.heap.size ∧ St w r (w7.setCell ⟨r, 9, none⟩ (.slice p7 j c7)) pc mem p7 j c7 ov L (w6.heap.size + 1) ∧ w7.heap[w6.heap.size]? = some X := by
  have SW := (S6.al rfl X).1.grow ((by repeat (first | exact Below.refl _ _ | refine Below.alloc ?_ (by simp <;> omega) _ | refine Below.setCell ?_ (by simp <;> omega) _)) : Below _ _ ((w6.alloc X).alloc Y))
  have hz := b7.size
  simp at hz
  refine ⟨SW.M.block (b7.block r (by omega)), by omega, SW.app b7 o7, ?_⟩
  refine (st7 w6.heap.size (by simp; omega) (fun g e => by have := (own_blk o6 g e).2; omega)).trans ?_
  exact (Below.heap_alloc _ _ _ (by simp)).trans (heap_at rfl)
end
end Go.Proofs.Ytonholadabebbaa
