/-
  Small laws of rows and stores, of no program.
-/
import Derived.Test.YteklpceikddggaaShap
import Derived.Test.YteklpceikddggaaHand
import Derived.Deep.AppendLies
namespace Go.Proofs.Yteklpceikddggaa
open Go.ChangeShapes Go.WideShapes Go.ChangeAt Go.RowKit
attribute [local go_sem ↓] Go.wp_at_zero Go.wp_at_succ

theorem load_yields {a : Act} {w : World} {o : Oper} {P : Program} (t : TypeId) (x : Operand) (ho : o.op = .load t x) (g : Nat) (hx : a.eval x = .pointer (some ⟨g, 0, none⟩)) {v : Value} (h : (loadVar t ⟨g, 0, none⟩).run P w = .ok v w) : (execOp a.eval o).run P w = .ok (.value v) w := by
  unfold execOp
  simp only [ho, hx, Instr.loadAt, Instr.sureAddr, Sem.run_bind, Sem.run_pure, Result.andThen_ok, h]
theorem own_lowE {α : Type} {E : Elt α} {e : TypeId} {w : World} {base : Nat} {p : Option Addr} {c : Nat} {l : List α} (h : Own E w base e p c l) {a : Addr} (ha : a.block < base) (u : Value) : Own E (w.setCell a u) base e p c l := by
  refine ownsRow_setCell_other h ?_ u
  intro e
  have := World.ownsRow.lt h _ e
  omega
theorem own_blk {α : Type} {E : Elt α} {e : TypeId} {w : World} {base : Nat} {p : Option Addr} {c : Nat} {l : List α} (h : Own E w base e p c l) : ∀ g, p = some ⟨g, 0, none⟩ → base ≤ g ∧ g < w.heap.size := by
  rintro g rfl
  exact World.ownsRow.lt h g rfl
theorem four {w w5 : World} {A B C D : Obj} (b5 : Below (w.heap.size + 3) ((((w.alloc A).alloc B).alloc C).alloc D) w5) : w5.heap[w.heap.size]? = some A ∧ w5.heap[w.heap.size + 1]? = some B ∧ w5.heap[w.heap.size + 2]? = some C ∧ w.heap.size + 4 ≤ w5.heap.size ∧ Below w.heap.size w w5 := by
  have hz := b5.size
  simp at hz
  refine ⟨?_, ?_, ?_, by omega, ?_⟩
  · exact (b5.block _ (by omega)).trans ((Below.heap_alloc _ _ _ (by simp; omega)).trans ((Below.heap_alloc _ _ _ (by simp; omega)).trans (heap_alloc2_old _ _ _)))
  · exact (b5.block _ (by omega)).trans ((Below.heap_alloc _ _ _ (by simp)).trans ((Below.heap_alloc _ _ _ (by simp)).trans (heap_alloc2_new _ _ _)))
  · exact (b5.block _ (by omega)).trans ((Below.heap_alloc _ _ _ (by simp)).trans (heap_at (by simp)))
  · exact ((by repeat (first | exact Below.refl _ _ | refine Below.alloc ?_ (by simp <;> omega) _ | refine Below.setCell ?_ (by simp <;> omega) _)) : Below w.heap.size w _).trans (b5.mono (by omega))
theorem own_blockg {α : Type} {E : Elt α} {w : World} {base g : Nat} {cs : Array Value} {l : List α} {e : TypeId} (hs : w.heap.size = g) (hb : base ≤ g) (hl : cs.toList = fl E l) (n : Nat) (hn : l.length = n) (hm : n ≤ maxLen) : Own E (w.alloc (.cells cs e)) base e (some ⟨g, 0, none⟩) n l := by
  subst hs
  exact own_block hb hl n hn hm
theorem step_store_row {P : Program} {ops : Array Oper} {o : Oper} {a : Act} {w : World} {K : Act → World → Prop} {Q : Exit → Act → World → Prop} {G : Prop} (hgd : o.guard = none) (ty : TypeId) (x y : Operand) (ho : o.op = .store ty x y)
    (g : Nat) (cells : Array Value) (hx : a.eval x = .pointer (some ⟨g, 0, none⟩)) (hy : a.eval y = .agg cells) (t : TypeId) (old : Array Value) (hg : w.heap[g]? = some (.cells old t (0, 0))) (hi : (P.info? ty).map (·.size) = some cells.size)
    (hold : old.size = cells.size) (h1 : cells.all (·.oneCell') = true) (h : K (a.put o.dst undef) (w.setRow g cells)) :
    if Region.wanted o (yielded ops a.tmps) = true then Oper.wp P o a w K Q else G := by
  have hw : Region.wanted o (yielded ops a.tmps) = true := by simp [Region.wanted, hgd]
  rw [if_pos hw]
  exact wp_store_row ty x y ho g cells hx hy t old hg hi hold h1 h
theorem own_takeE {α : Type} {E : Elt α} {e : TypeId} {w : World} {base : Nat} {q : Option Addr} {d : Nat} {l : List α} (h : Own E w base e q d l) (hl : 0 < l.length) (k : Nat) (hk : k ≤ l.length) : Own E w base e q d (l.take k) := by
  have hlen : (l.take k).length = k := by simp; omega
  unfold Own
  rw [hlen]
  refine ⟨by rw [fl_length, hlen], ?_⟩
  rcases h.2 with ⟨h1, h2⟩ | ⟨g, cap, cur, h1, h2, h3, h4, h5, h6, h7⟩
  · omega
  · simp only [Value.slice.injEq, true_and] at h1
    obtain ⟨rfl, rfl⟩ := h1
    refine .inr ⟨g, d, cur, rfl, h2, h3, by omega, h5, h6, ?_⟩
    rw [← fl_take, ← h7, List.take_take]
    congr 1
    exact (Nat.min_eq_left (Nat.mul_le_mul_right _ hk)).symm
theorem getD_of {u : List Int} {k : Nat} {V : Int} (h : u[k]? = some V) : u.getD k 0 = V := by rw [List.getD_eq_getElem?_getD, h]; rfl
theorem ins_one (a b c d : Int) : (#[Value.int .i64 a, .int .i64 b, .int .i64 c, .int .i64 d] : Array Value).all (·.oneCell') = true := by
  rw [Array.all_eq_true_iff_forall_mem]
  intro v hv
  simp at hv
  rcases hv with rfl | rfl | rfl | rfl <;> rfl
theorem own_row {α : Type} {E : Elt α} {w : World} {base g : Nat} {e : TypeId} {p : Option Addr} {c : Nat} {l : List α} (h : Own E w base e p c l) (hg : g < base) (cs : Array Value) : Own E (w.setRow g cs) base e p c l :=
  own_kp (g := g) h ⟨rfl, rfl, rfl, by simp, fun k _ hn => setRow_other _ _ _ _ (fun e => hn (by rw [e]))⟩ hg
theorem own_al {α : Type} {E : Elt α} {w : World} {base : Nat} {e : TypeId} {p : Option Addr} {c : Nat} {l : List α} (h : Own E w base e p c l) (ob : Obj) : Own E (w.alloc ob) base e p c l := own_below h (by repeat (first | exact Below.refl _ _ | refine Below.alloc ?_ (by simp <;> omega) _ | refine Below.setCell ?_ (by simp <;> omega) _))
theorem own_apart {α : Type} {E : Elt α} {w : World} {base g : Nat} {e t : TypeId} {p : Option Addr} {c : Nat} {l : List α} {cs : Array Value} {fr : Nat × Nat} (h : Own E w base e p c l) (hg : w.heap[g]? = some (.cells cs t fr)) (ht : t ≠ e) : ∀ g', p = some ⟨g', 0, none⟩ → g ≠ g' := by
  rintro g' rfl rfl
  rcases h.2 with ⟨h1, _⟩ | ⟨g1, cap, cur, h1, h2, h3, _⟩
  · simp at h1
  · simp only [Value.slice.injEq, Option.some.injEq, Addr.mk.injEq] at h1
    obtain ⟨⟨rfl, _⟩, _⟩ := h1
    rw [hg] at h3
    simp only [Option.some.injEq, Obj.cells.injEq] at h3
    exact ht h3.2.1
theorem rd_none {α : Type} {E : Elt α} (w : World) : Rd E w none 0 [] := ⟨Nat.le_refl _, .inl ⟨rfl, rfl, rfl⟩⟩
end Go.Proofs.Yteklpceikddggaa
