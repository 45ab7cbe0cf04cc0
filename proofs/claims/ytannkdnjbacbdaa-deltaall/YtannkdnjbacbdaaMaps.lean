/-
  What a map from one integer, in a struct, to two integers, in a struct, is asked and told: the model's own look-up and store, at the program's types.
-/
import Derived.Test.YtannkdnjbacbdaaChecked
import Derived.WalkKit
import Derived.ProofKit
import Derived.Laws.StructEq
import Derived.WideKeyRuns
import Derived.Below
import Derived.Maps.OwnOps
import Derived.MapKept
namespace Go.Proofs.Ytannkdnjbacbdaa
open Go.ChangeShapes Go.WideShapes Go.ChangeAt Go.RowKit

theorem eqKey (a b : Int) (w : World) : (Op.equal 64 (.agg #[.int .i64 a]) (.agg #[.int .i64 b])).run Try.prog w = .ok (a == b) w := by
  have u3 := Try.underlying3
  have a3 := Try.isAgg3
  have z3 := Try.sizeOf3
  have hS : Try.prog.underlying 64 = some (.struct (Try.prog.fieldsOf 64)) := by kernel_rfl
  have hp : Try.prog.stoodInHeld 64 = false := by kernel_rfl
  rw [Op.equal, Op.maxDepth, show (10000 : Nat) = 9999 + 1 from rfl, run_equalIn_agg w 9999 64 _ _ hS hp]
  simp only [Program.fieldsOf, Try.underlying64]
  go_simp
  by_cases h1 : a = b <;> simp [h1]

theorem checkOne (e : Bool) (n : Nat) (a : Int) (w : World) : (Instr.checkKey e (n + 1) 3 (.int .i64 a)).run Try.prog w = .ok () w := by
  simp [Instr.checkKey, run_underlying Try.underlying3]

theorem checkOwner (e : Bool) (a : Int) (w : World) : (Instr.checkKey e 10000 64 (.agg #[.int .i64 a])).run Try.prog w = .ok () w := by
  have a3 := Try.isAgg3
  rw [show (10000 : Nat) = 9998 + 1 + 1 from rfl]
  unfold Instr.checkKey
  simp [run_underlying Try.underlying64, part, a3, checkOne]

/-- an entry: whose, where, in how many ticks -/
abbrev En := Int × Int × Int
def keyV (k : Int) : Value := .agg #[.int .i64 k]
def valV (x : Int × Int) : Value := .agg #[.int .i64 x.1, .int .i64 x.2]
def lookE : List En → Int → Option (Int × Int)
  | [], _ => none
  | x :: r, k => if k = x.1 then some x.2 else lookE r k

/-- The map at b has just these entries, in this order. -/
def IsMp (w : World) (b : Nat) (m : List En) : Prop := ∃ es clock, w.heap[b]? = some (.map es clock) ∧ es.toList.map (fun e => (e.key, e.val)) = m.map fun x => (keyV x.1, valV x.2)

theorem IsMp.of_block {w w' : World} {b : Nat} {m : List En} (h : IsMp w b m) (e : w'.heap[b]? = w.heap[b]?) : IsMp w' b m := by
  obtain ⟨es, clock, h1, h2⟩ := h
  exact ⟨es, clock, e.trans h1, h2⟩
theorem IsMp.lt {w : World} {b : Nat} {m : List En} (h : IsMp w b m) : b < w.heap.size := by
  obtain ⟨es, clock, h1, _⟩ := h
  exact (Array.getElem?_eq_some_iff.1 h1).1
theorem IsMp.below {w w' : World} {b : Nat} {m : List En} (h : IsMp w b m) (hb : Below w.heap.size w w') : IsMp w' b m := h.of_block (hb.block b h.lt)
theorem IsMp.made (w : World) : IsMp (w.alloc (.map #[] 0)) w.heap.size [] := ⟨#[], 0, heap_alloc_new w _, rfl⟩

theorem find_run (k : Int) (w : World) : ∀ (es : List MapEntry) (m : List En) (i : Nat), es.map (fun e => (e.key, e.val)) = m.map (fun x => (keyV x.1, valV x.2)) →
    ∃ r, (Instr.findAsking 64 (keyV k) es i).run Try.prog w = .ok r w ∧ r.map (·.2) = (lookE m k).map valV
  | [], [], i, _ => ⟨none, by simp [Instr.findAsking], rfl⟩
  | e :: es, x :: m, i, h => by
    simp only [List.map_cons, List.cons.injEq, Prod.mk.injEq] at h
    obtain ⟨⟨h1, h2⟩, h3⟩ := h
    by_cases hk : k = x.1
    · subst hk
      refine ⟨some (i, e.val), ?_, by simp [lookE, h2]⟩
      simp [Instr.findAsking, h1, keyV, eqKey]
    · obtain ⟨r, hr, hr2⟩ := find_run k w es m (i + 1) h3
      refine ⟨r, ?_, by simpa [lookE, hk] using hr2⟩
      simp [Instr.findAsking, h1, keyV, eqKey, hk]
      simpa [keyV] using hr
  | [], x :: m, i, h => by simp at h
  | e :: es, [], i, h => by simp at h

theorem look_run {w : World} {b : Nat} {m : List En} (h : IsMp w b m) (k : Int) :
    (Instr.lookup 61 (.map (some b)) (.agg #[.int .i64 k]) true).run Try.prog w = .ok (.tuple #[valV ((lookE m k).getD (0, 0)), .bool (lookE m k).isSome]) w := by
  obtain ⟨es, clock, h1, h2⟩ := h
  obtain ⟨r, hr, hr2⟩ := find_run k w es.toList m 0 h2
  have hf : (Instr.findKey 64 (.agg #[.int .i64 k]) es.toList).run Try.prog w = .ok r w := by rw [run_findKey_eq w (by kernel_rfl)]; exact hr
  have hg : (getObj b).run Try.prog w = .ok (.map es clock) w := by simp [getObj, Sem.run, h1]
  cases hl : lookE m k with
  | none =>
    rw [hl] at hr2
    have : r = none := by simpa using hr2
    subst this
    simp [Instr.lookup, run_underlying Try.underlying61, hg, checkOwner, hf, Try.zeroValue59, valV]
  | some y =>
    rw [hl] at hr2
    obtain ⟨q, rfl, hq⟩ : ∃ q, r = some q ∧ q.2 = valV y := by
      cases r with
      | none => simp at hr2
      | some q => exact ⟨q, rfl, by simpa using hr2⟩
    obtain ⟨q1, q2⟩ := q
    simp only at hq
    subst hq
    simp [Instr.lookup, run_underlying Try.underlying61, hg, checkOwner, hf]

theorem store_run {w : World} {b : Nat} {m : List En} (h : IsMp w b m) (k a s : Int) (hn : lookE m k = none) :
    ∃ w', (Instr.mapUpdate 61 (.map (some b)) (.agg #[.int .i64 k]) (.agg #[.int .i64 a, .int .i64 s])).run Try.prog w = .ok () w' ∧ IsMp w' b (m ++ [(k, a, s)]) ∧ ∀ B, B ≤ b → Below B w w' := by
  obtain ⟨es, clock, h1, h2⟩ := h
  obtain ⟨r, hr, hr2⟩ := find_run k w es.toList m 0 h2
  have hf : (Instr.findKey 64 (.agg #[.int .i64 k]) es.toList).run Try.prog w = .ok r w := by rw [run_findKey_eq w (by kernel_rfl)]; exact hr
  have hg : (getObj b).run Try.prog w = .ok (.map es clock) w := by simp [getObj, Sem.run, h1]
  rw [hn] at hr2
  have : r = none := by simpa using hr2
  subst this
  refine ⟨{ w with heap := w.heap.setIfInBounds b (.map (es.push { key := .agg #[.int .i64 k], val := .agg #[.int .i64 a, .int .i64 s], born := clock }) (clock + 1)) }, ?_, ⟨_, _, (MapKept.heap_set h1).1, ?_⟩, fun B hB => ⟨rfl, rfl, rfl, by simp, fun j hj => ?_⟩⟩
  · simp [Instr.mapUpdate, run_underlying Try.underlying61, hg, checkOwner, hf, MapKept.run_setObj_map _ h1]
  · simp [h2, keyV, valV]
  · exact (MapKept.heap_set h1).2 j (by omega)

section
variable (w : World) {ops : Array Oper} {rest : List Oper} {o : Oper} {a : Act} {Q : Exit → Act → World → Prop}
theorem wpList_look (hg : o.guard = none) (m x : Operand) (hop : o.op = Op.lookup 61 m x true) (b : Nat) (l : List En) (hm : a.eval m = .map (some b)) (h : IsMp w b l) (k : Int) (hx : a.eval x = .agg #[.int .i64 k])
    (x1 x2 : Int) (is : Bool) (h1 : (lookE l k).getD (0, 0) = (x1, x2)) (h2 : (lookE l k).isSome = is)
    (hK : wpList Try.prog ops Q rest (a.put o.dst (.tuple #[.agg #[.int .i64 x1, .int .i64 x2], .bool is])) w) : wpList Try.prog ops Q (o :: rest) a w := by
  refine wpList_plain hg fun K' hK' => ?_
  have hrun := look_run h k
  rw [h1, h2] at hrun
  unfold Oper.wp
  simp [execOp, hop, hm, hx, hrun, Result.andThen]
  exact hK' _ _ hK

theorem wpList_store (hg : o.guard = none) (m x v : Operand) (hop : o.op = Op.mapUpdate 61 m x v) (b : Nat) (l : List En) (hm : a.eval m = .map (some b)) (h : IsMp w b l) (k y s : Int) (hx : a.eval x = .agg #[.int .i64 k]) (hv : a.eval v = .agg #[.int .i64 y, .int .i64 s])
    (hn : lookE l k = none) (hK : ∀ w', IsMp w' b (l ++ [(k, y, s)]) → (∀ B, B ≤ b → Below B w w') → wpList Try.prog ops Q rest (a.put o.dst undef) w') : wpList Try.prog ops Q (o :: rest) a w := by
  refine wpList_plain hg fun K' hK' => ?_
  obtain ⟨w', hrun, r1, r2⟩ := store_run h k y s hn
  unfold Oper.wp
  simp [execOp, hop, hm, hx, hv, hrun, Result.andThen]
  exact hK' _ _ (hK w' r1 r2)
end

end Go.Proofs.Ytannkdnjbacbdaa
