/-
  Pairs of integers, as arrays, held against each other, and a map whose keys are such arrays: the own look-up and store of the model, at the types of the program.
-/
import Derived.Test.YtfankdhkcjknaaaElts
import Derived.ChangeKeysEq
import Derived.Laws.StructEq
import Derived.WideKeyRuns
import Derived.Maps.OwnSet
import Derived.Maps.OwnOps
import Derived.MapKept
import Derived.Below
namespace Go.Proofs.Ytfankdhkcjknaaa
open Go.ChangeShapes Go.WideShapes Go.ChangeAt Go.RowKit
attribute [local go_sem ↓] Go.wp_at_zero Go.wp_at_succ

theorem getD_at {u : List Int} {k : Nat} (h : k < u.length) : u.getD k 0 = u[k] := by simp [List.getD_eq_getElem?_getD, List.getElem?_eq_getElem h]
def cI (l : List Int) : Array Value := (l.map (Value.int .i64)).toArray
theorem cI_get {l : List Int} {k : Nat} (h : k < l.length) : (cI l)[k]? = some (.int .i64 l[k]) := by simp [cI, List.getElem?_eq_getElem h]
theorem part3 {L : List Int} {i : Nat} (h : i < L.length) (w : World) : (part 3 (cI L) i).run Try.prog w = .ok (.int .i64 L[i]) w := by
  have a3 := Try.isAgg3
  have := cI_get h
  simp [part, a3, this]
theorem cells3 : Try.prog.cellsOf 3 = 1 := by kernel_rfl
theorem eqItems_run (d : Nat) (A B : List Int) (w : World) : ∀ is : List Nat, (∀ i ∈ is, i < A.length ∧ i < B.length) → (Op.eqItems (d + 1) 3 1 (cI A) (cI B) is).run Try.prog w = .ok (is.all fun i => A.getD i 0 == B.getD i 0) w
  | [], _ => by simp [Op.eqItems]
  | i :: is, h => by
    obtain ⟨h1, h2⟩ := h i (by simp)
    have ih := eqItems_run d A B w is (fun j hj => h j (by simp [hj]))
    have ha : A.getD i 0 = A[i] := getD_at h1
    have hb : B.getD i 0 = B[i] := getD_at h2
    simp only [Op.eqItems, Nat.mul_one, Sem.run_bind, part3 h1, part3 h2, Result.andThen_ok, run_equalIn_int w d 3 .i64 .i64 A[i] B[i] Try.underlying3, List.all_cons, ha, hb]
    cases hq : (A[i] == B[i])
    · simp
    · simpa using ih
theorem eqKey (a b c d : Int) (w : World) : (Op.equal 43 (.agg #[.int .i64 a, .int .i64 b]) (.agg #[.int .i64 c, .int .i64 d])).run Try.prog w = .ok (decide (a = c ∧ b = d)) w := by
  obtain ⟨i, hi, h0, h1, h2⟩ := info_parts Try.info3
  have he : (Op.equalIn (9998 + 2) 43 (.agg (cI [a, b])) (.agg (cI [c, d]))).run Try.prog w = .ok (decide (a = c ∧ b = d)) w := by
    rw [run_equalIn_array w (9998 + 1) _ _ Try.underlying43 hi, cells3, eqItems_run 9998 [a, b] [c, d] w (List.range 2) (fun i hi => by simp at hi; simp; omega)]
    congr 1
    rw [Bool.eq_iff_iff]
    simp [List.range_succ]
  exact he

theorem checkOne (e : Bool) (n : Nat) (a : Int) (w : World) : (Instr.checkKey e (n + 1) 3 (.int .i64 a)).run Try.prog w = .ok () w := by
  simp [Instr.checkKey, run_underlying Try.underlying3]
theorem checkArr (e : Bool) (a b : Int) (w : World) : (Instr.checkKey e 10000 43 (.agg #[.int .i64 a, .int .i64 b])).run Try.prog w = .ok () w := by
  have z3 := Try.sizeOf3
  have p0 : (part 3 (cI [a, b]) 0).run Try.prog w = .ok (.int .i64 a) w := part3 (by simp) w
  have p1 : (part 3 (cI [a, b]) 1).run Try.prog w = .ok (.int .i64 b) w := part3 (by simp) w
  rw [show (10000 : Nat) = 9998 + 1 + 1 from rfl]
  show (Instr.checkKey e (9998 + 1 + 1) 43 (.agg (cI [a, b]))).run Try.prog w = .ok () w
  unfold Instr.checkKey
  simp only [Sem.run_bind, run_underlying Try.underlying43, Result.andThen_ok]
  simp only [Std.Legacy.Range.forIn_eq_forIn_range', Std.Legacy.Range.size, Nat.sub_zero, Nat.add_one_sub_one, Nat.div_one]
  simp [List.range', z3, p0, p1, checkOne]

/-- an entry: its key, its value -/
abbrev En := (Int × Int) × Int
def keyV (k : Int × Int) : Value := .agg #[.int .i64 k.1, .int .i64 k.2]
/-- The map at b has just these entries, in this order. -/
def IsMp (w : World) (b : Nat) (m : List En) : Prop := ∃ es clock, w.heap[b]? = some (.map es clock) ∧ es.toList.map (fun e => (e.key, e.val)) = m.map fun x => (keyV x.1, Value.int .i64 x.2)
theorem IsMp.of_block {w w' : World} {b : Nat} {m : List En} (h : IsMp w b m) (e : w'.heap[b]? = w.heap[b]?) : IsMp w' b m := by
  obtain ⟨es, clock, h1, h2⟩ := h
  exact ⟨es, clock, e.trans h1, h2⟩
theorem IsMp.lt {w : World} {b : Nat} {m : List En} (h : IsMp w b m) : b < w.heap.size := by
  obtain ⟨es, clock, h1, _⟩ := h
  exact (Array.getElem?_eq_some_iff.1 h1).1
theorem IsMp.below {w w' : World} {b : Nat} {m : List En} (h : IsMp w b m) (hb : Below w.heap.size w w') : IsMp w' b m := h.of_block (hb.block b h.lt)
theorem IsMp.made (w : World) : IsMp (w.alloc (.map #[] 0)) w.heap.size [] := ⟨#[], 0, heap_alloc_new w _, rfl⟩

theorem find_run (k : Int × Int) (w : World) : ∀ (es : List MapEntry) (m : List En) (i : Nat), es.map (fun e => (e.key, e.val)) = m.map (fun x => (keyV x.1, Value.int .i64 x.2)) →
    ∃ r, (Instr.findAsking 43 (keyV k) es i).run Try.prog w = .ok r w ∧ r.map (·.2) = (lookE m k.1 k.2).map (Value.int .i64)
  | [], [], i, _ => ⟨none, by simp [Instr.findAsking], rfl⟩
  | e :: es, x :: m, i, h => by
    simp only [List.map_cons, List.cons.injEq, Prod.mk.injEq] at h
    obtain ⟨⟨h1, h2⟩, h3⟩ := h
    by_cases hk : k.1 = x.1.1 ∧ k.2 = x.1.2
    · refine ⟨some (i, e.val), ?_, by simp [lookE, h2, hk]⟩
      simp [Instr.findAsking, h1, keyV, eqKey, hk]
    · obtain ⟨r, hr, hr2⟩ := find_run k w es m (i + 1) h3
      refine ⟨r, ?_, by simpa only [lookE, if_neg hk] using hr2⟩
      simp only [Instr.findAsking, h1, keyV, Sem.run_bind, eqKey, decide_eq_false hk, Result.andThen_ok]
      simpa [keyV] using hr
  | [], x :: m, i, h => by simp at h
  | e :: es, [], i, h => by simp at h

theorem look_run {w : World} {b : Nat} {m : List En} (h : IsMp w b m) (s t : Int) :
    (Instr.lookup 41 (.map (some b)) (.agg #[.int .i64 s, .int .i64 t]) true).run Try.prog w = .ok (.tuple #[.int .i64 ((lookE m s t).getD 0), .bool (lookE m s t).isSome]) w := by
  obtain ⟨es, clock, h1, h2⟩ := h
  obtain ⟨r, hr, hr2⟩ := find_run (s, t) w es.toList m 0 h2
  have hf : (Instr.findKey 43 (.agg #[.int .i64 s, .int .i64 t]) es.toList).run Try.prog w = .ok r w := by rw [run_findKey_eq w (by kernel_rfl)]; exact hr
  have hg : (getObj b).run Try.prog w = .ok (.map es clock) w := by simp [getObj, Sem.run, h1]
  cases hl : lookE m s t with
  | none =>
    rw [hl] at hr2
    have : r = none := by simpa using hr2
    subst this
    simp [Instr.lookup, run_underlying Try.underlying41, hg, checkArr, hf, Try.zeroValue3]
  | some y =>
    rw [hl] at hr2
    obtain ⟨q, rfl, hq⟩ : ∃ q, r = some q ∧ q.2 = Value.int .i64 y := by
      cases r with
      | none => simp at hr2
      | some q => exact ⟨q, rfl, by simpa using hr2⟩
    obtain ⟨q1, q2⟩ := q
    simp only at hq
    subst hq
    simp [Instr.lookup, run_underlying Try.underlying41, hg, checkArr, hf]

theorem store_run {w : World} {b : Nat} {m : List En} (h : IsMp w b m) (s t v : Int) (hn : lookE m s t = none) :
    ∃ w', (Instr.mapUpdate 41 (.map (some b)) (.agg #[.int .i64 s, .int .i64 t]) (.int .i64 v)).run Try.prog w = .ok () w' ∧ IsMp w' b (m ++ [((s, t), v)]) ∧ ∀ B, B ≤ b → Below B w w' := by
  obtain ⟨es, clock, h1, h2⟩ := h
  obtain ⟨r, hr, hr2⟩ := find_run (s, t) w es.toList m 0 h2
  have hf : (Instr.findKey 43 (.agg #[.int .i64 s, .int .i64 t]) es.toList).run Try.prog w = .ok r w := by rw [run_findKey_eq w (by kernel_rfl)]; exact hr
  have hg : (getObj b).run Try.prog w = .ok (.map es clock) w := by simp [getObj, Sem.run, h1]
  rw [hn] at hr2
  have : r = none := by simpa using hr2
  subst this
  refine ⟨{ w with heap := w.heap.setIfInBounds b (.map (es.push { key := .agg #[.int .i64 s, .int .i64 t], val := .int .i64 v, born := clock }) (clock + 1)) }, ?_, ⟨_, _, (MapKept.heap_set h1).1, ?_⟩, fun B hB => ⟨rfl, rfl, rfl, by simp, fun j hj => ?_⟩⟩
  · simp [Instr.mapUpdate, run_underlying Try.underlying41, hg, checkArr, hf, MapKept.run_setObj_map _ h1]
  · simp [h2, keyV]
  · exact (MapKept.heap_set h1).2 j (by omega)

section
variable (w : World) {ops : Array Oper} {rest : List Oper} {o : Oper} {a : Act} {Q : Exit → Act → World → Prop}
theorem wpList_look (hg : o.guard = none) (m x : Operand) (hop : o.op = Op.lookup 41 m x true) (b : Nat) (l : List En) (hm : a.eval m = .map (some b)) (h : IsMp w b l) (s t : Int) (hx : a.eval x = .agg #[.int .i64 s, .int .i64 t])
    (y : Int) (is : Bool) (h1 : (lookE l s t).getD 0 = y) (h2 : (lookE l s t).isSome = is)
    (hK : wpList Try.prog ops Q rest (a.put o.dst (.tuple #[.int .i64 y, .bool is])) w) : wpList Try.prog ops Q (o :: rest) a w := by
  refine wpList_plain hg fun K' hK' => ?_
  have hrun := look_run h s t
  rw [h1, h2] at hrun
  unfold Oper.wp
  simp [execOp, hop, hm, hx, hrun, Result.andThen]
  exact hK' _ _ hK
theorem wpList_store (hg : o.guard = none) (m x v : Operand) (hop : o.op = Op.mapUpdate 41 m x v) (b : Nat) (l : List En) (hm : a.eval m = .map (some b)) (h : IsMp w b l) (s t y : Int) (hx : a.eval x = .agg #[.int .i64 s, .int .i64 t]) (hv : a.eval v = .int .i64 y)
    (hn : lookE l s t = none) (hK : ∀ w', IsMp w' b (l ++ [((s, t), y)]) → (∀ B, B ≤ b → Below B w w') → wpList Try.prog ops Q rest (a.put o.dst undef) w') : wpList Try.prog ops Q (o :: rest) a w := by
  refine wpList_plain hg fun K' hK' => ?_
  obtain ⟨w', hrun, r1, r2⟩ := store_run h s t y hn
  unfold Oper.wp
  simp [execOp, hop, hm, hx, hv, hrun, Result.andThen]
  exact hK' _ _ (hK w' r1 r2)
end
end Go.Proofs.Ytfankdhkcjknaaa
