/-
  A map whose keys are arrays of two: what lies in it, looked up, and set.
-/
import Derived.Test.YteklpceikddggaaBmath
namespace Go.Proofs.Yteklpceikddggaa
open Go.ChangeShapes Go.WideShapes Go.ChangeAt Go.RowKit
attribute [local go_sem ↓] Go.wp_at_zero Go.wp_at_succ

theorem eqKeyH {A B : List Int} (ha : A.length = 2) (hb : B.length = 2) (w : World) : (Op.equal 61 (.agg (cI7 A)) (.agg (cI7 B))).run Try.prog w = .ok (decide (A = B)) w := equal_arr 61 2 Try.underlying61 A B ha hb 9998 w
theorem checkH (e : Bool) {A : List Int} (ha : A.length = 2) (w : World) : (Instr.checkKey e 10000 61 (.agg (cI7 A))).run Try.prog w = .ok () w := by
  have z3 := Try.sizeOf3
  rw [show (10000 : Nat) = 9998 + 1 + 1 from rfl]
  unfold Instr.checkKey
  simp only [Sem.run_bind, run_underlying Try.underlying61, Result.andThen_ok]
  simp only [Std.Legacy.Range.forIn_eq_forIn_range', Std.Legacy.Range.size, Nat.sub_zero, Nat.add_one_sub_one, Nat.div_one]
  have hl : ∀ i ∈ List.range' 0 2 1, i < A.length := fun i hi => by have := (List.mem_range'_1.1 hi).2; omega
  generalize List.range' 0 2 1 = is at hl ⊢
  induction is with
  | nil => simp
  | cons i is ih =>
    have := part3 (hl i (by simp)) w
    simp only [List.forIn_cons, Sem.run_bind, z3, Result.andThen_ok, Nat.mul_one, this, checkOne, Sem.run_pure]
    exact ih fun j hj => hl j (by simp [hj])
/-- The map at b has just these entries, in this order. -/
def IsH (w : World) (b : Nat) (m : List En) : Prop := ∃ es clock, w.heap[b]? = some (.map es clock) ∧ (es.toList.map (fun e => (e.key, e.val)) = m.map fun x => (Value.agg (cI7 x.1), Value.int .i64 x.2)) ∧ ∀ x ∈ m, x.1.length = 2
theorem IsH.of_block {w w' : World} {b : Nat} {m : List En} (h : IsH w b m) (e : w'.heap[b]? = w.heap[b]?) : IsH w' b m := by
  obtain ⟨es, clock, h1, h2⟩ := h
  exact ⟨es, clock, e.trans h1, h2⟩
theorem IsH.lt {w : World} {b : Nat} {m : List En} (h : IsH w b m) : b < w.heap.size := by
  obtain ⟨es, clock, h1, _⟩ := h
  exact (Array.getElem?_eq_some_iff.1 h1).1
theorem IsH.below {w w' : World} {b : Nat} {m : List En} (h : IsH w b m) (hb : Below w.heap.size w w') : IsH w' b m := h.of_block (hb.block b h.lt)
theorem IsH.made (w : World) : IsH (w.alloc (.map #[] 0)) w.heap.size [] := ⟨#[], 0, heap_alloc_new w _, rfl, by simp⟩
theorem find_runH {k : List Int} (hk : k.length = 2) (w : World) : ∀ (es : List MapEntry) (m : List En) (i : Nat), es.map (fun e => (e.key, e.val)) = m.map (fun x => (Value.agg (cI7 x.1), Value.int .i64 x.2)) → (∀ x ∈ m, x.1.length = 2) →
    (Instr.findAsking 61 (.agg (cI7 k)) es i).run Try.prog w = .ok ((lookE m k).map fun v => (idxE m k i, Value.int .i64 v)) w
  | [], [], i, _, _ => by simp [Instr.findAsking, lookE]
  | e :: es, x :: m, i, h, hm => by
    simp only [List.map_cons, List.cons.injEq, Prod.mk.injEq] at h
    obtain ⟨⟨h1, h2⟩, h3⟩ := h
    have ih := find_runH hk w es m (i + 1) h3 (fun y hy => hm y (by simp [hy]))
    have he := eqKeyH hk (hm x (by simp)) w
    by_cases hx : k = x.1
    · rw [decide_eq_true hx] at he
      subst hx
      simp [Instr.findAsking, h1, h2, he, lookE, idxE]
    · rw [decide_eq_false hx] at he
      simp [Instr.findAsking, h1, he, lookE, idxE, hx]
      exact ih
  | [], x :: m, i, h, _ => by simp at h
  | e :: es, [], i, h, _ => by simp at h
theorem look_runH {w : World} {b : Nat} {m : List En} (h : IsH w b m) {k : List Int} (hk : k.length = 2) :
    (Instr.lookup 48 (.map (some b)) (.agg (cI7 k)) true).run Try.prog w = .ok (.tuple #[.int .i64 ((lookE m k).getD 0), .bool (lookE m k).isSome]) w ∧ (Instr.lookup 48 (.map (some b)) (.agg (cI7 k)) false).run Try.prog w = .ok (.int .i64 ((lookE m k).getD 0)) w := by
  obtain ⟨es, clock, h1, h2, h3⟩ := h
  have hr := find_runH hk w es.toList m 0 h2 h3
  have hf : (Instr.findKey 61 (.agg (cI7 k)) es.toList).run Try.prog w = .ok ((lookE m k).map fun v => (idxE m k 0, Value.int .i64 v)) w := by rw [run_findKey_eq w (by kernel_rfl)]; exact hr
  have hg : (getObj b).run Try.prog w = .ok (.map es clock) w := by simp [getObj, Sem.run, h1]
  cases hl : lookE m k with
  | none =>
    rw [hl] at hf
    constructor <;> simp [Instr.lookup, run_underlying Try.underlying48, hg, checkH _ hk, hf, Try.zeroValue3]
  | some y =>
    rw [hl] at hf
    constructor <;> simp [Instr.lookup, run_underlying Try.underlying48, hg, checkH _ hk, hf]
theorem idxE_add (k : List Int) : ∀ (m : List En) (i : Nat), idxE m k i = i + idxE m k 0
  | [], i => by simp [idxE]
  | x :: r, i => by
    have h1 := idxE_add k r (i + 1)
    have h2 := idxE_add k r 1
    by_cases h : k = x.1 <;> simp [idxE, h]
    omega
theorem setE_len (k : List Int) (v : Int) (hk : k.length = 2) : ∀ (m : List En), (∀ x ∈ m, x.1.length = 2) → ∀ x ∈ setE m k v, x.1.length = 2
  | [], _, x, hx => by simp [setE] at hx; subst hx; exact hk
  | y :: r, h, x, hx => by
    rw [setE] at hx
    by_cases e : k = y.1
    · rw [if_pos e] at hx
      rcases List.mem_cons.1 hx with rfl | hx
      · exact hk
      · exact h x (by simp [hx])
    · rw [if_neg e] at hx
      rcases List.mem_cons.1 hx with rfl | hx
      · exact h _ (by simp)
      · exact setE_len k v hk r (fun z hz => h z (by simp [hz])) x hx
theorem setE_new (k : List Int) (v : Int) : ∀ (m : List En), lookE m k = none → setE m k v = m ++ [(k, v)]
  | [], _ => rfl
  | y :: r, h => by
    rw [lookE] at h
    by_cases e : k = y.1
    · rw [if_pos e] at h; cases h
    · rw [if_neg e] at h
      rw [setE, if_neg e, setE_new k v r h]; rfl
theorem modify_setE (k : List Int) (v : Int) : ∀ (es : List MapEntry) (m : List En), es.map (fun e => (e.key, e.val)) = m.map (fun x => (Value.agg (cI7 x.1), Value.int .i64 x.2)) → (lookE m k).isSome = true →
    (es.modify (idxE m k 0) fun e => { e with key := .agg (cI7 k), val := .int .i64 v }).map (fun e => (e.key, e.val)) = (setE m k v).map (fun x => (Value.agg (cI7 x.1), Value.int .i64 x.2))
  | [], [], _, h => by simp [lookE] at h
  | e :: es, x :: m, h, hl => by
    simp only [List.map_cons, List.cons.injEq, Prod.mk.injEq] at h
    obtain ⟨⟨h1, h2⟩, h3⟩ := h
    by_cases hx : k = x.1
    · subst hx
      simp [idxE, setE, h3]
    · rw [lookE, if_neg hx] at hl
      have ih := modify_setE k v es m h3 hl
      have e1 : idxE (x :: m) k 0 = idxE m k 0 + 1 := by
        rw [idxE, if_neg hx, idxE_add]; omega
      rw [e1, setE, if_neg hx, List.modify_succ_cons, List.map_cons, List.map_cons, ih, h1, h2]
  | [], x :: m, h, _ => by simp at h
  | e :: es, [], h, _ => by simp at h
theorem key_at (k : List Int) : ∀ (es : List MapEntry) (m : List En), es.map (fun e => (e.key, e.val)) = m.map (fun x => (Value.agg (cI7 x.1), Value.int .i64 x.2)) → (lookE m k).isSome = true → (es[idxE m k 0]?).map (·.key) = some (.agg (cI7 k))
  | [], [], _, h => by simp [lookE] at h
  | e :: es, x :: m, h, hl => by
    simp only [List.map_cons, List.cons.injEq, Prod.mk.injEq] at h
    obtain ⟨⟨h1, h2⟩, h3⟩ := h
    by_cases hx : k = x.1
    · subst hx
      simp [idxE, h1]
    · rw [lookE, if_neg hx] at hl
      have ih := key_at k es m h3 hl
      have e1 : idxE (x :: m) k 0 = idxE m k 0 + 1 := by
        rw [idxE, if_neg hx, idxE_add]; omega
      rw [e1, List.getElem?_cons_succ]
      exact ih
  | [], x :: m, h, _ => by simp at h
  | e :: es, [], h, _ => by simp at h
theorem same_two (a b : Int) : Instr.sameBits 10000 (.agg #[.int .i64 a, .int .i64 b]) (.agg #[.int .i64 a, .int .i64 b]) = true := by
  rw [show (10000 : Nat) = 9998 + 1 + 1 from rfl]
  simp [Instr.sameBits]
theorem store_runH {w : World} {b : Nat} {m : List En} (h : IsH w b m) (s p : Int) (v : Int) :
    ∃ w', (Instr.mapUpdate 48 (.map (some b)) (.agg (cI7 [s, p])) (.int .i64 v)).run Try.prog w = .ok () w' ∧ IsH w' b (setE m [s, p] v) ∧ Kp b w w' := by
  obtain ⟨es, clock, h1, h2, h3⟩ := h
  have hk : [s, p].length = 2 := rfl
  have hr := find_runH hk w es.toList m 0 h2 h3
  have hg : (getObj b).run Try.prog w = .ok (.map es clock) w := by simp [getObj, Sem.run, h1]
  cases hl : lookE m [s, p] with
  | none =>
    rw [hl] at hr
    have hf : (Instr.findKey 61 (.agg (cI7 [s, p])) es.toList).run Try.prog w = .ok none w := by rw [run_findKey_eq w (by kernel_rfl)]; exact hr
    refine ⟨{ w with heap := w.heap.setIfInBounds b (.map (es.push { key := .agg (cI7 [s, p]), val := .int .i64 v, born := clock }) (clock + 1)) }, ?_, ⟨_, _, (MapKept.heap_set h1).1, ?_, setE_len _ v hk m h3⟩, ⟨rfl, rfl, rfl, by simp, fun j _ hj => ?_⟩⟩
    · simp [Instr.mapUpdate, run_underlying Try.underlying48, hg, checkH _ hk, hf, MapKept.run_setObj_map _ h1]
    · rw [setE_new _ _ _ hl]; simp [h2]
    · exact (MapKept.heap_set h1).2 j (by intro e; exact hj (by rw [e]))
  | some y =>
    rw [hl] at hr
    have hf : (Instr.findKey 61 (.agg (cI7 [s, p])) es.toList).run Try.prog w = .ok (some (idxE m [s, p] 0, .int .i64 y)) w := by rw [run_findKey_eq w (by kernel_rfl)]; exact hr
    have hs : (lookE m [s, p]).isSome = true := by rw [hl]; rfl
    have hkk : ((es[idxE m [s, p] 0]?).map (·.key)) = some (.agg (cI7 [s, p])) := by have := key_at [s, p] es.toList m h2 hs; simpa using this
    have hst : (Instr.keyThatStays (.agg (cI7 [s, p])) (.agg (cI7 [s, p]))).run Try.prog w = .ok (.agg (cI7 [s, p])) w := by
      unfold Instr.keyThatStays
      rw [if_pos (show Instr.sameBits 10000 (.agg (cI7 [s, p])) (.agg (cI7 [s, p])) = true from same_two s p)]
      simp
    refine ⟨{ w with heap := w.heap.setIfInBounds b (.map (es.modify (idxE m [s, p] 0) fun e => { e with key := .agg (cI7 [s, p]), val := .int .i64 v }) clock) }, ?_, ⟨_, _, (MapKept.heap_set h1).1, ?_, setE_len _ v hk m h3⟩, ⟨rfl, rfl, rfl, by simp, fun j _ hj => ?_⟩⟩
    · simp [Instr.mapUpdate, run_underlying Try.underlying48, hg, checkH _ hk, hf, hkk, hst, MapKept.run_setObj_map _ h1]
    · rw [Array.toList_modify]; exact modify_setE _ v es.toList m h2 hs
    · exact (MapKept.heap_set h1).2 j (by intro e; exact hj (by rw [e]))
theorem wpList_lookH {ops : Array Oper} {rest : List Oper} {o : Oper} {a : Act} {w : World} {Q : Exit → Act → World → Prop} (hg : o.guard = none) (m x : Operand) (ok : Bool) (hop : o.op = Op.lookup 48 m x ok) (b : Nat) (l : List En) (hm : a.eval m = .map (some b)) (h : IsH w b l) (s p : Int) (hx : a.eval x = .agg #[.int .i64 s, .int .i64 p])
    (v : Int) (is : Bool) (h1 : (lookE l [s, p]).getD 0 = v) (h2 : (lookE l [s, p]).isSome = is)
    (hK : wpList Try.prog ops Q rest (a.put o.dst (if ok = true then .tuple #[.int .i64 v, .bool is] else .int .i64 v)) w) : wpList Try.prog ops Q (o :: rest) a w := by
  refine wpList_plain hg fun K' hK' => ?_
  obtain ⟨r1, r2⟩ := look_runH h (k := [s, p]) rfl
  have e : (cI7 [s, p] : Array Value) = #[.int .i64 s, .int .i64 p] := rfl
  rw [h1, h2, e] at r1
  rw [h1, e] at r2
  unfold Oper.wp
  cases ok with
  | true => simp [execOp, hop, hm, hx, r1, Result.andThen]; exact hK' _ _ (by simpa using hK)
  | false => simp [execOp, hop, hm, hx, r2, Result.andThen]; exact hK' _ _ (by simpa using hK)
theorem step_putH {ops : Array Oper} {o : Oper} {a : Act} {w : World} {K : Act → World → Prop} {Q : Exit → Act → World → Prop} {G : Prop} (hg : o.guard = none) (m x v : Operand) (hop : o.op = Op.mapUpdate 48 m x v) (b : Nat) (l : List En) (hm : a.eval m = .map (some b)) (h : IsH w b l) (s p y : Int) (hx : a.eval x = .agg #[.int .i64 s, .int .i64 p]) (hv : a.eval v = .int .i64 y)
    (hK : ∀ w', IsH w' b (setE l [s, p] y) → Kp b w w' → K (a.put o.dst undef) w') :
    if Region.wanted o (yielded ops a.tmps) = true then Oper.wp Try.prog o a w K Q else G := by
  have hw : Region.wanted o (yielded ops a.tmps) = true := by simp [Region.wanted, hg]
  rw [if_pos hw]
  obtain ⟨w', hrun, r1, r2⟩ := store_runH h s p y
  have e : (cI7 [s, p] : Array Value) = #[.int .i64 s, .int .i64 p] := rfl
  rw [e] at hrun
  unfold Oper.wp
  simp [execOp, hop, hm, hx, hv, hrun, Result.andThen]
  exact hK w' r1 r2
end Go.Proofs.Yteklpceikddggaa
