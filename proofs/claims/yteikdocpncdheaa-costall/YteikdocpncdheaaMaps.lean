/-
  Arrays of integers held against each other, and a map whose keys are such arrays: the own look-up, store and delete of the model, at the types of the program.
-/
import Derived.Test.YteikdocpncdheaaScope
import Derived.ChangeKeysEq
import Derived.Laws.StructEq
import Derived.WideKeyRuns
import Derived.Maps.OwnSet
import Derived.Maps.OwnOps
import Derived.MapKept
import Derived.Below
namespace Go.Proofs.Yteikdocpncdheaa
open Go.ChangeShapes Go.WideShapes Go.ChangeAt Go.RowKit
attribute [local go_sem ↓] Go.wp_at_zero Go.wp_at_succ

theorem part3 {L : List Int} {i : Nat} (h : i < L.length) (w : World) : (part 3 (cI L) i).run Try.prog w = .ok (.int .i64 L[i]) w := by
  have a3 := Try.isAgg3
  have := cI_get h
  simp [part, a3, this]
theorem cells3 : Try.prog.cellsOf 3 = 1 := by kernel_rfl
theorem eqItems_run (d : Nat) (A B : List Int) (w : World) : ∀ is : List Nat, (∀ i ∈ is, i < A.length ∧ i < B.length) → (Op.eqItems (d + 1) 3 1 (cI A) (cI B) is).run Try.prog w = .ok (is.all fun i => A.getD i 0 == B.getD i 0) w
  | [], _ => by simp [Op.eqItems]
  | i :: is, h => by
    obtain ⟨h1, h2⟩ := h i (by simp)
    have ih := eqItems_run d A B w is (fun j hj => h j (by simp [hj]))
    have ha : A.getD i 0 = A[i] := getD_at h1
    have hb : B.getD i 0 = B[i] := getD_at h2
    simp only [Op.eqItems, Nat.mul_one, Sem.run_bind, part3 h1, part3 h2, Result.andThen_ok, run_equalIn_int w d 3 .i64 .i64 A[i] B[i] Try.underlying3, List.all_cons, ha, hb]
    cases hq : (A[i] == B[i])
    · simp
    · simpa using ih
theorem all_eq {A B : List Int} {n : Nat} (ha : A.length = n) (hb : B.length = n) : ((List.range n).all fun i => A.getD i 0 == B.getD i 0) = decide (A = B) := by
  rw [Bool.eq_iff_iff, List.all_eq_true, decide_eq_true_eq]
  constructor
  · intro h
    apply List.ext_getElem (by omega)
    intro i h1 h2
    have := h i (by simp; omega)
    rw [getD_at h1, getD_at h2] at this
    simpa using this
  · rintro rfl i _
    simp
theorem equal_arr (t : TypeId) (n : Nat) (hu : Try.prog.underlying t = some (.array n 3)) (A B : List Int) (ha : A.length = n) (hb : B.length = n) (d : Nat) (w : World) : (Op.equalIn (d + 2) t (.agg (cI A)) (.agg (cI B))).run Try.prog w = .ok (decide (A = B)) w := by
  obtain ⟨i, hi, h0, h1, h2⟩ := info_parts Try.info3
  rw [run_equalIn_array w (d + 1) _ _ hu hi, cells3, eqItems_run d A B w (List.range n) (fun i hi => by simp at hi; omega), all_eq ha hb]
theorem eqKey {A B : List Int} (ha : A.length = 25) (hb : B.length = 25) (w : World) : (Op.equal 100 (.agg (cI A)) (.agg (cI B))).run Try.prog w = .ok (decide (A = B)) w := equal_arr 100 25 Try.underlying100 A B ha hb 9998 w
theorem neq75 {A B : List Int} (ha : A.length = 24) (hb : B.length = 24) (w : World) : (binOp .neq 94 (.agg (cI A)) (.agg (cI B))).run Try.prog w = .ok (.bool (!decide (A = B))) w := by
  rw [run_neq_struct, equal_arr 94 24 Try.underlying94 A B ha hb 9998 w]
  rfl

theorem checkOne (e : Bool) (n : Nat) (a : Int) (w : World) : (Instr.checkKey e (n + 1) 3 (.int .i64 a)).run Try.prog w = .ok () w := by
  simp [Instr.checkKey, run_underlying Try.underlying3]
theorem checkArr (e : Bool) {A : List Int} (ha : A.length = 25) (w : World) : (Instr.checkKey e 10000 100 (.agg (cI A))).run Try.prog w = .ok () w := by
  have z3 := Try.sizeOf3
  rw [show (10000 : Nat) = 9998 + 1 + 1 from rfl]
  unfold Instr.checkKey
  simp only [Sem.run_bind, run_underlying Try.underlying100, Result.andThen_ok]
  simp only [Std.Legacy.Range.forIn_eq_forIn_range', Std.Legacy.Range.size, Nat.sub_zero, Nat.add_one_sub_one, Nat.div_one]
  have hl : ∀ i ∈ List.range' 0 25 1, i < A.length := fun i hi => by have := (List.mem_range'_1.1 hi).2; omega
  generalize List.range' 0 25 1 = is at hl ⊢
  induction is with
  | nil => simp
  | cons i is ih =>
    have := part3 (hl i (by simp)) w
    simp only [List.forIn_cons, Sem.run_bind, z3, Result.andThen_ok, Nat.mul_one, this, checkOne, Sem.run_pure]
    exact ih fun j hj => hl j (by simp [hj])

/-- an entry: its key, its value -/
abbrev En := List Int × Int
def lookE : List En → List Int → Option Int
  | [], _ => none
  | x :: r, k => if k = x.1 then some x.2 else lookE r k
def idxE : List En → List Int → Nat → Nat
  | [], _, i => i
  | x :: r, k, i => if k = x.1 then i else idxE r k (i + 1)
theorem lookE_none {k : List Int} : ∀ {m : List En}, (∀ x ∈ m, k ≠ x.1) → lookE m k = none
  | [], _ => rfl
  | x :: r, h => by simp [lookE, h x (by simp), lookE_none (m := r) (fun y hy => h y (by simp [hy]))]
theorem lookE_last {k : List Int} {v : Int} : ∀ {m : List En}, (∀ x ∈ m, k ≠ x.1) → lookE (m ++ [(k, v)]) k = some v
  | [], _ => by simp [lookE]
  | x :: r, h => by simp [lookE, h x (by simp), lookE_last (m := r) (fun y hy => h y (by simp [hy]))]
theorem idxE_last {k : List Int} {v : Int} : ∀ {m : List En} (i : Nat), (∀ x ∈ m, k ≠ x.1) → idxE (m ++ [(k, v)]) k i = i + m.length
  | [], i, _ => by simp [idxE]
  | x :: r, i, h => by simp [idxE, h x (by simp), idxE_last (m := r) (i + 1) (fun y hy => h y (by simp [hy]))]; omega

/-- The map at b has just these entries, in this order. -/
def IsMp (w : World) (b : Nat) (m : List En) : Prop := ∃ es clock, w.heap[b]? = some (.map es clock) ∧ (es.toList.map (fun e => (e.key, e.val)) = m.map fun x => (Value.agg (cI x.1), Value.int .i64 x.2)) ∧ ∀ x ∈ m, x.1.length = 25
theorem IsMp.of_block {w w' : World} {b : Nat} {m : List En} (h : IsMp w b m) (e : w'.heap[b]? = w.heap[b]?) : IsMp w' b m := by
  obtain ⟨es, clock, h1, h2⟩ := h
  exact ⟨es, clock, e.trans h1, h2⟩
theorem IsMp.lt {w : World} {b : Nat} {m : List En} (h : IsMp w b m) : b < w.heap.size := by
  obtain ⟨es, clock, h1, _⟩ := h
  exact (Array.getElem?_eq_some_iff.1 h1).1
theorem IsMp.below {w w' : World} {b : Nat} {m : List En} (h : IsMp w b m) (hb : Below w.heap.size w w') : IsMp w' b m := h.of_block (hb.block b h.lt)
theorem IsMp.made (w : World) : IsMp (w.alloc (.map #[] 0)) w.heap.size [] := ⟨#[], 0, heap_alloc_new w _, rfl, by simp⟩

theorem find_run {k : List Int} (hk : k.length = 25) (w : World) : ∀ (es : List MapEntry) (m : List En) (i : Nat), es.map (fun e => (e.key, e.val)) = m.map (fun x => (Value.agg (cI x.1), Value.int .i64 x.2)) → (∀ x ∈ m, x.1.length = 25) →
    (Instr.findAsking 100 (.agg (cI k)) es i).run Try.prog w = .ok ((lookE m k).map fun v => (idxE m k i, Value.int .i64 v)) w
  | [], [], i, _, _ => by simp [Instr.findAsking, lookE]
  | e :: es, x :: m, i, h, hm => by
    simp only [List.map_cons, List.cons.injEq, Prod.mk.injEq] at h
    obtain ⟨⟨h1, h2⟩, h3⟩ := h
    have ih := find_run hk w es m (i + 1) h3 (fun y hy => hm y (by simp [hy]))
    have he := eqKey hk (hm x (by simp)) w
    by_cases hx : k = x.1
    · rw [decide_eq_true hx] at he
      subst hx
      simp [Instr.findAsking, h1, h2, he, lookE, idxE]
    · rw [decide_eq_false hx] at he
      simp [Instr.findAsking, h1, he, lookE, idxE, hx]
      exact ih
  | [], x :: m, i, h, _ => by simp at h
  | e :: es, [], i, h, _ => by simp at h

theorem look_run {w : World} {b : Nat} {m : List En} (h : IsMp w b m) {k : List Int} (hk : k.length = 25) :
    (Instr.lookup 72 (.map (some b)) (.agg (cI k)) true).run Try.prog w = .ok (.tuple #[.int .i64 ((lookE m k).getD 0), .bool (lookE m k).isSome]) w := by
  obtain ⟨es, clock, h1, h2, h3⟩ := h
  have hr := find_run hk w es.toList m 0 h2 h3
  have hf : (Instr.findKey 100 (.agg (cI k)) es.toList).run Try.prog w = .ok ((lookE m k).map fun v => (idxE m k 0, Value.int .i64 v)) w := by rw [run_findKey_eq w (by kernel_rfl)]; exact hr
  have hg : (getObj b).run Try.prog w = .ok (.map es clock) w := by simp [getObj, Sem.run, h1]
  cases hl : lookE m k with
  | none =>
    rw [hl] at hf
    simp [Instr.lookup, run_underlying Try.underlying72, hg, checkArr _ hk, hf, Try.zeroValue3]
  | some y =>
    rw [hl] at hf
    simp [Instr.lookup, run_underlying Try.underlying72, hg, checkArr _ hk, hf]

theorem store_run {w : World} {b : Nat} {m : List En} (h : IsMp w b m) {k : List Int} (hk : k.length = 25) (v : Int) (hn : ∀ x ∈ m, k ≠ x.1) :
    ∃ w', (Instr.mapUpdate 72 (.map (some b)) (.agg (cI k)) (.int .i64 v)).run Try.prog w = .ok () w' ∧ IsMp w' b (m ++ [(k, v)]) ∧ Kp b w w' := by
  obtain ⟨es, clock, h1, h2, h3⟩ := h
  have hr := find_run hk w es.toList m 0 h2 h3
  rw [lookE_none hn] at hr
  have hf : (Instr.findKey 100 (.agg (cI k)) es.toList).run Try.prog w = .ok none w := by rw [run_findKey_eq w (by kernel_rfl)]; exact hr
  have hg : (getObj b).run Try.prog w = .ok (.map es clock) w := by simp [getObj, Sem.run, h1]
  refine ⟨{ w with heap := w.heap.setIfInBounds b (.map (es.push { key := .agg (cI k), val := .int .i64 v, born := clock }) (clock + 1)) }, ?_, ⟨_, _, (MapKept.heap_set h1).1, ?_, ?_⟩, ⟨rfl, rfl, rfl, by simp, fun j _ hj => ?_⟩⟩
  · simp [Instr.mapUpdate, run_underlying Try.underlying72, hg, checkArr _ hk, hf, MapKept.run_setObj_map _ h1]
  · simp [h2]
  · intro x hx
    rcases List.mem_append.1 hx with hx | hx
    · exact h3 x hx
    · simp at hx; subst hx; exact hk
  · exact (MapKept.heap_set h1).2 j (by intro e; exact hj (by rw [e]))

theorem del_run {w : World} {b : Nat} {m : List En} {k : List Int} {v : Int} (h : IsMp w b (m ++ [(k, v)])) (hn : ∀ x ∈ m, k ≠ x.1) (ty : TypeId) :
    ∃ w', (Builtin.delete_ #[72, 100] ty #[.map (some b), .agg (cI k)]).run Try.prog w = .ok (.tuple #[]) w' ∧ IsMp w' b m ∧ Kp b w w' := by
  obtain ⟨es, clock, h1, h2, h3⟩ := h
  have hk : k.length = 25 := h3 (k, v) (by simp)
  have hr := find_run hk w es.toList _ 0 h2 h3
  rw [lookE_last hn, idxE_last 0 hn] at hr
  have hf : (Instr.findKey 100 (.agg (cI k)) es.toList).run Try.prog w = .ok (some (0 + m.length, .int .i64 v)) w := by rw [run_findKey_eq w (by kernel_rfl)]; exact hr
  have hg : (getObj b).run Try.prog w = .ok (.map es clock) w := by simp [getObj, Sem.run, h1]
  refine ⟨{ w with heap := w.heap.setIfInBounds b (.map (es.eraseIdxIfInBounds (0 + m.length)) clock) }, ?_, ⟨_, _, (MapKept.heap_set h1).1, ?_, fun x hx => h3 x (by simp [hx])⟩, ⟨rfl, rfl, rfl, by simp, fun j _ hj => ?_⟩⟩
  · simp [Builtin.delete_, run_underlying Try.underlying72, hg, checkArr _ hk, hf, MapKept.run_setObj_map _ h1]
  · have hlen : es.size = m.length + 1 := by have := congrArg List.length h2; simpa using this
    have : (es.eraseIdxIfInBounds (0 + m.length)).toList = es.toList.take m.length := by
      rw [Array.toList_eraseIdxIfInBounds, Nat.zero_add, List.eraseIdx_eq_take_drop_succ]
      rw [List.drop_of_length_le (by simp; omega)]
      simp
    rw [this, List.map_take, h2]
    simp
  · exact (MapKept.heap_set h1).2 j (by intro e; exact hj (by rw [e]))

theorem step_put {ops : Array Oper} {o : Oper} {a : Act} {w : World} {K : Act → World → Prop} {Q : Exit → Act → World → Prop} {G : Prop} (hg : o.guard = none) (m x v : Operand) (hop : o.op = Op.mapUpdate 72 m x v) (b : Nat) (l : List En) (hm : a.eval m = .map (some b)) (h : IsMp w b l) (k : List Int) (hk : k.length = 25) (y : Int) (hx : a.eval x = .agg (cI k)) (hv : a.eval v = .int .i64 y)
    (hn : ∀ x ∈ l, k ≠ x.1) (hK : ∀ w', IsMp w' b (l ++ [(k, y)]) → Kp b w w' → K (a.put o.dst undef) w') :
    if Region.wanted o (yielded ops a.tmps) = true then Oper.wp Try.prog o a w K Q else G := by
  have hw : Region.wanted o (yielded ops a.tmps) = true := by simp [Region.wanted, hg]
  rw [if_pos hw]
  obtain ⟨w', hrun, r1, r2⟩ := store_run h hk y hn
  unfold Oper.wp
  simp [execOp, hop, hm, hx, hv, hrun, Result.andThen]
  exact hK w' r1 r2
theorem step_del {ops : Array Oper} {o : Oper} {a : Act} {w : World} {K : Act → World → Prop} {Q : Exit → Act → World → Prop} {G : Prop} (hg : o.guard = none) (m x : Operand) (hop : o.op = Op.call { callee := Callee.builtin Builtin.delete, args := #[m, x], argTypes := #[72, 100] }) (b : Nat) (l : List En) (hm : a.eval m = .map (some b)) (k : List Int) (v : Int) (h : IsMp w b (l ++ [(k, v)])) (hx : a.eval x = .agg (cI k))
    (hn : ∀ x ∈ l, k ≠ x.1) (hK : ∀ w', IsMp w' b l → Kp b w w' → K (a.put o.dst (.tuple #[])) w') :
    if Region.wanted o (yielded ops a.tmps) = true then Oper.wp Try.prog o a w K Q else G := by
  have hw : Region.wanted o (yielded ops a.tmps) = true := by simp [Region.wanted, hg]
  rw [if_pos hw]
  obtain ⟨w', hrun, r1, r2⟩ := del_run h hn o.type
  unfold Oper.wp
  simp [execOp, hop, resolve, invoke, builtin, hm, hx, hrun, Result.andThen]
  exact hK w' r1 r2
end Go.Proofs.Yteikdocpncdheaa
