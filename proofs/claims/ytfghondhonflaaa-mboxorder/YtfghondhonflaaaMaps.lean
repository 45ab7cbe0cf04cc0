/-
  Pairs of integers, as arrays, held against each other, and a map whose keys are such arrays: the own look-up and store of the model, at the types of the program.
-/
import Derived.Test.YtfghondhonflaaaElts
import Derived.Test.YtfghondhonflaaaMath
import Derived.ChangeKeysEq
import Derived.Laws.StructEq
import Derived.WideKeyRuns
import Derived.Maps.OwnSet
import Derived.Maps.OwnOps
import Derived.MapKept
import Derived.Below
namespace Go.Proofs.Ytfghondhonflaaa
open Go.ChangeShapes Go.WideShapes Go.ChangeAt Go.RowKit
attribute [local go_sem ↓] Go.wp_at_zero Go.wp_at_succ

theorem getD_at {u : List Int} {k : Nat} (h : k < u.length) : u.getD k 0 = u[k] := by simp [List.getD_eq_getElem?_getD, List.getElem?_eq_getElem h]
def cI (l : List Int) : Array Value := (l.map (Value.int .i64)).toArray
theorem cI_get {l : List Int} {k : Nat} (h : k < l.length) : (cI l)[k]? = some (.int .i64 l[k]) := by simp [cI, List.getElem?_eq_getElem h]
theorem part3 {L : List Int} {i : Nat} (h : i < L.length) (w : World) : (part 3 (cI L) i).run Try.prog w = .ok (.int .i64 L[i]) w := by
  have a3 := Try.isAgg3
  have := cI_get h
  simp [part, a3, this]
theorem cells3 : Try.prog.cellsOf 3 = 1 := by kernel_rfl
theorem eqItems_run (d : Nat) (A B : List Int) (w : World) : ∀ is : List Nat, (∀ i ∈ is, i < A.length ∧ i < B.length) → (Op.eqItems (d + 1) 3 1 (cI A) (cI B) is).run Try.prog w = .ok (is.all fun i => A.getD i 0 == B.getD i 0) w
  | [], _ => by simp [Op.eqItems]
  | i :: is, h => by
    obtain ⟨h1, h2⟩ := h i (by simp)
    have ih := eqItems_run d A B w is (fun j hj => h j (by simp [hj]))
    have ha : A.getD i 0 = A[i] := getD_at h1
    have hb : B.getD i 0 = B[i] := getD_at h2
    simp only [Op.eqItems, Nat.mul_one, Sem.run_bind, part3 h1, part3 h2, Result.andThen_ok, run_equalIn_int w d 3 .i64 .i64 A[i] B[i] Try.underlying3, List.all_cons, ha, hb]
    cases hq : (A[i] == B[i])
    · simp
    · simpa using ih
theorem eqKey (a b c d : Int) (w : World) : (Op.equal 43 (.agg #[.int .i64 a, .int .i64 b]) (.agg #[.int .i64 c, .int .i64 d])).run Try.prog w = .ok (decide (a = c ∧ b = d)) w := by
  obtain ⟨i, hi, h0, h1, h2⟩ := info_parts Try.info3
  have he : (Op.equalIn (9998 + 2) 43 (.agg (cI [a, b])) (.agg (cI [c, d]))).run Try.prog w = .ok (decide (a = c ∧ b = d)) w := by
    rw [run_equalIn_array w (9998 + 1) _ _ Try.underlying43 hi, cells3, eqItems_run 9998 [a, b] [c, d] w (List.range 2) (fun i hi => by simp at hi; simp; omega)]
    congr 1
    rw [Bool.eq_iff_iff]
    simp [List.range_succ]
  exact he

theorem checkOne (e : Bool) (n : Nat) (a : Int) (w : World) : (Instr.checkKey e (n + 1) 3 (.int .i64 a)).run Try.prog w = .ok () w := by
  simp [Instr.checkKey, run_underlying Try.underlying3]
theorem checkArr (e : Bool) (a b : Int) (w : World) : (Instr.checkKey e 10000 43 (.agg #[.int .i64 a, .int .i64 b])).run Try.prog w = .ok () w := by
  have z3 := Try.sizeOf3
  have p0 : (part 3 (cI [a, b]) 0).run Try.prog w = .ok (.int .i64 a) w := part3 (by simp) w
  have p1 : (part 3 (cI [a, b]) 1).run Try.prog w = .ok (.int .i64 b) w := part3 (by simp) w
  rw [show (10000 : Nat) = 9998 + 1 + 1 from rfl]
  show (Instr.checkKey e (9998 + 1 + 1) 43 (.agg (cI [a, b]))).run Try.prog w = .ok () w
  unfold Instr.checkKey
  simp only [Sem.run_bind, run_underlying Try.underlying43, Result.andThen_ok]
  simp only [Std.Legacy.Range.forIn_eq_forIn_range', Std.Legacy.Range.size, Nat.sub_zero, Nat.add_one_sub_one, Nat.div_one]
  simp [List.range', z3, p0, p1, checkOne]

/-- an entry: its key, its value -/
abbrev En := (Int × Int) × Int
/-- what an entry of the row says of (s, t) -/
def lookE : List En → Int → Int → Option Int
  | [], _, _ => none
  | x :: r, s, t => if s = x.1.1 ∧ t = x.1.2 then some x.2 else lookE r s t
theorem lookE_app (s t v a b : Int) : ∀ m : List En, lookE m s t = none → lookE (m ++ [((s, t), v)]) a b = if a = s ∧ b = t then some v else lookE m a b
  | [], _ => rfl
  | x :: r, h => by
    simp only [List.cons_append, lookE] at h ⊢
    by_cases hx : s = x.1.1 ∧ t = x.1.2
    · rw [if_pos hx] at h
      cases h
    · rw [if_neg hx] at h
      rw [lookE_app s t v a b r h]
      by_cases ha : a = x.1.1 ∧ b = x.1.2
      · have : ¬ (a = s ∧ b = t) := fun e => hx ⟨e.1.symm.trans ha.1, e.2.symm.trans ha.2⟩
        rw [if_pos ha, if_neg this, if_pos ha]
      · rw [if_neg ha, if_neg ha]
/-- the row with the first entry of (s, t) turned to v -/
def putE : List En → Int → Int → Int → List En
  | [], _, _, _ => []
  | x :: r, s, t, v => if s = x.1.1 ∧ t = x.1.2 then (x.1, v) :: r else x :: putE r s t v
theorem lookE_put (s t v a b : Int) : ∀ (m : List En) {u : Int}, lookE m s t = some u → lookE (putE m s t v) a b = if a = s ∧ b = t then some v else lookE m a b
  | [], _, h => by simp [lookE] at h
  | x :: r, u, h => by
    simp only [lookE, putE] at h ⊢
    by_cases hx : s = x.1.1 ∧ t = x.1.2
    · rw [if_pos hx, lookE]
      by_cases ha : a = x.1.1 ∧ b = x.1.2
      · rw [if_pos ha, if_pos ⟨ha.1.trans hx.1.symm, ha.2.trans hx.2.symm⟩]
      · rw [if_neg ha, if_neg (fun e => ha ⟨e.1.trans hx.1, e.2.trans hx.2⟩), if_neg ha]
    · rw [if_neg hx] at h ⊢
      rw [lookE, lookE_put s t v a b r h]
      by_cases ha : a = x.1.1 ∧ b = x.1.2
      · have : ¬ (a = s ∧ b = t) := fun e => hx ⟨e.1.symm.trans ha.1, e.2.symm.trans ha.2⟩
        rw [if_pos ha, if_neg this, if_pos ha]
      · rw [if_neg ha, if_neg ha]
/-- its place -/
def idxE : List En → Int → Int → Nat
  | [], _, _ => 0
  | x :: r, s, t => if s = x.1.1 ∧ t = x.1.2 then 0 else idxE r s t + 1
def keyV (k : Int × Int) : Value := .agg #[.int .i64 k.1, .int .i64 k.2]
/-- The map at b has just these entries, in this order. -/
def IsMp (w : World) (b : Nat) (m : List En) : Prop := ∃ es clock, w.heap[b]? = some (.map es clock) ∧ es.toList.map (fun e => (e.key, e.val)) = m.map fun x => (keyV x.1, Value.int .i64 x.2)
theorem IsMp.of_block {w w' : World} {b : Nat} {m : List En} (h : IsMp w b m) (e : w'.heap[b]? = w.heap[b]?) : IsMp w' b m := by
  obtain ⟨es, clock, h1, h2⟩ := h
  exact ⟨es, clock, e.trans h1, h2⟩
theorem IsMp.lt {w : World} {b : Nat} {m : List En} (h : IsMp w b m) : b < w.heap.size := by
  obtain ⟨es, clock, h1, _⟩ := h
  exact (Array.getElem?_eq_some_iff.1 h1).1
theorem IsMp.below {w w' : World} {b : Nat} {m : List En} (h : IsMp w b m) (hb : Below w.heap.size w w') : IsMp w' b m := h.of_block (hb.block b h.lt)
theorem IsMp.made (w : World) : IsMp (w.alloc (.map #[] 0)) w.heap.size [] := ⟨#[], 0, heap_alloc_new w _, rfl⟩

theorem find_run (k : Int × Int) (w : World) : ∀ (es : List MapEntry) (m : List En) (i : Nat), es.map (fun e => (e.key, e.val)) = m.map (fun x => (keyV x.1, Value.int .i64 x.2)) →
    (Instr.findAsking 43 (keyV k) es i).run Try.prog w = .ok ((lookE m k.1 k.2).map fun v => (i + idxE m k.1 k.2, Value.int .i64 v)) w
  | [], [], i, _ => by simp [Instr.findAsking, lookE]
  | e :: es, x :: m, i, h => by
    simp only [List.map_cons, List.cons.injEq, Prod.mk.injEq] at h
    obtain ⟨⟨h1, h2⟩, h3⟩ := h
    by_cases hk : k.1 = x.1.1 ∧ k.2 = x.1.2
    · simp [Instr.findAsking, h1, keyV, eqKey, hk, lookE, idxE, h2]
    · have hr := find_run k w es m (i + 1) h3
      simp only [lookE, idxE, if_neg hk]
      simp only [Instr.findAsking, h1, keyV, Sem.run_bind, eqKey, decide_eq_false hk, Result.andThen_ok]
      rw [show i + (idxE m k.1 k.2 + 1) = i + 1 + idxE m k.1 k.2 by omega]
      simpa [keyV] using hr
  | [], x :: m, i, h => by simp at h
  | e :: es, [], i, h => by simp at h
theorem modify_put (k : Int × Int) (v : Int) : ∀ (es : List MapEntry) (m : List En) {u : Int}, es.map (fun e => (e.key, e.val)) = m.map (fun x => (keyV x.1, Value.int .i64 x.2)) → lookE m k.1 k.2 = some u →
    (es.modify (idxE m k.1 k.2) fun e => { e with key := keyV k, val := Value.int .i64 v }).map (fun e => (e.key, e.val)) = (putE m k.1 k.2 v).map (fun x => (keyV x.1, Value.int .i64 x.2)) ∧ (es[idxE m k.1 k.2]?).map (·.key) = some (keyV k)
  | [], [], _, _, h => by simp [lookE] at h
  | e :: es, x :: m, u, h, hl => by
    simp only [List.map_cons, List.cons.injEq, Prod.mk.injEq] at h
    obtain ⟨⟨h1, h2⟩, h3⟩ := h
    by_cases hk : k.1 = x.1.1 ∧ k.2 = x.1.2
    · obtain ⟨k1, k2⟩ := k
      obtain ⟨⟨x1, x2⟩, x3⟩ := x
      simp only at hk
      obtain ⟨rfl, rfl⟩ := hk
      simp [idxE, putE, h1, h3]
    · simp only [lookE, if_neg hk] at hl
      obtain ⟨q1, q2⟩ := modify_put k v es m h3 hl
      simp only [idxE, putE, if_neg hk, List.modify_succ_cons, List.map_cons, q1, h1, h2, List.getElem?_cons_succ, q2, and_self]
  | [], x :: m, _, h, _ => by simp at h
  | e :: es, [], _, h, _ => by simp at h

theorem look_run {w : World} {b : Nat} {m : List En} (h : IsMp w b m) (s t : Int) :
    (Instr.lookup 40 (.map (some b)) (.agg #[.int .i64 s, .int .i64 t]) true).run Try.prog w = .ok (.tuple #[.int .i64 ((lookE m s t).getD 0), .bool (lookE m s t).isSome]) w := by
  obtain ⟨es, clock, h1, h2⟩ := h
  have hr := find_run (s, t) w es.toList m 0 h2
  have hf : (Instr.findKey 43 (.agg #[.int .i64 s, .int .i64 t]) es.toList).run Try.prog w = .ok ((lookE m s t).map fun v => (0 + idxE m s t, Value.int .i64 v)) w := by rw [run_findKey_eq w (by kernel_rfl)]; exact hr
  have hg : (getObj b).run Try.prog w = .ok (.map es clock) w := by simp [getObj, Sem.run, h1]
  cases hl : lookE m s t with
  | none =>
    rw [hl] at hf
    simp [Instr.lookup, run_underlying Try.underlying40, hg, checkArr, hf, Try.zeroValue2]
  | some y =>
    rw [hl] at hf
    simp [Instr.lookup, run_underlying Try.underlying40, hg, checkArr, hf]

theorem stays_run (k : Int × Int) (w : World) : (Instr.keyThatStays (keyV k) (keyV k)).run Try.prog w = .ok (keyV k) w := by
  have : Instr.sameBits 10000 (keyV k) (keyV k) = true := by
    show Instr.sameBits (9999 + 1) (.agg #[.int .i64 k.1, .int .i64 k.2]) (.agg #[.int .i64 k.1, .int .i64 k.2]) = true
    simp [Instr.sameBits]
  simp [Instr.keyThatStays, this]
/-- The map at b answers as f. -/
def IsF (w : World) (b : Nat) (f : Int → Int → Option Int) : Prop := ∃ m, IsMp w b m ∧ ∀ s t, lookE m s t = f s t
theorem IsF.lt {w : World} {b : Nat} {f : Int → Int → Option Int} (h : IsF w b f) : b < w.heap.size := h.choose_spec.1.lt
theorem IsF.below {w w' : World} {b : Nat} {f : Int → Int → Option Int} (h : IsF w b f) (hb : Below w.heap.size w w') : IsF w' b f := ⟨h.choose, h.choose_spec.1.below hb, h.choose_spec.2⟩
theorem IsF.of_block {w w' : World} {b : Nat} {f : Int → Int → Option Int} (h : IsF w b f) (e : w'.heap[b]? = w.heap[b]?) : IsF w' b f := ⟨h.choose, h.choose_spec.1.of_block e, h.choose_spec.2⟩
theorem IsF.made (w : World) : IsF (w.alloc (.map #[] 0)) w.heap.size (fun _ _ => none) := ⟨[], IsMp.made w, fun _ _ => rfl⟩
theorem store_run {w : World} {b : Nat} {f : Int → Int → Option Int} (h : IsF w b f) (s t v : Int) :
    ∃ w', (Instr.mapUpdate 40 (.map (some b)) (.agg #[.int .i64 s, .int .i64 t]) (.int .i64 v)).run Try.prog w = .ok () w' ∧ IsF w' b (updF f s t v) ∧ ∀ B, B ≤ b → Below B w w' := by
  obtain ⟨m, ⟨es, clock, h1, h2⟩, hm⟩ := h
  have hr := find_run (s, t) w es.toList m 0 h2
  have hf : (Instr.findKey 43 (.agg #[.int .i64 s, .int .i64 t]) es.toList).run Try.prog w = .ok ((lookE m s t).map fun v => (0 + idxE m s t, Value.int .i64 v)) w := by rw [run_findKey_eq w (by kernel_rfl)]; exact hr
  have hg : (getObj b).run Try.prog w = .ok (.map es clock) w := by simp [getObj, Sem.run, h1]
  cases hl : lookE m s t with
  | none =>
    rw [hl] at hf
    refine ⟨{ w with heap := w.heap.setIfInBounds b (.map (es.push { key := .agg #[.int .i64 s, .int .i64 t], val := .int .i64 v, born := clock }) (clock + 1)) }, ?_, ⟨m ++ [((s, t), v)], ⟨_, _, (MapKept.heap_set h1).1, ?_⟩, fun a c => ?_⟩, fun B hB => ⟨rfl, rfl, rfl, by simp, fun j hj => ?_⟩⟩
    · simp [Instr.mapUpdate, run_underlying Try.underlying40, hg, checkArr, hf, MapKept.run_setObj_map _ h1]
    · simp [h2, keyV]
    · rw [lookE_app s t v a c m hl, hm a c]
      rfl
    · exact (MapKept.heap_set h1).2 j (by omega)
  | some y =>
    rw [hl] at hf
    simp only [Option.map_some, Nat.zero_add] at hf
    obtain ⟨q1, q2⟩ := modify_put (s, t) v es.toList m h2 hl
    have q3 : ((es[idxE m s t]?).map (·.key)) = some (keyV (s, t)) := by simpa using q2
    have hk := stays_run (s, t) w
    refine ⟨{ w with heap := w.heap.setIfInBounds b (.map (es.modify (idxE m s t) fun e => { e with key := keyV (s, t), val := .int .i64 v }) clock) }, ?_, ⟨putE m s t v, ⟨_, _, (MapKept.heap_set h1).1, ?_⟩, fun a c => ?_⟩, fun B hB => ⟨rfl, rfl, rfl, by simp, fun j hj => ?_⟩⟩
    · have hk' : (Instr.keyThatStays (((es[idxE m s t]?).map (·.key)).getD (.agg #[.int .i64 s, .int .i64 t])) (.agg #[.int .i64 s, .int .i64 t])).run Try.prog w = .ok (keyV (s, t)) w := by
        rw [q3]
        exact hk
      simp [Instr.mapUpdate, run_underlying Try.underlying40, hg, checkArr, hf, hk', MapKept.run_setObj_map _ h1]
    · rw [Array.toList_modify]
      exact q1
    · rw [lookE_put s t v a c m hl, hm a c]
      rfl
    · exact (MapKept.heap_set h1).2 j (by omega)

section
variable (w : World) {ops : Array Oper} {rest : List Oper} {o : Oper} {a : Act} {Q : Exit → Act → World → Prop}
theorem wpList_look (hg : o.guard = none) (m x : Operand) (hop : o.op = Op.lookup 40 m x true) (b : Nat) (f : Int → Int → Option Int) (hm : a.eval m = .map (some b)) (h : IsF w b f) (s t : Int) (hx : a.eval x = .agg #[.int .i64 s, .int .i64 t])
    (y : Int) (is : Bool) (h1 : (f s t).getD 0 = y) (h2 : (f s t).isSome = is)
    (hK : wpList Try.prog ops Q rest (a.put o.dst (.tuple #[.int .i64 y, .bool is])) w) : wpList Try.prog ops Q (o :: rest) a w := by
  refine wpList_plain hg fun K' hK' => ?_
  obtain ⟨l, hl, hf⟩ := h
  have hrun := look_run hl s t
  rw [hf, h1, h2] at hrun
  unfold Oper.wp
  simp [execOp, hop, hm, hx, hrun, Result.andThen]
  exact hK' _ _ hK
theorem wpList_store (hg : o.guard = none) (m x v : Operand) (hop : o.op = Op.mapUpdate 40 m x v) (b : Nat) (f : Int → Int → Option Int) (hm : a.eval m = .map (some b)) (h : IsF w b f) (s t y : Int) (hx : a.eval x = .agg #[.int .i64 s, .int .i64 t]) (hv : a.eval v = .int .i64 y)
    (hK : ∀ w', IsF w' b (updF f s t y) → (∀ B, B ≤ b → Below B w w') → wpList Try.prog ops Q rest (a.put o.dst undef) w') : wpList Try.prog ops Q (o :: rest) a w := by
  refine wpList_plain hg fun K' hK' => ?_
  obtain ⟨w', hrun, r1, r2⟩ := store_run h s t y
  unfold Oper.wp
  simp [execOp, hop, hm, hx, hv, hrun, Result.andThen]
  exact hK' _ _ (hK w' r1 r2)
end
end Go.Proofs.Ytfghondhonflaaa
