/-
  A drawn region of loads, calls and makings of rows of instructions: what its operations' values are, whatever the order.
-/
import Derived.Test.YteikdocpncdheaaFord
import Derived.Test.YteikdocpncdheaaLots
import Derived.Test.YteikdocpncdheaaMayc
import Derived.Great.BuildSlice
namespace Go.Proofs.Yteikdocpncdheaa
open Go.ChangeShapes Go.WideShapes Go.ChangeAt Go.RowKit
attribute [local go_sem ↓] Go.wp_at_zero Go.wp_at_succ

inductive Sp where
  | ins (x : In)
  | prog (l : List In)
  | lots (L : List (List In))
def Ok : Sp → Value → World → Prop
  | .ins x, v, _ => v = .agg #[.int .i64 x.1, .int .i64 x.2.1, .int .i64 x.2.2.1, .int .i64 x.2.2.2]
  | .prog l, v, w => ∃ b, v = .slice (some ⟨b, 0, none⟩) l.length l.length ∧ Rd eIn w (some ⟨b, 0, none⟩) l.length l
  | .lots L, v, w => ∃ b, v = .slice (some ⟨b, 0, none⟩) L.length L.length ∧ Rws w b L
theorem Ok.below {s : Sp} {v : Value} {w w' : World} (h : Ok s v w) (hb : Below w.heap.size w w') : Ok s v w' := by
  cases s with
  | ins x => exact h
  | prog l => obtain ⟨b, e, hr⟩ := h; exact ⟨b, e, hr.below hb⟩
  | lots L => obtain ⟨b, e, hr⟩ := h; exact ⟨b, e, hr.below hb⟩
def vars8 : Nat → In
  | 1 => (0, 0, 0, 0)
  | 2 => (11, 0, 0, 0)
  | 3 => (1, 0, 0, 0)
  | 4 => (9, 0, 0, 0)
  | 5 => (10, 0, 0, 0)
  | 6 => (9, 1, 0, 0)
  | _ => (10, 1, 0, 0)
def aC (x : In) : Array Value := #[.int .i64 x.1, .int .i64 x.2.1, .int .i64 x.2.2.1, .int .i64 x.2.2.2]
/-- where the variables lie -/
def Vr (rb : Nat → Nat) (w0 : World) (tm : Array Value) : Prop := ∀ t, 1 ≤ t → t ≤ 7 → tm.getD t undef = .pointer (some ⟨rb t, 0, none⟩) ∧ w0.heap[rb t]? = some (.cells (aC (vars8 t)) 45 (0, 0))
structure Iv (ops : Array Oper) (sp : List Sp) (ds : List Nat) (w0 : World) (tm : Array Value) (listed : Array Bool) (a : Act) (w : World) : Prop where
  size : listed.size = ops.size
  tmps : a.tmps.size = 184
  defs : a.defers = []
  keep : ∀ t, t ∉ ds → a.tmps.getD t undef = tm.getD t undef
  bel : Below w0.heap.size w0 w
  val : ∀ j, j < ops.size → listed.getD j false = true → Ok (sp.getD j (.ins z4)) (a.tmps.getD (ds.getD j 0) undef) w
section
variable {ops : Array Oper} {sp : List Sp} {ds : List Nat} {w0 : World} {tm : Array Value} {listed : Array Bool} {a : Act} {w : World} {Q : Exit → Act → World → Prop}
theorem getD_mem {ds : List Nat} {i : Nat} (h : i < ds.length) : ds.getD i 0 ∈ ds := by
  rw [List.getD_eq_getElem?_getD, List.getElem?_eq_getElem h]
  exact List.getElem_mem h
theorem getD_inj {ds : List Nat} (hn : ds.Nodup) {i j : Nat} (hi : i < ds.length) (hj : j < ds.length) (h : ds.getD i 0 = ds.getD j 0) : i = j := by
  rw [List.getD_eq_getElem?_getD, List.getD_eq_getElem?_getD, List.getElem?_eq_getElem hi, List.getElem?_eq_getElem hj] at h
  have hp := List.pairwise_iff_getElem.1 hn
  rcases Nat.lt_trichotomy i j with hlt | he | hgt
  · exact absurd h (hp i j hi hj hlt)
  · exact he
  · exact absurd h.symm (hp j i hj hi hgt)
theorem arr_same {xs : Array Value} {d : Nat} (h : d < xs.size) (v : Value) : (xs.setIfInBounds d v).getD d undef = v := by simp [Array.getD_eq_getD_getElem?, h]
theorem arr_other {xs : Array Value} {d t : Nat} (h : t ≠ d) (v : Value) : (xs.setIfInBounds d v).getD t undef = xs.getD t undef := by
  simp only [Array.getD_eq_getD_getElem?]
  rw [Array.getElem?_setIfInBounds_ne (fun e => h e.symm)]
theorem Iv.put (h : Iv ops sp ds w0 tm listed a w) (hn : ds.Nodup) (hl : ds.length = ops.size) (h184 : ∀ d ∈ ds, d < 184) {i : Nat} (hi : i < ops.size) {v : Value} {w' : World} (hb : Below w.heap.size w w') (hv : Ok (sp.getD i (.ins z4)) v w') : Iv ops sp ds w0 tm (listed.setIfInBounds i true) (a.put (some (ds.getD i 0)) v) w' := by
  have hd := getD_mem (ds := ds) (i := i) (by omega)
  have hd2 := h184 _ hd
  refine ⟨by rw [Array.size_setIfInBounds]; exact h.size, by simp [Act.put, h.tmps], h.defs, fun t ht => ?_, bel_call h.bel (Nat.le_refl _) hb, fun j hj hjl => ?_⟩
  · show (a.tmps.setIfInBounds _ v).getD t undef = _
    rw [arr_other (fun e => ht (by rw [e]; exact hd))]
    exact h.keep t ht
  · show Ok _ ((a.tmps.setIfInBounds _ v).getD _ undef) w'
    by_cases e : j = i
    · subst e
      rw [arr_same (by rw [h.tmps]; exact hd2)]
      exact hv
    · rw [arr_other (fun e' => e (getD_inj hn (by omega) (by omega) e'))]
      rw [getD_set_other e] at hjl
      exact (h.val j hj hjl).below hb
theorem wp_one {i : Nat} {o : Oper} {K : Act → World → Prop} (ho : ops[i]? = some o) (hg : o.guard = none) (h : o.wp Try.prog a w K Q) : wpOp Try.prog ops Q i K a w := by
  unfold wpOp
  rw [ho]
  simp only
  have hw : Region.wanted o (yielded ops a.tmps) = true := by simp [Region.wanted, hg]
  rw [if_pos hw]
  exact .inl h
structure Rg (ops : Array Oper) (ds : List Nat) : Prop where
  nd : ds.Nodup
  len : ds.length = ops.size
  lt : ∀ d ∈ ds, d < 184
  lo : ∀ t, 1 ≤ t → t ≤ 7 → t ∉ ds
theorem info45s : (Try.prog.info? 45).map (·.size) = some 4 := by kernel_rfl
theorem st_load (R : Rg ops ds) (h : Iv ops sp ds w0 tm listed a w) {rb : Nat → Nat} (hV : Vr rb w0 tm) {i : Nat} {o : Oper} {t d : Nat} (ho : ops[i]? = some o) (hg : o.guard = none) (hop : o.op = .load 45 (.tmp t)) (hd : o.dst = some d) (hds : ds.getD i 0 = d) (h1 : 1 ≤ t) (h7 : t ≤ 7) (hs : sp.getD i (.ins z4) = .ins (vars8 t)) (hi : i < ops.size) :
    wpOp Try.prog ops Q i (fun a' w' => Iv ops sp ds w0 tm (listed.setIfInBounds i true) a' w') a w := by
  obtain ⟨v1, v2⟩ := hV t h1 h7
  have hk := (h.keep t (R.lo t h1 h7)).trans v1
  have hrow := (h.bel.block _ (lt_of_block v2)).trans v2
  refine wp_one ho hg (wp_load_row 45 (.tmp t) hop (rb t) hk 45 (aC (vars8 t)) (0, 0) _ hrow Try.underlying45 rfl info45s ?_)
  rw [hd, ← hds]
  exact h.put R.nd R.len R.lt hi (Below.refl _ _) (by rw [hs]; rfl)
theorem st_assign (R : Rg ops ds) (h : Iv ops sp ds w0 tm listed a w) {i j : Nat} {o : Oper} {t d : Nat} (ho : ops[i]? = some o) (hg : o.guard = none) (hop : o.op = .assign (.tmp t)) (hd : o.dst = some d) (hds : ds.getD i 0 = d) (hj : j < ops.size) (hjl : listed.getD j false = true) (hdj : ds.getD j 0 = t) (hs : sp.getD i (.ins z4) = sp.getD j (.ins z4)) (hi : i < ops.size) :
    wpOp Try.prog ops Q i (fun a' w' => Iv ops sp ds w0 tm (listed.setIfInBounds i true) a' w') a w := by
  have hv := h.val j hj hjl
  rw [hdj] at hv
  refine wp_one ho hg ?_
  unfold Oper.wp execOp
  rw [hop]
  show Iv ops sp ds w0 tm (listed.setIfInBounds i true) (a.put o.dst (a.tmps.getD t undef)) w
  rw [hd, ← hds]
  exact h.put R.nd R.len R.lt hi (Below.refl _ _) (by rw [hs]; exact hv)
theorem rep_any (x y : Int) (w : World) : Calls Try.prog 19 #[.int .i64 x, .int .i64 y] w fun e w' => e = .returned (.agg #[.int .i64 8, .int .i64 0, .int .i64 x, .int .i64 y]) ∧ Below w.heap.size w w' := by
  go_enter Try.func19, Try.ntmps19
  go_wp2
  refine bodyPost_ret (v := .agg #[.int .i64 8, .int .i64 0, .int .i64 x, .int .i64 y]) (results_cell_row (fn := Try.f19) Try.results19 _ _ w.heap.size 45 #[.int .i64 8, .int .i64 0, .int .i64 x, .int .i64 y] (0, 0) _ rfl (heap_alloc_new w _) Try.underlying45 rfl info45s) rfl ?_
  exact ⟨rfl, (by repeat (first | exact Below.refl _ _ | refine Below.alloc ?_ (by simp <;> omega) _ | refine Below.setCell ?_ (by simp <;> omega) _))⟩
theorem skip_any (x : Int) (w : World) : Calls Try.prog 20 #[.int .i64 x] w fun e w' => e = .returned (.agg #[.int .i64 7, .int .i64 0, .int .i64 0, .int .i64 x]) ∧ Below w.heap.size w w' := by
  go_enter Try.func20, Try.ntmps20
  go_wp2
  refine bodyPost_ret (v := .agg #[.int .i64 7, .int .i64 0, .int .i64 0, .int .i64 x]) (results_cell_row (fn := Try.f20) Try.results20 _ _ w.heap.size 45 #[.int .i64 7, .int .i64 0, .int .i64 0, .int .i64 x] (0, 0) _ rfl (heap_alloc_new w _) Try.underlying45 rfl info45s) rfl ?_
  exact ⟨rfl, (by repeat (first | exact Below.refl _ _ | refine Below.alloc ?_ (by simp <;> omega) _ | refine Below.setCell ?_ (by simp <;> omega) _))⟩
theorem st_call (R : Rg ops ds) (h : Iv ops sp ds w0 tm listed a w) {i f : Nat} {o : Oper} {d : Nat} {args : Array Value} {x : In} (ho : ops[i]? = some o) (hg : o.guard = none) (hrun : (execOp a.eval o).run Try.prog w = .ok (.enter f args) w) (hd : o.dst = some d) (hds : ds.getD i 0 = d) (hc : Calls Try.prog f args w fun e w' => e = .returned (.agg (aC x)) ∧ Below w.heap.size w w') (hs : sp.getD i (.ins z4) = .ins x) (hi : i < ops.size) :
    wpOp Try.prog ops Q i (fun a' w' => Iv ops sp ds w0 tm (listed.setIfInBounds i true) a' w') a w := by
  refine wp_one ho hg ?_
  unfold Oper.wp
  rw [hrun, Oper.upon_enter]
  refine hc.mono ?_
  rintro e w' ⟨rfl, hb⟩
  show Iv ops sp ds w0 tm (listed.setIfInBounds i true) (a.put o.dst (.agg (aC x))) w'
  rw [hd, ← hds]
  exact h.put R.nd R.len R.lt hi hb (by rw [hs]; rfl)
theorem st_val (R : Rg ops ds) (h : Iv ops sp ds w0 tm listed a w) {i : Nat} {o : Oper} {d : Nat} {x : In} (ho : ops[i]? = some o) (hg : o.guard = none) (hrun : (execOp a.eval o).run Try.prog w = .ok (.value (.agg (aC x))) w) (hd : o.dst = some d) (hds : ds.getD i 0 = d) (hs : sp.getD i (.ins z4) = .ins x) (hi : i < ops.size) :
    wpOp Try.prog ops Q i (fun a' w' => Iv ops sp ds w0 tm (listed.setIfInBounds i true) a' w') a w := by
  refine wp_one ho hg ?_
  unfold Oper.wp
  rw [hrun]
  show Iv ops sp ds w0 tm (listed.setIfInBounds i true) (a.put o.dst (.agg (aC x))) w
  rw [hd, ← hds]
  exact h.put R.nd R.len R.lt hi (Below.refl _ _) (by rw [hs]; rfl)
/-- a row of instructions -/
theorem st_row (R : Rg ops ds) (h : Iv ops sp ds w0 tm listed a w) {i : Nat} {o : Oper} {d n : Nat} {parts : Array (Nat × Operand)} {l : List In} {cells : Array Value} (ho : ops[i]? = some o) (hg : o.guard = none) (hop : o.op = .buildSlice 22 n parts) (hd : o.dst = some d) (hds : ds.getD i 0 = d) (hs : sp.getD i (.ins z4) = .prog l) (hn : l.length = n) (hn1 : 1 ≤ n) (hn2 : n ≤ 24) (hi : i < ops.size)
    (hf : ∀ ie z, Try.prog.info? 45 = some ie → ie.zero = some z → ie.size = 4 → z = .agg #[.int .i64 0, .int .i64 0, .int .i64 0, .int .i64 0] → Instr.fill (fun i => some (i * ie.size, ie.size)) ((Array.range (n * ie.size)).map (z.cells[· % z.cells.size]!)) (parts.map fun (i, x) => (i, a.eval x)).toList = some cells) (hcl : cells.toList = fl eIn l) :
    wpOp Try.prog ops Q i (fun a' w' => Iv ops sp ds w0 tm (listed.setIfInBounds i true) a' w') a w := by
  obtain ⟨ie, hie, hz, hsz, _⟩ := info_parts Try.info45
  refine wp_one ho hg (wp_buildSlice 22 45 n parts hop cells ie _ Try.underlying22 hie hz (by rw [hsz]; omega) (by rw [hsz]; omega) (hf ie _ hie hz hsz rfl) ?_)
  rw [hd, ← hds]
  refine h.put R.nd R.len R.lt hi ((Below.refl _ _).alloc (Nat.le_refl _) _) ?_
  rw [hs]
  subst hn
  exact ⟨w.heap.size, rfl, rd_block (heap_alloc_new w _) _ rfl hcl⟩
theorem Try.info22 : (Try.prog.info? 22).map (fun i => (i.zero, i.size, i.bytes)) = some (some (.slice none 0 0), 1, 24) := by kernel_rfl
/-- a row of programs -/
theorem st_lots (R : Rg ops ds) (h : Iv ops sp ds w0 tm listed a w) {i : Nat} {o : Oper} {d n : Nat} {parts : Array (Nat × Operand)} {L : List (List In)} {cells : Array Value} (ho : ops[i]? = some o) (hg : o.guard = none) (hop : o.op = .buildSlice 29 n parts) (hd : o.dst = some d) (hds : ds.getD i 0 = d) (hs : sp.getD i (.ins z4) = .lots L) (hn : L.length = n) (hn1 : 1 ≤ n) (hn2 : n ≤ 24) (hi : i < ops.size)
    (hf : ∀ ie z, Try.prog.info? 22 = some ie → ie.zero = some z → ie.size = 1 → z = .slice none 0 0 → Instr.fill (fun i => some (i * ie.size, ie.size)) ((Array.range (n * ie.size)).map (z.cells[· % z.cells.size]!)) (parts.map fun (i, x) => (i, a.eval x)).toList = some cells)
    (hv : ∀ k, (hk : k < L.length) → ∃ q d, cells[k]? = some (.slice q L[k].length d) ∧ Rd eIn w q d L[k]) :
    wpOp Try.prog ops Q i (fun a' w' => Iv ops sp ds w0 tm (listed.setIfInBounds i true) a' w') a w := by
  obtain ⟨ie, hie, hz, hsz, _⟩ := info_parts Try.info22
  refine wp_one ho hg (wp_buildSlice 29 22 n parts hop cells ie _ Try.underlying29 hie hz (by rw [hsz]; omega) (by rw [hsz]; omega) (hf ie _ hie hz hsz rfl) ?_)
  rw [hd, ← hds]
  refine h.put R.nd R.len R.lt hi ((Below.refl _ _).alloc (Nat.le_refl _) _) ?_
  rw [hs]
  subst hn
  refine ⟨w.heap.size, rfl, lt_of_block (heap_alloc_new w _), fun k hk => ?_⟩
  obtain ⟨q, d', h1, h2⟩ := hv k hk
  exact ⟨q, d', by rw [cell_of_row _ _ _ _ _ _ (heap_alloc_new w _)]; exact h1, h2.below ((Below.refl _ _).alloc (Nat.le_refl _) _)⟩
end
end Go.Proofs.Yteikdocpncdheaa
