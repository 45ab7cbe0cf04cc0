/-
  Words for a slice of pairs of integers that is read, and what append, copy and clear do with rows of two cells an element; nothing of a program's text.
-/
import Derived.WalkKit
import Derived.ProofKit
import Derived.Maps.AppendAt
import Derived.Laws.CopyOwn
import Derived.Lib.AppendZerosOnto
import Derived.Deep.AppendLies
namespace Go.Proofs.Ytannkdnjbacbdaa
open Go.RowKit

abbrev Tm := Int × Int

/-- The cells of a row of pairs. -/
def fl : List Tm → List Value
  | [] => []
  | x :: r => .int .i64 x.1 :: .int .i64 x.2 :: fl r

theorem fl_length : ∀ l : List Tm, (fl l).length = l.length * 2
  | [] => rfl
  | x :: r => by simp [fl, fl_length r]; omega
theorem fl_append : ∀ a b : List Tm, fl (a ++ b) = fl a ++ fl b
  | [], b => rfl
  | x :: r, b => by simp [fl, fl_append r b]
theorem fl_take : ∀ (l : List Tm) (n : Nat), (fl l).take (n * 2) = fl (l.take n)
  | _, 0 => by simp [fl]
  | [], n + 1 => by simp [fl]
  | x :: r, n + 1 => by rw [show (n + 1) * 2 = n * 2 + 1 + 1 by omega]; simp [fl, fl_take r n]
theorem fl_drop : ∀ (l : List Tm) (n : Nat), (fl l).drop (n * 2) = fl (l.drop n)
  | _, 0 => by simp
  | [], n + 1 => by simp [fl]
  | x :: r, n + 1 => by rw [show (n + 1) * 2 = n * 2 + 1 + 1 by omega]; simp [fl, fl_drop r n]
theorem fl_one : ∀ (l : List Tm), ∀ v ∈ fl l, v.oneCell' = true
  | x :: r, v, hv => by
    simp only [fl, List.mem_cons] at hv
    rcases hv with rfl | rfl | hv
    · rfl
    · rfl
    · exact fl_one r v hv
theorem fl_get1 : ∀ (l : List Tm) (i : Nat) (h : i < l.length), (fl l)[i * 2]? = some (.int .i64 l[i].1)
  | x :: r, 0, _ => rfl
  | x :: r, i + 1, h => by
    rw [show (i + 1) * 2 = i * 2 + 1 + 1 by omega]
    simpa [fl] using fl_get1 r i (by simpa using h)
theorem fl_get2 : ∀ (l : List Tm) (i : Nat) (h : i < l.length), (fl l)[i * 2 + 1]? = some (.int .i64 l[i].2)
  | x :: r, 0, _ => rfl
  | x :: r, i + 1, h => by
    rw [show (i + 1) * 2 + 1 = i * 2 + 1 + 1 + 1 by omega]
    simpa [fl] using fl_get2 r i (by simpa using h)
theorem fl_set1 : ∀ (l : List Tm) (i : Nat) (h : i < l.length) (a : Int), (fl l).set (i * 2) (.int .i64 a) = fl (l.set i (a, l[i].2))
  | x :: r, 0, _, a => rfl
  | x :: r, i + 1, h, a => by
    rw [show (i + 1) * 2 = i * 2 + 1 + 1 by omega]
    simpa [fl] using fl_set1 r i (by simpa using h) a

/-- The slice that begins at p, of capacity c, reads in w as l. -/
structure Rd (w : World) (p : Option Addr) (c : Nat) (l : List Tm) : Prop where
  cap : l.length ≤ c
  at_ : (p = none ∧ l = [] ∧ c = 0) ∨ ∃ b o s, p = some ⟨b, o, s⟩ ∧ (l ≠ [] → s = none) ∧ ∀ j v, (fl l)[j]? = some v → w.cell? ⟨b, o + j, none⟩ = some v

/-- .. and it lies, alone, in a block from base on. -/
def Own (w : World) (base : Nat) (e : TypeId) (p : Option Addr) (c : Nat) (l : List Tm) : Prop := w.ownsRow base e 2 (.slice p l.length c) l.length (fl l)

theorem lt_of_cell {w : World} {b o : Nat} {v : Value} (h : w.cell? ⟨b, o, none⟩ = some v) : b < w.heap.size := World.block_lt_of_cell? w ⟨b, o, none⟩ h
theorem add_plain (b o j : Nat) : (⟨b, o, none⟩ : Addr).add j = ⟨b, o + j, none⟩ := by unfold Addr.add; split <;> simp_all

theorem Rd.nil (w : World) : Rd w none 0 [] := ⟨by simp, .inl ⟨rfl, rfl, rfl⟩⟩

theorem Rd.pos {w : World} {p : Option Addr} {c : Nat} {l : List Tm} (h : Rd w p c l) (hl : 0 < l.length) :
    ∃ b o, p = some ⟨b, o, none⟩ ∧ b < w.heap.size ∧ ∀ j v, (fl l)[j]? = some v → w.cell? ⟨b, o + j, none⟩ = some v := by
  rcases h.at_ with ⟨_, rfl, _⟩ | ⟨b, o, s, e, hs, hc⟩
  · simp at hl
  · have hn := hs (List.length_pos_iff.1 hl)
    subst hn
    exact ⟨b, o, e, lt_of_cell (hc (0 * 2) _ (fl_get1 l 0 hl)), hc⟩

/-- The two cells of an element. -/
theorem Rd.cells {w : World} {p : Option Addr} {c : Nat} {l : List Tm} (h : Rd w p c l) (i : Nat) (hi : i < l.length) :
    ∃ b o, p = some ⟨b, o, none⟩ ∧ b < w.heap.size ∧ w.cell? ⟨b, o + i * 2, none⟩ = some (.int .i64 l[i].1) ∧ w.cell? ⟨b, o + i * 2 + 1, none⟩ = some (.int .i64 l[i].2) := by
  obtain ⟨b, o, e, hb, hc⟩ := h.pos (by omega)
  exact ⟨b, o, e, hb, hc _ _ (fl_get1 l i hi), by rw [Nat.add_assoc]; exact hc _ _ (fl_get2 l i hi)⟩

theorem Rd.below {w w' : World} {p : Option Addr} {c : Nat} {l : List Tm} (h : Rd w p c l) (hb : Below w.heap.size w w') : Rd w' p c l := by
  refine ⟨h.cap, ?_⟩
  rcases h.at_ with h0 | ⟨b, o, s, rfl, hs, hc⟩
  · exact .inl h0
  · exact .inr ⟨b, o, s, rfl, hs, fun j v hj => (hb.cell (p := ⟨b, o + j, none⟩) (lt_of_cell (hc j v hj))).trans (hc j v hj)⟩

theorem own_rd {w : World} {base : Nat} {e : TypeId} {p : Option Addr} {c : Nat} {l : List Tm} (h : Own w base e p c l) : Rd w p c l := by
  rcases h.2 with ⟨h1, h2⟩ | ⟨g, cap, cur, h1, h2, h3, h4, h5, h6, h7⟩
  · simp only [Value.slice.injEq] at h1
    obtain ⟨rfl, h1, rfl⟩ := h1
    exact ⟨by omega, .inl ⟨rfl, List.eq_nil_of_length_eq_zero h1, rfl⟩⟩
  · simp only [Value.slice.injEq, true_and] at h1
    obtain ⟨rfl, rfl⟩ := h1
    refine ⟨h4, .inr ⟨g, 0, none, rfl, fun _ => rfl, fun j v hj => ?_⟩⟩
    have := World.ownsRow.cells h (g := g) rfl j v hj
    rwa [add_plain] at this

theorem own_cap {w : World} {base : Nat} {e : TypeId} {p : Option Addr} {c : Nat} {l : List Tm} (h : Own w base e p c l) : l.length ≤ c := (own_rd h).cap

/-- An owned row with at least one element, or room for one, opened. -/
theorem own_open {w : World} {base : Nat} {e : TypeId} {p : Option Addr} {c : Nat} {l : List Tm} (h : Own w base e p c l) (hc : 0 < c) :
    ∃ g cur, p = some ⟨g, 0, none⟩ ∧ base ≤ g ∧ g < w.heap.size ∧ w.heap[g]? = some (.cells (cur : List Value).toArray e (0, 0)) ∧ c ≤ maxLen ∧ cur.length = c * 2 ∧ cur.take (l.length * 2) = fl l := by
  rcases h.2 with ⟨h1, h2⟩ | ⟨g, cap, cur, h1, h2, h3, h4, h5, h6, h7⟩
  · simp only [Value.slice.injEq] at h1; omega
  · simp only [Value.slice.injEq, true_and] at h1
    obtain ⟨rfl, rfl⟩ := h1
    exact ⟨g, cur.toList, rfl, h2, (Array.getElem?_eq_some_iff.1 h3).1, by simpa using h3, h5, by simpa using h6, h7⟩

theorem own_shut {w : World} {base : Nat} {e : TypeId} {g c : Nat} {l : List Tm} {cur : List Value} (hb : base ≤ g) (hg : w.heap[g]? = some (.cells cur.toArray e (0, 0))) (hm : c ≤ maxLen) (hs : cur.length = c * 2) (hl : l.length ≤ c) (ht : cur.take (l.length * 2) = fl l) :
    Own w base e (some ⟨g, 0, none⟩) c l := ⟨fl_length l, .inr ⟨g, c, cur.toArray, rfl, hb, hg, hl, hm, by simpa using hs, by simpa using ht⟩⟩

theorem own_setAt {w : World} {base g : Nat} {e : TypeId} {c : Nat} {l : List Tm} (h : Own w base e (some ⟨g, 0, none⟩) c l) (k : Nat) (hk : k < l.length) (a : Int) :
    Own (w.setCell ⟨g, k * 2, none⟩ (.int .i64 a)) base e (some ⟨g, 0, none⟩) c (l.set k (a, l[k].2)) := by
  have hcap := own_cap h
  obtain ⟨g', cur, e', h2, h3, h4, h5, h6, h7⟩ := own_open h (by omega)
  simp only [Option.some.injEq, Addr.mk.injEq, and_true] at e'
  subst e'
  rw [setCell_eq_setRow w g (k * 2) cur.toArray e (0, 0) _ h4]
  refine own_shut (cur := cur.set (k * 2) (.int .i64 a)) h2 ?_ h5 (by simpa using h6) (by simpa using hcap) ?_
  · have := setRow_heap w g cur.toArray (cur.toArray.setIfInBounds (k * 2) (.int .i64 a)) e _ h4
    simpa using this
  · rw [List.length_set, ← fl_set1 l k hk a, ← h7, List.take_set]

/-- A clone: append of a slice that is read onto an empty row of the call's own. -/
theorem run_clone {P : Program} (w : World) (t ty e : TypeId) (i : TypeInfo) (z : Value) (ht : P.underlying t = some (.slice e)) (hi : P.info? e = some i) (hz : i.zero = some z) (hsize : i.size = 2) (hby : i.bytes = 16) (hzs : z.cells.size = 2)
    (N base : Nat) (hN : w.heap[N]? = some (.cells #[] e (0, 0))) (hbN : base ≤ N) (p : Option Addr) (c : Nat) (l : List Tm) (hr : Rd w p c l) (hl : l.length ≤ 100) :
    ∃ p' c' w', (Builtin.append_ #[t, t] ty #[.slice (some ⟨N, 0, none⟩) 0 0, .slice p l.length c]).run P w = .ok (.slice p' l.length c') w' ∧ Own w' base e p' c' l ∧ Below base w w' := by
  have hNlt : N < w.heap.size := (Array.getElem?_eq_some_iff.1 hN).1
  have hown : Own w base e (some ⟨N, 0, none⟩) 0 [] := own_shut (cur := []) hbN (by simpa using hN) (by simp) rfl (by simp) rfl
  by_cases h0 : l = []
  · subst h0
    refine ⟨some ⟨N, 0, none⟩, 0, w, ?_, hown, Below.refl _ _⟩
    rcases hr.at_ with ⟨rfl, _, rfl⟩ | ⟨b, o, s, rfl, _, _⟩
    · simp [Builtin.append_, run_underlying ht, sizeOf, typeInfo, hi, Builtin.lenOf, Builtin.firstCells, storeCells]
    · simp [Builtin.append_, run_underlying ht, sizeOf, typeInfo, hi, Builtin.lenOf, Builtin.firstCells, storeCells, loadCells, loadCellsFrom]
  · have hpos : 0 < l.length := List.length_pos_iff.2 h0
    obtain ⟨b, o, rfl, hb, hc⟩ := hr.pos hpos
    obtain ⟨v', w', hrun, h2, h3, h4, h5⟩ := run_append_own_at (P := P) w base t ty e i z 2 16 ht hi hz hsize hby hzs (by omega) (.slice (some ⟨N, 0, none⟩) 0 0) 0 [] hown ⟨b, o, none⟩ l.length c (fl l) (fl_length l)
      (fun j u hu => by rw [add_plain]; exact hc j u hu) (fl_one l) (by simp only [maxLen]; omega) (by omega) (by omega)
    rw [Nat.zero_add] at h2
    obtain ⟨g, cap, rfl, _, _⟩ := World.ownsRow.form h2 hpos
    exact ⟨_, _, _, hrun, h2, (Below.refl _ _).grown h3 (by omega) (fun k hk => by simp [Value.ownBlock] at hk; omega)⟩

/-- copy of elements of two cells into a row that is known whole. -/
theorem run_copy2 {P : Program} (w : World) (dT sT ty elem : TypeId) (g o dLen dCap : Nat) (a : Addr) (sLen sCap : Nat) (cur : List Value) (t : TypeId) (cs : List Value)
    (hu : P.underlying dT = some (.slice elem)) (hs : (P.info? elem).map (·.size) = some 2)
    (hg : w.heap[g]? = some (.cells cur.toArray t (0, 0))) (hn : cs.length = Nat.min sLen dLen * 2)
    (hsrc : ∀ j v, cs[j]? = some v → w.cell? (a.add j) = some v) (hfit : o + cs.length ≤ cur.length) (h1 : ∀ v ∈ cs, v.oneCell' = true) :
    (Builtin.copy_ #[dT, sT] ty #[.slice (some ⟨g, o, none⟩) dLen dCap, .slice (some a) sLen sCap]).run P w =
      .ok (goInt (Nat.min sLen dLen)) (w.setRow g (splice cur o cs).toArray) := by
  have hl := run_loadCells_list (P := P) w a cs hsrc
  have hst := run_storeCells_at P g o t cs 0 cur.toArray w hg (by simpa using hfit) h1
  cases hq : P.info? elem with
  | none => simp [hq] at hs
  | some i =>
    have hi : i.size = 2 := by simpa [hq] using hs
    simp [Builtin.copy_, run_underlying hu, Builtin.lenOf, Builtin.firstCells, sizeOf, typeInfo, hq, hi, ← hn, hl, hst, splice]

/-- clear of elements of two cells. -/
theorem run_clear2 {P : Program} (w : World) (t e ty : TypeId) (z : Value) (ht : P.underlying t = some (.slice e)) (hv : ∀ w, (zeroValue e).run P w = .ok z w) (hz : z.cells.size = 2) (h1 : ∀ v ∈ z.cells.toList, v.oneCell' = true)
    (g o n c : Nat) (hn : 0 < n) (cur : List Value) (tt : TypeId) (hg : w.heap[g]? = some (.cells cur.toArray tt (0, 0))) (hfit : o + n * 2 ≤ cur.length) :
    ∃ zs : List Value, zs.length = n * 2 ∧ (Builtin.clear_ #[t] ty #[.slice (some ⟨g, o, none⟩) n c]).run P w = .ok (.tuple #[]) (w.setRow g (splice cur o zs).toArray) := by
  have hlen : (Builtin.zeroCells z.cells n).toList.length = n * 2 := by simp [size_zeroCells, hz]
  refine ⟨(Builtin.zeroCells z.cells n).toList, hlen, ?_⟩
  have hone : ∀ v ∈ (Builtin.zeroCells z.cells n).toList, v.oneCell' = true := by
    intro v hv
    simp only [Builtin.zeroCells, Array.toList_map, List.mem_map] at hv
    obtain ⟨k, _, rfl⟩ := hv
    apply h1
    have : k % z.cells.size < z.cells.size := Nat.mod_lt _ (by omega)
    rw [getElem!_pos z.cells _ this]
    simp
  have hst := run_storeCells_at P g o tt (Builtin.zeroCells z.cells n).toList 0 cur.toArray w hg (by simp only [Nat.add_zero, hlen]; simpa using hfit) hone
  obtain ⟨k, rfl⟩ : ∃ k, n = k + 1 := ⟨n - 1, by omega⟩
  simp [Builtin.clear_, run_underlying ht, hv, hst, splice]

theorem wpList_copy_run {P : Program} (w : World) {ops : Array Oper} {rest : List Oper} {o : Oper} {a : Act} {Q : Exit → Act → World → Prop} (hgd : o.guard = none) (d s : Operand) (t t' : TypeId)
    (ho : o.op = .call { callee := .builtin .copy, args := #[d, s], argTypes := #[t, t'] }) (v u : Value) (hd : a.eval d = v) (hs : a.eval s = u) {v' : Value} {w' : World}
    (hr : (Builtin.copy_ #[t, t'] o.type #[v, u]).run P w = .ok v' w') (h : wpList P ops Q rest (a.put o.dst v') w') : wpList P ops Q (o :: rest) a w := by
  refine wpList_plain hgd fun K hK => ?_
  unfold Oper.wp execOp
  simp only [ho, resolve, invoke, builtin, Sem.run_bind, Sem.run_pure, Result.andThen_ok, List.map_toArray, List.map_cons, List.map_nil, hd, hs, hr]
  exact hK _ _ h

theorem wpList_clear_run {P : Program} (w : World) {ops : Array Oper} {rest : List Oper} {o : Oper} {a : Act} {Q : Exit → Act → World → Prop} (hgd : o.guard = none) (d : Operand) (t : TypeId)
    (ho : o.op = .call { callee := .builtin .clear, args := #[d], argTypes := #[t] }) (v : Value) (hd : a.eval d = v) {v' : Value} {w' : World}
    (hr : (Builtin.clear_ #[t] o.type #[v]).run P w = .ok v' w') (h : wpList P ops Q rest (a.put o.dst v') w') : wpList P ops Q (o :: rest) a w := by
  refine wpList_plain hgd fun K hK => ?_
  unfold Oper.wp execOp
  simp only [ho, resolve, invoke, builtin, Sem.run_bind, Sem.run_pure, Result.andThen_ok, List.map_toArray, List.map_cons, List.map_nil, hd, hr]
  exact hK _ _ h

theorem step_copy_run {P : Program} {ops : Array Oper} {o : Oper} {a : Act} {w : World} {K : Act → World → Prop} {Q : Exit → Act → World → Prop} {E : Prop}
    (hg : o.guard = none) (d x : Operand) (dT sT : TypeId) (hop : o.op = Op.call { callee := Callee.builtin Builtin.copy, args := #[d, x], argTypes := #[dT, sT] })
    (v u : Value) (hd : a.eval d = v) (hx : a.eval x = u) {v' : Value} {w' : World} (hr : (Builtin.copy_ #[dT, sT] o.type #[v, u]).run P w = .ok v' w') (hK : K (a.put o.dst v') w') :
    if Region.wanted o (yielded ops a.tmps) = true then Oper.wp P o a w K Q else E := by
  have hw : Region.wanted o (yielded ops a.tmps) = true := by simp [Region.wanted, hg]
  rw [if_pos hw]
  unfold Oper.wp
  simp [execOp, hop, resolve, invoke, builtin, hd, hx, hr, Result.andThen]
  exact hK

theorem step_append_run {P : Program} {ops : Array Oper} {o : Oper} {a : Act} {w : World} {K : Act → World → Prop} {Q : Exit → Act → World → Prop} {E : Prop}
    (hg : o.guard = none) (d x : Operand) (dT sT : TypeId) (hop : o.op = Op.call { callee := Callee.builtin Builtin.append, args := #[d, x], argTypes := #[dT, sT] })
    (v u : Value) (hd : a.eval d = v) (hx : a.eval x = u) {v' : Value} {w' : World} (hr : (Builtin.append_ #[dT, sT] o.type #[v, u]).run P w = .ok v' w') (hK : K (a.put o.dst v') w') :
    if Region.wanted o (yielded ops a.tmps) = true then Oper.wp P o a w K Q else E := by
  have hw : Region.wanted o (yielded ops a.tmps) = true := by simp [Region.wanted, hg]
  rw [if_pos hw]
  unfold Oper.wp
  simp [execOp, hop, resolve, invoke, builtin, hd, hx, hr, Result.andThen]
  exact hK

theorem bel_call {B : Nat} {W w0 w1 : World} (h : Below B W w0) (hB : B ≤ W.heap.size) (hb : Below w0.heap.size w0 w1) : Below B W w1 := h.trans (hb.mono (Nat.le_trans hB h.size))

/-! ### the rows behind the writes -/
theorem splice_take_len {α : Type} (L : List α) (o : Nat) (cs : List α) (h : o ≤ L.length) : (splice L o cs).take (o + cs.length) = L.take o ++ cs := by
  unfold splice
  rw [← List.append_assoc, List.take_append_of_le_length (by simp; omega)]
  apply List.take_of_length_le
  simp; omega
theorem splice_len {α : Type} (L : List α) (o : Nat) (cs : List α) (h : o + cs.length ≤ L.length) : (splice L o cs).length = L.length := length_splice L o cs h
theorem splice_take_low {α : Type} (L : List α) (o : Nat) (cs : List α) (k : Nat) (h : k ≤ o) (ho : o ≤ L.length) : (splice L o cs).take k = L.take k := by
  unfold splice
  rw [List.take_append_of_le_length (by simp; omega), List.take_take, Nat.min_eq_left h]

end Go.Proofs.Ytannkdnjbacbdaa
